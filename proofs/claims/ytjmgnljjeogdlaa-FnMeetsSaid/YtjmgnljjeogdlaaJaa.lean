/-
  Some texts of this proof in one: TeP, CeR, TeM, DrA.
-/
import Derived.Test.YtjmgnljjeogdlaaLow
import Derived.Laws.MakeOwn
import Derived.Laws.AppendOwn
import Derived.ScopeJumps
import Derived.Outline
import Derived.Deep.RegionHeld3
import Derived.BigQuiet
import Derived.WalkSmall
/-
  Terms as trees: what a good cell is, how a row of cells is read as terms one behind the other, and how far such a row goes. No program here.
-/
namespace Go.Proofs.Ytjmgnljjeogdlaa.W
set_option linter.unusedVariables false

structure Cc where
  k : Int
  n : Int

def goodC (x : Cc) : Bool :=
  if x.k = 1 then inB x.n 0 99 else if x.k = 2 then inB x.n (-1000000) 1000000 else decide (x.n = 0) && inB x.k 3 7
def ar (k : Int) : Nat := if k = 3 then 1 else if k = 4 ∨ k = 5 ∨ k = 7 then 2 else if k = 6 then 3 else 0
theorem ar_le (k : Int) : ar k ≤ 3 := by unfold ar; split <;> (try split) <;> (try split) <;> omega

/-- Terms one behind the other: the first one's cell, the terms behind it, the others. -/
inductive F where
  | nil
  | cons (x : Cc) (k r : F)
def F.flat : F → List Cc
  | .nil => []
  | .cons x k r => x :: (k.flat ++ r.flat)
def F.len : F → Nat
  | .nil => 0
  | .cons _ _ r => r.len + 1
def F.ok : F → Prop
  | .nil => True
  | .cons x k r => goodC x = true ∧ k.len = ar x.k ∧ k.ok ∧ r.ok
def F.app : F → F → F
  | .nil, b => b
  | .cons x k r, b => .cons x k (r.app b)
theorem F.app_nil : ∀ a : F, a.app .nil = a
  | .nil => rfl
  | .cons x k r => by simp [F.app, F.app_nil r]
theorem F.app_assoc : ∀ a b c : F, (a.app b).app c = a.app (b.app c)
  | .nil, b, c => rfl
  | .cons x k r, b, c => by simp [F.app, F.app_assoc r b c]
theorem F.app_len : ∀ a b : F, (a.app b).len = a.len + b.len
  | .nil, b => by simp [F.app, F.len]
  | .cons x k r, b => by simp [F.app, F.len, F.app_len r b]; omega
theorem F.app_flat : ∀ a b : F, (a.app b).flat = a.flat ++ b.flat
  | .nil, b => rfl
  | .cons x k r, b => by simp [F.app, F.flat, F.app_flat r b]
theorem F.app_ok : ∀ a b : F, (a.app b).ok ↔ a.ok ∧ b.ok
  | .nil, b => by simp [F.app, F.ok]
  | .cons x k r, b => by simp [F.app, F.ok, F.app_ok r b, and_assoc]
theorem F.len_0 : ∀ {a : F}, a.len = 0 → a = .nil
  | .nil, _ => rfl
  | .cons _ _ _, h => by simp [F.len] at h
theorem F.len_1 {a : F} (h : a.len = 1) : ∃ x k, a = .cons x k .nil := by
  cases a with
  | nil => simp [F.len] at h
  | cons x k r => simp [F.len] at h; exact ⟨x, k, by rw [F.len_0 h]⟩
theorem F.len_flat : ∀ a : F, a.len ≤ a.flat.length
  | .nil => by simp [F.len]
  | .cons x k r => by have := F.len_flat r; simp [F.len, F.flat]; omega

/-- So many terms from the front of a row, and what is behind them. -/
def rtF : Nat → Nat → List Cc → Option (F × List Cc)
  | _, 0, l => some (.nil, l)
  | 0, _ + 1, _ => none
  | _ + 1, _ + 1, [] => none
  | f + 1, m + 1, x :: l =>
    if goodC x = true then
      match rtF f (ar x.k) l with
      | none => none
      | some (k, r) =>
        match rtF f m r with
        | none => none
        | some (s, r2) => some (.cons x k s, r2)
    else none

theorem rtF_0 (f : Nat) (l : List Cc) : rtF f 0 l = some (.nil, l) := by cases f <;> rfl
theorem rtF_flat : ∀ (f m : Nat) (l : List Cc) (a : F) (r : List Cc), rtF f m l = some (a, r) → l = a.flat ++ r ∧ a.ok ∧ a.len = m
  | f, 0, l, a, r, h => by
    rw [rtF_0] at h
    simp only [Option.some.injEq, Prod.mk.injEq] at h
    obtain ⟨rfl, rfl⟩ := h
    exact ⟨rfl, trivial, rfl⟩
  | 0, m + 1, l, a, r, h => by simp [rtF] at h
  | f + 1, m + 1, [], a, r, h => by simp [rtF] at h
  | f + 1, m + 1, x :: l, a, r, h => by
    unfold rtF at h
    by_cases hg : goodC x = true
    · rw [if_pos hg] at h
      cases h1 : rtF f (ar x.k) l with
      | none => rw [h1] at h; cases h
      | some p =>
        obtain ⟨k, r1⟩ := p
        obtain ⟨e1, o1, n1⟩ := rtF_flat f _ l k r1 h1
        rw [h1] at h
        simp only at h
        cases h2 : rtF f m r1 with
        | none => rw [h2] at h; cases h
        | some q =>
          obtain ⟨s, r2⟩ := q
          obtain ⟨e2, o2, n2⟩ := rtF_flat f m r1 s r2 h2
          rw [h2] at h
          simp only [Option.some.injEq, Prod.mk.injEq] at h
          obtain ⟨rfl, rfl⟩ := h
          exact ⟨by rw [e1, e2]; simp [F.flat], ⟨hg, n1, o1, o2⟩, by simp [F.len, n2]⟩
    · rw [if_neg hg] at h; cases h

theorem rtF_fuel : ∀ (f g m : Nat) (l : List Cc), l.length ≤ f → l.length ≤ g → rtF f m l = rtF g m l
  | f, g, 0, l, _, _ => by rw [rtF_0, rtF_0]
  | f, g, m + 1, [], _, _ => by cases f <;> cases g <;> rfl
  | 0, g, m + 1, x :: l, h, _ => by simp at h
  | f + 1, 0, m + 1, x :: l, _, h => by simp at h
  | f + 1, g + 1, m + 1, x :: l, hf, hg => by
    have hf' : l.length ≤ f := by simpa using hf
    have hg' : l.length ≤ g := by simpa using hg
    unfold rtF
    rw [rtF_fuel f g (ar x.k) l hf' hg']
    cases h1 : rtF g (ar x.k) l with
    | none => rfl
    | some p =>
      obtain ⟨k, r1⟩ := p
      obtain ⟨e1, -, -⟩ := rtF_flat g _ l k r1 h1
      have hr : r1.length ≤ l.length := by rw [e1]; simp
      simp only [rtF_fuel f g m r1 (by omega) (by omega)]

/-- So many terms from the front of a row, and what is behind them. -/
def rt (m : Nat) (l : List Cc) : Option (F × List Cc) := rtF l.length m l
theorem rt_0 (l : List Cc) : rt 0 l = some (.nil, l) := rtF_0 _ _
theorem rt_nil (m : Nat) : rt (m + 1) [] = none := rfl
theorem rt_flat {m : Nat} {l : List Cc} {a : F} {r : List Cc} (h : rt m l = some (a, r)) : l = a.flat ++ r ∧ a.ok ∧ a.len = m := rtF_flat _ _ _ _ _ h
theorem rt_cons (m : Nat) (x : Cc) (l : List Cc) : rt (m + 1) (x :: l) = if goodC x = true then (match rt (ar x.k) l with | none => none | some (k, r) => match rt m r with | none => none | some (s, r2) => some (.cons x k s, r2)) else none := by
  show rtF (l.length + 1) (m + 1) (x :: l) = _
  rw [rtF]
  by_cases hg : goodC x = true
  · rw [if_pos hg, if_pos hg]
    show (match rt (ar x.k) l with | none => none | some (k, r) => match rtF l.length m r with | none => none | some (s, r2) => some (F.cons x k s, r2)) = _
    cases h1 : rt (ar x.k) l with
    | none => rfl
    | some p =>
      obtain ⟨k, r1⟩ := p
      obtain ⟨e1, -, -⟩ := rt_flat h1
      have hr : r1.length ≤ l.length := by rw [e1]; simp
      simp only [rt, rtF_fuel l.length r1.length m r1 hr (Nat.le_refl _)]
  · rw [if_neg hg, if_neg hg]
theorem rt_bad {m : Nat} {x : Cc} {l : List Cc} (h : goodC x = false) : rt (m + 1) (x :: l) = none := by rw [rt_cons, if_neg (by rw [h]; simp)]
theorem rt_1 {x : Cc} {l : List Cc} (h : goodC x = true) : rt 1 (x :: l) = (rt (ar x.k) l).map fun p => (.cons x p.1 .nil, p.2) := by
  rw [rt_cons, if_pos h]
  cases rt (ar x.k) l with
  | none => rfl
  | some p => obtain ⟨k, r⟩ := p; simp only [rt_0]; rfl
/-- So many and one more: one, and so many. -/
theorem rt_succ (m : Nat) (l : List Cc) : rt (m + 1) l = match rt 1 l with | none => none | some (t, r) => (rt m r).map fun p => (t.app p.1, p.2) := by
  cases l with
  | nil => rfl
  | cons x l =>
    by_cases hg : goodC x = true
    · rw [rt_1 hg, rt_cons, if_pos hg]
      cases rt (ar x.k) l with
      | none => rfl
      | some p =>
        obtain ⟨k, r⟩ := p
        simp only [Option.map_some]
        cases rt m r with
        | none => rfl
        | some q => rfl
    · rw [Bool.not_eq_true] at hg
      rw [rt_bad hg, rt_bad hg]
theorem rt_back : ∀ (a : F) (r : List Cc), a.ok → rt a.len (a.flat ++ r) = some (a, r)
  | .nil, r, _ => rt_0 _
  | .cons x k s, r, ⟨h1, h2, h3, h4⟩ => by
    show rt (s.len + 1) (x :: (k.flat ++ s.flat) ++ r) = _
    rw [List.cons_append, List.append_assoc, rt_cons, if_pos h1, ← h2, rt_back k _ h3]
    simp only [rt_back s r h4]

/-- How far so many terms go, from a place on. -/
def sz : List Cc → Nat → Nat → Option Nat
  | [], m, i => if m = 0 then some i else none
  | x :: l, m, i => if m = 0 then some i else if goodC x = true then sz l (m - 1 + ar x.k) (i + 1) else none
theorem sz_0 (l : List Cc) (i : Nat) : sz l 0 i = some i := by cases l <;> rfl
theorem sz_flat : ∀ (a : F) (r : List Cc) (m i : Nat), a.ok → sz (a.flat ++ r) (m + a.len) i = sz r m (i + a.flat.length)
  | .nil, r, m, i, _ => by simp [F.flat, F.len]
  | .cons x k s, r, m, i, ⟨h1, h2, h3, h4⟩ => by
    show sz (x :: (k.flat ++ s.flat) ++ r) (m + (s.len + 1)) i = _
    rw [List.cons_append, List.append_assoc, sz, if_neg (by omega), if_pos h1, show m + (s.len + 1) - 1 + ar x.k = (m + s.len) + k.len by rw [h2]; omega, sz_flat k _ _ _ h3, sz_flat s r m _ h4]
    congr 1
    simp [F.flat]; omega
theorem sz_noneF : ∀ (f m : Nat) (l : List Cc) (m' i : Nat), l.length ≤ f → rtF f m l = none → sz l (m' + m) i = none
  | f, 0, l, m', i, _, h => by rw [rtF_0] at h; cases h
  | f, m + 1, [], m', i, _, _ => by simp [sz]
  | 0, m + 1, x :: l, m', i, h, _ => by simp at h
  | f + 1, m + 1, x :: l, m', i, hl, h => by
    have hl' : l.length ≤ f := by simpa using hl
    rw [sz, if_neg (by omega)]
    unfold rtF at h
    by_cases hg : goodC x = true
    · rw [if_pos hg] at h ⊢
      cases h1 : rtF f (ar x.k) l with
      | none => rw [show m' + (m + 1) - 1 + ar x.k = (m' + m) + ar x.k by omega]; exact sz_noneF f _ l _ _ hl' h1
      | some p =>
        obtain ⟨k, r1⟩ := p
        obtain ⟨e1, o1, n1⟩ := rtF_flat f _ l k r1 h1
        rw [h1] at h
        simp only at h
        cases h2 : rtF f m r1 with
        | some q => rw [h2] at h; cases h
        | none =>
          rw [e1, show m' + (m + 1) - 1 + ar x.k = (m' + m) + k.len by rw [n1]; omega, sz_flat k _ _ _ o1]
          refine sz_noneF f m r1 m' _ ?_ h2
          have : r1.length ≤ l.length := by rw [e1]; simp
          omega
    · rw [if_neg hg]
theorem sz_rd (l : List Cc) : sz l 1 0 = (rt 1 l).map fun p => p.1.flat.length := by
  cases h : rt 1 l with
  | none => exact sz_noneF l.length 1 l 0 0 (Nat.le_refl _) h
  | some p =>
    obtain ⟨a, r⟩ := p
    obtain ⟨e, o, n⟩ := rt_flat h
    have := sz_flat a r 0 0 o
    rw [n, ← e] at this
    rw [this, sz_0]; simp

/-- A good term as a tree. -/
def treeT (l : List Cc) : Option F := if l.length ≤ 600 then (match rt 1 l with | some (a, []) => some a | _ => none) else none
def goodT (l : List Cc) : Bool := (treeT l).isSome
theorem goodT_sz (l : List Cc) : goodT l = (decide (l.length ≤ 600) && decide (sz l 1 0 = some l.length)) := by
  unfold goodT treeT
  by_cases hl : l.length ≤ 600
  · rw [if_pos hl, decide_eq_true hl, Bool.true_and, sz_rd]
    cases h : rt 1 l with
    | none => rfl
    | some p =>
      obtain ⟨a, r⟩ := p
      obtain ⟨e, o, n⟩ := rt_flat h
      cases r with
      | nil => simp [e]
      | cons y r =>
        have : l.length = a.flat.length + (r.length + 1) := by rw [e]; simp
        simp; omega
  · rw [if_neg hl, decide_eq_false hl]; rfl
theorem treeT_flat {l : List Cc} {a : F} (h : treeT l = some a) : l = a.flat ∧ a.ok ∧ a.len = 1 ∧ l.length ≤ 600 ∧ rt 1 l = some (a, []) := by
  unfold treeT at h
  by_cases hl : l.length ≤ 600
  · rw [if_pos hl] at h
    cases hr : rt 1 l with
    | none => rw [hr] at h; cases h
    | some p =>
      obtain ⟨b, r⟩ := p
      rw [hr] at h
      cases r with
      | nil =>
        simp only [Option.some.injEq] at h
        subst h
        obtain ⟨h1, h2, h3⟩ := rt_flat hr
        exact ⟨by simpa using h1, h2, h3, hl, rfl⟩
      | cons y r => cases h
  · rw [if_neg hl] at h; cases h
theorem treeT_back {a : F} (h : a.ok) (h1 : a.len = 1) (hl : a.flat.length ≤ 600) : treeT a.flat = some a := by
  unfold treeT
  rw [if_pos hl]
  have := rt_back a [] h
  rw [h1, List.append_nil] at this
  rw [this]
theorem rt_within : ∀ (a : F) (r : List Cc) (i : Nat), a.ok → i < a.flat.length → ∃ b r', rt 1 ((a.flat ++ r).drop i) = some (b, r')
  | .nil, r, i, _, h => by simp [F.flat] at h
  | .cons x k s, r, i, ⟨h1, h2, h3, h4⟩, hi => by
    show ∃ b r', rt 1 ((x :: (k.flat ++ s.flat) ++ r).drop i) = _
    rw [List.cons_append, List.append_assoc]
    cases i with
    | zero =>
      rw [List.drop_zero, rt_1 h1, ← h2, rt_back k _ h3]
      exact ⟨_, _, rfl⟩
    | succ j =>
      rw [List.drop_succ_cons]
      by_cases hj : j < k.flat.length
      · exact rt_within k (s.flat ++ r) j h3 hj
      · rw [show (k.flat ++ (s.flat ++ r)).drop j = (s.flat ++ r).drop (j - k.flat.length) by rw [List.drop_append, List.drop_eq_nil_of_le (by omega), List.nil_append]]
        exact rt_within s r (j - k.flat.length) h4 (by simp [F.flat] at hi; omega)
end Go.Proofs.Ytjmgnljjeogdlaa.W

/-
  Rows of cells of terms, wherever they lie: contracts of szCellS, toCellS, and of eqCellS at equal rows. Conditions: at most 1048576 cells where a row is made.
-/
namespace Go.Proofs.Ytjmgnljjeogdlaa.W
open Go.ChangeShapes Go.WideShapes Go.ChangeAt Go.RowKit

/-- A row of cells from a place of a block on. -/
def CRowAt (w : World) (b o : Nat) (l : List Cc) : Prop :=
  b < w.heap.size ∧ ∀ i (h : i < l.length), w.cell? ⟨b, o + i * 2, none⟩ = some (.int .i64 l[i].k) ∧ w.cell? ⟨b, o + i * 2 + 1, none⟩ = some (.int .i64 l[i].n)
theorem CRowAt.below {w w' : World} {b o : Nat} {l : List Cc} (h : CRowAt w b o l) (hb : Below w.heap.size w w') : CRowAt w' b o l := by
  refine ⟨Nat.lt_of_lt_of_le h.1 hb.size, fun i hi => ?_⟩
  obtain ⟨h0, h1⟩ := h.2 i hi
  exact ⟨(hb.cell (p := ⟨b, o + i * 2, none⟩) h.1).trans h0, (hb.cell (p := ⟨b, o + i * 2 + 1, none⟩) h.1).trans h1⟩

/-- A slice's row of cells: none, or a row that lies in a block. -/
def CRow (w : World) (ad : Option Addr) (l : List Cc) : Prop := l = [] ∨ ∃ b o, ad = some ⟨b, o, none⟩ ∧ CRowAt w b o l
theorem CRow.below {w w' : World} {ad : Option Addr} {l : List Cc} (h : CRow w ad l) (hb : Below w.heap.size w w') : CRow w' ad l := by
  rcases h with h | ⟨b, o, h1, h2⟩
  · exact .inl h
  · exact .inr ⟨b, o, h1, h2.below hb⟩
theorem CRow.tok {w w' : World} {ad : Option Addr} {l : List Cc} (h : CRow w ad l) (hb : Below w.heap.size w w') {i : Nat} (hi : i < l.length) :
    ∃ b o, ad = some ⟨b, o, none⟩ ∧ b < w.heap.size ∧ w'.cell? ⟨b, o + i * 2, none⟩ = some (.int .i64 l[i].k) ∧ w'.cell? ⟨b, o + i * 2 + 1, none⟩ = some (.int .i64 l[i].n) := by
  rcases h with rfl | ⟨b, o, h1, h2⟩
  · simp at hi
  · exact ⟨b, o, h1, h2.1, (h2.below hb).2 i hi⟩
theorem CRowAt.drop {w : World} {b o : Nat} {l : List Cc} (h : CRowAt w b o l) (i : Nat) : CRowAt w b (o + i * 2) (l.drop i) := by
  refine ⟨h.1, fun j hj => ?_⟩
  have hj' : i + j < l.length := by simp at hj; omega
  obtain ⟨h0, h1⟩ := h.2 (i + j) hj'
  simp only [List.getElem_drop]
  exact ⟨by rw [show o + i * 2 + j * 2 = o + (i + j) * 2 by omega]; exact h0, by rw [show o + i * 2 + j * 2 + 1 = o + (i + j) * 2 + 1 by omega]; exact h1⟩

/-- The first j cells of a block that is being filled. -/
def CFilled (cur : Array Value) (l : List Cc) (j : Nat) : Prop :=
  cur.size = l.length * 2 ∧ ∀ i (h : i < l.length), i < j → cur[i * 2]? = some (.int .i64 l[i].k) ∧ cur[i * 2 + 1]? = some (.int .i64 l[i].n)
theorem CFilled.step {cur : Array Value} {l : List Cc} {j : Nat} (h : CFilled cur l j) (hj : j < l.length) :
    CFilled ((cur.setIfInBounds (j * 2) (.int .i64 l[j].k)).setIfInBounds (j * 2 + 1) (.int .i64 l[j].n)) l (j + 1) := by
  have hs := h.1
  refine ⟨by simp [hs], fun i hi hij => ?_⟩
  simp only [Array.getElem?_setIfInBounds, Array.size_setIfInBounds]
  by_cases e : i = j
  · subst e
    refine ⟨?_, ?_⟩
    · rw [if_neg (by omega), if_pos rfl, if_pos (by omega)]
    · rw [if_pos rfl, if_pos (by omega)]
  · obtain ⟨h0, h1⟩ := h.2 i hi (by omega)
    refine ⟨?_, ?_⟩
    · rw [if_neg (by omega), if_neg (by omega)]; exact h0
    · rw [if_neg (by omega), if_neg (by omega)]; exact h1

theorem infoCe : (Try.prog.info? 62).map (fun i => (i.zero, i.size, i.bytes)) = some (some (.agg #[.int .i64 0, .int .i64 0]), 2, 16) := by kernel_rfl
theorem mk_cells (n : Nat) (hn : n ≤ 1048576) (w : World) :
    (Instr.makeSlice 23 (.int .i64 (n : Int)) (.int .i64 (n : Int))).run Try.prog w = .ok (.slice (some ⟨w.heap.size, 0, none⟩) n n) (w.alloc (.cells (madeCells #[.int .i64 0, .int .i64 0] (n * 2)) 62)) := by
  obtain ⟨i, hi, hzz⟩ := Option.map_eq_some_iff.1 infoCe
  simp only [Prod.mk.injEq] at hzz
  obtain ⟨hz, hs, hb⟩ := hzz
  have := run_make (P := Try.prog) w 23 62 i _ Try.underlying23 hi hz .i64 .i64 n n (by omega) (Int.le_refl _) (by rw [hb]; omega) (by omega)
  rw [hs, show (Value.agg #[.int .i64 0, .int .i64 0]).cells = #[.int .i64 0, .int .i64 0] from by simp [Value.cells]] at this
  simpa using this

/-- A row of cells that fills a block of its own. -/
def CBlk (w : World) (b : Nat) (l : List Cc) : Prop := ∃ cur, w.heap[b]? = some (.cells cur 62 (0, 0)) ∧ CFilled cur l l.length
theorem CBlk.row {w : World} {b : Nat} {l : List Cc} (h : CBlk w b l) : CRow w (some ⟨b, 0, none⟩) l := by
  obtain ⟨cur, hh, hF⟩ := h
  refine .inr ⟨_, 0, rfl, (Array.getElem?_eq_some_iff.1 hh).1, fun i hi => ?_⟩
  obtain ⟨h0, h1⟩ := hF.2 i hi hi
  refine ⟨?_, ?_⟩ <;> (rw [cell_of_blk hh, Nat.zero_add]; assumption)
theorem CBlk.below {w w' : World} {b : Nat} {l : List Cc} (h : CBlk w b l) (hb : Below w.heap.size w w') : CBlk w' b l := by
  obtain ⟨cur, hh, hF⟩ := h
  exact ⟨cur, (hb.block b (Array.getElem?_eq_some_iff.1 hh).1).trans hh, hF⟩
end Go.Proofs.Ytjmgnljjeogdlaa.W

/-
  The specification's terms in memory: a tree's kids lie in rows, one within the other. No program here.
-/
namespace Go.Proofs.Ytjmgnljjeogdlaa.W
open Go.ChangeShapes Go.WideShapes Go.ChangeAt Go.RowKit
set_option linter.unusedVariables false

def tC (x : Cc) (s : Value) : List Value := [.int .i64 x.k, .int .i64 x.n, s]
/-- A slice of n elements, in a block of this kind, whose cells are these. -/
def TLies (w : World) (P : Nat → Prop) (s : Value) (n : Nat) (cs : List Value) : Prop :=
  ∃ g cap, s = .slice (some ⟨g, 0, none⟩) n cap ∧ P g ∧ g < w.heap.size ∧ ∀ j v, cs[j]? = some v → w.cell? ⟨g, j, none⟩ = some v
def Holds (w : World) (P : Nat → Prop) (s : Value) (n : Nat) (cs : List Value) : Prop := (n = 0 ∧ s = .slice none 0 0) ∨ (0 < n ∧ TLies w P s n cs)
def KidsAt (w : World) (P : Nat → Prop) : F → List Value → Prop
  | .nil, cs => cs = []
  | .cons x k r, cs => ∃ s cr, cs = tC x s ++ cr ∧ (∃ ck, KidsAt w P k ck ∧ Holds w P s k.len ck) ∧ KidsAt w P r cr
/-- The kids of a term lie in memory, in blocks of this kind. -/
def KidT (w : World) (P : Nat → Prop) (k : F) (s : Value) : Prop := ∃ ck, KidsAt w P k ck ∧ Holds w P s k.len ck

theorem TLies.keep {w w' : World} {P P' : Nat → Prop} {s : Value} {n : Nat} {cs : List Value} (h : TLies w P s n cs) (hs : w.heap.size ≤ w'.heap.size) (hk : ∀ k, P k → k < w.heap.size → w'.heap[k]? = w.heap[k]? ∧ P' k) : TLies w' P' s n cs := by
  obtain ⟨g, cap, h1, h0, h2, h3⟩ := h
  obtain ⟨e, p⟩ := hk g h0 h2
  exact ⟨g, cap, h1, p, Nat.lt_of_lt_of_le h2 hs, fun j v hj => (World.cell?_of_block (w := w) e).trans (h3 j v hj)⟩
theorem Holds.keep {w w' : World} {P P' : Nat → Prop} {s : Value} {n : Nat} {cs : List Value} (h : Holds w P s n cs) (hs : w.heap.size ≤ w'.heap.size) (hk : ∀ k, P k → k < w.heap.size → w'.heap[k]? = w.heap[k]? ∧ P' k) : Holds w' P' s n cs := by
  rcases h with h | ⟨h1, h2⟩
  · exact .inl h
  · exact .inr ⟨h1, h2.keep hs hk⟩
theorem KidsAt.keep {w w' : World} {P P' : Nat → Prop} (hs : w.heap.size ≤ w'.heap.size) (hk : ∀ k, P k → k < w.heap.size → w'.heap[k]? = w.heap[k]? ∧ P' k) : ∀ {a : F} {cs : List Value}, KidsAt w P a cs → KidsAt w' P' a cs
  | .nil, _, h => h
  | .cons _ _ _, _, ⟨s, cr, e, ⟨ck, h1, h2⟩, h3⟩ => ⟨s, cr, e, ⟨ck, KidsAt.keep hs hk h1, h2.keep hs hk⟩, KidsAt.keep hs hk h3⟩
theorem KidT.keep {w w' : World} {P P' : Nat → Prop} {a : F} {s : Value} (h : KidT w P a s) (hs : w.heap.size ≤ w'.heap.size) (hk : ∀ k, P k → k < w.heap.size → w'.heap[k]? = w.heap[k]? ∧ P' k) : KidT w' P' a s := by
  obtain ⟨ck, h1, h2⟩ := h
  exact ⟨ck, h1.keep hs hk, h2.keep hs hk⟩
theorem KidT.below {w w' : World} {P : Nat → Prop} {a : F} {s : Value} (h : KidT w P a s) (hb : Below w.heap.size w w') : KidT w' P a s := h.keep hb.size (fun k hp hk => ⟨hb.block k hk, hp⟩)
theorem KidT.weak {w : World} {P P' : Nat → Prop} {a : F} {s : Value} (h : KidT w P a s) (hp : ∀ k, P k → k < w.heap.size → P' k) : KidT w P' a s := h.keep (Nat.le_refl _) (fun k h1 h2 => ⟨rfl, hp k h1 h2⟩)
theorem KidsAt.len {w : World} {P : Nat → Prop} : ∀ {a : F} {cs : List Value}, KidsAt w P a cs → cs.length = a.len * 3
  | .nil, _, h => by rw [h]; rfl
  | .cons _ _ r, _, ⟨s, cr, e, _, h3⟩ => by
    have := KidsAt.len h3
    rw [e]; simp [tC, F.len, this]; omega
theorem KidsAt.app {w : World} {P : Nat → Prop} : ∀ {a b : F} {ca cb : List Value}, KidsAt w P a ca → KidsAt w P b cb → KidsAt w P (a.app b) (ca ++ cb)
  | .nil, b, ca, cb, h, hb => by rw [show ca = [] from h]; exact hb
  | .cons _ _ r, b, ca, cb, ⟨s, cr, e, h2, h3⟩, hb => ⟨s, cr ++ cb, by rw [e, List.append_assoc], h2, KidsAt.app h3 hb⟩
theorem KidsAt.split {w : World} {P : Nat → Prop} : ∀ {a b : F} {cs : List Value}, KidsAt w P (a.app b) cs → ∃ ca cb, cs = ca ++ cb ∧ KidsAt w P a ca ∧ KidsAt w P b cb
  | .nil, b, cs, h => ⟨[], cs, rfl, rfl, h⟩
  | .cons _ _ r, b, cs, ⟨s, cr, e, h2, h3⟩ => by
    obtain ⟨ca, cb, e2, ha, hb⟩ := KidsAt.split h3
    exact ⟨tC _ s ++ ca, cb, by rw [e, e2, List.append_assoc], ⟨s, ca, rfl, h2, ha⟩, hb⟩
theorem KidT.one {w : World} {P : Nat → Prop} {a : F} {s : Value} (h : KidT w P a s) : s.oneCell' = true := by
  obtain ⟨ck, _, ⟨_, e⟩ | ⟨_, g, cap, e, _⟩⟩ := h <;> rw [e] <;> rfl
theorem KidT.form {w : World} {P : Nat → Prop} {a : F} {s : Value} (h : KidT w P a s) : ∃ ad c, s = .slice ad a.len c := by
  obtain ⟨ck, _, ⟨e0, e⟩ | ⟨_, g, cap, e, _⟩⟩ := h
  · exact ⟨_, _, by rw [e0]; exact e⟩
  · exact ⟨_, _, e⟩
theorem KidT.nil {w : World} {P : Nat → Prop} : KidT w P .nil (.slice none 0 0) := ⟨[], rfl, .inl ⟨rfl, rfl⟩⟩
/-- The kid behind the first ones. -/
theorem KidT.kid {w : World} {P : Nat → Prop} {a k r : F} {x : Cc} {s : Value} (h : KidT w P (a.app (.cons x k r)) s) : ∃ g cap sx, s = .slice (some ⟨g, 0, none⟩) (a.app (.cons x k r)).len cap ∧ P g ∧ g < w.heap.size ∧ KidT w P k sx ∧
    w.cell? ⟨g, a.len * 3, none⟩ = some (.int .i64 x.k) ∧ w.cell? ⟨g, a.len * 3 + 1, none⟩ = some (.int .i64 x.n) ∧ w.cell? ⟨g, a.len * 3 + 2, none⟩ = some sx := by
  obtain ⟨ck, hk, ⟨e0, e⟩ | ⟨_, g, cap, e, hP, hg, hc⟩⟩ := h
  · rw [F.app_len] at e0; simp [F.len] at e0
  · obtain ⟨ca, cb, e2, ha, sx, cr, e3, h2, h3⟩ := hk.split
    have hl := ha.len
    refine ⟨g, cap, sx, e, hP, hg, h2, hc _ _ ?_, hc _ _ ?_, hc _ _ ?_⟩ <;>
      (rw [e2, e3, ← hl]; simp [tC])

theorem tC_one (x : Cc) (s : Value) (hs : s.oneCell' = true) : ∀ u ∈ tC x s, u.oneCell' = true := by
  intro u hu
  simp only [tC, List.mem_cons, List.not_mem_nil, or_false] at hu
  rcases hu with rfl | rfl | rfl
  · rfl
  · rfl
  · exact hs
theorem tC_cells {w : World} {g : Nat} {x : Cc} {s : Value} {t : TypeId} (h : w.heap[g]? = some (.cells #[.int .i64 x.k, .int .i64 x.n, s] t (0, 0))) :
    ∀ j u, (tC x s)[j]? = some u → w.cell? ((⟨g, 0, none⟩ : Addr).add j) = some u := by
  intro j u hu
  have hadd : (⟨g, 0, none⟩ : Addr).add j = ⟨g, j, none⟩ := by unfold Addr.add; split <;> simp_all
  rw [hadd, cell_of_blk h, ← hu]
  simp [tC]
theorem tOwn_keep {w w' : World} {base n size : Nat} {e : TypeId} {v : Value} {xs : List Value} (h : w.ownsRow base e size v n xs) (hk : ∀ k, base ≤ k → k < w.heap.size → w'.heap[k]? = w.heap[k]?) : w'.ownsRow base e size v n xs := by
  refine ⟨h.1, ?_⟩
  rcases h.2 with h0 | ⟨g, cap, cur, hv, hg, hh, rest⟩
  · exact .inl h0
  · exact .inr ⟨g, cap, cur, hv, hg, (hk g hg (Array.getElem?_eq_some_iff.1 hh).1).trans hh, rest⟩
theorem tOwn_some {w : World} {base n size : Nat} {e : TypeId} {v : Value} {xs : List Value} (h : w.ownsRow base e size v n xs) (hn : 0 < n) : ∃ g cap, v = .slice (some ⟨g, 0, none⟩) n cap ∧ base ≤ g ∧ g < w.heap.size := by
  rcases h.2 with ⟨_, h0⟩ | ⟨g, cap, cur, hv, hg, hh, rest⟩
  · omega
  · exact ⟨g, cap, hv, hg, (Array.getElem?_eq_some_iff.1 hh).1⟩
theorem tOwn_lies {w : World} {base n size : Nat} {e : TypeId} {s : Value} {cs : List Value} (h : w.ownsRow base e size s n cs) (hn : 0 < n) : ∃ g cap, s = .slice (some ⟨g, 0, none⟩) n cap ∧ base ≤ g ∧ g < w.heap.size ∧ ∀ j v, cs[j]? = some v → w.cell? ⟨g, j, none⟩ = some v := by
  rcases h.2 with ⟨_, h0⟩ | ⟨g, cap, cur, hv, hg, hh, h1, h2, h3, h4⟩
  · omega
  · refine ⟨g, cap, hv, hg, (Array.getElem?_eq_some_iff.1 hh).1, fun j v hj => ?_⟩
    have hlt : j < n * size := by rw [← h.1]; exact (List.getElem?_eq_some_iff.1 hj).1
    rw [cell_of_blk hh, ← hj, ← h4, List.getElem?_take_of_lt hlt]
    simp

theorem infoT : (Try.prog.info? 55).map (fun i => (i.zero, i.size, i.bytes)) = some (some (.agg #[.int .i64 0, .int .i64 0, .slice none 0 0]), 3, 40) := by kernel_rfl
theorem infoPartsT {P : Program} {t : TypeId} {z : Option Value} {sz by_ : Nat} (h : (P.info? t).map (fun i => (i.zero, i.size, i.bytes)) = some (z, sz, by_)) : ∃ i, P.info? t = some i ∧ i.zero = z ∧ i.size = sz ∧ i.bytes = by_ := by
  obtain ⟨i, hi, e⟩ := Option.map_eq_some_iff.1 h
  simp only [Prod.mk.injEq] at e
  exact ⟨i, hi, e.1, e.2.1, e.2.2⟩
end Go.Proofs.Ytjmgnljjeogdlaa.W

/-
  Drawing from bytes: contracts of next, pick, one and among. Conditions: a cursor in a box of its own, read less than 1000000 times.
-/
namespace Go.Proofs.Ytjmgnljjeogdlaa.W
open Go.ChangeShapes Go.WideShapes Go.ChangeAt Go.RowKit
set_option linter.unusedVariables false
set_option linter.unusedSimpArgs false

theorem u64_rng (x : Int) : 0 ≤ IntKind.u64.wrap x ∧ IntKind.u64.wrap x ≤ 18446744073709551615 := by
  simp only [IntKind.wrap, IntKind.signed, IntKind.bits]
  simp
  omega
theorem seed_byte (sd : Int) (h : 0 ≤ sd) (h1 : sd ≤ 18446744073709551615) : 0 ≤ wrap64 (bits BinOp.and IntKind.u64 (sd / 1099511627776) 255) ∧ wrap64 (bits BinOp.and IntKind.u64 (sd / 1099511627776) 255) ≤ 255 := by
  obtain ⟨E, hE⟩ : ∃ E : Nat, (E : Int) = sd / 1099511627776 := ⟨(sd / 1099511627776).toNat, by omega⟩
  have hb := bits_and_u64_nat E 255 (by omega) (by omega)
  rw [← hE]
  have hb' : bits BinOp.and IntKind.u64 (E : Int) 255 = ((E &&& 255 : Nat) : Int) := hb
  rw [hb']
  have h2 : E &&& 255 ≤ 255 := Nat.and_le_right
  unfold wrap64
  omega
/-- A row of bytes that lies below c. -/
def BR (w : World) (c : Nat) (ad : Option Addr) (n : Nat) : Prop := n = 0 ∨ ∃ b o, ad = some ⟨b, o, none⟩ ∧ b < c ∧ b < w.heap.size ∧ ∀ i, i < n → ∃ v : Int, 0 ≤ v ∧ v ≤ 255 ∧ w.cell? ⟨b, o + i, none⟩ = some (.int .u8 v)
theorem BR.keep {w w' : World} {c n : Nat} {ad : Option Addr} (h : BR w c ad n) (hg : w.grownBy w' (some c)) : BR w' c ad n := by
  rcases h with h | ⟨b, o, h1, h2, h3, h4⟩
  · exact .inl h
  · refine .inr ⟨b, o, h1, h2, Nat.lt_of_lt_of_le h3 hg.size, fun i hi => ?_⟩
    obtain ⟨v, h5, h6, h7⟩ := h4 i hi
    exact ⟨v, h5, h6, (World.cell?_of_block (a := ⟨b, o + i, none⟩) (hg.block b h3 (fun e => by simp at e; omega))).trans h7⟩
/-- A cursor over bytes, in the block c, that was read at most m times. -/
def CU (w : World) (c : Nat) (ad : Option Addr) (n cp m : Nat) : Prop := ∃ a s : Int, 0 ≤ a ∧ a ≤ (m : Int) ∧ w.heap[c]? = some (.cells #[.slice ad n cp, .int .i64 a, .int .u64 s] 48 (0, 0)) ∧ BR w c ad n
theorem CU.more {w : World} {c n cp m m' : Nat} {ad : Option Addr} (h : CU w c ad n cp m) (hm : m ≤ m') : CU w c ad n cp m' := by
  obtain ⟨a, s, h1, h2, h3⟩ := h
  exact ⟨a, s, h1, by omega, h3⟩
theorem CU.lt {w : World} {c n cp m : Nat} {ad : Option Addr} (h : CU w c ad n cp m) : c < w.heap.size := by
  obtain ⟨a, s, h1, h2, h3, -⟩ := h
  exact (Array.getElem?_eq_some_iff.1 h3).1
theorem CU.below {w w' : World} {c n cp m : Nat} {ad : Option Addr} (h : CU w c ad n cp m) (hb : Below w.heap.size w w') : CU w' c ad n cp m := by
  obtain ⟨a, s, h1, h2, h3, h4⟩ := h
  refine ⟨a, s, h1, h2, (hb.block c (Array.getElem?_eq_some_iff.1 h3).1).trans h3, ?_⟩
  rcases h4 with h | ⟨b, o, h1, h2, h3, h4⟩
  · exact .inl h
  · refine .inr ⟨b, o, h1, h2, Nat.lt_of_lt_of_le h3 hb.size, fun i hi => ?_⟩
    obtain ⟨v, h5, h6, h7⟩ := h4 i hi
    exact ⟨v, h5, h6, (hb.cell (p := ⟨b, o + i, none⟩) h3).trans h7⟩
theorem CU.drewN {w : World} {c n cp m : Nat} {ad : Option Addr} (h : CU w c ad n cp m) (q : Nat) : CU (w.drewN q) c ad n cp m := h
theorem grown_drewN {a b : World} {r : Option Nat} (h : a.grownBy b r) (q : Nat) : a.grownBy (b.drewN q) r := ⟨h.os, h.tape, h.output, h.size, h.block⟩
theorem grown_trans {a b c : World} {r : Option Nat} (h1 : a.grownBy b r) (h2 : b.grownBy c r) : a.grownBy c r := ⟨h2.os.trans h1.os, h2.tape.trans h1.tape, h2.output.trans h1.output, Nat.le_trans h1.size h2.size, fun k hk hn => (h2.block k (Nat.lt_of_lt_of_le hk h1.size) hn).trans (h1.block k hk hn)⟩
theorem grown_below {a b : World} (r : Option Nat) (h : Below a.heap.size a b) : a.grownBy b r := ⟨h.os, h.tape, h.output, h.size, fun k hk _ => h.block k hk⟩
theorem grown_refl (a : World) (r : Option Nat) : a.grownBy a r := ⟨rfl, rfl, rfl, Nat.le_refl _, fun _ _ _ => rfl⟩
theorem grown_drew {a b : World} {r : Option Nat} (h : a.grownBy b r) : a.grownBy b.drew r := ⟨h.os, h.tape, h.output, h.size, h.block⟩

set_option maxRecDepth 20000 in
set_option maxHeartbeats 2000000 in
theorem next_any (c n cp m : Nat) (ad : Option Addr) (w : World) (hm : m ≤ 1000000) (hn : (n : Int) ≤ 9223372036854775807) (h : CU w c ad n cp m) :
    Calls Try.prog 51 #[.pointer (some ⟨c, 0, none⟩)] w fun e w' => ∃ r : Int, e = .returned (.int .i64 r) ∧ 0 ≤ r ∧ r ≤ 255 ∧ CU w' c ad n cp (m + 1) ∧ w.grownBy w' (some c) := by
  obtain ⟨a, s, h1, h2, h3, h4⟩ := h
  have H4 := hide h4
  have HB := hide h3
  have e0 : w.cell? ⟨c, 0, none⟩ = some (.slice ad n cp) := (cell_of_blk h3 0).trans rfl
  have e1 : w.cell? ⟨c, 1, none⟩ = some (.int .i64 a) := (cell_of_blk h3 1).trans rfl
  have e2 : w.cell? ⟨c, 2, none⟩ = some (.int .u64 s) := (cell_of_blk h3 2).trans rfl
  have fz := unfrozen_of_blk h3
  clear h3 h4
  by_cases hlt : a < (n : Int)
  · obtain ⟨b, o, rfl, hbc, hbw, hrd⟩ : ∃ b o, ad = some ⟨b, o, none⟩ ∧ b < c ∧ b < w.heap.size ∧ ∀ i, i < n → ∃ v : Int, 0 ≤ v ∧ v ≤ 255 ∧ w.cell? ⟨b, o + i, none⟩ = some (.int .u8 v) := by
      rcases H4.out with h | h
      · omega
      · exact h
    obtain ⟨j, rfl⟩ : ∃ j : Nat, a = (j : Int) := ⟨a.toNat, by omega⟩
    obtain ⟨v, hv0, hv1, e3⟩ := hrd j (by omega)
    have hj : j < n := by omega
    clear hrd
    go_enter Try.func51, Try.ntmps51
    go_wp2_with fail
    go_quiet (fail)
    go_wp2_with fail
    generalize hw2 : w.drewN nq = w2
    have f0 : w2.cell? ⟨c, 0, none⟩ = some (.slice (some ⟨b, o, none⟩) n cp) := by rw [← hw2]; exact e0
    have f1 : w2.cell? ⟨c, 1, none⟩ = some (.int .i64 (j : Int)) := by rw [← hw2]; exact e1
    have f2 : w2.cell? ⟨c, 2, none⟩ = some (.int .u64 s) := by rw [← hw2]; exact e2
    have f3 : w2.cell? ⟨b, o + j, none⟩ = some (.int .u8 v) := by rw [← hw2]; exact e3
    have fz2 : ∀ i, w2.frozen? ⟨c, i, none⟩ = false := by rw [← hw2]; exact fz
    have HB2 : Hid (w2.heap[c]? = some (.cells #[.slice (some ⟨b, o, none⟩) n cp, .int .i64 (j : Int), .int .u64 s] 48 (0, 0))) := hide (by rw [← hw2]; exact HB.out)
    have HW2 := hide hw2
    clear hw2 e0 e1 e2 e3 fz
    go_quiet (fail)
    go_wp2_with fail
    obtain ⟨sd, hsd⟩ : ∃ sd : Int, sd = IntKind.u64.wrap (IntKind.u64.wrap (IntKind.u64.wrap (s * 6364136223846793005) + v) + 1442695040888963407) := ⟨_, rfl⟩
    rw [← hsd]
    obtain ⟨W, hW⟩ : ∃ W, W = ((w2.drewN nq).setCell ⟨c, 1, none⟩ (.int .i64 ((j : Int) + 1))).setCell ⟨c, 2, none⟩ (.int .u64 sd) := ⟨_, rfl⟩
    have hbl : W.heap[c]? = some (.cells #[.slice (some ⟨b, o, none⟩) n cp, .int .i64 ((j : Int) + 1), .int .u64 sd] 48 (0, 0)) := by
      rw [hW]
      exact blk_setCell (blk_setCell (show (w2.drewN nq).heap[c]? = _ from HB2.out) _) _
    have hgr : w.grownBy W (some c) := by
      rw [hW, ← HW2.out]
      refine ⟨rfl, rfl, rfl, ?_, fun k hk hn => ?_⟩
      · simp
      · rw [Below.heap_setCell _ _ _ _ (fun e => hn (by rw [e])), Below.heap_setCell _ _ _ _ (fun e => hn (by rw [e]))]
        rfl
    rw [← hW]
    have e0 : W.cell? ⟨c, 0, none⟩ = some (.slice (some ⟨b, o, none⟩) n cp) := (cell_of_blk hbl 0).trans rfl
    have e1 : W.cell? ⟨c, 1, none⟩ = some (.int .i64 ((j : Int) + 1)) := (cell_of_blk hbl 1).trans rfl
    have e2 : W.cell? ⟨c, 2, none⟩ = some (.int .u64 sd) := (cell_of_blk hbl 2).trans rfl
    have HCU : Hid (CU W c (some ⟨b, o, none⟩) n cp (m + 1)) := hide ⟨(j : Int) + 1, sd, by omega, by omega, hbl, H4.out.keep hgr⟩
    have HGr := hide hgr
    have hsr : 0 ≤ sd ∧ sd ≤ 18446744073709551615 := by rw [hsd]; exact u64_rng _
    clear hsd hW hbl hgr H4 HB HB2 HW2
    have hlt2 : (j : Int) + 1 ≤ (n : Int) := by omega
    go_quiet (fail)
    go_wp2_with fail
    go_ret
    exact ⟨_, rfl, hv0, hv1, HCU.out.drewN _, grown_drewN HGr.out _⟩
  · go_enter Try.func51, Try.ntmps51
    go_wp2_with fail
    go_quiet (fail)
    go_wp2_with fail
    obtain ⟨sd, hsd⟩ : ∃ sd : Int, sd = IntKind.u64.wrap (IntKind.u64.wrap (IntKind.u64.wrap (s * 6364136223846793005)) + 1442695040888963407) := ⟨_, rfl⟩
    rw [← hsd]
    obtain ⟨W, hW⟩ : ∃ W, W = ((w.drewN nq).setCell ⟨c, 1, none⟩ (.int .i64 (a + 1))).setCell ⟨c, 2, none⟩ (.int .u64 sd) := ⟨_, rfl⟩
    have hbl : W.heap[c]? = some (.cells #[.slice ad n cp, .int .i64 (a + 1), .int .u64 sd] 48 (0, 0)) := by
      rw [hW]
      exact blk_setCell (blk_setCell (show (w.drewN nq).heap[c]? = _ from HB.out) _) _
    have hgr : w.grownBy W (some c) := by
      rw [hW]
      refine ⟨rfl, rfl, rfl, ?_, fun k hk hn => ?_⟩
      · simp
      · rw [Below.heap_setCell _ _ _ _ (fun e => hn (by rw [e])), Below.heap_setCell _ _ _ _ (fun e => hn (by rw [e]))]
        rfl
    rw [← hW]
    have e0 : W.cell? ⟨c, 0, none⟩ = some (.slice ad n cp) := (cell_of_blk hbl 0).trans rfl
    have e1 : W.cell? ⟨c, 1, none⟩ = some (.int .i64 (a + 1)) := (cell_of_blk hbl 1).trans rfl
    have e2 : W.cell? ⟨c, 2, none⟩ = some (.int .u64 sd) := (cell_of_blk hbl 2).trans rfl
    have HCU : Hid (CU W c ad n cp (m + 1)) := hide ⟨a + 1, sd, by omega, by omega, hbl, H4.out.keep hgr⟩
    have HGr := hide hgr
    have hsr : 0 ≤ sd ∧ sd ≤ 18446744073709551615 := by rw [hsd]; exact u64_rng _
    clear hsd hW hbl hgr H4 HB
    have hlt2 : ¬ a + 1 ≤ (n : Int) := by omega
    have hlt3 : (n : Int) < a + 1 := by omega
    go_quiet (fail)
    go_wp2_with fail
    go_ret
    exact ⟨_, rfl, (seed_byte sd hsr.1 hsr.2).1, (seed_byte sd hsr.1 hsr.2).2, HCU.out.drewN _, grown_drewN HGr.out _⟩

set_option maxRecDepth 20000 in
set_option maxHeartbeats 2000000 in
theorem pick_any (c n cp m k : Nat) (ad : Option Addr) (w : World) (hm : m + 2 ≤ 1000000) (hk : k ≤ 1000000) (hn : (n : Int) ≤ 9223372036854775807) (h : CU w c ad n cp m) :
    Calls Try.prog 22 #[.pointer (some ⟨c, 0, none⟩), .int .i64 (k : Int)] w fun e w' => ∃ r : Nat, e = .returned (.int .i64 (r : Int)) ∧ (r < k ∨ r = 0) ∧ CU w' c ad n cp (m + 2) ∧ w.grownBy w' (some c) := by
  by_cases h1 : k ≤ 1
  · have h1' : (k : Int) ≤ 1 := by omega
    have HC := hide (h.more (m' := m + 2) (by omega))
    clear h
    go_enter Try.func22, Try.ntmps22
    go_wp2_with fail
    go_ret
    exact ⟨0, rfl, .inr rfl, HC.out, grown_refl _ _⟩
  · have h1' : ¬ (k : Int) ≤ 1 := by omega
    have HN := hide (next_any c n cp m ad w (by omega) hn h)
    clear h
    by_cases h2 : k ≤ 200
    · have h2' : ¬ (200 : Int) < (k : Int) := by omega
      go_enter Try.func22, Try.ntmps22
      go_wp2_with fail
      refine Calls.mono HN.out ?_
      rintro e w1 ⟨r, rfl, hr0, hr1, hc1, hg1⟩
      obtain ⟨r, rfl⟩ : ∃ q : Nat, r = (q : Int) := ⟨r.toNat, by omega⟩
      have HC := hide (hc1.more (m' := m + 2) (by omega))
      have HG := hide hg1
      have hk0 : (k : Int) ≠ 0 := by omega
      have ht : (r : Int) % (k : Int) = ((r % k : Nat) : Int) := rfl
      have Ht := hide ht
      clear ht
      clear hc1 hg1 HN
      go_wp2_with fail
      go_ret
      refine ⟨r % k, ?_, .inl (Nat.mod_lt _ (by omega)), HC.out, HG.out⟩
      exact congrArg (fun z => Ending.returned (Value.int .i64 z)) Ht.out
    · have h2' : (200 : Int) < (k : Int) := by omega
      go_enter Try.func22, Try.ntmps22
      go_wp2_with fail
      refine Calls.mono HN.out ?_
      rintro e w1 ⟨r, rfl, hr0, hr1, hc1, hg1⟩
      have HN2 := hide (next_any c n cp (m + 1) ad w1 (by omega) hn hc1)
      have HG := hide hg1
      clear hc1 hg1 HN
      go_wp2_with fail
      refine Calls.mono HN2.out ?_
      rintro e w2 ⟨r2, rfl, hs0, hs1, hc2, hg2⟩
      have HC := hide hc2
      have HG2 := hide (grown_trans HG.out hg2)
      obtain ⟨q, hq⟩ : ∃ q : Nat, r * 256 + r2 = (q : Int) := ⟨(r * 256 + r2).toNat, by omega⟩
      have hk0 : (k : Int) ≠ 0 := by omega
      have hq0 : 0 ≤ r * 256 + r2 := by omega
      have hq1 : r * 256 + r2 ≤ 100000 := by omega
      have ht : (r * 256 + r2) % (k : Int) = ((q % k : Nat) : Int) := by rw [hq]; rfl
      have Ht := hide ht
      clear hc2 hg2 HN2 hq ht
      go_wp2_with fail
      go_ret
      refine ⟨q % k, ?_, .inl (Nat.mod_lt _ (by omega)), HC.out, HG2.out⟩
      exact congrArg (fun z => Ending.returned (Value.int .i64 z)) Ht.out

set_option maxHeartbeats 1000000 in
theorem one_any (c n cp m k : Nat) (ad : Option Addr) (w : World) (hm : m + 2 ≤ 1000000) (hk : k ≤ 1000000) (hn : (n : Int) ≤ 9223372036854775807) (h : CU w c ad n cp m) :
    Calls Try.prog 49 #[.pointer (some ⟨c, 0, none⟩), .int .i64 (k : Int)] w fun e w' => ∃ r : Bool, e = .returned (.bool r) ∧ CU w' c ad n cp (m + 2) ∧ w.grownBy w' (some c) := by
  have HN := hide (pick_any c n cp m k ad w hm hk hn h)
  clear h
  go_enter Try.func49, Try.ntmps49
  go_wp2_with fail
  refine Calls.mono HN.out ?_
  rintro e w1 ⟨r, rfl, -, hc1, hg1⟩
  have HC := hide hc1
  have HG := hide hg1
  clear hc1 hg1 HN
  go_wp2_with fail
  go_ret
  exact ⟨_, rfl, HC.out, HG.out⟩

set_option maxRecDepth 20000 in
set_option maxHeartbeats 1000000 in
theorem among_any (c n cp m k g cc : Nat) (ad : Option Addr) (w : World) (hm : m + 2 ≤ 1000000) (hk0 : 0 < k) (hk : k ≤ 1000) (hn : (n : Int) ≤ 9223372036854775807) (h : CU w c ad n cp m) (hg : g ≠ c) (hgl : g < w.heap.size) (hr : ∀ i, i < k → ∃ v : Int, w.cell? ⟨g, i, none⟩ = some (.int .i64 v)) :
    Calls Try.prog 50 #[.pointer (some ⟨c, 0, none⟩), .slice (some ⟨g, 0, none⟩) k cc] w fun e w' => ∃ r : Int, e = .returned (.int .i64 r) ∧ CU w' c ad n cp (m + 2) ∧ w.grownBy w' (some c) := by
  have HN := hide (pick_any c n cp m k ad w hm (by omega) hn h)
  have HR := hide hr
  clear h hr
  go_enter Try.func50, Try.ntmps50
  go_wp2_with fail
  refine Calls.mono HN.out ?_
  rintro e w1 ⟨r, rfl, hrk, hc1, hg1⟩
  have hrk' : r < k := by omega
  obtain ⟨v, hv⟩ := HR.out r hrk'
  have hv1 := (World.cell?_of_block (a := ⟨g, r, none⟩) (hg1.block g hgl (fun e => by simp at e; omega))).trans hv
  have HC := hide hc1
  have HG := hide hg1
  have hlt : (r : Int) < (k : Int) := by omega
  have hr0 : (0 : Int) ≤ (r : Int) := by omega
  clear hc1 hg1 HN hv hrk
  go_wp2_with fail
  go_ret
  exact ⟨_, rfl, HC.out, HG.out⟩
end Go.Proofs.Ytjmgnljjeogdlaa.W
