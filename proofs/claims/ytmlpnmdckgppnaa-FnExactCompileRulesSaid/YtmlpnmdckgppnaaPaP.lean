/-
  Patterns as trees, by the data D: what a good cell is, how a row of cells is read as patterns one behind the other, and how far such a row goes. No program here. Written by wip/build/mk_pa.py.
-/
import Derived.Test.YtmlpnmdckgppnaaRwP
import Derived.Test.YtmlpnmdckgppnaaDaG
namespace Go.Proofs.Ytmlpnmdckgppnaa.W
set_option linter.unusedVariables false

/-- A good cell of a pattern. -/
def goodC (D : List Int) (x : Pt) : Bool :=
  if x.kd = 1 then decide (x.con = 0) else decide (x.kd = 2) && (decide (0 ≤ x.con) && decide (x.con < (D.length : Int)))
/-- How many patterns follow a cell. -/
def ar (D : List Int) (x : Pt) : Nat := if x.kd = 1 then 0 else (D.getD x.con.toNat 0).toNat
theorem ar_le {D : List Int} (h : goodD D = true) (x : Pt) : ar D x ≤ 2 := by
  unfold ar
  split
  · omega
  · by_cases hi : x.con.toNat < D.length
    · have := goodD_parts h hi
      rw [List.getD_eq_getElem?_getD, List.getElem?_eq_getElem hi, Option.getD_some]; omega
    · rw [List.getD_eq_getElem?_getD, List.getElem?_eq_none (by omega)]; simp

/-- Terms one behind the other: the first one's cell, the terms behind it, the others. -/
inductive F where
  | nil
  | cons (x : Pt) (k r : F)
def F.flat : F → List Pt
  | .nil => []
  | .cons x k r => x :: (k.flat ++ r.flat)
def F.len : F → Nat
  | .nil => 0
  | .cons _ _ r => r.len + 1
def F.ok (D : List Int) : F → Prop
  | .nil => True
  | .cons x k r => goodC D x = true ∧ k.len = ar D x ∧ k.ok D ∧ r.ok D
def F.app : F → F → F
  | .nil, b => b
  | .cons x k r, b => .cons x k (r.app b)
theorem F.app_nil : ∀ a : F, a.app .nil = a
  | .nil => rfl
  | .cons x k r => by simp [F.app, F.app_nil r]
theorem F.app_assoc : ∀ a b c : F, (a.app b).app c = a.app (b.app c)
  | .nil, b, c => rfl
  | .cons x k r, b, c => by simp [F.app, F.app_assoc r b c]
theorem F.app_len : ∀ a b : F, (a.app b).len = a.len + b.len
  | .nil, b => by simp [F.app, F.len]
  | .cons x k r, b => by simp [F.app, F.len, F.app_len r b]; omega
theorem F.app_flat : ∀ a b : F, (a.app b).flat = a.flat ++ b.flat
  | .nil, b => rfl
  | .cons x k r, b => by simp [F.app, F.flat, F.app_flat r b]
theorem F.app_ok (D : List Int) : ∀ a b : F, (a.app b).ok D ↔ a.ok D ∧ b.ok D
  | .nil, b => by simp [F.app, F.ok]
  | .cons x k r, b => by simp [F.app, F.ok, F.app_ok D r b, and_assoc]
theorem F.len_0 : ∀ {a : F}, a.len = 0 → a = .nil
  | .nil, _ => rfl
  | .cons _ _ _, h => by simp [F.len] at h
theorem F.len_1 {a : F} (h : a.len = 1) : ∃ x k, a = .cons x k .nil := by
  cases a with
  | nil => simp [F.len] at h
  | cons x k r => simp [F.len] at h; exact ⟨x, k, by rw [F.len_0 h]⟩
theorem F.len_flat : ∀ a : F, a.len ≤ a.flat.length
  | .nil => by simp [F.len]
  | .cons x k r => by have := F.len_flat r; simp [F.len, F.flat]; omega

/-- So many terms from the front of a row, and what is behind them. -/
def rtF (D : List Int) : Nat → Nat → List Pt → Option (F × List Pt)
  | _, 0, l => some (.nil, l)
  | 0, _ + 1, _ => none
  | _ + 1, _ + 1, [] => none
  | f + 1, m + 1, x :: l =>
    if goodC D x = true then
      match rtF D f (ar D x) l with
      | none => none
      | some (k, r) =>
        match rtF D f m r with
        | none => none
        | some (s, r2) => some (.cons x k s, r2)
    else none

theorem rtF_0 (D : List Int) (f : Nat) (l : List Pt) : rtF D f 0 l = some (.nil, l) := by cases f <;> rfl
theorem rtF_flat (D : List Int) : ∀ (f m : Nat) (l : List Pt) (a : F) (r : List Pt), rtF D f m l = some (a, r) → l = a.flat ++ r ∧ a.ok D ∧ a.len = m
  | f, 0, l, a, r, h => by
    rw [rtF_0] at h
    simp only [Option.some.injEq, Prod.mk.injEq] at h
    obtain ⟨rfl, rfl⟩ := h
    exact ⟨rfl, trivial, rfl⟩
  | 0, m + 1, l, a, r, h => by simp [rtF] at h
  | f + 1, m + 1, [], a, r, h => by simp [rtF] at h
  | f + 1, m + 1, x :: l, a, r, h => by
    unfold rtF at h
    by_cases hg : goodC D x = true
    · rw [if_pos hg] at h
      cases h1 : rtF D f (ar D x) l with
      | none => rw [h1] at h; cases h
      | some p =>
        obtain ⟨k, r1⟩ := p
        obtain ⟨e1, o1, n1⟩ := rtF_flat D f _ l k r1 h1
        rw [h1] at h
        simp only at h
        cases h2 : rtF D f m r1 with
        | none => rw [h2] at h; cases h
        | some q =>
          obtain ⟨s, r2⟩ := q
          obtain ⟨e2, o2, n2⟩ := rtF_flat D f m r1 s r2 h2
          rw [h2] at h
          simp only [Option.some.injEq, Prod.mk.injEq] at h
          obtain ⟨rfl, rfl⟩ := h
          exact ⟨by rw [e1, e2]; simp [F.flat], ⟨hg, n1, o1, o2⟩, by simp [F.len, n2]⟩
    · rw [if_neg hg] at h; cases h

theorem rtF_fuel (D : List Int) : ∀ (f g m : Nat) (l : List Pt), l.length ≤ f → l.length ≤ g → rtF D f m l = rtF D g m l
  | f, g, 0, l, _, _ => by rw [rtF_0, rtF_0]
  | f, g, m + 1, [], _, _ => by cases f <;> cases g <;> rfl
  | 0, g, m + 1, x :: l, h, _ => by simp at h
  | f + 1, 0, m + 1, x :: l, _, h => by simp at h
  | f + 1, g + 1, m + 1, x :: l, hf, hg => by
    have hf' : l.length ≤ f := by simpa using hf
    have hg' : l.length ≤ g := by simpa using hg
    unfold rtF
    rw [rtF_fuel D f g (ar D x) l hf' hg']
    cases h1 : rtF D g (ar D x) l with
    | none => rfl
    | some p =>
      obtain ⟨k, r1⟩ := p
      obtain ⟨e1, -, -⟩ := rtF_flat D g _ l k r1 h1
      have hr : r1.length ≤ l.length := by rw [e1]; simp
      simp only [rtF_fuel D f g m r1 (by omega) (by omega)]

/-- So many terms from the front of a row, and what is behind them. -/
def rt (D : List Int) (m : Nat) (l : List Pt) : Option (F × List Pt) := rtF D l.length m l
theorem rt_0 (D : List Int) (l : List Pt) : rt D 0 l = some (.nil, l) := rtF_0 _ _ _
theorem rt_nil (D : List Int) (m : Nat) : rt D (m + 1) [] = none := rfl
theorem rt_flat {D : List Int} {m : Nat} {l : List Pt} {a : F} {r : List Pt} (h : rt D m l = some (a, r)) : l = a.flat ++ r ∧ a.ok D ∧ a.len = m := rtF_flat _ _ _ _ _ _ h
theorem rt_cons (D : List Int) (m : Nat) (x : Pt) (l : List Pt) : rt D (m + 1) (x :: l) = if goodC D x = true then (match rt D (ar D x) l with | none => none | some (k, r) => match rt D m r with | none => none | some (s, r2) => some (.cons x k s, r2)) else none := by
  show rtF D (l.length + 1) (m + 1) (x :: l) = _
  rw [rtF]
  by_cases hg : goodC D x = true
  · rw [if_pos hg, if_pos hg]
    show (match rt D (ar D x) l with | none => none | some (k, r) => match rtF D l.length m r with | none => none | some (s, r2) => some (F.cons x k s, r2)) = _
    cases h1 : rt D (ar D x) l with
    | none => rfl
    | some p =>
      obtain ⟨k, r1⟩ := p
      obtain ⟨e1, -, -⟩ := rt_flat h1
      have hr : r1.length ≤ l.length := by rw [e1]; simp
      simp only [rt, rtF_fuel D l.length r1.length m r1 hr (Nat.le_refl _)]
  · rw [if_neg hg, if_neg hg]
theorem rt_bad {D : List Int} {m : Nat} {x : Pt} {l : List Pt} (h : goodC D x = false) : rt D (m + 1) (x :: l) = none := by rw [rt_cons, if_neg (by rw [h]; simp)]
theorem rt_1 {D : List Int} {x : Pt} {l : List Pt} (h : goodC D x = true) : rt D 1 (x :: l) = (rt D (ar D x) l).map fun p => (.cons x p.1 .nil, p.2) := by
  rw [rt_cons, if_pos h]
  cases rt D (ar D x) l with
  | none => rfl
  | some p => obtain ⟨k, r⟩ := p; simp only [rt_0]; rfl
/-- So many and one more: one, and so many. -/
theorem rt_succ (D : List Int) (m : Nat) (l : List Pt) : rt D (m + 1) l = match rt D 1 l with | none => none | some (t, r) => (rt D m r).map fun p => (t.app p.1, p.2) := by
  cases l with
  | nil => rfl
  | cons x l =>
    by_cases hg : goodC D x = true
    · rw [rt_1 hg, rt_cons, if_pos hg]
      cases rt D (ar D x) l with
      | none => rfl
      | some p =>
        obtain ⟨k, r⟩ := p
        simp only [Option.map_some]
        cases rt D m r with
        | none => rfl
        | some q => rfl
    · rw [Bool.not_eq_true] at hg
      rw [rt_bad hg, rt_bad hg]
theorem rt_back (D : List Int) : ∀ (a : F) (r : List Pt), a.ok D → rt D a.len (a.flat ++ r) = some (a, r)
  | .nil, r, _ => rt_0 _ _
  | .cons x k s, r, ⟨h1, h2, h3, h4⟩ => by
    show rt D (s.len + 1) (x :: (k.flat ++ s.flat) ++ r) = _
    rw [List.cons_append, List.append_assoc, rt_cons, if_pos h1, ← h2, rt_back D k _ h3]
    simp only [rt_back D s r h4]

/-- How far so many terms go, from a place on. -/
def sz (D : List Int) : List Pt → Nat → Nat → Option Nat
  | [], m, i => if m = 0 then some i else none
  | x :: l, m, i => if m = 0 then some i else if goodC D x = true then sz D l (m - 1 + ar D x) (i + 1) else none
theorem sz_0 (D : List Int) (l : List Pt) (i : Nat) : sz D l 0 i = some i := by cases l <;> rfl
theorem sz_flat (D : List Int) : ∀ (a : F) (r : List Pt) (m i : Nat), a.ok D → sz D (a.flat ++ r) (m + a.len) i = sz D r m (i + a.flat.length)
  | .nil, r, m, i, _ => by simp [F.flat, F.len]
  | .cons x k s, r, m, i, ⟨h1, h2, h3, h4⟩ => by
    show sz D (x :: (k.flat ++ s.flat) ++ r) (m + (s.len + 1)) i = _
    rw [List.cons_append, List.append_assoc, sz, if_neg (by omega), if_pos h1, show m + (s.len + 1) - 1 + ar D x = (m + s.len) + k.len by rw [h2]; omega, sz_flat D k _ _ _ h3, sz_flat D s r m _ h4]
    congr 1
    simp [F.flat]; omega
theorem sz_noneF (D : List Int) : ∀ (f m : Nat) (l : List Pt) (m' i : Nat), l.length ≤ f → rtF D f m l = none → sz D l (m' + m) i = none
  | f, 0, l, m', i, _, h => by rw [rtF_0] at h; cases h
  | f, m + 1, [], m', i, _, _ => by simp [sz]
  | 0, m + 1, x :: l, m', i, h, _ => by simp at h
  | f + 1, m + 1, x :: l, m', i, hl, h => by
    have hl' : l.length ≤ f := by simpa using hl
    rw [sz, if_neg (by omega)]
    unfold rtF at h
    by_cases hg : goodC D x = true
    · rw [if_pos hg] at h ⊢
      cases h1 : rtF D f (ar D x) l with
      | none => rw [show m' + (m + 1) - 1 + ar D x = (m' + m) + ar D x by omega]; exact sz_noneF D f _ l _ _ hl' h1
      | some p =>
        obtain ⟨k, r1⟩ := p
        obtain ⟨e1, o1, n1⟩ := rtF_flat D f _ l k r1 h1
        rw [h1] at h
        simp only at h
        cases h2 : rtF D f m r1 with
        | some q => rw [h2] at h; cases h
        | none =>
          rw [e1, show m' + (m + 1) - 1 + ar D x = (m' + m) + k.len by rw [n1]; omega, sz_flat D k _ _ _ o1]
          refine sz_noneF D f m r1 m' _ ?_ h2
          have : r1.length ≤ l.length := by rw [e1]; simp
          omega
    · rw [if_neg hg]
theorem sz_rd (D : List Int) (l : List Pt) : sz D l 1 0 = (rt D 1 l).map fun p => p.1.flat.length := by
  cases h : rt D 1 l with
  | none => exact sz_noneF D l.length 1 l 0 0 (Nat.le_refl _) h
  | some p =>
    obtain ⟨a, r⟩ := p
    obtain ⟨e, o, n⟩ := rt_flat h
    have := sz_flat D a r 0 0 o
    rw [n, ← e] at this
    rw [this, sz_0]; simp

/-- A good pattern of at most so many cells as a tree. -/
def treeT (D : List Int) (N : Nat) (l : List Pt) : Option F := if l.length ≤ N then (match rt D 1 l with | some (a, []) => some a | _ => none) else none
def goodT (D : List Int) (N : Nat) (l : List Pt) : Bool := (treeT D N l).isSome
theorem goodT_sz (D : List Int) (N : Nat) (l : List Pt) : goodT D N l = (decide (l.length ≤ N) && decide (sz D l 1 0 = some l.length)) := by
  unfold goodT treeT
  by_cases hl : l.length ≤ N
  · rw [if_pos hl, decide_eq_true hl, Bool.true_and, sz_rd]
    cases h : rt D 1 l with
    | none => rfl
    | some p =>
      obtain ⟨a, r⟩ := p
      obtain ⟨e, o, n⟩ := rt_flat h
      cases r with
      | nil => simp [e]
      | cons y r =>
        have : l.length = a.flat.length + (r.length + 1) := by rw [e]; simp
        simp; omega
  · rw [if_neg hl, decide_eq_false hl]; rfl
theorem treeT_flat {D : List Int} {N : Nat} {l : List Pt} {a : F} (h : treeT D N l = some a) : l = a.flat ∧ a.ok D ∧ a.len = 1 ∧ l.length ≤ N ∧ rt D 1 l = some (a, []) := by
  unfold treeT at h
  by_cases hl : l.length ≤ N
  · rw [if_pos hl] at h
    cases hr : rt D 1 l with
    | none => rw [hr] at h; cases h
    | some p =>
      obtain ⟨b, r⟩ := p
      rw [hr] at h
      cases r with
      | nil =>
        simp only [Option.some.injEq] at h
        subst h
        obtain ⟨h1, h2, h3⟩ := rt_flat hr
        exact ⟨by simpa using h1, h2, h3, hl, rfl⟩
      | cons y r => cases h
  · rw [if_neg hl] at h; cases h
end Go.Proofs.Ytmlpnmdckgppnaa.W
