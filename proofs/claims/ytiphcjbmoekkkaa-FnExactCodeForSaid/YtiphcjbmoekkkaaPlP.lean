/-
  Trees as trees: what a good cell is, how a row of cells is read as terms one behind the other, and how far such a row goes. No program here.
-/
import Derived.Test.YtiphcjbmoekkkaaLow
namespace Go.Proofs.Ytiphcjbmoekkkaa.L
open Go.Proofs.Ytiphcjbmoekkkaa.W
set_option linter.unusedVariables false

structure Cc where
  k : Int
  n : Int

def goodC (x : Cc) : Bool :=
  if x.k = 1 then inB x.n (-1000) 1000 else inB x.k 2 4 && decide (x.n = 0)
def ar (k : Int) : Nat := if k = 1 then 0 else 2
theorem ar_le (k : Int) : ar k ≤ 2 := by unfold ar; split <;> omega

/-- Terms one behind the other: the first one's cell, the terms behind it, the others. -/
inductive F where
  | nil
  | cons (x : Cc) (k r : F)
def F.flat : F → List Cc
  | .nil => []
  | .cons x k r => x :: (k.flat ++ r.flat)
def F.len : F → Nat
  | .nil => 0
  | .cons _ _ r => r.len + 1
def F.ok : F → Prop
  | .nil => True
  | .cons x k r => goodC x = true ∧ k.len = ar x.k ∧ k.ok ∧ r.ok
def F.app : F → F → F
  | .nil, b => b
  | .cons x k r, b => .cons x k (r.app b)
theorem F.app_nil : ∀ a : F, a.app .nil = a
  | .nil => rfl
  | .cons x k r => by simp [F.app, F.app_nil r]
theorem F.app_assoc : ∀ a b c : F, (a.app b).app c = a.app (b.app c)
  | .nil, b, c => rfl
  | .cons x k r, b, c => by simp [F.app, F.app_assoc r b c]
theorem F.app_len : ∀ a b : F, (a.app b).len = a.len + b.len
  | .nil, b => by simp [F.app, F.len]
  | .cons x k r, b => by simp [F.app, F.len, F.app_len r b]; omega
theorem F.app_flat : ∀ a b : F, (a.app b).flat = a.flat ++ b.flat
  | .nil, b => rfl
  | .cons x k r, b => by simp [F.app, F.flat, F.app_flat r b]
theorem F.app_ok : ∀ a b : F, (a.app b).ok ↔ a.ok ∧ b.ok
  | .nil, b => by simp [F.app, F.ok]
  | .cons x k r, b => by simp [F.app, F.ok, F.app_ok r b, and_assoc]
theorem F.len_0 : ∀ {a : F}, a.len = 0 → a = .nil
  | .nil, _ => rfl
  | .cons _ _ _, h => by simp [F.len] at h
theorem F.len_1 {a : F} (h : a.len = 1) : ∃ x k, a = .cons x k .nil := by
  cases a with
  | nil => simp [F.len] at h
  | cons x k r => simp [F.len] at h; exact ⟨x, k, by rw [F.len_0 h]⟩
theorem F.len_flat : ∀ a : F, a.len ≤ a.flat.length
  | .nil => by simp [F.len]
  | .cons x k r => by have := F.len_flat r; simp [F.len, F.flat]; omega

/-- So many terms from the front of a row, and what is behind them. -/
def rtF : Nat → Nat → List Cc → Option (F × List Cc)
  | _, 0, l => some (.nil, l)
  | 0, _ + 1, _ => none
  | _ + 1, _ + 1, [] => none
  | f + 1, m + 1, x :: l =>
    if goodC x = true then
      match rtF f (ar x.k) l with
      | none => none
      | some (k, r) =>
        match rtF f m r with
        | none => none
        | some (s, r2) => some (.cons x k s, r2)
    else none

theorem rtF_0 (f : Nat) (l : List Cc) : rtF f 0 l = some (.nil, l) := by cases f <;> rfl
theorem rtF_flat : ∀ (f m : Nat) (l : List Cc) (a : F) (r : List Cc), rtF f m l = some (a, r) → l = a.flat ++ r ∧ a.ok ∧ a.len = m
  | f, 0, l, a, r, h => by
    rw [rtF_0] at h
    simp only [Option.some.injEq, Prod.mk.injEq] at h
    obtain ⟨rfl, rfl⟩ := h
    exact ⟨rfl, trivial, rfl⟩
  | 0, m + 1, l, a, r, h => by simp [rtF] at h
  | f + 1, m + 1, [], a, r, h => by simp [rtF] at h
  | f + 1, m + 1, x :: l, a, r, h => by
    unfold rtF at h
    by_cases hg : goodC x = true
    · rw [if_pos hg] at h
      cases h1 : rtF f (ar x.k) l with
      | none => rw [h1] at h; cases h
      | some p =>
        obtain ⟨k, r1⟩ := p
        obtain ⟨e1, o1, n1⟩ := rtF_flat f _ l k r1 h1
        rw [h1] at h
        simp only at h
        cases h2 : rtF f m r1 with
        | none => rw [h2] at h; cases h
        | some q =>
          obtain ⟨s, r2⟩ := q
          obtain ⟨e2, o2, n2⟩ := rtF_flat f m r1 s r2 h2
          rw [h2] at h
          simp only [Option.some.injEq, Prod.mk.injEq] at h
          obtain ⟨rfl, rfl⟩ := h
          exact ⟨by rw [e1, e2]; simp [F.flat], ⟨hg, n1, o1, o2⟩, by simp [F.len, n2]⟩
    · rw [if_neg hg] at h; cases h

theorem rtF_fuel : ∀ (f g m : Nat) (l : List Cc), l.length ≤ f → l.length ≤ g → rtF f m l = rtF g m l
  | f, g, 0, l, _, _ => by rw [rtF_0, rtF_0]
  | f, g, m + 1, [], _, _ => by cases f <;> cases g <;> rfl
  | 0, g, m + 1, x :: l, h, _ => by simp at h
  | f + 1, 0, m + 1, x :: l, _, h => by simp at h
  | f + 1, g + 1, m + 1, x :: l, hf, hg => by
    have hf' : l.length ≤ f := by simpa using hf
    have hg' : l.length ≤ g := by simpa using hg
    unfold rtF
    rw [rtF_fuel f g (ar x.k) l hf' hg']
    cases h1 : rtF g (ar x.k) l with
    | none => rfl
    | some p =>
      obtain ⟨k, r1⟩ := p
      obtain ⟨e1, -, -⟩ := rtF_flat g _ l k r1 h1
      have hr : r1.length ≤ l.length := by rw [e1]; simp
      simp only [rtF_fuel f g m r1 (by omega) (by omega)]

/-- So many terms from the front of a row, and what is behind them. -/
def rt (m : Nat) (l : List Cc) : Option (F × List Cc) := rtF l.length m l
theorem rt_0 (l : List Cc) : rt 0 l = some (.nil, l) := rtF_0 _ _
theorem rt_nil (m : Nat) : rt (m + 1) [] = none := rfl
theorem rt_flat {m : Nat} {l : List Cc} {a : F} {r : List Cc} (h : rt m l = some (a, r)) : l = a.flat ++ r ∧ a.ok ∧ a.len = m := rtF_flat _ _ _ _ _ h
theorem rt_cons (m : Nat) (x : Cc) (l : List Cc) : rt (m + 1) (x :: l) = if goodC x = true then (match rt (ar x.k) l with | none => none | some (k, r) => match rt m r with | none => none | some (s, r2) => some (.cons x k s, r2)) else none := by
  show rtF (l.length + 1) (m + 1) (x :: l) = _
  rw [rtF]
  by_cases hg : goodC x = true
  · rw [if_pos hg, if_pos hg]
    show (match rt (ar x.k) l with | none => none | some (k, r) => match rtF l.length m r with | none => none | some (s, r2) => some (F.cons x k s, r2)) = _
    cases h1 : rt (ar x.k) l with
    | none => rfl
    | some p =>
      obtain ⟨k, r1⟩ := p
      obtain ⟨e1, -, -⟩ := rt_flat h1
      have hr : r1.length ≤ l.length := by rw [e1]; simp
      simp only [rt, rtF_fuel l.length r1.length m r1 hr (Nat.le_refl _)]
  · rw [if_neg hg, if_neg hg]
theorem rt_bad {m : Nat} {x : Cc} {l : List Cc} (h : goodC x = false) : rt (m + 1) (x :: l) = none := by rw [rt_cons, if_neg (by rw [h]; simp)]
theorem rt_1 {x : Cc} {l : List Cc} (h : goodC x = true) : rt 1 (x :: l) = (rt (ar x.k) l).map fun p => (.cons x p.1 .nil, p.2) := by
  rw [rt_cons, if_pos h]
  cases rt (ar x.k) l with
  | none => rfl
  | some p => obtain ⟨k, r⟩ := p; simp only [rt_0]; rfl
/-- So many and one more: one, and so many. -/
theorem rt_succ (m : Nat) (l : List Cc) : rt (m + 1) l = match rt 1 l with | none => none | some (t, r) => (rt m r).map fun p => (t.app p.1, p.2) := by
  cases l with
  | nil => rfl
  | cons x l =>
    by_cases hg : goodC x = true
    · rw [rt_1 hg, rt_cons, if_pos hg]
      cases rt (ar x.k) l with
      | none => rfl
      | some p =>
        obtain ⟨k, r⟩ := p
        simp only [Option.map_some]
        cases rt m r with
        | none => rfl
        | some q => rfl
    · rw [Bool.not_eq_true] at hg
      rw [rt_bad hg, rt_bad hg]
theorem rt_back : ∀ (a : F) (r : List Cc), a.ok → rt a.len (a.flat ++ r) = some (a, r)
  | .nil, r, _ => rt_0 _
  | .cons x k s, r, ⟨h1, h2, h3, h4⟩ => by
    show rt (s.len + 1) (x :: (k.flat ++ s.flat) ++ r) = _
    rw [List.cons_append, List.append_assoc, rt_cons, if_pos h1, ← h2, rt_back k _ h3]
    simp only [rt_back s r h4]

/-- How far so many terms go, from a place on. -/
def sz : List Cc → Nat → Nat → Option Nat
  | [], m, i => if m = 0 then some i else none
  | x :: l, m, i => if m = 0 then some i else if goodC x = true then sz l (m - 1 + ar x.k) (i + 1) else none
theorem sz_0 (l : List Cc) (i : Nat) : sz l 0 i = some i := by cases l <;> rfl
theorem sz_flat : ∀ (a : F) (r : List Cc) (m i : Nat), a.ok → sz (a.flat ++ r) (m + a.len) i = sz r m (i + a.flat.length)
  | .nil, r, m, i, _ => by simp [F.flat, F.len]
  | .cons x k s, r, m, i, ⟨h1, h2, h3, h4⟩ => by
    show sz (x :: (k.flat ++ s.flat) ++ r) (m + (s.len + 1)) i = _
    rw [List.cons_append, List.append_assoc, sz, if_neg (by omega), if_pos h1, show m + (s.len + 1) - 1 + ar x.k = (m + s.len) + k.len by rw [h2]; omega, sz_flat k _ _ _ h3, sz_flat s r m _ h4]
    congr 1
    simp [F.flat]; omega
theorem sz_noneF : ∀ (f m : Nat) (l : List Cc) (m' i : Nat), l.length ≤ f → rtF f m l = none → sz l (m' + m) i = none
  | f, 0, l, m', i, _, h => by rw [rtF_0] at h; cases h
  | f, m + 1, [], m', i, _, _ => by simp [sz]
  | 0, m + 1, x :: l, m', i, h, _ => by simp at h
  | f + 1, m + 1, x :: l, m', i, hl, h => by
    have hl' : l.length ≤ f := by simpa using hl
    rw [sz, if_neg (by omega)]
    unfold rtF at h
    by_cases hg : goodC x = true
    · rw [if_pos hg] at h ⊢
      cases h1 : rtF f (ar x.k) l with
      | none => rw [show m' + (m + 1) - 1 + ar x.k = (m' + m) + ar x.k by omega]; exact sz_noneF f _ l _ _ hl' h1
      | some p =>
        obtain ⟨k, r1⟩ := p
        obtain ⟨e1, o1, n1⟩ := rtF_flat f _ l k r1 h1
        rw [h1] at h
        simp only at h
        cases h2 : rtF f m r1 with
        | some q => rw [h2] at h; cases h
        | none =>
          rw [e1, show m' + (m + 1) - 1 + ar x.k = (m' + m) + k.len by rw [n1]; omega, sz_flat k _ _ _ o1]
          refine sz_noneF f m r1 m' _ ?_ h2
          have : r1.length ≤ l.length := by rw [e1]; simp
          omega
    · rw [if_neg hg]
theorem sz_rd (l : List Cc) : sz l 1 0 = (rt 1 l).map fun p => p.1.flat.length := by
  cases h : rt 1 l with
  | none => exact sz_noneF l.length 1 l 0 0 (Nat.le_refl _) h
  | some p =>
    obtain ⟨a, r⟩ := p
    obtain ⟨e, o, n⟩ := rt_flat h
    have := sz_flat a r 0 0 o
    rw [n, ← e] at this
    rw [this, sz_0]; simp

/-- A good term as a tree. -/
def treeT (l : List Cc) : Option F := if l.length ≤ 40 then (match rt 1 l with | some (a, []) => some a | _ => none) else none
def goodT (l : List Cc) : Bool := (treeT l).isSome
theorem goodT_sz (l : List Cc) : goodT l = (decide (l.length ≤ 40) && decide (sz l 1 0 = some l.length)) := by
  unfold goodT treeT
  by_cases hl : l.length ≤ 40
  · rw [if_pos hl, decide_eq_true hl, Bool.true_and, sz_rd]
    cases h : rt 1 l with
    | none => rfl
    | some p =>
      obtain ⟨a, r⟩ := p
      obtain ⟨e, o, n⟩ := rt_flat h
      cases r with
      | nil => simp [e]
      | cons y r =>
        have : l.length = a.flat.length + (r.length + 1) := by rw [e]; simp
        simp; omega
  · rw [if_neg hl, decide_eq_false hl]; rfl
theorem treeT_flat {l : List Cc} {a : F} (h : treeT l = some a) : l = a.flat ∧ a.ok ∧ a.len = 1 ∧ l.length ≤ 40 ∧ rt 1 l = some (a, []) := by
  unfold treeT at h
  by_cases hl : l.length ≤ 40
  · rw [if_pos hl] at h
    cases hr : rt 1 l with
    | none => rw [hr] at h; cases h
    | some p =>
      obtain ⟨b, r⟩ := p
      rw [hr] at h
      cases r with
      | nil =>
        simp only [Option.some.injEq] at h
        subst h
        obtain ⟨h1, h2, h3⟩ := rt_flat hr
        exact ⟨by simpa using h1, h2, h3, hl, rfl⟩
      | cons y r => cases h
  · rw [if_neg hl] at h; cases h
theorem treeT_back {a : F} (h : a.ok) (h1 : a.len = 1) (hl : a.flat.length ≤ 40) : treeT a.flat = some a := by
  unfold treeT
  rw [if_pos hl]
  have := rt_back a [] h
  rw [h1, List.append_nil] at this
  rw [this]
theorem rt_within : ∀ (a : F) (r : List Cc) (i : Nat), a.ok → i < a.flat.length → ∃ b r', rt 1 ((a.flat ++ r).drop i) = some (b, r')
  | .nil, r, i, _, h => by simp [F.flat] at h
  | .cons x k s, r, i, ⟨h1, h2, h3, h4⟩, hi => by
    show ∃ b r', rt 1 ((x :: (k.flat ++ s.flat) ++ r).drop i) = _
    rw [List.cons_append, List.append_assoc]
    cases i with
    | zero =>
      rw [List.drop_zero, rt_1 h1, ← h2, rt_back k _ h3]
      exact ⟨_, _, rfl⟩
    | succ j =>
      rw [List.drop_succ_cons]
      by_cases hj : j < k.flat.length
      · exact rt_within k (s.flat ++ r) j h3 hj
      · rw [show (k.flat ++ (s.flat ++ r)).drop j = (s.flat ++ r).drop (j - k.flat.length) by rw [List.drop_append, List.drop_eq_nil_of_le (by omega), List.nil_append]]
        exact rt_within s r (j - k.flat.length) h4 (by simp [F.flat] at hi; omega)
end Go.Proofs.Ytiphcjbmoekkkaa.L
