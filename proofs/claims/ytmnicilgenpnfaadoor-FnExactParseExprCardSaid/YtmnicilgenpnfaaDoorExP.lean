/-
  Expressions as trees: what a good part is, how a row of parts is read as a tree, and that a row is good just if it is read whole. No program here.
-/
import Derived.Test.YtmnicilgenpnfaaDoorExR
import Derived.Test.YtmnicilgenpnfaaDoorGood
namespace Go.Proofs.YtmnicilgenpnfaaDoor.W

def goodX (x : Xx) : Bool :=
  if x.k = 1 then inB x.n 0 999999999 && x.t.toList.isEmpty else if x.k = 2 then decide (x.n = 0) && nameB x.t
  else if x.k = 3 ∨ x.k = 4 then decide (x.n = 0) && x.t.toList.isEmpty else if x.k = 5 then decide (x.n = 0) && decide (strN x.t ≠ 0) else false
def behind (x : Xx) : Nat := if x.k = 3 ∨ x.k = 4 then 1 else if x.k = 5 then 2 else 0
theorem behind_le (x : Xx) : behind x ≤ 2 := by unfold behind; split <;> (try split) <;> omega
theorem behind_0 {x : Xx} (h : goodX x = true) (hb : behind x = 0) : x.k = 1 ∨ x.k = 2 := by
  unfold behind at hb; unfold goodX at h
  by_cases h1 : x.k = 1
  · exact .inl h1
  · by_cases h2 : x.k = 2
    · exact .inr h2
    · by_cases h3 : x.k = 3 ∨ x.k = 4
      · simp [h3] at hb
      · by_cases h5 : x.k = 5
        · simp [h5] at hb
        · simp [h1, h2, h3, h5] at h
theorem behind_1 {x : Xx} (hb : behind x = 1) : x.k = 3 ∨ x.k = 4 := by
  unfold behind at hb
  by_cases h3 : x.k = 3 ∨ x.k = 4
  · exact h3
  · by_cases h5 : x.k = 5 <;> simp [h3, h5] at hb
theorem behind_2 {x : Xx} (hb : behind x = 2) : x.k = 5 := by
  unfold behind at hb
  by_cases h3 : x.k = 3 ∨ x.k = 4
  · simp [h3] at hb
  · by_cases h5 : x.k = 5
    · exact h5
    · simp [h3, h5] at hb

/-- An expression as a tree. -/
inductive E where
  | leaf (x : Xx)
  | one (x : Xx) (a : E)
  | two (x : Xx) (a b : E)
def E.flat : E → List Xx
  | .leaf x => [x]
  | .one x a => x :: a.flat
  | .two x a b => x :: (a.flat ++ b.flat)
def E.ok : E → Prop
  | .leaf x => goodX x = true ∧ behind x = 0
  | .one x a => goodX x = true ∧ behind x = 1 ∧ a.ok
  | .two x a b => goodX x = true ∧ behind x = 2 ∧ a.ok ∧ b.ok
theorem E.flat_pos (e : E) : 0 < e.flat.length := by cases e <;> simp [E.flat]

/-- One expression from the front of a row, and what is behind it. -/
def rd : Nat → List Xx → Option (E × List Xx)
  | 0, _ => none
  | _ + 1, [] => none
  | f + 1, x :: r =>
    if goodX x = true then
      if behind x = 0 then some (.leaf x, r)
      else match rd f r with
        | none => none
        | some (a, r1) =>
          if behind x = 1 then some (.one x a, r1)
          else match rd f r1 with
            | none => none
            | some (b, r2) => some (.two x a b, r2)
    else none

theorem rd_flat : ∀ (f : Nat) (l : List Xx) (e : E) (r : List Xx), rd f l = some (e, r) → l = e.flat ++ r ∧ e.ok
  | 0, l, e, r, h => by simp [rd] at h
  | f + 1, [], e, r, h => by simp [rd] at h
  | f + 1, x :: l, e, r, h => by
    unfold rd at h
    by_cases hg : goodX x = true
    · rw [if_pos hg] at h
      by_cases h0 : behind x = 0
      · rw [if_pos h0] at h
        simp only [Option.some.injEq, Prod.mk.injEq] at h
        obtain ⟨rfl, rfl⟩ := h
        exact ⟨rfl, hg, h0⟩
      · rw [if_neg h0] at h
        cases h1 : rd f l with
        | none => rw [h1] at h; cases h
        | some p =>
          obtain ⟨a, r1⟩ := p
          rw [h1] at h
          obtain ⟨e1, o1⟩ := rd_flat f l a r1 h1
          by_cases hb : behind x = 1
          · simp only [if_pos hb, Option.some.injEq, Prod.mk.injEq] at h
            obtain ⟨rfl, rfl⟩ := h
            exact ⟨by rw [e1]; rfl, hg, hb, o1⟩
          · simp only [if_neg hb] at h
            cases h2 : rd f r1 with
            | none => rw [h2] at h; cases h
            | some p2 =>
              obtain ⟨b, r2⟩ := p2
              rw [h2] at h
              obtain ⟨e2, o2⟩ := rd_flat f r1 b r2 h2
              simp only [Option.some.injEq, Prod.mk.injEq] at h
              obtain ⟨rfl, rfl⟩ := h
              have := behind_le x
              exact ⟨by rw [e1, e2]; simp [E.flat], hg, by omega, o1, o2⟩
    · rw [if_neg hg] at h; cases h

/-- Whether a row is so many expressions, one behind the other. -/
def runB : List Xx → Nat → Bool
  | [], m => decide (m = 0)
  | x :: l, m => !decide (m = 0) && (goodX x && runB l (m + behind x - 1))

theorem runB_flat : ∀ (e : E) (r : List Xx) (m : Nat), e.ok → runB (e.flat ++ r) (m + 1) = runB r m
  | .leaf x, r, m, h => by obtain ⟨h1, h2⟩ := h; simp [E.flat, runB, h1, h2]
  | .one x a, r, m, h => by
    obtain ⟨h1, h2, h3⟩ := h
    simp only [E.flat, List.cons_append, runB, h1, h2]
    rw [show m + 1 + 1 - 1 = m + 1 by omega, runB_flat a r m h3]
    simp
  | .two x a b, r, m, h => by
    obtain ⟨h1, h2, h3, h4⟩ := h
    simp only [E.flat, List.cons_append, List.append_assoc, runB, h1, h2]
    rw [show m + 1 + 2 - 1 = (m + 1) + 1 by omega, runB_flat a _ (m + 1) h3, runB_flat b r m h4]
    simp

theorem runB_none : ∀ (f : Nat) (l : List Xx) (m : Nat), l.length ≤ f → rd f l = none → runB l (m + 1) = false
  | _, [], m, _, _ => by simp [runB]
  | 0, x :: l, m, h, _ => by simp at h
  | f + 1, x :: l, m, hl, h => by
    unfold rd at h
    have hl' : l.length ≤ f := by simpa using hl
    by_cases hg : goodX x = true
    · rw [if_pos hg] at h
      by_cases h0 : behind x = 0
      · rw [if_pos h0] at h; cases h
      · rw [if_neg h0] at h
        have hb2 := behind_le x
        cases h1 : rd f l with
        | none =>
          simp only [runB, hg]
          rw [show m + 1 + behind x - 1 = (m + behind x - 1) + 1 by omega, runB_none f l _ hl' h1]
          simp
        | some p =>
          obtain ⟨a, r1⟩ := p
          rw [h1] at h
          by_cases hb : behind x = 1
          · simp [hb] at h
          · simp only [if_neg hb] at h
            obtain ⟨e1, o1⟩ := rd_flat f l a r1 h1
            cases h2 : rd f r1 with
            | some p2 => rw [h2] at h; cases h
            | none =>
              simp only [runB, hg]
              have : r1.length ≤ f := by rw [e1] at hl'; simp at hl'; omega
              rw [show m + 1 + behind x - 1 = (m + 1) + 1 by omega, e1, runB_flat a r1 (m + 1) o1, runB_none f r1 m this h2]
              simp
    · simp [runB, hg]

/-- Whether a row is a good expression. -/
def goodE (l : List Xx) : Bool := decide (l.length ≤ 40) && runB l 1
def treeE (l : List Xx) : Option E := if l.length ≤ 40 then match rd 40 l with | some (e, []) => some e | _ => none else none

theorem runB_pos : ∀ (l : List Xx), runB l 0 = decide (l = [])
  | [] => by simp [runB]
  | x :: l => by simp [runB]
theorem goodE_tree (l : List Xx) : goodE l = (treeE l).isSome := by
  unfold goodE treeE
  by_cases hl : l.length ≤ 40
  · rw [if_pos hl, decide_eq_true hl, Bool.true_and]
    cases h : rd 40 l with
    | none => rw [runB_none 40 l 0 hl h]; rfl
    | some p =>
      obtain ⟨e, r⟩ := p
      obtain ⟨e1, o1⟩ := rd_flat 40 l e r h
      rw [e1, runB_flat e r 0 o1, runB_pos]
      cases r <;> simp
  · rw [if_neg hl, decide_eq_false hl]; rfl
theorem treeE_flat {l : List Xx} {e : E} (h : treeE l = some e) : l = e.flat ∧ e.ok ∧ l.length ≤ 40 ∧ rd 40 l = some (e, []) := by
  unfold treeE at h
  by_cases hl : l.length ≤ 40
  · rw [if_pos hl] at h
    cases hr : rd 40 l with
    | none => rw [hr] at h; cases h
    | some p =>
      obtain ⟨a, r⟩ := p
      rw [hr] at h
      cases r with
      | nil =>
        simp only [Option.some.injEq] at h
        subst h
        have := rd_flat 40 l a [] hr
        simp only [List.append_nil] at this
        exact ⟨this.1, this.2, hl, rfl⟩
      | cons y r => cases h
  · rw [if_neg hl] at h; cases h
theorem treeE_none {l : List Xx} (hl : l.length ≤ 40) (h : treeE l = none) : rd 40 l = none ∨ ∃ e y r, rd 40 l = some (e, y :: r) := by
  unfold treeE at h
  rw [if_pos hl] at h
  cases hr : rd 40 l with
  | none => exact .inl rfl
  | some p =>
    obtain ⟨a, r⟩ := p
    rw [hr] at h
    cases r with
    | nil => cases h
    | cons y r => exact .inr ⟨a, y, r, rfl⟩
end Go.Proofs.YtmnicilgenpnfaaDoor.W
