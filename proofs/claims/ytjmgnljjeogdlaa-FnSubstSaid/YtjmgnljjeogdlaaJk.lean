/-
  Some texts of this proof in one: TeR, TeIv.
-/
import Derived.Test.YtjmgnljjeogdlaaJd
/-
  Redexes of terms: of a tree, of the front of a row, all places in a row. No program here.
-/
namespace Go.Proofs.Ytjmgnljjeogdlaa.W
set_option linter.unusedVariables false

def k1 : F → Int
  | .cons y _ _ => y.k
  | .nil => 0
def n1 : F → Int
  | .cons y _ _ => y.n
  | .nil => 0
def tl : F → F
  | .cons _ _ r => r
  | .nil => .nil
/-- A redex: its first cell, and the terms behind it. -/
def redx (x : Cc) (k : F) : Bool :=
  if x.k = 4 then decide (k1 k = 3) else if x.k = 7 then true else if x.k = 5 then decide (k1 k = 2) && (decide (k1 (tl k) = 2) && inB (n1 k + n1 (tl k)) (-1000000) 1000000)
  else if x.k = 6 then decide (k1 k = 2) else false
/-- Whether some term of these, or within them, is a redex. -/
def anyR : F → Bool
  | .nil => false
  | .cons x k r => (redx x k || anyR k) || anyR r
theorem anyR_app : ∀ a b : F, anyR (a.app b) = (anyR a || anyR b)
  | .nil, b => rfl
  | .cons x k r, b => by simp [F.app, anyR, anyR_app r b, Bool.or_assoc]

def kOf (l : List Cc) (i : Nat) : Int := match l[i]? with | some c => c.k | none => 0
def nAt (l : List Cc) (i : Nat) : Int := match l[i]? with | some c => c.n | none => 0
theorem kOf_lt {l : List Cc} {i : Nat} (h : i < l.length) : kOf l i = l[i].k := by simp [kOf, h]
theorem nAt_lt {l : List Cc} {i : Nat} (h : i < l.length) : nAt l i = l[i].n := by simp [nAt, h]
/-- Whether the front of a row is a redex. -/
def isRl (l : List Cc) : Bool :=
  if kOf l 0 = 4 then decide (kOf l 1 = 3) else if kOf l 0 = 7 then true else if kOf l 0 = 5 then decide (kOf l 1 = 2) && (decide (kOf l 2 = 2) && inB (nAt l 1 + nAt l 2) (-1000000) 1000000)
  else if kOf l 0 = 6 then decide (kOf l 1 = 2) else false
/-- What isRedex asks of a row: it is long enough, and its numbers are in bounds. -/
structure RedOK (l : List Cc) : Prop where
  l0 : 0 < l.length
  l1 : kOf l 0 = 4 ∨ kOf l 0 = 5 ∨ kOf l 0 = 6 → 1 < l.length
  l2 : kOf l 0 = 5 → kOf l 1 = 2 → 2 < l.length
  n1 : kOf l 0 = 5 → kOf l 1 = 2 → -1000000 ≤ nAt l 1 ∧ nAt l 1 ≤ 1000000
  n2 : kOf l 0 = 5 → kOf l 1 = 2 → kOf l 2 = 2 → -1000000 ≤ nAt l 2 ∧ nAt l 2 ≤ 1000000

theorem num_n {x : Cc} (h : goodC x = true) (h2 : x.k = 2) : -1000000 ≤ x.n ∧ x.n ≤ 1000000 := by
  unfold goodC at h
  rw [if_neg (by omega), if_pos h2] at h
  simpa [inB] using h
theorem len_pos {k : F} (h : 0 < k.len) : ∃ y ky r, k = .cons y ky r := by
  cases k with
  | nil => simp [F.len] at h
  | cons y ky r => exact ⟨_, _, _, rfl⟩

/-- The front of a row that opens with a good term: a redex just if the term is one; and isRedex may be asked. -/
theorem front {x : Cc} {k : F} (hg : goodC x = true) (hl : k.len = ar x.k) (ho : k.ok) (q : List Cc) : isRl (x :: (k.flat ++ q)) = redx x k ∧ RedOK (x :: (k.flat ++ q)) := by
  have h0 : kOf (x :: (k.flat ++ q)) 0 = x.k := rfl
  by_cases h4 : x.k = 4
  · obtain ⟨y, ky, r, rfl⟩ := len_pos (k := k) (by rw [hl, h4]; decide)
    refine ⟨?_, ⟨by simp, fun _ => by simp [F.flat], ?_, ?_, ?_⟩⟩
    · unfold isRl redx
      rw [h0, if_pos h4, if_pos h4]
      rfl
    · intro h; rw [h0] at h; omega
    · intro h; rw [h0] at h; omega
    · intro h; rw [h0] at h; omega
  · by_cases h7 : x.k = 7
    · refine ⟨?_, ⟨by simp, ?_, ?_, ?_, ?_⟩⟩
      · unfold isRl redx
        rw [h0, if_neg h4, if_pos h7, if_neg h4, if_pos h7]
      · intro h; rw [h0] at h; omega
      · intro h; rw [h0] at h; omega
      · intro h; rw [h0] at h; omega
      · intro h; rw [h0] at h; omega
    · by_cases h5 : x.k = 5
      · obtain ⟨y, ky, r, rfl⟩ := len_pos (k := k) (by rw [hl, h5]; decide)
        obtain ⟨z, kz, r2, rfl⟩ := len_pos (k := r) (by have : ar x.k = 2 := (by rw [h5]; decide); simp [F.len] at hl; omega)
        obtain ⟨gy, ly, oy, gz, lz, oz, -⟩ := ho
        have e1 : kOf (x :: ((F.cons y ky (.cons z kz r2)).flat ++ q)) 1 = y.k := rfl
        have e1n : nAt (x :: ((F.cons y ky (.cons z kz r2)).flat ++ q)) 1 = y.n := rfl
        by_cases hy : y.k = 2
        · have : ky = .nil := F.len_0 (by rw [ly, hy]; decide)
          subst this
          have e2 : kOf (x :: ((F.cons y .nil (.cons z kz r2)).flat ++ q)) 2 = z.k := rfl
          have e2n : nAt (x :: ((F.cons y .nil (.cons z kz r2)).flat ++ q)) 2 = z.n := rfl
          refine ⟨?_, ⟨by simp, fun _ => by simp [F.flat], fun _ _ => by simp [F.flat], fun _ _ => by rw [e1n]; exact num_n gy hy, fun _ _ h => by rw [e2] at h; rw [e2n]; exact num_n gz h⟩⟩
          unfold isRl redx
          rw [h0, if_neg h4, if_neg h7, if_pos h5, if_neg h4, if_neg h7, if_pos h5, e1, e1n, e2, e2n]
          rfl
        · refine ⟨?_, ⟨by simp, fun _ => by simp [F.flat], ?_, ?_, ?_⟩⟩
          · unfold isRl redx
            rw [h0, if_neg h4, if_neg h7, if_pos h5, if_neg h4, if_neg h7, if_pos h5, e1]
            simp [k1, hy]
          · intro _ h; rw [e1] at h; exact absurd h hy
          · intro _ h; rw [e1] at h; exact absurd h hy
          · intro _ h; rw [e1] at h; exact absurd h hy
      · by_cases h6 : x.k = 6
        · obtain ⟨y, ky, r, rfl⟩ := len_pos (k := k) (by rw [hl, h6]; decide)
          refine ⟨?_, ⟨by simp, fun _ => by simp [F.flat], ?_, ?_, ?_⟩⟩
          · unfold isRl redx
            rw [h0, if_neg h4, if_neg h7, if_neg h5, if_pos h6, if_neg h4, if_neg h7, if_neg h5, if_pos h6]
            rfl
          · intro h; rw [h0] at h; omega
          · intro h; rw [h0] at h; omega
          · intro h; rw [h0] at h; omega
        · refine ⟨?_, ⟨by simp, ?_, ?_, ?_, ?_⟩⟩
          · unfold isRl redx
            rw [h0, if_neg h4, if_neg h7, if_neg h5, if_neg h6, if_neg h4, if_neg h7, if_neg h5, if_neg h6]
          · intro h; rw [h0] at h; omega
          · intro h; rw [h0] at h; omega
          · intro h; rw [h0] at h; omega
          · intro h; rw [h0] at h; omega

/-- Within good terms isRedex may be asked anywhere. -/
theorem redOK_in : ∀ (a : F) (r : List Cc) (i : Nat), a.ok → i < a.flat.length → RedOK ((a.flat ++ r).drop i)
  | .nil, r, i, _, h => by simp [F.flat] at h
  | .cons x k s, r, i, ⟨h1, h2, h3, h4⟩, hi => by
    show RedOK ((x :: (k.flat ++ s.flat) ++ r).drop i)
    rw [List.cons_append, List.append_assoc]
    cases i with
    | zero => exact (front h1 h2 h3 _).2
    | succ j =>
      rw [List.drop_succ_cons]
      by_cases hj : j < k.flat.length
      · exact redOK_in k (s.flat ++ r) j h3 hj
      · rw [show (k.flat ++ (s.flat ++ r)).drop j = (s.flat ++ r).drop (j - k.flat.length) by rw [List.drop_append, List.drop_eq_nil_of_le (by omega), List.nil_append]]
        exact redOK_in s r (j - k.flat.length) h4 (by simp [F.flat] at hi; omega)

/-- The places of the redexes among the first so many. -/
def plUp (l : List Cc) (k : Nat) : List Nat := (List.range k).filter fun i => isRl (l.drop i)
theorem plUp_succ (l : List Cc) (k : Nat) : plUp l (k + 1) = plUp l k ++ if isRl (l.drop k) = true then [k] else [] := by
  unfold plUp
  rw [List.range_succ, List.filter_append]
  congr 1
  by_cases h : isRl (l.drop k) = true
  · rw [if_pos h]; simp [h]
  · rw [if_neg h]; simp [h]
theorem plUp_len (l : List Cc) (k : Nat) : (plUp l k).length ≤ k := by
  unfold plUp
  exact Nat.le_trans (List.length_filter_le _ _) (by simp)
theorem plUp_pre (l : List Cc) (k : Nat) : ∀ m, plUp l k <+: plUp l (k + m)
  | 0 => List.prefix_refl _
  | m + 1 => by
    refine List.IsPrefix.trans (plUp_pre l k m) ?_
    rw [← Nat.add_assoc, plUp_succ]
    exact List.prefix_append _ _
/-- The first place of a redex. -/
def fstR (l : List Cc) : Option Nat := (plUp l l.length).head?
theorem plUp_any (l : List Cc) (k : Nat) : (plUp l k).head?.isSome = (List.range k).any fun i => isRl (l.drop i) := by
  unfold plUp
  rw [List.head?_filter, Bool.eq_iff_iff, List.find?_isSome, List.any_eq_true]
theorem any_cons (x : Cc) (l : List Cc) : ((List.range (x :: l).length).any fun i => isRl ((x :: l).drop i)) = (isRl (x :: l) || ((List.range l.length).any fun i => isRl (l.drop i))) := by
  rw [List.length_cons, List.range_succ_eq_map, List.any_cons, List.any_map]
  rfl
theorem any_flat : ∀ (a : F) (r : List Cc), a.ok → ((List.range (a.flat ++ r).length).any fun i => isRl ((a.flat ++ r).drop i)) = (anyR a || ((List.range r.length).any fun i => isRl (r.drop i)))
  | .nil, r, _ => rfl
  | .cons x k s, r, ⟨h1, h2, h3, h4⟩ => by
    have e : (F.cons x k s).flat ++ r = x :: (k.flat ++ (s.flat ++ r)) := by simp [F.flat]
    rw [e, any_cons, any_flat k _ h3, any_flat s r h4, (front h1 h2 h3 _).1]
    simp [anyR, Bool.or_assoc]
theorem fstR_any {a : F} (h : a.ok) : (fstR a.flat).isSome = anyR a := by
  unfold fstR
  rw [plUp_any]
  have := any_flat a [] h
  simpa using this
end Go.Proofs.Ytjmgnljjeogdlaa.W

/-
  Contracts of IsValue: the program's (isValueCell, IsValue) and the specification's (l4Value, IsValue). Conditions: at most 1048576 cells.
-/
namespace Go.Proofs.Ytjmgnljjeogdlaa.W
open Go.ChangeShapes Go.WideShapes Go.ChangeAt Go.RowKit
set_option linter.unusedVariables false

/-- A value, by its first cell's kind. -/
def isVal (k : Int) : Bool := decide (k = 3) || decide (k = 2)
/-- Whether what is read is a value. -/
def valT : Option F → Bool
  | some (.cons x _ _) => isVal x.k
  | _ => false
end Go.Proofs.Ytjmgnljjeogdlaa.W
