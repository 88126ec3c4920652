/-
  The program's LiveIn, LiveOut and DeadSets. Conditions: none but those that each theorem states.
-/
import Derived.Test.YtaniiolphghhiabLvL
import Derived.Test.YtaniiolphghhiabLvG
namespace Go.Proofs.Ytaniiolphghhiab.W
open Go.ChangeShapes Go.WideShapes Go.ChangeAt Go.RowKit Go.Joins
set_option linter.unusedVariables false
set_option linter.unusedSimpArgs false
set_option maxRecDepth 20000

/-- What LiveIn, LiveOut and DeadSets tell. -/
noncomputable def liR (D F : List (List Int)) : List (List Int) := if goodF D F = true then lvR D F else []
noncomputable def loR (D F : List (List Int)) : List (List Int) := if goodF D F = true then ous D (lvR D F) else []
noncomputable def deL (D F : List (List Int)) : List (List Int) := (List.range D.length).map fun k => woL (fs F k) (ou D (lvR D F) k)
noncomputable def deR (D F : List (List Int)) : List (List Int) := if goodF D F = true then deL D F else []
theorem mapLst_sm {f : Nat → Nat → Bool} {n : Nat} (hn : n ≤ 12) : ((List.range n).map fun k => lst (f k) 8).length ≤ 600 ∧ ∀ l ∈ (List.range n).map (fun k => lst (f k) 8), l.length ≤ 600 :=
  ⟨by simp; omega, fun l hl => by
    obtain ⟨k, -, rfl⟩ := List.mem_map.1 hl
    have := lst_len (f k) 8
    omega⟩
theorem liR_sm (D F : List (List Int)) : (liR D F).length ≤ 600 ∧ ∀ l ∈ liR D F, l.length ≤ 600 := by
  unfold liR
  split
  · rename_i h; exact mapLst_sm (goodF_iff.1 h).1.2.1
  · simp
theorem loR_sm (D F : List (List Int)) : (loR D F).length ≤ 600 ∧ ∀ l ∈ loR D F, l.length ≤ 600 := by
  unfold loR
  split
  · rename_i h; exact mapLst_sm (goodF_iff.1 h).1.2.1
  · simp
theorem deR_sm (D F : List (List Int)) : (deR D F).length ≤ 600 ∧ ∀ l ∈ deR D F, l.length ≤ 600 := by
  unfold deR
  split
  · rename_i h; exact mapLst_sm (goodF_iff.1 h).1.2.1
  · simp
theorem liR_yes {D F : List (List Int)} (h : goodF D F = true) : liR D F = lvR D F := by simp [liR, h]
theorem loR_yes {D F : List (List Int)} (h : goodF D F = true) : loR D F = ous D (lvR D F) := by simp [loR, h]
theorem deR_yes {D F : List (List Int)} (h : goodF D F = true) : deR D F = deL D F := by simp [deR, h]
theorem liR_no {D F : List (List Int)} (h : goodF D F = false) : liR D F = [] := by simp [liR, h]
theorem loR_no {D F : List (List Int)} (h : goodF D F = false) : loR D F = [] := by simp [loR, h]
theorem deR_no {D F : List (List Int)} (h : goodF D F = false) : deR D F = [] := by simp [deR, h]
theorem lvR_r8 (D F : List (List Int)) (k : Nat) : R8 (row (lvR D F) k) := by
  by_cases h : k < (lvR D F).length
  · rw [row_at h]; simp only [lvR, List.getElem_map]; exact lst_r8 _
  · rw [row_out h]; exact r8_nil
theorem ous_r8 (D L : List (List Int)) (k : Nat) : R8 (row (ous D L) k) := by
  by_cases h : k < (ous D L).length
  · rw [row_at h]; simp only [ous, List.getElem_map]; exact lst_r8 _
  · rw [row_out h]; exact r8_nil
theorem ous_row {D L : List (List Int)} {k : Nat} (h : k < D.length) : row (ous D L) k = ou D L k := by
  rw [row_at (by rw [ous_len]; exact h)]; simp [ous]
end Go.Proofs.Ytaniiolphghhiab.W
