/-
  Both sides' ShiftTerm. Conditions: at most 1048576 cells.
-/
import Derived.Test.YtbimfnnbfbfdoabTeY
namespace Go.Proofs.Ytbimfnnbfbfdoab.W
open Go.ChangeShapes Go.WideShapes Go.ChangeAt Go.RowKit
set_option linter.unusedVariables false

theorem Bd_take {by_ : Int} {f : Nat} {l : List Int} (h : Bd by_ f l = false) (j : Nat) (hj : j < l.length) : ¬ ((f : Int) ≤ l[j] ∧ l[j] + by_ < (f : Int)) := by
  unfold Bd at h
  intro hc
  have := List.any_eq_false.1 h l[j] (List.getElem_mem hj)
  simp [hc.1, hc.2] at this
theorem Bd_yes {by_ : Int} {f : Nat} {l : List Int} (j : Nat) (hj : j < l.length) (hc : (f : Int) ≤ l[j] ∧ l[j] + by_ < (f : Int)) : Bd by_ f l = true := by
  unfold Bd
  rw [List.any_eq_true]
  exact ⟨l[j], List.getElem_mem hj, by simp [hc.1, hc.2]⟩
theorem Bd_all {by_ : Int} {f : Nat} {l : List Int} (h : ∀ j (hj : j < l.length), ¬ ((f : Int) ≤ l[j] ∧ l[j] + by_ < (f : Int))) : Bd by_ f l = false := by
  unfold Bd
  rw [List.any_eq_false]
  intro x hx
  obtain ⟨j, hj, rfl⟩ := List.getElem_of_mem hx
  have := h j hj
  simp only [Bool.and_eq_true, decide_eq_true_eq]
  exact this

theorem fre_bd : ∀ (a : F) (pk : Int) (d i : Nat) (o : List Int), a.ok → (∀ m ∈ o, 0 ≤ m ∧ m ≤ 99) → ∀ m ∈ fre pk d i a o, 0 ≤ m ∧ m ≤ 99
  | .nil, _, _, _, _, _, h => h
  | .cons x k r, pk, d, i, o, h, ho => by
    obtain ⟨g1, l1, o1, r1⟩ := ok_cons h
    rw [fre_cons]
    refine fre_bd r pk d (i + 1) _ r1 ?_
    unfold fr1
    split
    · rename_i hc
      have hn : 0 ≤ x.n ∧ x.n ≤ 99 := by
        unfold goodC at g1
        rw [if_pos hc.1] at g1
        simpa [inB] using g1
      intro m hm
      rcases (mem_put _ _ _).1 hm with hm | rfl
      · exact ho m hm
      · omega
    · exact fre_bd k x.k _ 0 o o1 ho
end Go.Proofs.Ytbimfnnbfbfdoab.W
