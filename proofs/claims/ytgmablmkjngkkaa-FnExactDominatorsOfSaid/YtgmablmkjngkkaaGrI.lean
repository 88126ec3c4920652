/-
  Sets compared. No program of its own.
-/
import Derived.Test.YtgmablmkjngkkaaGrX
import Derived.ChangeKeysEq
import Derived.Laws.StructEq
namespace Go.Proofs.Ytgmablmkjngkkaa.W
open Go.ChangeShapes Go.WideShapes Go.ChangeAt Go.RowKit Go.Joins
set_option linter.unusedVariables false

/-- The sets are the same. -/
def sEq (f g : Nat → Bool) : Bool := (List.range 12).all fun i => f i == g i
theorem sEq_iff {f g : Nat → Bool} : sEq f g = true ↔ sA f = sA g := by
  unfold sEq
  rw [List.all_eq_true]
  constructor
  · intro h
    exact sA_congr (fun i hi => by simpa using h i (List.mem_range.2 hi))
  · intro h i hi
    have := sA_inj h i (List.mem_range.1 hi)
    simp [this]
theorem sPart (f : Nat → Bool) (w : World) : ∀ j : Nat, j < 12 → (part 4 (sA f) (j * 1)).run Try.prog w = .ok (.bool (f j)) w
  | 0, _ => by kernel_rfl
  | 1, _ => by kernel_rfl
  | 2, _ => by kernel_rfl
  | 3, _ => by kernel_rfl
  | 4, _ => by kernel_rfl
  | 5, _ => by kernel_rfl
  | 6, _ => by kernel_rfl
  | 7, _ => by kernel_rfl
  | 8, _ => by kernel_rfl
  | 9, _ => by kernel_rfl
  | 10, _ => by kernel_rfl
  | 11, _ => by kernel_rfl
  | n + 12, h => absurd h (by omega)
theorem run_eqItems_s (f g : Nat → Bool) (w : World) : ∀ is : List Nat, (∀ i ∈ is, i < 12) → (Op.eqItems 9999 4 1 (sA f) (sA g) is).run Try.prog w = .ok (is.all fun i => f i == g i) w
  | [], _ => by simp [Op.eqItems]
  | i :: is, h => by
    have ih := run_eqItems_s f g w is (fun j hj => h j (by simp [hj]))
    have h1 := sPart f w i (h i (by simp))
    have h2 := sPart g w i (h i (by simp))
    have h3 := run_equalIn_bool (P := Try.prog) w 9998 4 (f i) (g i) Try.underlying4
    simp only [Op.eqItems, Sem.run_bind, h1, h2, h3, Result.andThen_ok]
    cases e : (f i == g i) with
    | true => simpa [e] using ih
    | false => simp [e]
theorem bInfo : ∃ i, Try.prog.info? 4 = some i := Option.isSome_iff_exists.1 (by kernel_rfl)
theorem run_equal_s (f g : Nat → Bool) (w : World) : (Op.equalIn 10000 60 (.agg (sA f)) (.agg (sA g))).run Try.prog w = .ok (sEq f g) w := by
  obtain ⟨i, hi⟩ := bInfo
  rw [run_equalIn_array w 9999 (sA f) (sA g) Try.underlying60 hi, show Try.prog.cellsOf 4 = 1 by kernel_rfl]
  exact run_eqItems_s f g w _ (fun i hi => List.mem_range.1 hi)
theorem run_neq_s (f g : Nat → Bool) (w : World) : (binOp .neq 60 (.agg (sA f)) (.agg (sA g))).run Try.prog w = .ok (.bool (!sEq f g)) w := by
  rw [run_neq_struct, run_equal_s]; rfl
theorem run_eql_s (f g : Nat → Bool) (w : World) : (binOp .eql 60 (.agg (sA f)) (.agg (sA g))).run Try.prog w = .ok (.bool (sEq f g)) w := by
  rw [run_eql_struct, run_equal_s]; rfl
theorem sGuard : Try.prog.eqGuardType Try.prog.depth 60 = false := by kernel_rfl
end Go.Proofs.Ytgmablmkjngkkaa.W
