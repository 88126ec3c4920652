/-
  Proved: whatever the memory and the schedule, the law FnExactSignsOf returns true: SignsOf answers the nineteen signs of the specification, its answer owns its memory, also behind another call. No conditions.
  The frame (from 'lifted' on) is the shell that the guide's proof-skeleton.mjs writes; the walk is ours.
-/
import Derived.Test.YtfbllgjnahechaaMark
import Derived.WalkKit
import Derived.ProofKit
import Derived.OpenShut
import Derived.ShutString
import Derived.WalkSmall
import Derived.ChangeOld
import Derived.Below
namespace Go.Proofs.Ytfbllgjnahechaa.fnExactSignsOf
open Go.ChangeShapes Go.WideShapes Go.ChangeAt Go.RowKit
open Go.Proofs.Ytfbllgjnahechaa.W
open Go.ChangeMaps (open_string shut_string)
set_option linter.unusedVariables false      -- a walk need not use every 'w<i>' (that an integer argument fits its kind)

theorem own : ownKnob Try.prog.godebug = none := by kernel_rfl

/-! ### STEP 1: THE WALK -/
set_option maxHeartbeats 1000000 in
theorem walk (w : World) :
    Calls Try.prog 4 #[] w fun e w' => e = .returned (.bool true) ∧ Below w.heap.size w w' := by
  go_enter Try.func4, Try.ntmps4
  go_wp2_with fail
  refine (specSignsOf_any _).mono ?_
  rintro e w1 ⟨rfl, hw1⟩
  have hb1 : Blk w1 w.heap.size sgs := by rw [hw1]; exact Blk.new w sgs
  have hz1 : w1.heap.size = w.heap.size + 1 := by rw [hw1]; simp
  have hB1 : Below w.heap.size w w1 := by rw [hw1]; exact (Below.refl _ _).alloc (Nat.le_refl _) _
  clear hw1
  go_wp2_with fail
  refine (SignsOf_any _).mono ?_
  rintro e w2 ⟨rfl, hw2⟩
  have hb2 : Blk w2 (w.heap.size + 1) sgs := by rw [hw2, ← hz1]; exact Blk.new w1 sgs
  have hz2 : w2.heap.size = w.heap.size + 2 := by rw [hw2]; simp [hz1]
  have hB2 : Below (w.heap.size + 1) w1 w2 := by rw [hw2]; exact (Below.refl _ _).alloc (by omega) _
  clear hw2
  have hb1' := hb1.below hB2 (by omega)
  rw [hz1]
  have Hz1 : Hid (w1.heap.size = w.heap.size + 1) := hz1
  have Hz2 : Hid (w2.heap.size = w.heap.size + 2) := hz2
  clear hz1 hz2
  go_wp2_with fail
  refine (eqStringS_true _ _ 19 _ _ sgs _ rfl (by omega) hb2 hb1').mono ?_
  rintro e w3 ⟨rfl, d, hw3⟩
  have hb1 : Blk w3 w.heap.size sgs := by rw [hw3]; exact hb1'
  have hb2 : Blk w3 (w.heap.size + 1) sgs := by rw [hw3]; exact hb2
  have hB3 : Below w.heap.size w2 w3 := by rw [hw3]; exact below_drewN (Below.refl _ _) _
  have Hz3 : Hid (w3.heap.size = w.heap.size + 2) := by rw [hw3]; exact Hz2
  clear hw3
  go_wp2_with fail
  refine (markStringS_any (w.heap.size + 1) 19 19 1 sgs _ rfl (by omega) (by omega) hb2).mono ?_
  rintro e w4 ⟨rfl, hm4, hO4⟩
  go_wp2_with fail
  refine (heldStringS_any (w.heap.size + 1) 19 19 1 _ (by omega) (by omega) hm4).mono ?_
  rintro e w5 ⟨rfl, hB5⟩
  have hm5 := hm4.below hB5 hm4.lt
  have hb15 : Blk w5 w.heap.size sgs := (hb1.oth hO4 (by omega)).below hB5 (hb1.oth hO4 (by omega)).lt
  have hB5' : Below w.heap.size w w5 := by
    have h2 := Hz2.out
    have h3 := Hz3.out
    have h4 := hO4.size
    have k1 : Below w.heap.size w1 w2 := hB2.mono (by omega)
    have k2 : Below w.heap.size w3 w4 := hO4.below (by omega) (by omega)
    exact (((hB1.trans k1).trans hB3).trans k2).trans (hB5.mono (by omega))
  have Hz5 : Hid (w.heap.size + 2 ≤ w5.heap.size) := by
    have h3 := Hz3.out
    have h4 := hO4.size
    have h5 := hB5.size
    exact (show w.heap.size + 2 ≤ w5.heap.size by omega)
  clear hb1 hb2 hB1 hB2 hB3 hO4 hB5 hm4 hb1'
  go_wp2_with fail
  refine (SignsOf_any _).mono ?_
  rintro e w6 ⟨rfl, hw6⟩
  have hb6 : Blk w6 w5.heap.size sgs := by rw [hw6]; exact Blk.new w5 sgs
  have hB6 : Below w5.heap.size w5 w6 := by rw [hw6]; exact (Below.refl _ _).alloc (Nat.le_refl _) _
  clear hw6
  have hm6 := hm5.below hB6 hm5.lt
  have hb16 := hb15.below hB6 hb15.lt
  go_wp2_with fail
  refine (eqStringS_true _ _ 19 _ _ sgs _ rfl (by omega) hb6 hb16).mono ?_
  rintro e w7 ⟨rfl, d7, hw7⟩
  have hm7 : Blk w7 (w.heap.size + 1) (marks 1 19) := by rw [hw7]; exact hm6
  have hB7 : Below w.heap.size w w7 := by
    rw [hw7]
    exact below_drewN (hB5'.trans (hB6.mono (by have := Hz5.out; omega))) _
  clear hw7
  go_wp2_with fail
  refine (heldStringS_any (w.heap.size + 1) 19 19 1 _ (by omega) (by omega) hm7).mono ?_
  rintro e w8 ⟨rfl, hB8⟩
  go_wp2_with fail
  go_ret
  exact ⟨rfl, hB7.trans (hB8.mono hB7.size)⟩

/-! ### THE ROW's STEP: WRITTEN OUT: LEAVE IT -/
set_option maxRecDepth 100000 in
theorem lifted (os : Os) (started : os.Started) (H : Type) (enc : TypeId × Value → H) :
    ReturnsInHanded {} Try.checked os 4 .any (Rows.fnExactSignsOfSpec.pre6 enc Try.prog Try.f4 Rows.fnExactSignsOfRow.domain false) (Rows.fnExactSignsOfSpec.post enc Try.prog Try.f4 false true false false) := by
  refine returnsInHanded_of_change (C := Try.checked) own started (by kernel_rfl) Try.func4
    (ChangeSpec.witness6 (enc := enc) (C := Try.checked) false ⟨#[], #[], []⟩ 8 (by kernel_rfl) (by kernel_rfl) (by kernel_rfl) (by kernel_rfl)) ?_
  intro W base args ds gs before hval0 hW hcnd _
  have hval : ∀ (j : Nat) t v, Try.f4.params[j]? = some t → args[j]? = some v → Value.okWide Try.prog W .any base t v := hval0
  have hW' := hW
  obtain ⟨p, q, hA0, hV, rfl, hfz, hnd⟩ := hW
  have hA : DataW.TrodAll enc Try.prog W 0 (fun _ => true) true Try.f4.params.toList args.toList ds p := hA0
  rw [Try.params4] at hA hval
  obtain ⟨rfl, rfl, rfl⟩ := trodAll_none hA
  obtain ⟨rfl, rfl⟩ := trodVars_none hV
  clear hA0 hval0
  simp only [List.append_nil] at hW'
  refine (walk W).mono fun e W' ⟨he, bel⟩ => ?_
  subst he
  exact ⟨_, rfl, _, _, _, [], [], [], hW', trodAll_mk1 (shut_bool Try.underlying4 _), trodAll_mk0, rfl, bel.frame _, fun h => by cases h⟩

theorem over : Rows.fnExactSignsOfRow.holds Try.pinned (OpenSpec.ofChange Rows.fnExactSignsOfSpec) :=
  OpenClaim.holds_of_wide 4 Try.f4 rfl rfl rfl rfl rfl rfl rfl ⟨rfl, rfl, rfl, rfl, rfl⟩ rfl rfl rfl rfl rfl (by kernel_rfl) Try.func4 (by kernel_rfl)
    (of_decide_eq_true (by kernel_rfl)) (by unfold Func.isWrapper; first | (rw [if_pos (by decide +kernel)]; kernel_rfl) | (rw [if_neg (by decide +kernel)]; exact ⟨rfl, rfl⟩))
    (fun os started H enc _ => lifted os started H enc)

theorem proved : Rows.FnExactSignsOfSaid := over
end Go.Proofs.Ytfbllgjnahechaa.fnExactSignsOf

namespace Go.Proofs.Ytfbllgjnahechaa
theorem fnExactSignsOf_holds : Rows.FnExactSignsOfSaid := fnExactSignsOf.proved
#print axioms fnExactSignsOf_holds
end Go.Proofs.Ytfbllgjnahechaa
