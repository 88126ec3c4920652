/-
  Proved: whatever the row of parts, the memory and the schedule, the law FnExactDepthOf returns true, and the row and the table of signs read afterwards as they read before: DepthOf of the program tells what the specification's tells. The condition: the program's table of signs reads as its text lays it (the card ties it to that text).
-/
import Derived.Test.YtaagbcdlmmobkabDoorDoorS
import Derived.Test.YtaagbcdlmmobkabDoorDepth
import Derived.Test.YtaagbcdlmmobkabDoorExO
import Derived.Test.YtaagbcdlmmobkabDoorCards
import Derived.Test.YtaagbcdlmmobkabDoorTie
import Derived.ChangeOld
import Derived.Below
import Derived.SevenTiedAt
namespace Go.Proofs.YtaagbcdlmmobkabDoor.fnExactDepthOf
open Go.ChangeShapes Go.WideShapes Go.ChangeAt Go.RowKit
open Go.Proofs.YtaagbcdlmmobkabDoor.W Go.Joins
set_option linter.unusedVariables false

set_option maxHeartbeats 2000000 in
theorem walk (ad : Option Addr) (c : Nat) (l : List Xx) (w : World) (hl : l.length ≤ maxLen) (hs : ∀ x ∈ l, x.t.size ≤ maxLen) (h : Row w ad l) (ht : SgTab w) :
    Calls Tryd.prog 3 #[.slice ad l.length c] w fun e w' => e = .returned (.bool true) ∧ Below w.heap.size w w' := by
  have HT := hide ht
  have HR := hide h
  clear ht h
  go_enter Tryd.func3, Tryd.ntmps3
  go_wp2_with fail
  refine (szExS_any _ _ _ _ hl hs HR.out).mono ?_
  rintro e w1 ⟨r, rfl, hr, hB1⟩
  clear hs hl
  by_cases hneg : r < 0
  · clear hr
    go_wp2_with fail
    go_ret
    exact ⟨rfl, hB1⟩
  · obtain ⟨-, hl, hs⟩ : 0 ≤ r ∧ l.length ≤ 1048576 ∧ ∀ x ∈ l, x.t.size ≤ 1048576 := by
      rcases hr with h | h
      · exact absurd h hneg
      · exact h
    have HS := hide hs
    clear hr hs
    go_wp2_with fail
    refine (toExS_any _ _ _ _ hl (HR.out.below hB1)).mono ?_
    rintro e w2 ⟨rfl, hr2, hb2⟩
    go_wp2_with fail
    refine (specDepth_any _ _ _ _ hl HS.out hr2).mono ?_
    rintro e w3 ⟨rfl, hb3⟩
    have hB2 : Below w.heap.size w w2 := hB1.trans (hb2.mono hB1.size)
    have hB3 : Below w.heap.size w w3 := hB2.trans (hb3.mono hB2.size)
    clear hb2 hb3 hr2 hB1 hB2
    go_wp2_with fail
    refine (toExS_any _ _ _ _ hl (HR.out.below hB3)).mono ?_
    rintro e w4 ⟨rfl, hr4, hb4⟩
    have hB4 : Below w.heap.size w w4 := hB3.trans (hb4.mono hB3.size)
    clear hb4
    go_wp2_with fail
    refine (implDepth_any _ _ _ _ hl HS.out hr4 (HT.out.below hB4)).mono ?_
    rintro e w5 ⟨rfl, hb5⟩
    have hB5 : Below w.heap.size w w5 := hB4.trans (hb5.mono hB4.size)
    have HR5 := hide (hr4.below hb5)
    clear hb5 hr4
    go_wp2_with fail
    refine (toExS_any _ _ _ _ hl (HR.out.below hB5)).mono ?_
    rintro e w6 ⟨rfl, hr6, hb6⟩
    have hB6 : Below w.heap.size w w6 := hB5.trans (hb6.mono hB5.size)
    have HR6 := hide (HR5.out.below hb6)
    clear hb6 HR5
    go_wp2_with fail
    refine (eqExS_row _ _ _ _ _ _ hl HR6.out hr6).mono ?_
    rintro e w7 ⟨rfl, hb7⟩
    have hB7 : Below w.heap.size w w7 := hB6.trans (hb7.mono hB6.size)
    clear hb7 hr6
    go_wp2_with fail
    go_ret
    exact ⟨rfl, hB7⟩

set_option maxRecDepth 100000 in
theorem lifted (os : Os) (started : os.Started) (H : Type) (enc : TypeId × Value → H) :
    ReturnsInHanded {} Tryd.checked os 3 .any (fun w args => (Rows.fnExactDepthOfSpec.pre enc Tryd.prog Tryd.f3 [] false w args ∧ laidMetH Tryd.prog laidL w) ∧ sizedMet enc Tryd.prog Tryd.f3 (OpenSpec.ofChange Rows.fnExactDepthOfSpec) false w args)
      (Rows.fnExactDepthOfSpec.post enc Tryd.prog Tryd.f3 false true false false) := by
  refine returnsInHanded_of_change_and (C := Tryd.checked) (X := fun w _ => laidMetH Tryd.prog laidL w) (fun _ _ _ hh h => h.of_heap hh) own started (by kernel_rfl) Tryd.func3
    (ChangeSpec.witness_shaped (enc := enc) (C := Tryd.checked) (os := os) (X := fun w _ => laidMetH Tryd.prog laidL w) false (World.doorLaid Tryd.prog 26 os) #[.slice none 0 0] 8 rfl (World.shaped_of_RefB (by kernel_rfl) (by kernel_rfl)) (by kernel_rfl) (by kernel_rfl) (by kernel_rfl) (door_met os _)) ?_
  intro W base args ds gs before hval0 hW _ _ hL _
  have hval : ∀ (j : Nat) t v, Tryd.f3.params[j]? = some t → args[j]? = some v → Value.okWide Tryd.prog W .any base t v := hval0
  have hW' := hW
  obtain ⟨p, q, hA0, hV, rfl, hfz, hnd⟩ := hW
  have hV0 := hV
  have hA : DataW.TrodAll enc Tryd.prog W 0 (fun _ => true) true Tryd.f3.params.toList args.toList ds p := hA0
  rw [Tryd.params3] at hA hval
  obtain ⟨v0, d0, hargs, rfl, h0⟩ := trodAll_one hA
  obtain rfl : args = #[v0] := by cases args; simp_all
  obtain ⟨vd, rfl⟩ : ∃ vd, gs = [vd] := by obtain ⟨g, vt, vcs, vf, vd, vp, e, -⟩ := trodVars_one hV; exact ⟨vd, e⟩
  have k0 := h0
  have lt0 : ∀ x ∈ p, x.block < W.heap.size := by obtain ⟨m, hm⟩ := k0; exact DataW.trod_lt m _ _ _ hm
  obtain ⟨ad, len, cap, rfl⟩ := okWide_slice Tryd.underlying22 (hval 0 22 v0 rfl rfl)
  obtain ⟨fuel, hf⟩ := h0
  obtain ⟨l, rfl, hl, hs, hR⟩ := open_exs hf
  clear hA0 hval0
  refine (walk ad cap l W hl hs hR (sg_of_laid hL)).mono fun e W' ⟨he, bel⟩ => ?_
  subst he
  exact ⟨_, rfl, _, _, _, [], p, _, hW', trodAll_mk1 (shut_bool Tryd.underlying4 _), trodAll_mk1 (Below.trod laidOut (by kernel_rfl) (of_decide_eq_true (by kernel_rfl)) k0 bel lt0), Below.trodVars laidOut bel (by kernel_rfl) hV0, bel.frame _, fun h => by cases h⟩

theorem over : Rows.fnExactDepthOfRow.holds Tryd.pinned (OpenSpec.ofChange Rows.fnExactDepthOfSpec) :=
  OpenClaim.holds_of_wide 3 Tryd.f3 rfl rfl rfl rfl rfl rfl rfl ⟨rfl, rfl, rfl, rfl, rfl⟩ rfl rfl rfl rfl rfl (by kernel_rfl) Tryd.func3 (by kernel_rfl)
    (of_decide_eq_true (by kernel_rfl)) (by unfold Func.isWrapper; first | (rw [if_pos (by decide +kernel)]; kernel_rfl) | (rw [if_neg (by decide +kernel)]; exact ⟨rfl, rfl⟩))
    (fun os started H enc _ => lifted os started H enc)

theorem card : Rows.FnExactDepthOfCardSaid :=
  Claim7.holds_tied_plain_at .later [] [.data] true Rows.fnExactDepthOfCard.stood.harness false
    over (fun _ h => by cases h) (by kernel_rfl) (fun _ h => by cases h) fnExactDepthOf_row_tie rfl ⟨rfl, rfl⟩ (by kernel_rfl) rfl
    (fun f fn hf hfn => by
      obtain rfl : f = 3 := Option.some.inj ((show Tryd.prog.funcNamed Rows.fnExactDepthOfRow.func = some 3 by kernel_rfl).symm.trans hf) |>.symm
      obtain rfl : fn = Tryd.f3 := (Option.some.inj (Tryd.func3.symm.trans hfn)).symm
      exact ⟨by kernel_rfl, fun j t ht => by
        rw [Tryd.params3] at ht
        have hm : t ∈ [22] := by simpa using Array.mem_of_getElem? ht
        have hall : ([22].all fun u => !Tryd.prog.wantsStandIn u) = true := by kernel_rfl
        exact (show Tryd.prog.wantsStandIn t = false by simpa using List.all_eq_true.1 hall t hm)⟩)
    (by kernel_rfl)
end Go.Proofs.YtaagbcdlmmobkabDoor.fnExactDepthOf

namespace Go.Proofs.YtaagbcdlmmobkabDoor
theorem fnExactDepthOf_card : Rows.FnExactDepthOfCardSaid := fnExactDepthOf.card
#print axioms fnExactDepthOf_card
end Go.Proofs.YtaagbcdlmmobkabDoor
