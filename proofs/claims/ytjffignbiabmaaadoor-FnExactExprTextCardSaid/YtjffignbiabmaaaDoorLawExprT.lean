/-
  Proved: whatever the row of parts, the memory and the schedule, the law FnExactExprText returns true, and the row and the table of signs read afterwards as they read before: ExprText of the program tells what the specification's tells. The condition: the program's table of signs, Go's table of powers of ten and the two of math/bits read as their texts lay them (the card ties them to these texts).
-/
import Derived.Test.YtjffignbiabmaaaDoorDoorS
import Derived.Test.YtjffignbiabmaaaDoorDoorX
import Derived.Test.YtjffignbiabmaaaDoorXtY
import Derived.Test.YtjffignbiabmaaaDoorExO
import Derived.Test.YtjffignbiabmaaaDoorCards
import Derived.Test.YtjffignbiabmaaaDoorTie
import Derived.ChangeOld
import Derived.Below
import Derived.SevenTiedAt
namespace Go.Proofs.YtjffignbiabmaaaDoor.fnExactExprText
open Go.ChangeShapes Go.WideShapes Go.ChangeAt Go.RowKit
open Go.Proofs.YtjffignbiabmaaaDoor.W Go.Joins
set_option linter.unusedVariables false

set_option maxHeartbeats 2000000 in
theorem walk (ad : Option Addr) (c : Nat) (l : List Xx) (w : World) (hl : l.length ≤ maxLen) (hs : ∀ x ∈ l, x.t.size ≤ maxLen) (h : W.Row w ad l) (ht : SgTab w) (htb : W.Tab w) :
    Calls Tryd.prog 5 #[.slice ad l.length c] w fun e w' => e = .returned (.bool true) ∧ Below w.heap.size w w' := by
  have HT := hide ht
  have HTb := hide htb
  have HR := hide h
  clear ht h htb
  go_enter Tryd.func5, Tryd.ntmps5
  go_wp2_with fail
  refine (szExS_any _ _ _ _ hl hs HR.out).mono ?_
  rintro e w1 ⟨r, rfl, hr, hB1⟩
  clear hs hl
  by_cases hneg : r < 0
  · clear hr
    go_wp2_with fail
    go_ret
    exact ⟨rfl, hB1⟩
  · obtain ⟨-, hl, hs⟩ : 0 ≤ r ∧ l.length ≤ 1048576 ∧ ∀ x ∈ l, x.t.size ≤ 1048576 := by
      rcases hr with h | h
      · exact absurd h hneg
      · exact h
    have HI := hide (fun (ad : Option Addr) (c : Nat) (w : World) (h1 : W.Row w ad l) (h2 : SgTab w) (h3 : W.Tab w) => T.implText_any ad c l w hl hs h1 h2 h3)
    have HSp := hide (fun (ad : Option Addr) (c : Nat) (w : World) (h1 : W.Row w ad l) => T.specText_any ad c l w hl hs h1)
    obtain ⟨G, hG⟩ : ∃ G, G = T.xtT l := ⟨_, rfl⟩
    rw [← hG] at HI HSp
    obtain ⟨G1, G2⟩ := G
    simp only at HI HSp
    clear hr hs hG
    go_wp2_with fail
    refine (toExS_any _ _ _ _ hl (HR.out.below hB1)).mono ?_
    rintro e w2 ⟨rfl, hr2, hb2⟩
    go_wp2_with fail
    refine (HSp.out _ _ _ hr2).mono ?_
    rintro e w3 ⟨rfl, hb3⟩
    have hB2 : Below w.heap.size w w2 := hB1.trans (hb2.mono hB1.size)
    have hB3 : Below w.heap.size w w3 := hB2.trans (hb3.mono hB2.size)
    clear hb2 hb3 hr2 hB1 hB2
    go_wp2_with fail
    refine (toExS_any _ _ _ _ hl (HR.out.below hB3)).mono ?_
    rintro e w4 ⟨rfl, hr4, hb4⟩
    have hB4 : Below w.heap.size w w4 := hB3.trans (hb4.mono hB3.size)
    clear hb4
    go_wp2_with fail
    refine (HI.out _ _ _ hr4 (HT.out.below hB4) (HTb.out.below hB4)).mono ?_
    rintro e w5 ⟨rfl, hb5⟩
    have hB5 : Below w.heap.size w w5 := hB4.trans (hb5.mono hB4.size)
    have HR5 := hide (hr4.below hb5)
    clear hb5 hr4
    go_wp2_with fail
    refine (toExS_any _ _ _ _ hl (HR.out.below hB5)).mono ?_
    rintro e w6 ⟨rfl, hr6, hb6⟩
    have hB6 : Below w.heap.size w w6 := hB5.trans (hb6.mono hB5.size)
    have HR6 := hide (HR5.out.below hb6)
    clear hb6 HR5
    go_wp2_with fail
    refine (eqExS_row _ _ _ _ _ _ hl HR6.out hr6).mono ?_
    rintro e w7 ⟨rfl, hb7⟩
    have hB7 : Below w.heap.size w w7 := hB6.trans (hb7.mono hB6.size)
    clear hb7 hr6
    go_wp2_with fail
    go_ret
    exact ⟨rfl, hB7⟩

set_option maxRecDepth 100000 in
theorem lifted (os : Os) (started : os.Started) (H : Type) (enc : TypeId × Value → H) :
    ReturnsInHanded {} Tryd.checked os 5 .any (fun w args => (Rows.fnExactExprTextSpec.pre enc Tryd.prog Tryd.f5 [] false w args ∧ laidMetH Tryd.prog T.laidX w) ∧ sizedMet enc Tryd.prog Tryd.f5 (OpenSpec.ofChange Rows.fnExactExprTextSpec) false w args)
      (Rows.fnExactExprTextSpec.post enc Tryd.prog Tryd.f5 false true false false) := by
  refine returnsInHanded_of_change_and (C := Tryd.checked) (X := fun w _ => laidMetH Tryd.prog T.laidX w) (fun _ _ _ hh h => h.of_heap hh) own started (by kernel_rfl) Tryd.func5
    (ChangeSpec.witness_shaped (enc := enc) (C := Tryd.checked) (os := os) (X := fun w _ => laidMetH Tryd.prog T.laidX w) false (World.doorLaid Tryd.prog 89 os) #[.slice none 0 0] 8 rfl (World.shaped_of_RefB (by kernel_rfl) (by kernel_rfl)) (by kernel_rfl) (by kernel_rfl) (by kernel_rfl) (T.door_metX os _)) ?_
  intro W base args ds gs before hval0 hW _ _ hL _
  have hval : ∀ (j : Nat) t v, Tryd.f5.params[j]? = some t → args[j]? = some v → Value.okWide Tryd.prog W .any base t v := hval0
  have hW' := hW
  obtain ⟨p, q, hA0, hV, rfl, hfz, hnd⟩ := hW
  have hV0 := hV
  have hA : DataW.TrodAll enc Tryd.prog W 0 (fun _ => true) true Tryd.f5.params.toList args.toList ds p := hA0
  rw [Tryd.params5] at hA hval
  obtain ⟨v0, d0, hargs, rfl, h0⟩ := trodAll_one hA
  obtain rfl : args = #[v0] := by cases args; simp_all
  obtain ⟨vd, rfl⟩ : ∃ vd, gs = [vd] := by obtain ⟨g, vt, vcs, vf, vd, vp, e, -⟩ := trodVars_one hV; exact ⟨vd, e⟩
  have k0 := h0
  have lt0 : ∀ x ∈ p, x.block < W.heap.size := by obtain ⟨m, hm⟩ := k0; exact DataW.trod_lt m _ _ _ hm
  obtain ⟨ad, len, cap, rfl⟩ := okWide_slice Tryd.underlying38 (hval 0 38 v0 rfl rfl)
  obtain ⟨fuel, hf⟩ := h0
  obtain ⟨l, rfl, hl, hs, hR⟩ := open_exs hf
  clear hA0 hval0
  refine (walk ad cap l W hl hs hR (T.sg_of_laidX hL) (T.tab_of_laidX hL)).mono fun e W' ⟨he, bel⟩ => ?_
  subst he
  exact ⟨_, rfl, _, _, _, [], p, _, hW', trodAll_mk1 (shut_bool Tryd.underlying4 _), trodAll_mk1 (Below.trod laidOut (by kernel_rfl) (of_decide_eq_true (by kernel_rfl)) k0 bel lt0), Below.trodVars laidOut bel (by kernel_rfl) hV0, bel.frame _, fun h => by cases h⟩

theorem over : Rows.fnExactExprTextRow.holds Tryd.pinned (OpenSpec.ofChange Rows.fnExactExprTextSpec) :=
  OpenClaim.holds_of_wide 5 Tryd.f5 rfl rfl rfl rfl rfl rfl rfl ⟨rfl, rfl, rfl, rfl, rfl⟩ rfl rfl rfl rfl rfl (by kernel_rfl) Tryd.func5 (by kernel_rfl)
    (of_decide_eq_true (by kernel_rfl)) (by unfold Func.isWrapper; first | (rw [if_pos (by decide +kernel)]; kernel_rfl) | (rw [if_neg (by decide +kernel)]; exact ⟨rfl, rfl⟩))
    (fun os started H enc _ => lifted os started H enc)

theorem card : Rows.FnExactExprTextCardSaid :=
  Claim7.holds_tied_plain_at .later [] [.data, .data, .data, .data] true Rows.fnExactExprTextCard.stood.harness true
    over (fun _ h => by cases h) (by kernel_rfl) (fun _ h => by cases h) fnExactExprText_row_tie rfl ⟨rfl, rfl⟩ (by kernel_rfl) rfl
    (fun f fn hf hfn => by
      obtain rfl : f = 5 := Option.some.inj ((show Tryd.prog.funcNamed Rows.fnExactExprTextRow.func = some 5 by kernel_rfl).symm.trans hf) |>.symm
      obtain rfl : fn = Tryd.f5 := (Option.some.inj (Tryd.func5.symm.trans hfn)).symm
      exact ⟨by kernel_rfl, fun j t ht => by
        rw [Tryd.params5] at ht
        have hm : t ∈ [38] := by simpa using Array.mem_of_getElem? ht
        have hall : ([38].all fun u => !Tryd.prog.wantsStandIn u) = true := by kernel_rfl
        exact (show Tryd.prog.wantsStandIn t = false by simpa using List.all_eq_true.1 hall t hm)⟩)
    (by kernel_rfl)
end Go.Proofs.YtjffignbiabmaaaDoor.fnExactExprText

namespace Go.Proofs.YtjffignbiabmaaaDoor
theorem fnExactExprText_card : Rows.FnExactExprTextCardSaid := fnExactExprText.card
#print axioms fnExactExprText_card
end Go.Proofs.YtjffignbiabmaaaDoor
