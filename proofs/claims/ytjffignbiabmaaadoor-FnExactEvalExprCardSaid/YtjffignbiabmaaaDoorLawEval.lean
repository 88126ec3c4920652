/-
  Proved: whatever the row of parts, the names and the numbers, the memory and the schedule, the law FnExactEvalExpr returns true, and these rows and the table of signs read afterwards as they read before: EvalExpr of the program tells what the specification's tells. The condition: the program's table of signs reads as its text lays it (the card ties it to that text).
-/
import Derived.Test.YtjffignbiabmaaaDoorDoorS
import Derived.Test.YtjffignbiabmaaaDoorEv8
import Derived.Test.YtjffignbiabmaaaDoorEvL
import Derived.Test.YtjffignbiabmaaaDoorExO
import Derived.Test.YtjffignbiabmaaaDoorCards
import Derived.Test.YtjffignbiabmaaaDoorTie
import Derived.ChangeOld
import Derived.Below
import Derived.SevenTiedAt
namespace Go.Proofs.YtjffignbiabmaaaDoor.fnExactEvalExpr
open Go.ChangeShapes Go.WideShapes Go.ChangeAt Go.RowKit
open Go.Proofs.YtjffignbiabmaaaDoor.W Go.Joins
set_option linter.unusedVariables false

set_option maxHeartbeats 4000000 in
theorem walk (ad ad2 ad3 : Option Addr) (c c2 c3 : Nat) (l : List Xx) (ns : List ByteArray) (vs : List Int) (w : World) (hl : l.length ≤ maxLen) (hs : ∀ x ∈ l, x.t.size ≤ maxLen) (h : Row w ad l) (hnl : ns.length ≤ maxLen) (hns : ∀ x ∈ ns, x.size ≤ maxLen) (hN : CR w ad2 (ns.map Value.string)) (hvl : vs.length ≤ maxLen) (hV : CR w ad3 (vs.map (Value.int .i64))) (ht : SgTab w) :
    Calls Tryd.prog 6 #[.slice ad l.length c, .slice ad2 ns.length c2, .slice ad3 vs.length c3] w fun e w' => e = .returned (.bool true) ∧ Below w.heap.size w w' := by
  have HT := hide ht
  have HR := hide h
  have HN := hide hN
  have HV := hide hV
  have HNs := hide hns
  clear ht h hN hV hns
  by_cases hvb : (1048576 : Int) < (vs.length : Int)
  · go_enter Tryd.func6, Tryd.ntmps6
    go_wp2_with fail
    go_ret
    exact ⟨rfl, Below.refl _ _⟩
  have hvl2 : vs.length ≤ 1048576 := by omega
  clear hvl
  go_enter Tryd.func6, Tryd.ntmps6
  go_wp2_with fail
  refine (szExS_le _ _ _ _ hl hs HR.out).mono ?_
  rintro e w1 ⟨r, rfl, hr, hB1⟩
  clear hs hl
  by_cases hneg : r < 0
  · clear hr
    go_wp2_with fail
    go_ret
    exact ⟨rfl, hB1⟩
  obtain ⟨⟨hr0, hr1⟩, hl, hs⟩ : (0 ≤ r ∧ r ≤ 1048576) ∧ l.length ≤ 1048576 ∧ ∀ x ∈ l, x.t.size ≤ 1048576 := by
    rcases hr with h | h
    · exact absurd h hneg
    · exact h
  have HS := hide hs
  clear hr hs
  go_wp2_with fail
  refine (szStringS_any _ _ _ _ _ hnl HNs.out hr0 hr1 (HN.out.below hB1)).mono ?_
  rintro e w2 ⟨r2, rfl, hr2, hw2⟩
  obtain rfl := hw2.symm
  clear hnl
  by_cases hneg2 : r2 < 0
  · clear hr2
    go_wp2_with fail
    go_ret
    exact ⟨rfl, hB1⟩
  have hnl : ns.length ≤ 1048576 := by
    rcases hr2 with h | h
    · exact absurd h hneg2
    · exact h.2
  clear hr2
  have HP := hide (fun (ade adn adv : Option Addr) (ce cn cv : Nat) (w : World) (h1 : Row w ade l) (h2 : CR w adn (ns.map Value.string)) (h3 : CR w adv (vs.map (Value.int .i64))) (h4 : SgTab w) => implEval_any ade adn adv ce cn cv l ns vs w hl HS.out h1 h2 h3 hnl hvl2 h4)
  have HSp := hide (fun (ade adn adv : Option Addr) (ce cn cv : Nat) (w : World) (h1 : Row w ade l) (h2 : CR w adn (ns.map Value.string)) (h3 : CR w adv (vs.map (Value.int .i64))) => specEval_any ade adn adv ce cn cv l ns vs w hl HS.out h1 h2 h3 hnl hvl2)
  obtain ⟨R, hRR⟩ : ∃ R, R = evT l ns vs := ⟨_, rfl⟩
  rw [← hRR] at HP HSp
  clear hRR
  obtain ⟨g0, g1, g2, hgv⟩ : ∃ (g0 g1 : Int) (g2 : Bool), evV R = .tuple #[.int .i64 g0, .int .i64 g1, .bool g2] := by
    cases R with
    | none => exact ⟨_, _, _, rfl⟩
    | some p => obtain ⟨a, b⟩ := p; exact ⟨_, _, _, rfl⟩
  rw [hgv] at HP HSp
  clear hgv
  go_wp2_with fail
  refine (toExS_any _ _ _ _ hl (HR.out.below hB1)).mono ?_
  rintro e w2 ⟨rfl, hr2, hb2⟩
  have hB2 : Below w.heap.size w w2 := hB1.trans (hb2.mono hB1.size)
  have X2 := hide hr2
  clear hb2 hr2 hB1
  go_wp2_with fail
  refine (toStringS_any _ _ _ _ hnl (HN.out.below hB2)).mono ?_
  rintro e w3 ⟨rfl, hr3, hb3⟩
  have hB3 : Below w.heap.size w w3 := hB2.trans (hb3.mono hB2.size)
  have X3 := hide (X2.out.below hb3)
  have Y3 := hide hr3
  clear hb3 hr3 hB2 X2
  go_wp2_with fail
  refine (toIntS_any _ _ _ _ hvl2 (HV.out.below hB3)).mono ?_
  rintro e w4 ⟨rfl, hr4, hb4⟩
  have hB4 : Below w.heap.size w w4 := hB3.trans (hb4.mono hB3.size)
  have X4 := hide (X3.out.below hb4)
  have Y4 := hide (Y3.out.below hb4)
  have Z4 := hide hr4
  clear hb4 hr4 hB3 X3 Y3
  go_wp2_with fail
  refine (HSp.out _ _ _ _ _ _ _ X4.out Y4.out Z4.out).mono ?_
  rintro e w5 ⟨rfl, hb5⟩
  have hB5 : Below w.heap.size w w5 := hB4.trans (hb5.mono hB4.size)
  clear hb5 hB4 X4 Y4 Z4 HSp
  go_wp2_with fail
  refine (toExS_any _ _ _ _ hl (HR.out.below hB5)).mono ?_
  rintro e w6 ⟨rfl, hr6, hb6⟩
  have hB6 : Below w.heap.size w w6 := hB5.trans (hb6.mono hB5.size)
  have X6 := hide hr6
  clear hb6 hr6 hB5
  go_wp2_with fail
  refine (toStringS_any _ _ _ _ hnl (HN.out.below hB6)).mono ?_
  rintro e w7 ⟨rfl, hr7, hb7⟩
  have hB7 : Below w.heap.size w w7 := hB6.trans (hb7.mono hB6.size)
  have X7 := hide (X6.out.below hb7)
  have Y7 := hide hr7
  clear hb7 hr7 hB6 X6
  go_wp2_with fail
  refine (toIntS_any _ _ _ _ hvl2 (HV.out.below hB7)).mono ?_
  rintro e w8 ⟨rfl, hr8, hb8⟩
  have hB8 : Below w.heap.size w w8 := hB7.trans (hb8.mono hB7.size)
  have X8 := hide (X7.out.below hb8)
  have Y8 := hide (Y7.out.below hb8)
  have Z8 := hide hr8
  clear hb8 hr8 hB7 X7 Y7
  go_wp2_with fail
  refine (HP.out _ _ _ _ _ _ _ X8.out Y8.out Z8.out (HT.out.below hB8)).mono ?_
  rintro e w9 ⟨rfl, hb9⟩
  have hB9 : Below w.heap.size w w9 := hB8.trans (hb9.mono hB8.size)
  have X9 := hide (X8.out.below hb9)
  have Y9 := hide (Y8.out.below hb9)
  have Z9 := hide (Z8.out.below hb9)
  clear hb9 hB8 X8 Y8 Z8 HP
  go_wp2_with fail
  refine (toExS_any _ _ _ _ hl (HR.out.below hB9)).mono ?_
  rintro e w10 ⟨rfl, hr10, hb10⟩
  have hB10 : Below w.heap.size w w10 := hB9.trans (hb10.mono hB9.size)
  have X10 := hide (X9.out.below hb10)
  have Y10 := hide (Y9.out.below hb10)
  have Z10 := hide (Z9.out.below hb10)
  clear hb10 hB9 X9 Y9 Z9
  go_wp2_with fail
  refine (eqExS_row _ _ _ _ _ _ hl X10.out hr10).mono ?_
  rintro e w11 ⟨rfl, hb11⟩
  have hB11 : Below w.heap.size w w11 := hB10.trans (hb11.mono hB10.size)
  have Y11 := hide (Y10.out.below hb11)
  have Z11 := hide (Z10.out.below hb11)
  clear hb11 hB10 X10 Y10 Z10 hr10
  go_wp2_with fail
  refine (toStringS_any _ _ _ _ hnl (HN.out.below hB11)).mono ?_
  rintro e w12 ⟨rfl, hr12, hb12⟩
  have hB12 : Below w.heap.size w w12 := hB11.trans (hb12.mono hB11.size)
  have Y12 := hide (Y11.out.below hb12)
  have Z12 := hide (Z11.out.below hb12)
  clear hb12 hB11 Y11 Z11
  go_wp2_with fail
  refine (eqStringS_CR _ _ _ _ _ _ hnl Y12.out hr12).mono ?_
  rintro e w13 ⟨rfl, hb13⟩
  have hB13 : Below w.heap.size w w13 := hB12.trans (hb13.mono hB12.size)
  have Z13 := hide (Z12.out.below hb13)
  clear hb13 hB12 Y12 Z12 hr12
  go_wp2_with fail
  refine (toIntS_any _ _ _ _ hvl2 (HV.out.below hB13)).mono ?_
  rintro e w14 ⟨rfl, hr14, hb14⟩
  have hB14 : Below w.heap.size w w14 := hB13.trans (hb14.mono hB13.size)
  have Z14 := hide (Z13.out.below hb14)
  clear hb14 hB13 Z13
  go_wp2_with fail
  refine (eqIntS_CR _ _ _ _ _ _ hvl2 Z14.out hr14).mono ?_
  rintro e w15 ⟨rfl, hb15⟩
  have hB15 : Below w.heap.size w w15 := hB14.trans (hb15.mono hB14.size)
  clear hb15 hr14
  go_wp2_with fail
  go_ret
  exact ⟨rfl, hB15⟩

set_option maxRecDepth 100000 in
theorem lifted (os : Os) (started : os.Started) (H : Type) (enc : TypeId × Value → H) :
    ReturnsInHanded {} Tryd.checked os 6 .any (fun w args => (Rows.fnExactEvalExprSpec.pre enc Tryd.prog Tryd.f6 [] false w args ∧ laidMetH Tryd.prog laidL w) ∧ sizedMet enc Tryd.prog Tryd.f6 (OpenSpec.ofChange Rows.fnExactEvalExprSpec) false w args)
      (Rows.fnExactEvalExprSpec.post enc Tryd.prog Tryd.f6 false true false false) := by
  refine returnsInHanded_of_change_and (C := Tryd.checked) (X := fun w _ => laidMetH Tryd.prog laidL w) (fun _ _ _ hh h => h.of_heap hh) own started (by kernel_rfl) Tryd.func6
    (ChangeSpec.witness_shaped (enc := enc) (C := Tryd.checked) (os := os) (X := fun w _ => laidMetH Tryd.prog laidL w) false (World.doorLaid Tryd.prog 89 os) #[.slice none 0 0, .slice none 0 0, .slice none 0 0] 8 rfl (World.shaped_of_RefB (by kernel_rfl) (by kernel_rfl)) (by kernel_rfl) (by kernel_rfl) (by kernel_rfl) (door_met os _)) ?_
  intro W base args ds gs before hval0 hW _ _ hL _
  have hval : ∀ (j : Nat) t v, Tryd.f6.params[j]? = some t → args[j]? = some v → Value.okWide Tryd.prog W .any base t v := hval0
  have hW' := hW
  obtain ⟨p, q, hA0, hV, rfl, hfz, hnd⟩ := hW
  have hV0 := hV
  have hA : DataW.TrodAll enc Tryd.prog W 0 (fun _ => true) true Tryd.f6.params.toList args.toList ds p := hA0
  rw [Tryd.params6] at hA hval
  obtain ⟨v0, vs0, d0, ds0, p0, q0, hargs, rfl, rfl, h0, r0⟩ := trodAll_cons hA
  obtain ⟨v1, vs1, d1, ds1, p1, q1, rfl, rfl, rfl, h1, r1⟩ := trodAll_cons r0
  obtain ⟨v2, vs2, d2, ds2, p2, q2, rfl, rfl, rfl, h2, r2⟩ := trodAll_cons r1
  obtain ⟨rfl, rfl, rfl⟩ := trodAll_nil r2
  obtain rfl : args = #[v0, v1, v2] := by cases args; simp_all
  obtain ⟨vd, rfl⟩ : ∃ vd, gs = [vd] := by obtain ⟨g, vt, vcs, vf, vd, vp, e, -⟩ := trodVars_one hV; exact ⟨vd, e⟩
  have k0 := h0
  have k1' := h1
  have k2' := h2
  have lt0 : ∀ x ∈ p0, x.block < W.heap.size := by obtain ⟨m, hm⟩ := k0; exact DataW.trod_lt m _ _ _ hm
  have lt1 : ∀ x ∈ p1, x.block < W.heap.size := by obtain ⟨m, hm⟩ := k1'; exact DataW.trod_lt m _ _ _ hm
  have lt2 : ∀ x ∈ p2, x.block < W.heap.size := by obtain ⟨m, hm⟩ := k2'; exact DataW.trod_lt m _ _ _ hm
  obtain ⟨ad3, len3, cap3, rfl⟩ := okWide_slice Tryd.underlying44 (hval 2 44 v2 rfl rfl)
  obtain ⟨fuel3, hf3⟩ := h2
  obtain ⟨vs, rfl, hvl, -, hVs⟩ := open_ints hf3
  obtain ⟨ad2, len2, cap2, rfl⟩ := okWide_slice Tryd.underlying43 (hval 1 43 v1 rfl rfl)
  obtain ⟨fuel2, hf2⟩ := h1
  obtain ⟨ns, rfl, hnl, hns, hNs⟩ := open_strs hf2
  obtain ⟨ad, len, cap, rfl⟩ := okWide_slice Tryd.underlying38 (hval 0 38 v0 rfl rfl)
  obtain ⟨fuel, hf⟩ := h0
  obtain ⟨l, rfl, hl, hs, hR⟩ := open_exs hf
  clear hA0 hval0
  refine (walk ad ad2 ad3 cap cap2 cap3 l ns vs W hl hs hR hnl hns hNs hvl hVs (sg_of_laid hL)).mono fun e W' ⟨he, bel⟩ => ?_
  subst he
  exact ⟨_, rfl, _, _, _, [], _, _, hW', trodAll_mk1 (shut_bool Tryd.underlying4 _), (trodAll_cons_mk (Below.trod laidOut (by kernel_rfl) (of_decide_eq_true (by kernel_rfl)) k0 bel lt0) (trodAll_cons_mk (Below.trod laidOut (by kernel_rfl) (of_decide_eq_true (by kernel_rfl)) k1' bel lt1) (trodAll_cons_mk (Below.trod laidOut (by kernel_rfl) (of_decide_eq_true (by kernel_rfl)) k2' bel lt2) trodAll_mk0))), Below.trodVars laidOut bel (by kernel_rfl) hV0, bel.frame _, fun h => by cases h⟩

theorem over : Rows.fnExactEvalExprRow.holds Tryd.pinned (OpenSpec.ofChange Rows.fnExactEvalExprSpec) :=
  OpenClaim.holds_of_wide 6 Tryd.f6 rfl rfl rfl rfl rfl rfl rfl ⟨rfl, rfl, rfl, rfl, rfl⟩ rfl rfl rfl rfl rfl (by kernel_rfl) Tryd.func6 (by kernel_rfl)
    (of_decide_eq_true (by kernel_rfl)) (by unfold Func.isWrapper; first | (rw [if_pos (by decide +kernel)]; kernel_rfl) | (rw [if_neg (by decide +kernel)]; exact ⟨rfl, rfl⟩))
    (fun os started H enc _ => lifted os started H enc)

theorem card : Rows.FnExactEvalExprCardSaid :=
  Claim7.holds_tied_plain_at .later [] [.data] true Rows.fnExactEvalExprCard.stood.harness true
    over (fun _ h => by cases h) (by kernel_rfl) (fun _ h => by cases h) fnExactEvalExpr_row_tie rfl ⟨rfl, rfl⟩ (by kernel_rfl) rfl
    (fun f fn hf hfn => by
      obtain rfl : f = 6 := Option.some.inj ((show Tryd.prog.funcNamed Rows.fnExactEvalExprRow.func = some 6 by kernel_rfl).symm.trans hf) |>.symm
      obtain rfl : fn = Tryd.f6 := (Option.some.inj (Tryd.func6.symm.trans hfn)).symm
      exact ⟨by kernel_rfl, fun j t ht => by
        rw [Tryd.params6] at ht
        have hm : t ∈ [38, 43, 44] := by simpa using Array.mem_of_getElem? ht
        have hall : ([38, 43, 44].all fun u => !Tryd.prog.wantsStandIn u) = true := by kernel_rfl
        exact (show Tryd.prog.wantsStandIn t = false by simpa using List.all_eq_true.1 hall t hm)⟩)
    (by kernel_rfl)
end Go.Proofs.YtjffignbiabmaaaDoor.fnExactEvalExpr

namespace Go.Proofs.YtjffignbiabmaaaDoor
theorem fnExactEvalExpr_card : Rows.FnExactEvalExprCardSaid := fnExactEvalExpr.card
#print axioms fnExactEvalExpr_card
end Go.Proofs.YtjffignbiabmaaaDoor
