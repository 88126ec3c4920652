/-
  Proved: whatever the two tokens, the memory and the schedule, the law FnExactNeedsBlank returns true, and the tokens read afterwards as they read before: NeedsBlank of the program tells what the specification's tells. The condition: the three listed tables of Go's library read as the program's text lays them (the card ties them to that text).
-/
import Derived.Test.YtfbllgjnahechaaDoorDoorB
import Derived.Test.YtfbllgjnahechaaDoorNeedB
import Derived.Test.YtfbllgjnahechaaDoorCards
import Derived.Test.YtfbllgjnahechaaDoorTie
import Derived.ChangeOld
import Derived.Below
import Derived.SevenTiedAt
namespace Go.Proofs.YtfbllgjnahechaaDoor.fnExactNeedsBlank
open Go.ChangeShapes Go.WideShapes Go.ChangeAt Go.RowKit
open Go.Proofs.YtfbllgjnahechaaDoor.W Go.Joins
set_option linter.unusedVariables false

theorem own : ownKnob Tryd.prog.godebug = none := by kernel_rfl
theorem laidOut : laidOutB Tryd.prog = true := by kernel_rfl

set_option maxHeartbeats 2000000 in
theorem walk (k1 n1 a1 k2 n2 a2 : Int) (t1 t2 : ByteArray) (w : World) (m1 : t1.size ≤ maxLen) (m2 : t2.size ≤ maxLen) (ht : Tab w) :
    Calls Tryd.prog 5 #[.agg #[.int .i64 k1, .int .i64 n1, .string t1, .int .i64 a1], .agg #[.int .i64 k2, .int .i64 n2, .string t2, .int .i64 a2]] w fun e w' => e = .returned (.bool true) ∧ Below w.heap.size w w' := by
  have HT := hide ht
  clear ht
  by_cases hl : (1048576 : Int) < t1.size
  · go_enter Tryd.func5, Tryd.ntmps5
    go_wp2_with fail
    refine (szToken_any _ _ _ _ _ _ m1 (by omega) (by omega)).mono ?_
    rintro e w1 ⟨rfl, hb1⟩
    rw [if_pos (show (1048576 : Int) < t1.size by omega)]
    obtain ⟨-, -, hB1⟩ := boxes_kept hb1
    go_wp2_with fail
    go_ret
    exact ⟨rfl, hB1⟩
  · have h1 : t1.size ≤ 1048576 := by omega
    clear hl
    go_enter Tryd.func5, Tryd.ntmps5
    go_wp2_with fail
    refine (szToken_any _ _ _ _ _ _ m1 (by omega) (by omega)).mono ?_
    rintro e w1 ⟨rfl, hb1⟩
    rw [if_neg (show ¬ (1048576 : Int) < t1.size by omega)]
    obtain ⟨x1, y1, hB1⟩ := boxes_kept hb1
    obtain ⟨d0, d1, d2, d3⟩ := box_cells y1
    have X1 := hide x1
    have Y1 := hide y1
    clear hb1 x1 y1
    go_wp2_with fail
    refine (szToken_any _ _ _ _ _ _ m2 (by omega) (by omega)).mono ?_
    rintro e w2 ⟨rfl, hb2⟩
    have x2 := (hb2.block _ (Array.getElem?_eq_some_iff.1 X1.out).1).trans X1.out
    have y2 := (hb2.block _ (Array.getElem?_eq_some_iff.1 Y1.out).1).trans Y1.out
    have hB2 : Below w.heap.size w w2 := hB1.trans (hb2.mono hB1.size)
    clear hb2 hB1 X1 Y1 d0 d1 d2 d3
    by_cases hl2 : (1048576 : Int) - t1.size < t2.size
    · rw [if_pos hl2]
      clear x2 y2
      go_wp2_with fail
      go_ret
      exact ⟨rfl, hB2⟩
    rw [if_neg hl2]
    have h2 : t2.size ≤ 1048576 := by omega
    have hnn : ¬ (1048576 : Int) - t1.size - t2.size < 0 := by omega
    clear hl2
    obtain ⟨c0, c1, c2, c3⟩ := box_cells x2
    obtain ⟨d0, d1, d2, d3⟩ := box_cells y2
    have X2 := hide x2
    have Y2 := hide y2
    have C0 := cell_regrown c0
    have C1 := cell_regrown c1
    have C2 := cell_regrown c2
    have C3 := cell_regrown c3
    have D0 := cell_regrown d0
    have D1 := cell_regrown d1
    have D2 := cell_regrown d2
    have D3 := cell_regrown d3
    clear x2 y2 c0 c1 c2 c3 d0 d1 d2 d3
    go_wp2_with fail
    have cN : Hid (∀ d os, Calls Tryd.prog 15 #[.agg #[.int .i64 k1, .int .i64 n1, .string t1, .int .i64 a1], .agg #[.int .i64 k2, .int .i64 n2, .string t2, .int .i64 a2]] (Go.Sort.grow (redrawn w2 d) os) fun e w'' => e = .returned (.tuple #[.bool (nbOf k1 n1 a1 k2 n2 a2 t1 t2), .bool (nbOk k1 n1 a1 k2 n2 a2 t1 t2)]) ∧ ∃ p : Regrown, w'' = Go.Sort.grow (redrawn w2 p.d) p.os) := fun d os => Calls.regrown_of (specNeeds_any k1 n1 a1 k2 n2 a2 t1 t2 _ h1 h2 (HT.out.below (hB2.trans ((below_regrown w2 d os).mono hB2.size))))
    have cA : Hid (∀ d os, Calls Tryd.prog 8 #[.agg #[.int .i64 k1, .int .i64 n1, .string t1, .int .i64 a1]] (Go.Sort.grow (redrawn w2 d) os) fun e w'' => e = .returned (.agg #[.int .i64 k1, .int .i64 n1, .string t1, .int .i64 a1]) ∧ ∃ p : Regrown, w'' = Go.Sort.grow (redrawn w2 p.d) p.os) := fun d os => Calls.regrown_of (toToken_any k1 n1 a1 t1 _)
    have cB : Hid (∀ d os, Calls Tryd.prog 8 #[.agg #[.int .i64 k2, .int .i64 n2, .string t2, .int .i64 a2]] (Go.Sort.grow (redrawn w2 d) os) fun e w'' => e = .returned (.agg #[.int .i64 k2, .int .i64 n2, .string t2, .int .i64 a2]) ∧ ∃ p : Regrown, w'' = Go.Sort.grow (redrawn w2 p.d) p.os) := fun d os => Calls.regrown_of (toToken_any k2 n2 a2 t2 _)
    refine wp_region_quiet_below (by kernel_rfl) (by kernel_rfl) ?_
    repeat (go_big_quiet_step (first | (go_at_call 15; exact cN.out _ _) | (go_at_call_of 8 t1; exact cA.out _ _) | (go_at_call_of 8 t2; exact cB.out _ _)))
    refine wpQuiet_nil ?_
    intro _ hw'
    obtain ⟨⟨dq, osq⟩, hw''⟩ := hw'
    have hb3 := below_regrown w2 dq osq
    rw [← hw''] at hb3
    clear hw''
    rename_i w3
    have x3 := (hb3.block _ (Array.getElem?_eq_some_iff.1 X2.out).1).trans X2.out
    have y3 := (hb3.block _ (Array.getElem?_eq_some_iff.1 Y2.out).1).trans Y2.out
    have hB3 : Below w.heap.size w w3 := hB2.trans (hb3.mono hB2.size)
    clear hb3 hB2 X2 Y2 C0 C1 C2 C3 D0 D1 D2 D3 cN cA cB
    obtain ⟨c0, c1, c2, c3⟩ := box_cells x3
    obtain ⟨d0, d1, d2, d3⟩ := box_cells y3
    have C0 := cell_regrown c0
    have C1 := cell_regrown c1
    have C2 := cell_regrown c2
    have C3 := cell_regrown c3
    have D0 := cell_regrown d0
    have D1 := cell_regrown d1
    have D2 := cell_regrown d2
    have D3 := cell_regrown d3
    clear x3 y3 c0 c1 c2 c3 d0 d1 d2 d3
    go_wp2_with fail
    have cN : Hid (∀ d os, Calls Tryd.prog 16 #[.agg #[.int .i64 k1, .int .i64 n1, .string t1, .int .i64 a1], .agg #[.int .i64 k2, .int .i64 n2, .string t2, .int .i64 a2]] (Go.Sort.grow (redrawn w3 d) os) fun e w'' => e = .returned (.tuple #[.bool (nbOf k1 n1 a1 k2 n2 a2 t1 t2), .bool (nbOk k1 n1 a1 k2 n2 a2 t1 t2)]) ∧ ∃ p : Regrown, w'' = Go.Sort.grow (redrawn w3 p.d) p.os) := fun d os => Calls.regrown_of (implNeeds_any k1 n1 a1 k2 n2 a2 t1 t2 _ h1 h2 (HT.out.below (hB3.trans ((below_regrown w3 d os).mono hB3.size))))
    have cA : Hid (∀ d os, Calls Tryd.prog 8 #[.agg #[.int .i64 k1, .int .i64 n1, .string t1, .int .i64 a1]] (Go.Sort.grow (redrawn w3 d) os) fun e w'' => e = .returned (.agg #[.int .i64 k1, .int .i64 n1, .string t1, .int .i64 a1]) ∧ ∃ p : Regrown, w'' = Go.Sort.grow (redrawn w3 p.d) p.os) := fun d os => Calls.regrown_of (toToken_any k1 n1 a1 t1 _)
    have cB : Hid (∀ d os, Calls Tryd.prog 8 #[.agg #[.int .i64 k2, .int .i64 n2, .string t2, .int .i64 a2]] (Go.Sort.grow (redrawn w3 d) os) fun e w'' => e = .returned (.agg #[.int .i64 k2, .int .i64 n2, .string t2, .int .i64 a2]) ∧ ∃ p : Regrown, w'' = Go.Sort.grow (redrawn w3 p.d) p.os) := fun d os => Calls.regrown_of (toToken_any k2 n2 a2 t2 _)
    refine wp_region_quiet_below (by kernel_rfl) (by kernel_rfl) ?_
    repeat (go_big_quiet_step (first | (go_at_call 16; exact cN.out _ _) | (go_at_call_of 8 t1; exact cA.out _ _) | (go_at_call_of 8 t2; exact cB.out _ _)))
    refine wpQuiet_nil ?_
    intro _ hw'
    obtain ⟨⟨dq, osq⟩, hw''⟩ := hw'
    have hb4 := below_regrown w3 dq osq
    rw [← hw''] at hb4
    clear hw''
    rename_i w4
    have hB4 : Below w.heap.size w w4 := hB3.trans (hb4.mono hB3.size)
    clear hb4 hB3 C0 C1 C2 C3 D0 D1 D2 D3 cN cA cB
    go_wp2_with fail
    go_ret
    exact ⟨rfl, hB4⟩

set_option maxRecDepth 100000 in
theorem lifted (os : Os) (started : os.Started) (H : Type) (enc : TypeId × Value → H) :
    ReturnsInHanded {} Tryd.checked os 5 .any (fun w args => (Rows.fnExactNeedsBlankSpec.pre enc Tryd.prog Tryd.f5 [] false w args ∧ laidMetH Tryd.prog laidL w) ∧ sizedMet enc Tryd.prog Tryd.f5 (OpenSpec.ofChange Rows.fnExactNeedsBlankSpec) false w args)
      (Rows.fnExactNeedsBlankSpec.post enc Tryd.prog Tryd.f5 false true false false) := by
  refine returnsInHanded_of_change_and (C := Tryd.checked) (X := fun w _ => laidMetH Tryd.prog laidL w) (fun _ _ _ hh h => h.of_heap hh) own started (by kernel_rfl) Tryd.func5
    (ChangeSpec.witness_shaped (enc := enc) (C := Tryd.checked) (os := os) (X := fun w _ => laidMetH Tryd.prog laidL w) false (World.doorLaid Tryd.prog 24 os) #[.agg #[.int .i64 0, .int .i64 0, .string ⟨#[]⟩, .int .i64 0], .agg #[.int .i64 0, .int .i64 0, .string ⟨#[]⟩, .int .i64 0]] 8 rfl (World.shaped_of_RefB (by kernel_rfl) (by kernel_rfl)) (by kernel_rfl) (by kernel_rfl) (by kernel_rfl) (door_met os _)) ?_
  intro W base args ds gs before hval0 hW _ _ hL _
  have hval : ∀ (j : Nat) t v, Tryd.f5.params[j]? = some t → args[j]? = some v → Value.okWide Tryd.prog W .any base t v := hval0
  have hW' := hW
  obtain ⟨p, q, hA0, hV, rfl, hfz, hnd⟩ := hW
  have hA : DataW.TrodAll enc Tryd.prog W 0 (fun _ => true) true Tryd.f5.params.toList args.toList ds p := hA0
  rw [Tryd.params5] at hA hval
  obtain ⟨v0, vs0, d0, ds0, p0, q0, hargs, rfl, rfl, h0, r0⟩ := trodAll_cons hA
  obtain ⟨v1, vs1, d1, ds1, p1, q1, rfl, rfl, rfl, h1, r1⟩ := trodAll_cons r0
  obtain ⟨rfl, rfl, rfl⟩ := trodAll_nil r1
  obtain rfl : args = #[v0, v1] := by cases args; simp_all
  obtain ⟨rfl, rfl⟩ := trodVars_none hV
  have k0 := h0
  have k1' := h1
  have lt0 : ∀ x ∈ p0, x.block < W.heap.size := by obtain ⟨m, hm⟩ := k0; exact DataW.trod_lt m _ _ _ hm
  have lt1 : ∀ x ∈ p1, x.block < W.heap.size := by obtain ⟨m, hm⟩ := k1'; exact DataW.trod_lt m _ _ _ hm
  obtain ⟨c0, c1, c2, c3, y0, y1, y2, y3, m, rfl, hd, hp, hy0, hy1, hy2, hy3⟩ := open_agg4 Tryd.underlying23 (by kernel_rfl) (by kernel_rfl) (hval 0 23 v0 rfl rfl) h0
  obtain ⟨kk0, e0, -, wk⟩ := DataW.trod_int Tryd.underlying3 hy0
  obtain ⟨n0, e1, -, wn⟩ := DataW.trod_int Tryd.underlying3 hy1
  obtain ⟨t0, e2, -, wt0⟩ := DataW.trod_string Tryd.underlying9 hy2
  obtain ⟨a0, e3, -, wa⟩ := DataW.trod_int Tryd.underlying3 hy3
  simp at e0 e1 e2 e3
  subst e0 e1 e2 e3
  clear hd hp hy0 hy1 hy2 hy3 wk wn wa y0 y1 y2 y3
  obtain ⟨c0, c1, c2, c3, y0, y1, y2, y3, m, rfl, hd, hp, hy0, hy1, hy2, hy3⟩ := open_agg4 Tryd.underlying23 (by kernel_rfl) (by kernel_rfl) (hval 1 23 v1 rfl rfl) h1
  obtain ⟨kk1, e0, -, wk⟩ := DataW.trod_int Tryd.underlying3 hy0
  obtain ⟨n1, e1, -, wn⟩ := DataW.trod_int Tryd.underlying3 hy1
  obtain ⟨t1, e2, -, wt1⟩ := DataW.trod_string Tryd.underlying9 hy2
  obtain ⟨a1, e3, -, wa⟩ := DataW.trod_int Tryd.underlying3 hy3
  simp at e0 e1 e2 e3
  subst e0 e1 e2 e3
  clear hd hp hy0 hy1 hy2 hy3 wk wn wa y0 y1 y2 y3
  clear hA0 hval0
  refine (walk kk0 n0 a0 kk1 n1 a1 t0 t1 W wt0 wt1 (tab_of_laid hL)).mono fun e W' ⟨he, bel⟩ => ?_
  subst he
  exact ⟨_, rfl, _, _, _, [], _, [], hW', trodAll_mk1 (shut_bool Tryd.underlying4 _), (trodAll_cons_mk (Below.trod laidOut (by kernel_rfl) (of_decide_eq_true (by kernel_rfl)) k0 bel lt0) (trodAll_cons_mk (Below.trod laidOut (by kernel_rfl) (of_decide_eq_true (by kernel_rfl)) k1' bel lt1) trodAll_mk0)), rfl, bel.frame _, fun h => by cases h⟩

theorem over : Rows.fnExactNeedsBlankRow.holds Tryd.pinned (OpenSpec.ofChange Rows.fnExactNeedsBlankSpec) :=
  OpenClaim.holds_of_wide 5 Tryd.f5 rfl rfl rfl rfl rfl rfl rfl ⟨rfl, rfl, rfl, rfl, rfl⟩ rfl rfl rfl rfl rfl (by kernel_rfl) Tryd.func5 (by kernel_rfl)
    (of_decide_eq_true (by kernel_rfl)) (by unfold Func.isWrapper; first | (rw [if_pos (by decide +kernel)]; kernel_rfl) | (rw [if_neg (by decide +kernel)]; exact ⟨rfl, rfl⟩))
    (fun os started H enc _ => lifted os started H enc)

theorem card : Rows.FnExactNeedsBlankCardSaid :=
  Claim7.holds_tied_plain_at .later [] [.data, .data, .data] true Rows.fnExactNeedsBlankCard.stood.harness false
    over (fun _ h => by cases h) (by kernel_rfl) (fun _ h => by cases h) fnExactNeedsBlank_row_tie rfl ⟨rfl, rfl⟩ (by kernel_rfl) rfl
    (fun f fn hf hfn => by
      obtain rfl : f = 5 := Option.some.inj ((show Tryd.prog.funcNamed Rows.fnExactNeedsBlankRow.func = some 5 by kernel_rfl).symm.trans hf) |>.symm
      obtain rfl : fn = Tryd.f5 := (Option.some.inj (Tryd.func5.symm.trans hfn)).symm
      exact ⟨by kernel_rfl, fun j t ht => by
        rw [Tryd.params5] at ht
        have hm : t ∈ [23, 23] := by simpa using Array.mem_of_getElem? ht
        have hall : ([23, 23].all fun u => !Tryd.prog.wantsStandIn u) = true := by kernel_rfl
        exact (show Tryd.prog.wantsStandIn t = false by simpa using List.all_eq_true.1 hall t hm)⟩)
    (by kernel_rfl)
end Go.Proofs.YtfbllgjnahechaaDoor.fnExactNeedsBlank

namespace Go.Proofs.YtfbllgjnahechaaDoor
theorem fnExactNeedsBlank_card : Rows.FnExactNeedsBlankCardSaid := fnExactNeedsBlank.card
#print axioms fnExactNeedsBlank_card
end Go.Proofs.YtfbllgjnahechaaDoor
