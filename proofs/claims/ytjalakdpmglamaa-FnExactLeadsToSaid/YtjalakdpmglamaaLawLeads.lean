/-
  Proved: whatever the two rows of cells, the memory and the schedule, the law FnExactLeadsTo returns true, and the rows read afterwards as they read before: LeadsTo of the program tells what the specification's tells. No conditions.
-/
import Derived.Test.YtjalakdpmglamaaJze
import Derived.Test.YtjalakdpmglamaaCeO
import Derived.Lib.SmallJoins
import Derived.ChangeOld
import Derived.Below
namespace Go.Proofs.Ytjalakdpmglamaa.fnExactLeadsTo
open Go.ChangeShapes Go.WideShapes Go.ChangeAt Go.RowKit
open Go.Proofs.Ytjalakdpmglamaa.W Go.Joins
set_option linter.unusedVariables false

theorem own : ownKnob Try.prog.godebug = none := by kernel_rfl
theorem laidOut : laidOutB Try.prog = true := by kernel_rfl

theorem szCellS_from (ad : Option Addr) (c n : Nat) (m : Int) (w : World) (hl : n ≤ maxLen) (hm0 : 0 ≤ m) (hm : m ≤ 1048576) :
    Calls Try.prog 4 #[.slice ad n c, .int .i64 m] w fun e w' => ∃ r : Int, e = .returned (.int .i64 r) ∧ (r < 0 ∨ 0 ≤ r ∧ n ≤ 1048576) ∧ w' = w := by
  have hl2 : (n : Int) ≤ 9223372036854775807 := by unfold maxLen at hl; omega
  clear hl
  by_cases hbig : m < n
  · go_enter Try.func4, Try.ntmps4
    go_wp2_with fail
    go_ret
    exact ⟨_, rfl, .inl (by omega), rfl⟩
  · go_enter Try.func4, Try.ntmps4
    go_wp2_with fail
    go_ret
    exact ⟨_, rfl, .inr ⟨by omega, by omega⟩, rfl⟩

set_option maxHeartbeats 2000000 in
theorem walk (ad ad2 : Option Addr) (c c2 : Nat) (l l2 : List Cc) (w : World) (hl : l.length ≤ maxLen) (h : CRow w ad l) (hl2 : l2.length ≤ maxLen) (h2 : CRow w ad2 l2) :
    Calls Try.prog 3 #[.slice ad l.length c, .slice ad2 l2.length c2] w fun e w' => e = .returned (.bool true) ∧ Below w.heap.size w w' := by
  have HR := hide h
  have HR2 := hide h2
  clear h h2
  go_enter Try.func3, Try.ntmps3
  go_wp2_with fail
  refine (szCellS_any _ _ _ _ hl).mono ?_
  rintro e w1 ⟨r, rfl, hr, hw⟩
  obtain rfl := hw.symm
  clear hl
  by_cases hneg : r < 0
  · clear hr
    go_wp2_with fail
    go_ret
    exact ⟨rfl, Below.refl _ _⟩
  · obtain ⟨hr0, hr1, hl⟩ : 0 ≤ r ∧ r + (l.length : Int) = 1048576 ∧ l.length ≤ 1048576 := by
      rcases hr with h | h
      · exact absurd h hneg
      · exact h
    have hrm : r ≤ 1048576 := by omega
    clear hr hr1
    go_wp2_with fail
    refine (szCellS_from _ _ _ _ _ hl2 hr0 hrm).mono ?_
    rintro e w1 ⟨r2, rfl, hr2, hw⟩
    obtain rfl := hw.symm
    clear hl2
    by_cases hneg2 : r2 < 0
    · clear hr2
      go_wp2_with fail
      go_ret
      exact ⟨rfl, Below.refl _ _⟩
    · have hl2 : l2.length ≤ 1048576 := by
        rcases hr2 with h | h
        · exact absurd h hneg2
        · exact h.2
      clear hr2
      have HS := hide (fun (ad ad2 : Option Addr) (c c2 : Nat) (w : World) (h1 : CRow w ad l) (h2 : CRow w ad2 l2) => specLeads_any ad ad2 c c2 l l2 w hl hl2 h1 h2)
      have HP := hide (fun (ad ad2 : Option Addr) (c c2 : Nat) (w : World) (hc : l.length ≤ c) (h1 : CRow w ad l) (h2 : CRow w ad2 l2) => implLeads_any ad ad2 c c2 l l2 w hl hl2 hc h1 h2)
      obtain ⟨R, hRR⟩ : ∃ R, R = leR l l2 := ⟨_, rfl⟩
      obtain ⟨OK, hOK⟩ : ∃ OK, OK = leO l l2 := ⟨_, rfl⟩
      rw [← hRR, ← hOK] at HS HP
      clear hRR hOK
      go_wp2_with fail
      refine (toCellS_any _ _ _ _ hl HR.out).mono ?_
      rintro e w2 ⟨rfl, hr2, hB2⟩
      have HX2 := hide hr2
      clear hr2
      go_wp2_with fail
      refine (toCellS_any _ _ _ _ hl2 (HR2.out.below hB2)).mono ?_
      rintro e w3 ⟨rfl, hr3, hb3⟩
      have hB3 : Below w.heap.size w w3 := hB2.trans (hb3.mono hB2.size)
      have HX3 := hide (HX2.out.below hb3)
      clear hb3 hB2 HX2
      go_wp2_with fail
      refine (HS.out _ _ _ _ _ HX3.out.row hr3.row).mono ?_
      rintro e w4 ⟨rfl, hb4⟩
      have hB4 : Below w.heap.size w w4 := hB3.trans (hb4.mono hB3.size)
      clear hb4 hr3 hB3 HX3 HS
      go_wp2_with fail
      refine (toCellS_any _ _ _ _ hl (HR.out.below hB4)).mono ?_
      rintro e w5 ⟨rfl, hr5, hb5⟩
      have hB5 : Below w.heap.size w w5 := hB4.trans (hb5.mono hB4.size)
      have HX5 := hide hr5
      clear hb5 hB4 hr5
      go_wp2_with fail
      refine (toCellS_any _ _ _ _ hl2 (HR2.out.below hB5)).mono ?_
      rintro e w6 ⟨rfl, hr6, hb6⟩
      have hB6 : Below w.heap.size w w6 := hB5.trans (hb6.mono hB5.size)
      have HX6 := hide (HX5.out.below hb6)
      have HY6 := hide hr6
      clear hb6 hB5 hr6 HX5
      go_wp2_with fail
      refine (HP.out _ _ _ _ _ (Nat.le_refl _) HX6.out.row HY6.out.row).mono ?_
      rintro e w7 ⟨rfl, hb7⟩
      have hB7 : Below w.heap.size w w7 := hB6.trans (hb7.mono hB6.size)
      have HX7 := hide (HX6.out.below hb7)
      have HY7 := hide (HY6.out.below hb7)
      clear hb7 hB6 HX6 HY6 HP
      go_wp2_with fail
      refine (toCellS_any _ _ _ _ hl (HR.out.below hB7)).mono ?_
      rintro e w8 ⟨rfl, hr8, hb8⟩
      have hB8 : Below w.heap.size w w8 := hB7.trans (hb8.mono hB7.size)
      have HX8 := hide (HX7.out.below hb8)
      have HY8 := hide (HY7.out.below hb8)
      clear hb8 hB7 HX7 HY7
      go_wp2_with fail
      refine (eqCellS_row _ _ _ _ _ _ hl HX8.out.row hr8.row).mono ?_
      rintro e w9 ⟨rfl, hb9⟩
      have hB9 : Below w.heap.size w w9 := hB8.trans (hb9.mono hB8.size)
      have HY9 := hide (HY8.out.below hb9)
      clear hb9 hB8 HX8 HY8 hr8
      go_wp2_with fail
      refine (toCellS_any _ _ _ _ hl2 (HR2.out.below hB9)).mono ?_
      rintro e w10 ⟨rfl, hr10, hb10⟩
      have hB10 : Below w.heap.size w w10 := hB9.trans (hb10.mono hB9.size)
      have HY10 := hide (HY9.out.below hb10)
      clear hb10 hB9 HY9
      go_wp2_with fail
      refine (eqCellS_row _ _ _ _ _ _ hl2 HY10.out.row hr10.row).mono ?_
      rintro e w11 ⟨rfl, hb11⟩
      have hB11 : Below w.heap.size w w11 := hB10.trans (hb11.mono hB10.size)
      clear hb11 hr10
      go_wp2_with fail
      go_ret
      exact ⟨rfl, hB11⟩

set_option maxRecDepth 100000 in
theorem lifted (os : Os) (started : os.Started) (H : Type) (enc : TypeId × Value → H) :
    ReturnsInHanded {} Try.checked os 3 .any (Rows.fnExactLeadsToSpec.pre6 enc Try.prog Try.f3 Rows.fnExactLeadsToRow.domain false) (Rows.fnExactLeadsToSpec.post enc Try.prog Try.f3 false true false false) := by
  refine returnsInHanded_of_change (C := Try.checked) own started (by kernel_rfl) Try.func3
    (ChangeSpec.witness6 (enc := enc) (C := Try.checked) false ⟨#[], #[.slice none 0 0, .slice none 0 0], []⟩ 8 (by kernel_rfl) (by kernel_rfl) (by kernel_rfl) (by kernel_rfl)) ?_
  intro W base args ds gs before hval0 hW hcnd _
  have hval : ∀ (j : Nat) t v, Try.f3.params[j]? = some t → args[j]? = some v → Value.okWide Try.prog W .any base t v := hval0
  have hW' := hW
  obtain ⟨p, q, hA0, hV, rfl, hfz, hnd⟩ := hW
  have hA : DataW.TrodAll enc Try.prog W 0 (fun _ => true) true Try.f3.params.toList args.toList ds p := hA0
  rw [Try.params3] at hA hval
  obtain ⟨v0, vs0, d0, ds0, p0, q0, hargs, rfl, rfl, h0, r0⟩ := trodAll_cons hA
  obtain ⟨v1, vs1, d1, ds1, p1, q1, rfl, rfl, rfl, h1, r1⟩ := trodAll_cons r0
  obtain ⟨rfl, rfl, rfl⟩ := trodAll_nil r1
  obtain rfl : args = #[v0, v1] := by cases args; simp_all
  obtain ⟨rfl, rfl⟩ := trodVars_none hV
  have k0 := h0
  have k1' := h1
  have lt0 : ∀ x ∈ p0, x.block < W.heap.size := by obtain ⟨m, hm⟩ := k0; exact DataW.trod_lt m _ _ _ hm
  have lt1 : ∀ x ∈ p1, x.block < W.heap.size := by obtain ⟨m, hm⟩ := k1'; exact DataW.trod_lt m _ _ _ hm
  obtain ⟨ad2, len2, cap2, rfl⟩ := okWide_slice Try.underlying22 (hval 1 22 v1 rfl rfl)
  obtain ⟨fuel2, hf2⟩ := h1
  obtain ⟨ls, rfl, hls, hRS⟩ := open_cells hf2
  obtain ⟨ad, len, cap, rfl⟩ := okWide_slice Try.underlying22 (hval 0 22 v0 rfl rfl)
  obtain ⟨fuel, hf⟩ := h0
  obtain ⟨l, rfl, hl, hR⟩ := open_cells hf
  clear hA0 hval0
  refine (walk ad ad2 cap cap2 l ls W hl hR hls hRS).mono fun e W' ⟨he, bel⟩ => ?_
  subst he
  exact ⟨_, rfl, _, _, _, [], _, [], hW', trodAll_mk1 (shut_bool Try.underlying4 _), (trodAll_cons_mk (Below.trod laidOut (by kernel_rfl) (of_decide_eq_true (by kernel_rfl)) k0 bel lt0) (trodAll_cons_mk (Below.trod laidOut (by kernel_rfl) (of_decide_eq_true (by kernel_rfl)) k1' bel lt1) trodAll_mk0)), rfl, bel.frame _, fun h => by cases h⟩

theorem over : Rows.fnExactLeadsToRow.holds Try.pinned (OpenSpec.ofChange Rows.fnExactLeadsToSpec) :=
  OpenClaim.holds_of_wide 3 Try.f3 rfl rfl rfl rfl rfl rfl rfl ⟨rfl, rfl, rfl, rfl, rfl⟩ rfl rfl rfl rfl rfl (by kernel_rfl) Try.func3 (by kernel_rfl)
    (of_decide_eq_true (by kernel_rfl)) (by unfold Func.isWrapper; first | (rw [if_pos (by decide +kernel)]; kernel_rfl) | (rw [if_neg (by decide +kernel)]; exact ⟨rfl, rfl⟩))
    (fun os started H enc _ => lifted os started H enc)
end Go.Proofs.Ytjalakdpmglamaa.fnExactLeadsTo

namespace Go.Proofs.Ytjalakdpmglamaa
theorem fnExactLeadsTo_holds : Rows.FnExactLeadsToSaid := fnExactLeadsTo.over
#print axioms fnExactLeadsTo_holds
end Go.Proofs.Ytjalakdpmglamaa
