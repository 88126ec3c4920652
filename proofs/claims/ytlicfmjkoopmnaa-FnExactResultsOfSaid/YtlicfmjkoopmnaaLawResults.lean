/-
  Proved: whatever the row of cells, the memory and the schedule, the law FnExactResultsOf returns true, and the row reads afterwards as it read before: ResultsOf of the program tells what the specification's tells, in memory of its own. No conditions.
-/
import Derived.Test.YtlicfmjkoopmnaaCoX
import Derived.Test.YtlicfmjkoopmnaaCoI
import Derived.Test.YtlicfmjkoopmnaaCoO
import Derived.Lib.SmallJoins
import Derived.ChangeOld
import Derived.Below
namespace Go.Proofs.Ytlicfmjkoopmnaa.fnExactResultsOf
open Go.ChangeShapes Go.WideShapes Go.ChangeAt Go.RowKit
open Go.Proofs.Ytlicfmjkoopmnaa.W Go.Proofs.Ytlicfmjkoopmnaa.C Go.Joins
set_option linter.unusedVariables false

theorem own : ownKnob Try.prog.godebug = none := by kernel_rfl
theorem laidOut : laidOutB Try.prog = true := by kernel_rfl

set_option maxHeartbeats 2000000 in
theorem walk (ad : Option Addr) (c : Nat) (l : List Cc) (w : World) (hl : l.length ≤ maxLen) (h : CRow w ad l) :
    Calls Try.prog 8 #[.slice ad l.length c] w fun e w' => e = .returned (.bool true) ∧ Below w.heap.size w w' := by
  have HR := hide h
  clear h
  go_enter Try.func8, Try.ntmps8
  go_wp2_with fail
  refine (szCellS_any _ _ _ _ hl).mono ?_
  rintro e w1 ⟨r, rfl, hr, hw⟩
  obtain rfl := hw.symm
  clear hl
  by_cases hneg : r < 0
  · clear hr
    go_wp2_with fail
    go_ret
    exact ⟨rfl, Below.refl _ _⟩
  · have hl : l.length ≤ 1048576 := by
      rcases hr with h | h
      · exact absurd h hneg
      · exact h.2.2
    clear hr
    go_wp2_with fail
    refine (toCellS_any _ _ _ _ hl HR.out).mono ?_
    rintro e w2 ⟨rfl, hr2, hB2⟩
    have hfl := frL_len l hl
    obtain ⟨FL, hFL⟩ : ∃ FL, FL = frL l := ⟨_, rfl⟩
    obtain ⟨OK, hOK⟩ : ∃ OK, OK = (goodT l) := ⟨_, rfl⟩
    have HS : Hid (∀ (ad : Option Addr) (c : Nat) (w : World), CRow w ad l → Calls Try.prog 32 #[.slice ad l.length c] w fun e w' => ∃ s', e = .returned (.tuple #[s', .bool (goodT l)]) ∧ IS w' s' (frL l) ∧ Below w.heap.size w w') := hide (fun (ad : Option Addr) (c : Nat) (w : World) (h : CRow w ad l) => specFreeIn_any ad c l w hl h)
    have HP := hide (fun (ad : Option Addr) (c : Nat) (w : World) (hc : l.length ≤ c) (h : CRow w ad l) => implFreeIn_any ad c l w hl hc h)
    rw [← hFL, ← hOK] at HS
    rw [← hFL, ← hOK] at HP
    rw [← hFL] at hfl
    clear hFL hOK
    go_wp2_with fail
    refine (HS.out _ _ _ hr2.row).mono ?_
    rintro e w3 ⟨s1, rfl, hs1, hb3⟩
    have hB3 : Below w.heap.size w w3 := hB2.trans (hb3.mono hB2.size)
    have HS1 := hide hs1
    obtain ⟨sa, sc, rfl⟩ := hs1.form
    clear hb3 hr2 hB2 hs1
    go_wp2_with fail
    refine (toCellS_any _ _ _ _ hl (HR.out.below hB3)).mono ?_
    rintro e w4 ⟨rfl, hr4, hb4⟩
    have hB4 : Below w.heap.size w w4 := hB3.trans (hb4.mono hB3.size)
    have hs1x : ∀ k, (Value.slice sa FL.length sc).ownBlock = some k → k < w3.heap.size := HS1.out.lt
    have HS4 := hide (HS1.out.below hb4)
    have hsz4 : w3.heap.size < w4.heap.size := by obtain ⟨cur, hh, -⟩ := hr4; exact (Array.getElem?_eq_some_iff.1 hh).1
    have HX4 := hide hr4
    have hwx := hB3.size
    clear hb4 HS1 hr4
    go_wp2_with fail
    refine (HP.out _ _ _ (Nat.le_refl _) HX4.out.row).mono ?_
    rintro e w5 ⟨g0, rfl, ho5, hb5⟩
    have HO5 := hide ho5
    have hg0 : ∀ k, g0.ownBlock = some k → w4.heap.size ≤ k := fun k hk => (HO5.out.lt k hk).1
    have HS5 := hide (HS4.out.below hb5)
    have HX5 := hide (HX4.out.below hb5)
    have hB5 : Below w.heap.size w w5 := hB4.trans (hb5.mono hB4.size)
    obtain ⟨ga, gc, rfl⟩ := iOwn_form ho5
    clear ho5 hb5 HS4 HX4
    go_wp2_with fail
    refine (eqIntS_same _ _ FL _ hfl (IS.ofOwn HO5.out) HS5.out).mono ?_
    rintro e w6 ⟨rfl, hb6⟩
    have HO6 := hide (tOwn_keep HO5.out (fun k _ hk => hb6.block k hk))
    have HS6 := hide (HS5.out.below hb6)
    have HX6 := hide (HX5.out.below hb6)
    have hB6 : Below w.heap.size w w6 := hB5.trans (hb6.mono hB5.size)
    clear hb6 HO5 HS5 HX5 hB5
    go_wp2_with fail
    refine (toCellS_any _ _ _ _ hl (HR.out.below hB6)).mono ?_
    rintro e w7 ⟨rfl, hr7, hb7⟩
    have HO7 := hide (tOwn_keep HO6.out (fun k _ hk => hb7.block k hk))
    have HS7 := hide (HS6.out.below hb7)
    have HX7 := hide (HX6.out.below hb7)
    have hB7 : Below w.heap.size w w7 := hB6.trans (hb7.mono hB6.size)
    clear hb7 HO6 HS6 HX6 hB6
    go_wp2_with fail
    refine (eqCellS_row _ _ _ _ _ _ hl HX7.out.row hr7.row).mono ?_
    rintro e w8 ⟨rfl, hb8⟩
    have HO8 := hide (tOwn_keep HO7.out (fun k _ hk => hb8.block k hk))
    have HS8 := hide (HS7.out.below hb8)
    obtain ⟨xs, hx8⟩ := (HX7.out.below hb8).own (base := w3.heap.size) (Nat.le_refl _) hl
    have HX8 := hide hx8
    have hB8 : Below w.heap.size w w8 := hB7.trans (hb8.mono hB7.size)
    clear hb8 HO7 HS7 HX7 hB7 hr7 hx8
    go_wp2_with fail
    refine (markCellS_any _ _ _ _ _ hl HX8.out).mono ?_
    rintro e w9 ⟨rfl, -, hg9⟩
    have HO9 := hide (iOwn_grown HO8.out hg9 (fun k hk e => by have h1 := hg0 k hk; simp only [Value.ownBlock, Option.some.injEq] at e; omega))
    have HS9 := hide (HS8.out.grown hg9 (fun k hk e => by have h1 := hs1x k hk; simp only [Value.ownBlock, Option.some.injEq] at e; omega))
    have hB9 : Below w.heap.size w w9 := hB8.grown hg9 hB8.size (fun k hk => by simp only [Value.ownBlock, Option.some.injEq] at hk; omega)
    clear hg9 HO8 HS8 hB8 HX8
    have hk9 : ¬ ((1 + l.length * 2 : Nat) : Int) < 0 := by omega
    obtain ⟨K9, hK9⟩ : ∃ K9, K9 = 1 + l.length * 2 := ⟨_, rfl⟩
    rw [← hK9] at hk9 ⊢
    clear hK9
    go_wp2_with fail
    refine (eqIntS_same _ _ FL _ hfl (IS.ofOwn HO9.out) HS9.out).mono ?_
    rintro e w10 ⟨rfl, hb10⟩
    have HO10 := hide (tOwn_keep HO9.out (fun k _ hk => hb10.block k hk))
    have HS10 := hide (HS9.out.below hb10)
    have hB10 : Below w.heap.size w w10 := hB9.trans (hb10.mono hB9.size)
    clear hb10 HO9 HS9 hB9
    go_wp2_with fail
    refine (markIntS_any _ _ _ _ _ hfl HO10.out).mono ?_
    rintro e w11 ⟨rfl, hm11, hg11⟩
    have HS11 := hide (HS10.out.grown hg11 (fun k hk e => by have h1 := hs1x k hk; have h2 := hg0 k e; omega))
    have hB11 : Below w.heap.size w w11 := hB10.grown hg11 hB10.size (fun k hk => by have h2 := hg0 k hk; omega)
    have HM11 := hide hm11
    clear hm11 hg11 HO10 HS10 hB10
    obtain ⟨M, hM⟩ : ∃ M, M = 1 + FL.length := ⟨_, rfl⟩
    have HH := hide (fun (w : World) (h : IMk w (.slice ga FL.length gc) 3 1 1 FL.length) => heldIntS_any _ FL.length w hfl h)
    rw [← hM] at HH ⊢
    clear hM
    go_wp2_with fail
    refine (HH.out _ HM11.out).mono ?_
    rintro e w12 ⟨rfl, hb12⟩
    have HM12 := hide (HM11.out.below hb12)
    have HS12 := hide (HS11.out.below hb12)
    have hB12 : Below w.heap.size w w12 := hB11.trans (hb12.mono hB11.size)
    clear hb12 HM11 HS11 hB11
    go_wp2_with fail
    refine (toCellS_any _ _ _ _ hl (HR.out.below hB12)).mono ?_
    rintro e w13 ⟨rfl, hr13, hb13⟩
    have HM13 := hide (HM12.out.below hb13)
    have HS13 := hide (HS12.out.below hb13)
    have hB13 : Below w.heap.size w w13 := hB12.trans (hb13.mono hB12.size)
    clear hb13 HM12 HS12 hB12
    go_wp2_with fail
    refine (HP.out _ _ _ (Nat.le_refl _) hr13.row).mono ?_
    rintro e w14 ⟨h0, rfl, ho14, hb14⟩
    have HO14 := hide ho14
    have HM14 := hide (HM13.out.below hb14)
    have HS14 := hide (HS13.out.below hb14)
    have hB14 : Below w.heap.size w w14 := hB13.trans (hb14.mono hB13.size)
    obtain ⟨ha, hc', rfl⟩ := iOwn_form ho14
    clear hb14 HM13 HS13 hB13 ho14 hr13
    go_wp2_with fail
    refine (eqIntS_same _ _ FL _ hfl (IS.ofOwn HO14.out) HS14.out).mono ?_
    rintro e w15 ⟨rfl, hb15⟩
    have HM15 := hide (HM14.out.below hb15)
    have hB15 : Below w.heap.size w w15 := hB14.trans (hb15.mono hB14.size)
    clear hb15 HM14 HS14 hB14 HO14
    go_wp2_with fail
    refine (HH.out _ HM15.out).mono ?_
    rintro e w16 ⟨rfl, hb16⟩
    have hB16 : Below w.heap.size w w16 := hB15.trans (hb16.mono hB15.size)
    clear hb16
    go_wp2_with fail
    go_ret
    exact ⟨rfl, hB16⟩

set_option maxRecDepth 100000 in
theorem lifted (os : Os) (started : os.Started) (H : Type) (enc : TypeId × Value → H) :
    ReturnsInHanded {} Try.checked os 8 .any (Rows.fnExactResultsOfSpec.pre6 enc Try.prog Try.f8 Rows.fnExactResultsOfRow.domain false) (Rows.fnExactResultsOfSpec.post enc Try.prog Try.f8 false true false false) := by
  refine returnsInHanded_of_change (C := Try.checked) own started (by kernel_rfl) Try.func8
    (ChangeSpec.witness6 (enc := enc) (C := Try.checked) false ⟨#[], #[.slice none 0 0], []⟩ 8 (by kernel_rfl) (by kernel_rfl) (by kernel_rfl) (by kernel_rfl)) ?_
  intro W base args ds gs before hval0 hW hcnd _
  have hval : ∀ (j : Nat) t v, Try.f8.params[j]? = some t → args[j]? = some v → Value.okWide Try.prog W .any base t v := hval0
  have hW' := hW
  obtain ⟨p, q, hA0, hV, rfl, hfz, hnd⟩ := hW
  have hA : DataW.TrodAll enc Try.prog W 0 (fun _ => true) true Try.f8.params.toList args.toList ds p := hA0
  rw [Try.params8] at hA hval
  obtain ⟨v0, d0, hargs, rfl, h0⟩ := trodAll_one hA
  obtain rfl : args = #[v0] := by cases args; simp_all
  obtain ⟨rfl, rfl⟩ := trodVars_none hV
  have k0 := h0
  have lt0 : ∀ x ∈ p, x.block < W.heap.size := by obtain ⟨m, hm⟩ := k0; exact DataW.trod_lt m _ _ _ hm
  obtain ⟨ad, len, cap, rfl⟩ := okWide_slice Try.underlying22 (hval 0 22 v0 rfl rfl)
  obtain ⟨fuel, hf⟩ := h0
  obtain ⟨l, rfl, hl, hR⟩ := open_cells hf
  clear hA0 hval0
  refine (walk ad cap l W hl hR).mono fun e W' ⟨he, bel⟩ => ?_
  subst he
  exact ⟨_, rfl, _, _, _, [], p, [], hW', trodAll_mk1 (shut_bool Try.underlying4 _), trodAll_mk1 (Below.trod laidOut (by kernel_rfl) (of_decide_eq_true (by kernel_rfl)) k0 bel lt0), rfl, bel.frame _, fun h => by cases h⟩

theorem over : Rows.fnExactResultsOfRow.holds Try.pinned (OpenSpec.ofChange Rows.fnExactResultsOfSpec) :=
  OpenClaim.holds_of_wide 8 Try.f8 rfl rfl rfl rfl rfl rfl rfl ⟨rfl, rfl, rfl, rfl, rfl⟩ rfl rfl rfl rfl rfl (by kernel_rfl) Try.func8 (by kernel_rfl)
    (of_decide_eq_true (by kernel_rfl)) (by unfold Func.isWrapper; first | (rw [if_pos (by decide +kernel)]; kernel_rfl) | (rw [if_neg (by decide +kernel)]; exact ⟨rfl, rfl⟩))
    (fun os started H enc _ => lifted os started H enc)
end Go.Proofs.Ytlicfmjkoopmnaa.fnExactResultsOf

namespace Go.Proofs.Ytlicfmjkoopmnaa
theorem fnExactResultsOf_holds : Rows.FnExactResultsOfSaid := fnExactResultsOf.over
#print axioms fnExactResultsOf_holds
end Go.Proofs.Ytlicfmjkoopmnaa
