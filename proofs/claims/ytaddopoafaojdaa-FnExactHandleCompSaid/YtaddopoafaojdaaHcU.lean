/-
  The contract of the specification's HandleComp. Conditions: at most 1048576 cells and rules.
-/
import Derived.Test.YtaddopoafaojdaaHcT
import Derived.Test.YtaddopoafaojdaaHcR
import Derived.Test.YtaddopoafaojdaaCoL
import Derived.Test.YtaddopoafaojdaaCoS
namespace Go.Proofs.Ytaddopoafaojdaa.C
open Go.Proofs.Ytaddopoafaojdaa.W
open Go.ChangeShapes Go.WideShapes Go.ChangeAt Go.RowKit
set_option linter.unusedVariables false

theorem l9Handle_any (q : Int) (R : List Ru) (ha : Option Addr) (hc : Nat) (hg : goodH ⟨q, R⟩ = true) : ∀ t, HsGoal q R ha hc t := by
  intro t
  induction t with
  | ret n => exact hnd_ret q R ha hc hg n
  | ask n a b iha ihb => exact hnd_ask q R ha hc hg n a b iha ihb

set_option maxRecDepth 20000 in
set_option maxHeartbeats 4000000 in
theorem specHandle_any (v : Value) (h : Hd) (ad : Option Addr) (c : Nat) (l : List Cc) (w : World) (hl : l.length ≤ 1048576) (hv : HRow w v h) (hR : CRow w ad l) :
    Calls Try.prog 6 #[v, .slice ad l.length c] w (RU2 w (oF (hdR h l)) (hdR h l).isSome) := by
  unfold RU2
  obtain ⟨q, R⟩ := h
  obtain ⟨ha, hc, rfl, hRu, hRl⟩ := id hv
  simp only at hRu hRl ⊢
  obtain ⟨W, hW⟩ : ∃ W, W = w.alloc (.cells #[.int .i64 q, .slice ha R.length hc] 33) := ⟨_, rfl⟩
  have hB : Below w.heap.size w W := by rw [hW]; exact (Below.refl _ _).alloc (Nat.le_refl _) _
  have hX : Bx W w.heap.size #[.int .i64 q, .slice ha R.length hc] 33 := by rw [hW]; exact Bx.new _ _ _
  have HG := hide (fun (w' : World) (hb : Below w.heap.size w w') => specGoodH_any _ _ w' (hv.below hb))
  have HX := hide hX
  have HB := hide hB
  have HW := hide hW
  obtain ⟨RES, hRES⟩ : ∃ RES, RES = hdR ⟨q, R⟩ l := ⟨_, rfl⟩
  rw [← hRES]
  have HRE := hide hRES
  by_cases hg : goodT l = true
  · obtain ⟨hto, htl, ht6, htr⟩ := trO_is l hg
    have HC := hide (l9Tree_tr ad c l W hl (hR.below hB) _ htr)
    obtain ⟨t, htt⟩ : ∃ t, t = trO l hg := ⟨_, rfl⟩
    rw [← htt] at hto htl HC
    by_cases hh : goodH ⟨q, R⟩ = true
    · rw [hh] at HG
      have HRs : Hid (RES = t.hnd ⟨q, R⟩) := hide (by rw [HRE.out, htt]; unfold hdR; rw [dif_pos hg, if_pos hh])
      obtain ⟨-, -, h3, -⟩ := goodH_parts hh
      have h3' : R.length = 3 := h3
      have HH := hide (fun (u : Value) (P : Nat → Prop) (w' : World) (hb : Below w.heap.size w w') (hT : CV w' P t u) => l9Handle_any q R ha hc hh t u P w' hto hT (RRow.below hRu hb))
      have HOk := hide (fun z e => hnd_ok hh t z hto e)
      rw [← HRs.out] at HH HOk
      unfold HT at HH
      rw [h3'] at HG HX HW hX ⊢
      obtain ⟨FL, hFL⟩ : ∃ FL, FL = oF RES := ⟨_, rfl⟩
      obtain ⟨OKB, hOKB⟩ : ∃ OKB, OKB = RES.isSome := ⟨_, rfl⟩
      rw [← hFL, ← hOKB]
      have HFL := hide hFL
      have HOKB := hide hOKB
      rw [← hOKB] at HH
      clear hFL hOKB
      clear htt hto htl ht6 htr h3 h3' hR hRu HRs HRE hg hh hRl hRES hv hW hX hB
      go_enter Try.func6, Try.ntmps6
      go_upto_region 1 with fail
      rw [← HW.out]
      clear HW
      go_wp2_with fail
      refine Calls.mono HC.out ?_
      rintro e w1 ⟨hb1, v1, rfl, hT⟩
      obtain ⟨xb, xn, xa, xl, xc, rfl⟩ := hT.form
      have hB1 : Below w.heap.size w w1 := HB.out.trans (hb1.mono HB.out.size)
      have HT1 := hide hT
      have HX1 := hide (HX.out.below hb1 HX.out.lt)
      obtain ⟨w2, hw2⟩ : ∃ w2, w2 = w1.alloc (.cells #[.bool xb, .int .i64 xn, .slice xa xl xc] 44) := ⟨_, rfl⟩
      have hb2 : Below w1.heap.size w1 w2 := by rw [hw2]; exact (Below.refl _ _).alloc (Nat.le_refl _) _
      have HT2 := hide (hT.below hb2)
      have hB2 : Below w.heap.size w w2 := hB1.trans (hb2.mono hB1.size)
      have HX2 := hide (HX1.out.below hb2 HX1.out.lt)
      have hbX : Bx w2 w1.heap.size #[.bool xb, .int .i64 xn, .slice xa xl xc] 44 := by rw [hw2]; exact Bx.new _ _ _
      have HBX := hide hbX
      have HW2 := hide hw2
      clear hb1 hb2 hw2 hbX hT HC HT1 HX1
      go_upto_region 2 with fail
      rw [← HW2.out]
      clear HW2
      obtain ⟨XB, hXB⟩ : ∃ XB, XB = w1.heap.size := ⟨_, rfl⟩
      rw [← hXB] at HBX ⊢
      clear hXB
      have cX := HX2.out.c
      go_wp2_with fail
      refine Calls.mono (HG.out _ hB2) ?_
      rintro e w3 ⟨rfl, hb3⟩
      have hB3 : Below w.heap.size w w3 := hB2.trans (hb3.mono hB2.size)
      have HX3 := hide (HX2.out.below hb3 HX2.out.lt)
      have HBX3 := hide (HBX.out.below hb3 HBX.out.lt)
      have HT3 := hide (HT2.out.below hb3)
      clear hb3 cX HG HX2 HBX HT2
      have cX := HX3.out.c
      have cT := HBX3.out.c
      go_wp2_with fail
      refine Calls.mono (HH.out _ _ _ hB3 HT3.out) ?_
      rintro e w4 ⟨zb, zn, za, zl, zc, rfl, hz, hb4⟩
      have hB4 : Below w.heap.size w w4 := hB3.trans (hb4.mono hB3.size)
      clear hb4 HH cX cT HX3 HBX3 HT3
      obtain ⟨w5, hw5⟩ : ∃ w5, w5 = w4.alloc (.cells #[.bool zb, .int .i64 zn, .slice za zl zc] 44) := ⟨_, rfl⟩
      have hb5 : Below w4.heap.size w4 w5 := by rw [hw5]; exact (Below.refl _ _).alloc (Nat.le_refl _) _
      have hB5 : Below w.heap.size w w5 := hB4.trans (hb5.mono hB4.size)
      have hbZ : Bx w5 w4.heap.size #[.bool zb, .int .i64 zn, .slice za zl zc] 44 := by rw [hw5]; exact Bx.new _ _ _
      have HBZ := hide hbZ
      have HW5 := hide hw5
      cases RES with
      | none =>
        clear hz hbZ HOk hb5 hw5
        have hfalse : OKB = false := HOKB.out
        have hnil : FL = [] := HFL.out
        subst hfalse hnil
        go_upto_region 5 with fail
        rw [← HW5.out]
        clear HW5
        go_wp2_with fail
        exact bodyPost_ret (v := .tuple #[.slice none 0 0, .bool false]) (by simp [results, Try.results6, go_sem]) rfl ⟨_, rfl, World.ownsRow_nil _ _ _ _, hB5⟩
      | some z =>
        obtain ⟨hzo, hzl⟩ := HOk.out z rfl
        have hzc := hz z rfl
        have HC := hide (fun (w' : World) (hb : Below w5.heap.size w5 w') => l9Tell_any z _ _ w' hzo (by omega) ((hzc.below hb5).below hb))
        unfold RU2 at HC
        rw [if_pos hzl, decide_eq_true hzl] at HC
        have hoF : FL = z.flat := HFL.out
        have htrue : OKB = true := HOKB.out
        subst htrue
        rw [← hoF] at HC
        clear hz hbZ HOk hb5 hw5 hzo hzl hzc hoF HOKB HFL
        go_upto_region 5 with fail
        rw [← HW5.out]
        clear HW5
        have cZ := HBZ.out.c
        go_wp2_with fail
        refine Calls.mono (HC.out _ (Below.refl _ _)) ?_
        rintro e w6 ⟨v6, rfl, ho6, hb6⟩
        obtain ⟨va, vc, rfl⟩ := iOwn_form ho6
        have HO6 := hide (iOwn_lower ho6 hB5.size)
        have hB6 : Below w.heap.size w w6 := hB5.trans (hb6.mono hB5.size)
        clear ho6 hb6 HC cZ HBZ
        go_wp2_with fail
        exact bodyPost_ret (v := .tuple #[.slice va FL.length vc, .bool true]) (by simp [results, Try.results6, go_sem]) rfl ⟨_, rfl, HO6.out, hB6⟩
    · rw [Bool.not_eq_true] at hh
      rw [hh] at HG
      have HRs : Hid (RES = none) := hide (by rw [HRE.out]; unfold hdR; rw [dif_pos hg, if_neg (by rw [hh]; simp)])
      rw [HRs.out]
      show Calls _ _ _ _ (fun e w' => ∃ v, e = .returned (.tuple #[v, .bool false]) ∧ w'.ownsRow w.heap.size 52 2 v 0 [] ∧ Below w.heap.size w w')
      clear htt hto htl ht6 htr hR hRu HRs HRE hg hh hRl hRES hv hW hX hB
      go_enter Try.func6, Try.ntmps6
      go_upto_region 1 with fail
      rw [← HW.out]
      clear HW
      go_wp2_with fail
      refine Calls.mono HC.out ?_
      rintro e w1 ⟨hb1, v1, rfl, hT⟩
      obtain ⟨xb, xn, xa, xl, xc, rfl⟩ := hT.form
      have hB1 : Below w.heap.size w w1 := HB.out.trans (hb1.mono HB.out.size)
      have HX1 := hide (HX.out.below hb1 HX.out.lt)
      obtain ⟨w2, hw2⟩ : ∃ w2, w2 = w1.alloc (.cells #[.bool xb, .int .i64 xn, .slice xa xl xc] 44) := ⟨_, rfl⟩
      have hb2 : Below w1.heap.size w1 w2 := by rw [hw2]; exact (Below.refl _ _).alloc (Nat.le_refl _) _
      have hB2 : Below w.heap.size w w2 := hB1.trans (hb2.mono hB1.size)
      have HX2 := hide (HX1.out.below hb2 HX1.out.lt)
      have HW2 := hide hw2
      clear hb1 hb2 hw2 hT HC HX1
      go_upto_region 2 with fail
      rw [← HW2.out]
      clear HW2
      obtain ⟨XB, hXB⟩ : ∃ XB, XB = w1.heap.size := ⟨_, rfl⟩
      rw [← hXB]
      clear hXB
      have cX := HX2.out.c
      go_wp2_with fail
      refine Calls.mono (HG.out _ hB2) ?_
      rintro e w3 ⟨rfl, hb3⟩
      have hB3 : Below w.heap.size w w3 := hB2.trans (hb3.mono hB2.size)
      clear hb3 cX HG HX2
      go_wp2_with fail
      exact bodyPost_ret (v := .tuple #[.slice none 0 0, .bool false]) (by simp [results, Try.results6, go_sem]) rfl ⟨_, rfl, World.ownsRow_nil _ _ _ _, hB3⟩
  · rw [Bool.not_eq_true] at hg
    have HC := hide (l9Tree_bad ad c l W hl (hR.below hB) hg)
    have HRs : Hid (RES = none) := hide (by rw [HRE.out]; unfold hdR; rw [dif_neg (by rw [hg]; simp)])
    rw [HRs.out]
    show Calls _ _ _ _ (fun e w' => ∃ v, e = .returned (.tuple #[v, .bool false]) ∧ w'.ownsRow w.heap.size 52 2 v 0 [] ∧ Below w.heap.size w w')
    clear hR hRu HRs HRE hg hRl hRES hv hW hX hB HG
    go_enter Try.func6, Try.ntmps6
    go_upto_region 1 with fail
    rw [← HW.out]
    clear HW
    go_wp2_with fail
    refine Calls.mono HC.out ?_
    rintro e w1 ⟨hb1, k, n, sad, sn, sc, rfl⟩
    have hB1 : Below w.heap.size w (w1.alloc (.cells #[.bool k, .int .i64 n, .slice sad sn sc] 44)) := (HB.out.trans (hb1.mono HB.out.size)).alloc (by have := hb1.size; have := HB.out.size; omega) _
    clear HC hb1
    go_wp2_with fail
    exact bodyPost_ret (v := .tuple #[.slice none 0 0, .bool false]) (by simp [results, Try.results6, go_sem]) rfl ⟨_, rfl, World.ownsRow_nil _ _ _ _, hB1⟩
end Go.Proofs.Ytaddopoafaojdaa.C
