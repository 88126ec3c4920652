/-
  The program's NeededOn. Conditions: none but those that each theorem states. Written by wip/build/mk_lvne.py.
-/
import Derived.Test.YtaniiolphghhiaaLvN
namespace Go.Proofs.Ytaniiolphghhiaa.W
open Go.ChangeShapes Go.WideShapes Go.ChangeAt Go.RowKit Go.Joins
set_option linter.unusedVariables false
set_option linter.unusedSimpArgs false
set_option maxRecDepth 20000

set_option maxHeartbeats 8000000 in
theorem implNeed_any (v vw : Value) (D : List (List Int)) (n : Nat) (F : List (List Int)) (ls : List Int) (n1 : Int) (w : World) (h : FRow w v D n F) (hw : NV w vw ls) (hl6 : ls.length ≤ 1048576) :
    Calls Try.prog 24 #[v, vw, .int .i64 n1] w fun e w' => e = .returned (.tuple #[.bool (neR D F ls n1), .bool (neB D F ls n1)]) ∧ Below w.heap.size w w' := by
  have HGf := hide (fun (w' : World) (hb : Below w.heap.size w w') => implGoodF_any v D n F w' (h.below hb))
  obtain ⟨HG0, HWay⟩ : True ∧ Hid (∀ (w' : World), Below w.heap.size w w' → GG D → ∀ (ad : Option Addr) (c : Nat) (bd : Option Addr) (bc : Nat), v = .agg #[.slice ad D.length c, .slice bd n bc] → Calls Try.prog 53 #[.agg #[.slice ad D.length c], vw] w' fun e w'' => e = .returned (.bool (wyB D ls)) ∧ Below w'.heap.size w' w'') := ⟨trivial, hide (fun w' hb hg ad c bd bc hv => by
    obtain ⟨ad', c', bd', bc', e, hR, hq, hlc, -⟩ := h
    rw [hv] at e
    obtain ⟨⟨rfl, rfl⟩, -⟩ : (ad = ad' ∧ c = c') ∧ bd = bd' ∧ bc = bc' := by simpa using e
    exact isWay_any (.agg #[.slice ad D.length c]) vw D ls w' ⟨ad, c, rfl, hR.below hb, hq, hlc⟩ hg (hw.below hb) hl6)⟩
  have hWv := hw.iv hl6
  obtain ⟨ad, c, bd, bc, rfl, hR, hq, hlc, hRF, -, -, hF2⟩ := h
  obtain ⟨aw, cw, rfl, hlcw⟩ := hw.form
  obtain ⟨aw', cw', e9, hW, hl⟩ := hWv
  obtain ⟨rfl, -, rfl⟩ : aw = aw' ∧ True ∧ cw = cw' := by simpa using e9
  have HWay := hide (fun (w' : World) (hb : Below w.heap.size w w') (hg : GG D) => HWay.out w' hb hg ad c bd bc rfl)
  have HR := hide hR
  have HQ := hide hq.2
  have HRF := hide hRF
  have HF2 := hide hF2
  have HW := hide hW
  obtain ⟨nd, hnd⟩ : ∃ nd, nd = D.length := ⟨_, rfl⟩
  obtain ⟨nl, hnl⟩ : ∃ nl, nl = ls.length := ⟨_, rfl⟩
  have hB0 : Below w.heap.size w (w.alloc (.cells #[.slice ad D.length c, .slice bd n bc] 33)) := (Below.refl _ _).alloc (Nat.le_refl _) _
  have HX := hide (Bx.new w #[.slice ad D.length c, .slice bd n bc] 33)
  rw [← hnd] at HX hB0 HGf HWay ⊢
  rw [← hnl] at hl HWay ⊢
  have HND := hide hnd
  have HNl := hide hnl
  have HNo : Hid (neB D F ls n1 = false → ∀ w' : World, Below w.heap.size w w' → Ending.returned (.tuple #[.bool false, .bool false]) = Ending.returned (.tuple #[.bool (neR D F ls n1), .bool (neB D F ls n1)]) ∧ Below w.heap.size w w') := hide (fun h w' hb => by unfold neR; rw [h]; exact ⟨rfl, hb⟩)
  clear hnd hnl hR hq hlc hRF hF2 hlcw e9 hl6 hw hW
  go_enter Try.func24, Try.ntmps24
  go_upto_region 1 with fail
  obtain ⟨W1, hW1⟩ : ∃ W1, W1 = w.alloc (.cells #[.slice ad nd c, .slice bd n bc] 33) := ⟨_, rfl⟩
  obtain ⟨X, hX⟩ : ∃ X, X = w.heap.size := ⟨_, rfl⟩
  rw [← hW1] at HX hB0 ⊢
  rw [← hX] at HX ⊢
  clear hW1 hX
  have cX := HX.out.c
  go_wp2_with fail
  refine Calls.mono (HGf.out _ hB0) ?_
  rintro e w1 ⟨rfl, hb⟩
  have HB1 := hide (hB0.trans (hb.mono hB0.size))
  have HX1 := hide (HX.out.below hb HX.out.lt)
  clear cX hb HGf hB0 HX
  have cX := HX1.out.c
  by_cases hg : goodF D F = true
  · have HF := hide (goodF_iff.1 hg)
    have HGe := hide hg
    have HNn : Hid (n = nd) := hide (by rw [HND.out]; have := (goodF_iff.1 hg).2.1; have := HF2.out; omega)
    have hn12 : nd ≤ 12 := by rw [HND.out]; exact (goodF_iff.1 hg).1.2.1
    rw [hg]
    clear hg
    go_wp2_with fail
    refine Calls.mono (HWay.out _ HB1.out HF.out.1) ?_
    rintro e w2 ⟨rfl, hb⟩
    have HB2 := hide (HB1.out.trans (hb.mono HB1.out.size))
    have HX2 := hide (HX1.out.below hb HX1.out.lt)
    clear cX hb HX1 HB1 HWay
    have cX := HX2.out.c
    by_cases hwy : wyB D ls = true
    · have HWy := hide (wyB_iff.1 hwy)
      rw [hwy]
      clear hwy
      go_wp2_with fail
      refine Calls.mono (isBelow_g n1 8 _) ?_
      rintro e w3 ⟨rfl, hw⟩
      obtain rfl := hw.symm
      by_cases hin : beB n1 8 = true
      · have HIn : Hid (inB n1 0 7 = true) := hide (by simp [beB] at hin; simp [inB]; omega)
        have HYes : Hid (∀ (R : Bool), nee F n1 ls = R → ∀ w' : World, Below w.heap.size w w' → Ending.returned (.tuple #[.bool R, .bool true]) = Ending.returned (.tuple #[.bool (neR D F ls n1), .bool (neB D F ls n1)]) ∧ Below w.heap.size w w') := hide (fun R h w' hb => by
          have e : neB D F ls n1 = true := by unfold neB; rw [HGe.out, wyB_iff.2 HWy.out, HIn.out]; rfl
          unfold neR; rw [e, h]; exact ⟨rfl, hb⟩)
        have HB8 := HB2
        have HX8 := HX2
        rw [hin]
        clear hin
        go_wp2_with fail
        clear cX
        obtain ⟨W8, hW8⟩ : ∃ W8, W8 = w2 := ⟨_, rfl⟩
        rw [← hW8] at HB8 HX8 ⊢
        clear hW8
        go_loopw [27] (fun i w' => ∃ (j : Nat), j ≤ nl ∧ i = .int .i64 j ∧ nee F n1 ls = nee F n1 (ls.drop j) ∧ w' = W8) (fun i _ => nl - (intOf i).toNat)
        case atStart => exact ⟨0, by omega, rfl, by rw [List.drop_zero], rfl⟩
        case round =>
          obtain ⟨j, hj, rfl, hA, rfl⟩ := hrel
          have HA := hide hA
          clear hA
          by_cases hlt : j < nl
          · have hlt' : (j : Int) < (nl : Int) := by omega
            have hj0 : (0 : Int) ≤ (j : Int) := by omega
            have hjl : j < ls.length := by rw [← HNl.out]; exact hlt
            obtain ⟨bw, ow, rfl, -, pa⟩ := IRow.iat HW.out HB8.out hjl
            have hwa := HWy.out.2.2 j hjl hjl
            obtain ⟨a, ha⟩ : ∃ a : Nat, ls[j] = (a : Int) := ⟨(ls[j]).toNat, by rw [Int.toNat_of_nonneg hwa.1]⟩
            have hUse := hide (fun (hu : n1 ∈ fu F a) => nee_use (F := F) (n1 := n1) hjl (by rw [ha]; simpa using hu))
            have hSet := hide (fun (hu : n1 ∉ fu F a) (hs : n1 ∈ fs F a) => nee_set (F := F) (n1 := n1) hjl (by rw [ha]; simpa using hu) (by rw [ha]; simpa using hs))
            have hOn := hide (fun (hu : n1 ∉ fu F a) (hs : n1 ∉ fs F a) => nee_on (F := F) (n1 := n1) hjl (by rw [ha]; simpa using hu) (by rw [ha]; simpa using hs))
            rw [ha] at pa hwa
            have han : a < n := by have h1 := hwa.2.1; have h2 := HNn.out; have h3 := HND.out; omega
            have han' : (a : Int) < (n : Int) := by omega
            have ha0 : (0 : Int) ≤ (a : Int) := by omega
            obtain ⟨b, o, a0, c0, a1, c1, rfl, -, p0, p1, r0, r1, -, -⟩ := QRow.two HRF.out HB8.out HF2.out han
            have l0 : (fu F a).length ≤ 1048576 := by have := r8_len (HF.out.r8 (2 * a)); show (row F (2 * a)).length ≤ _; omega
            have l1 : (fs F a).length ≤ 1048576 := by have := r8_len (HF.out.r8 (2 * a + 1)); show (row F (2 * a + 1)).length ≤ _; omega
            have HC0 := hide (containsI_any (.slice a0 (fu F a).length c0) (fu F a) n1 wr ⟨_, _, rfl, r0, l0⟩)
            have HC1 := hide (containsI_any (.slice a1 (fs F a).length c1) (fs F a) n1 wr ⟨_, _, rfl, r1, l1⟩)
            obtain ⟨m0, hm0⟩ : ∃ m, m = (fu F a).length := ⟨_, rfl⟩
            obtain ⟨m1, hm1⟩ : ∃ m, m = (fs F a).length := ⟨_, rfl⟩
            rw [← hm0] at p0 HC0
            rw [← hm1] at p1 HC1
            have cX := HX8.out.c
            clear ha hwa r0 r1 l0 l1 hm0 hm1
            go_wp2_with fail
            refine Calls.mono HC0.out ?_
            rintro e w9 ⟨rfl, hw⟩
            obtain rfl := hw.symm
            by_cases hu : n1 ∈ fu F a
            · have hd : decide (n1 ∈ fu F a) = true := decide_eq_true hu
              have HR := hide (HA.out.trans (hUse.out hu))
              rw [hd]
              clear hu hd HC0 HC1
              go_wp2_with fail
              exact bodyPost_ret (v := .tuple #[.bool true, .bool true]) (by simp [results, Try.results24, go_sem]) rfl (HYes.out true HR.out _ HB8.out)
            · have hd : decide (n1 ∈ fu F a) = false := decide_eq_false hu
              have Hu := hide hu
              rw [hd]
              clear hu hd HC0
              go_wp2_with fail
              refine Calls.mono HC1.out ?_
              rintro e w9 ⟨rfl, hw⟩
              obtain rfl := hw.symm
              by_cases hs : n1 ∈ fs F a
              · have hd : decide (n1 ∈ fs F a) = true := decide_eq_true hs
                have HR := hide (HA.out.trans (hSet.out Hu.out hs))
                rw [hd]
                clear hs hd HC1
                go_wp2_with fail
                exact bodyPost_ret (v := .tuple #[.bool false, .bool true]) (by simp [results, Try.results24, go_sem]) rfl (HYes.out false HR.out _ HB8.out)
              · have hd : decide (n1 ∈ fs F a) = false := decide_eq_false hs
                have HR := hide (HA.out.trans (hOn.out Hu.out hs))
                rw [hd]
                clear hs hd HC1 cX p0 p1 pa
                go_wp2_with fail
                exact ⟨⟨j + 1, by omega, by go_num, HR.out, trivial⟩, by simp [intOf]; omega⟩
          · obtain rfl : j = nl := by omega
            have HR : Hid (nee F n1 ls = false) := hide (by rw [HA.out, HNl.out, List.drop_length]; rfl)
            go_wp2_with fail
            exact bodyPost_ret (v := .tuple #[.bool false, .bool true]) (by simp [results, Try.results24, go_sem]) rfl (HYes.out false HR.out _ HB8.out)
      · have hf : beB n1 8 = false := by simpa using hin
        have HFl := hide (HNo.out (by
          have e : inB n1 0 7 = false := by
            cases e : inB n1 0 7 with
            | false => rfl
            | true => exact absurd (by simp [inB] at e; simp [beB]; omega) hin
          unfold neB; rw [e, Bool.and_false]) w2 HB2.out)
        rw [hf]
        clear hin hf
        go_wp2_with fail
        exact bodyPost_ret (v := .tuple #[.bool false, .bool false]) (by simp [results, Try.results24, go_sem]) rfl HFl.out
    · have hwf : wyB D ls = false := by simpa using hwy
      have HFl := hide (HNo.out (by unfold neB; rw [hwf, Bool.and_false]; rfl) w2 HB2.out)
      rw [hwf]
      clear hwy hwf
      go_wp2_with fail
      exact bodyPost_ret (v := .tuple #[.bool false, .bool false]) (by simp [results, Try.results24, go_sem]) rfl HFl.out
  · have hgf : goodF D F = false := by simpa using hg
    have HFl := hide (HNo.out (by unfold neB; rw [hgf]; rfl) w1 HB1.out)
    rw [hgf]
    clear hg hgf
    go_wp2_with fail
    exact bodyPost_ret (v := .tuple #[.bool false, .bool false]) (by simp [results, Try.results24, go_sem]) rfl HFl.out
end Go.Proofs.Ytaniiolphghhiaa.W
