/-
  What the laws' functions do with rows of nodes: eqNode, eqNodeS, markNodeS, heldNodeS. Conditions: at most 201 nodes, at most 1000 numbers a row.
-/
import Derived.Test.YtmlpnmdckgppnaaCsL
import Derived.Test.YtmlpnmdckgppnaaPaX
namespace Go.Proofs.Ytmlpnmdckgppnaa.W
open Go.ChangeShapes Go.WideShapes Go.ChangeAt Go.RowKit
set_option linter.unusedVariables false
set_option linter.unusedSimpArgs false

set_option maxRecDepth 20000 in
set_option maxHeartbeats 2000000 in
theorem eqNode_any (rl : Int) (p1 p2 n1 n2 : Value) (p q : List Int) (w : World) (hp1 : IV w p1 p) (hp2 : IV w p2 p) (hn1 : IV w n1 q) (hn2 : IV w n2 q) :
    Calls Try.prog 27 #[.agg #[.int .i64 rl, p1, n1], .agg #[.int .i64 rl, p2, n2]] w fun e w' => e = .returned (.bool true) ∧ Below w.heap.size w w' := by
  obtain ⟨a1, c1, rfl, -⟩ := id hp1
  obtain ⟨a2, c2, rfl, -⟩ := id hp2
  obtain ⟨a3, c3, rfl, -⟩ := id hn1
  obtain ⟨a4, c4, rfl, -⟩ := id hn2
  obtain ⟨np, hnp⟩ : ∃ m, m = p.length := ⟨_, rfl⟩
  obtain ⟨nq, hnq⟩ : ∃ m, m = q.length := ⟨_, rfl⟩
  have HP := hide (fun (w' : World) (hb : Below w.heap.size w w') => eqIntS_v _ _ p w' (hp1.below hb) (hp2.below hb))
  have HQ := hide (fun (w' : World) (hb : Below w.heap.size w w') => eqIntS_v _ _ q w' (hn1.below hb) (hn2.below hb))
  rw [← hnp] at HP ⊢
  rw [← hnq] at HQ ⊢
  clear hp1 hp2 hn1 hn2 hnp hnq
  have hX1 := (Bx.new w #[.int .i64 rl, .slice a1 np c1, .slice a3 nq c3] 65).alloc (.cells #[.int .i64 rl, .slice a2 np c2, .slice a4 nq c4] 65)
  have hX2 := Bx.new (w.alloc (.cells #[.int .i64 rl, .slice a1 np c1, .slice a3 nq c3] 65)) #[.int .i64 rl, .slice a2 np c2, .slice a4 nq c4] 65
  rw [show (w.alloc (.cells #[.int .i64 rl, .slice a1 np c1, .slice a3 nq c3] 65)).heap.size = w.heap.size + 1 by simp] at hX2
  have hB0 : Below w.heap.size w ((w.alloc (.cells #[.int .i64 rl, .slice a1 np c1, .slice a3 nq c3] 65)).alloc (.cells #[.int .i64 rl, .slice a2 np c2, .slice a4 nq c4] 65)) := ((Below.refl _ _).alloc (Nat.le_refl _) _).alloc (by simp) _
  go_enter Try.func27, Try.ntmps27
  go_upto_region 1 with fail
  obtain ⟨W, hW⟩ : ∃ W, W = ((w.alloc (.cells #[.int .i64 rl, .slice a1 np c1, .slice a3 nq c3] 65)).alloc (.cells #[.int .i64 rl, .slice a2 np c2, .slice a4 nq c4] 65)) := ⟨_, rfl⟩
  rw [← hW] at hX1 hX2 hB0 ⊢
  obtain ⟨B1, hB1⟩ : ∃ B, B = w.heap.size := ⟨_, rfl⟩
  obtain ⟨B2, hB2⟩ : ∃ B, B = w.heap.size + 1 := ⟨_, rfl⟩
  rw [← hB2] at hX2 ⊢
  rw [← hB1] at hX1 ⊢
  have HX1 := hide hX1
  have HX2 := hide hX2
  have HB0 := hide hB0
  have HB1 := hide hB1
  have x0 := hX1.c 0
  have x1 := hX1.c 1
  have y0 := hX2.c 0
  have y1 := hX2.c 1
  clear hW hB1 hB2 hX1 hX2 hB0
  go_wp2_with fail
  refine Calls.mono (HP.out _ HB0.out) ?_
  rintro e w1 ⟨rfl, hb1⟩
  clear x0 x1 y0 y1
  have hX1 := HX1.out.below hb1 HX1.out.lt
  have hX2 := HX2.out.below hb1 HX2.out.lt
  have HB := hide (HB0.out.trans (hb1.mono HB0.out.size))
  have x0 := hX1.c 2
  have y0 := hX2.c 2
  clear hX1 hX2 hb1 HB0 HX1 HX2
  go_wp2_with fail
  refine Calls.mono (HQ.out _ HB.out) ?_
  rintro e w2 ⟨rfl, hb2⟩
  have HB2 := hide (HB.out.trans (hb2.mono HB.out.size))
  clear hb2 x0 y0
  go_wp2_with fail
  go_ret
  exact ⟨rfl, HB2.out⟩

set_option maxRecDepth 20000 in
set_option maxHeartbeats 2000000 in
theorem eqNodeS_any (b1 b2 n : Nat) (v1 v2 : Value) (xs1 xs2 : List Value) (R : Nat → Int) (C : Nat → List Int) (w : World) (hn : n ≤ 201) (hc : ∀ s, (C s).length ≤ 1000) (h1 : NS b1 w v1 n xs1 R C) (h2 : NS b2 w v2 n xs2 R C) :
    Calls Try.prog 10 #[v1, v2] w fun e w' => e = .returned (.bool true) ∧ Below w.heap.size w w' := by
  obtain ⟨a1, c1, rfl⟩ := own_form h1.own
  obtain ⟨a2, c2, rfl⟩ := own_form h2.own
  have H1 := hide h1
  have H2 := hide h2
  have HC := hide hc
  clear h1 h2 hc
  go_enter Try.func10, Try.ntmps10
  go_wp2_with fail
  go_loopw [5] (fun i w' => ∃ j : Nat, j ≤ n ∧ i = .int .i64 j ∧ Below w.heap.size w w') (fun i _ => n - (intOf i).toNat)
  case atStart => exact ⟨0, by omega, rfl, Below.refl _ _⟩
  case round =>
    obtain ⟨j, hj, rfl, hB⟩ := hrel
    by_cases hlt : j < n
    · have hlt' : (j : Int) < (n : Int) := by omega
      have hj0 : (0 : Int) ≤ (j : Int) := by omega
      obtain ⟨g1, p1, n1, rfl, -, -, q0, q1, q2, -, -, o1, o2⟩ := (H1.out.below hB).at hlt
      obtain ⟨g2, p2, n2, rfl, -, -, r0, r1, r2, -, -, o3, o4⟩ := (H2.out.below hB).at hlt
      have l1 := HC.out (j * 3 + 1)
      have l2 := HC.out (j * 3 + 2)
      have i1 := own_ivN o1 rfl (by omega)
      have i2 := own_ivN o2 rfl (by omega)
      have i3 := own_ivN o3 rfl (by omega)
      have i4 := own_ivN o4 rfl (by omega)
      have HE := hide (fun (w1 : World) (hw : Below wr.heap.size wr w1) => eqNode_any (R j) p1 p2 n1 n2 _ _ w1 (i1.below hw) (i3.below hw) (i2.below hw) (i4.below hw))
      obtain ⟨rl, hrl⟩ : ∃ rl, rl = R j := ⟨_, rfl⟩
      rw [← hrl] at q0 r0 HE
      obtain ⟨u1, d1, rfl⟩ := own_form o1
      obtain ⟨u2, d2, rfl⟩ := own_form o2
      obtain ⟨u3, d3, rfl⟩ := own_form o3
      obtain ⟨u4, d4, rfl⟩ := own_form o4
      obtain ⟨m1, hm1⟩ : ∃ m, m = (C (j * 3 + 1)).length := ⟨_, rfl⟩
      obtain ⟨m2, hm2⟩ : ∃ m, m = (C (j * 3 + 2)).length := ⟨_, rfl⟩
      rw [← hm1] at q1 r1 HE
      rw [← hm2] at q2 r2 HE
      clear i1 i2 i3 i4 o1 o2 o3 o4 l1 l2 hrl hm1 hm2 H1 H2 HC
      go_wp2_with fail
      go_region_with (go_at_call 27; refine Calls.mono (HE.out _ ⟨rfl, rfl, rfl, Nat.le_refl _, fun _ _ => rfl⟩) ?_; rintro e w1 ⟨rfl, hb1⟩)
      all_goals
        have hB1 : Below w.heap.size w w1 := hB.trans ((show Below wr.heap.size wr w1 from ⟨hb1.os, hb1.tape, hb1.output, hb1.size, hb1.block⟩).mono hB.size)
        clear q0 q1 q2 r0 r1 r2 hb1
        go_wp2_with fail
        exact ⟨⟨j + 1, by omega, by go_num, hB1⟩, by simp [intOf]; omega⟩
    · go_wp2_with fail
      go_ret
      exact ⟨rfl, hB⟩

set_option maxRecDepth 20000 in
set_option maxHeartbeats 4000000 in
theorem markNodeS_any (base n k0 : Nat) (v : Value) (xs : List Value) (R : Nat → Int) (C : Nat → List Int) (w : World) (hn : n ≤ 201) (hc : ∀ s, (C s).length ≤ 1000) (hk0 : k0 ≤ 1000) (hb : base ≤ w.heap.size) (h : NS base w v n xs R C) :
    Calls Try.prog 15 #[v, .int .i64 (k0 : Int)] w fun e w' => e = .returned (.int .i64 (kkF C k0 n : Nat)) ∧ (∃ xs' R' C', NS base w' v n xs' R' C' ∧ Mkd R' C' C k0 n) ∧ Below base w w' := by
  obtain ⟨a, c, rfl⟩ := own_form h.own
  have H0 := hide h
  have HC := hide hc
  have HK := hide (kkF_le hc k0)
  clear h hc
  go_enter Try.func15, Try.ntmps15
  go_wp2_with fail
  go_loopw [1, 5] (fun k i w' => ∃ (j : Nat) (xs' : List Value) (R' : Nat → Int) (C' : Nat → List Int), j ≤ n ∧ i = .int .i64 j ∧ k = .int .i64 (kkF C k0 j : Nat) ∧ NS base w' (.slice a n c) n xs' R' C' ∧ (∀ s, (C' s).length = (C s).length) ∧ Mkd R' C' C k0 j ∧ Below base w w') (fun _ i _ => n - (intOf i).toNat)
  case atStart => exact ⟨0, xs, R, C, by omega, rfl, rfl, H0.out, fun _ => rfl, fun i hi => by omega, Below.refl _ _⟩
  case round =>
    clear H0
    obtain ⟨j, xs', R', C', hj, rfl, rfl, hN, hL, hM, hB⟩ := hrel
    have HL := hide hL
    have HM := hide hM
    have HB := hide hB
    have hk1 := HK.out j
    have hk2 : kkF C k0 j ≤ 500000 := by
      have : j * 2001 ≤ 201 * 2001 := Nat.mul_le_mul_right _ (by omega)
      omega
    have Hkk : Hid (kkF C k0 (j + 1) = kkF C k0 j + 1 + (C (j * 3 + 1)).length + (C (j * 3 + 2)).length) := hide rfl
    obtain ⟨K, hK⟩ : ∃ K, K = kkF C k0 j := ⟨_, rfl⟩
    have HKe := hide hK
    rw [← hK] at hk2 Hkk ⊢
    clear hL hM hB hk1 hK
    by_cases hlt : j < n
    · have hlt' : (j : Int) < (n : Int) := by omega
      have hj0 : (0 : Int) ≤ (j : Int) := by omega
      obtain ⟨g, pv, nv, rfl, -, hg, q0, q1, q2, e1, e2, o1, o2⟩ := hN.at hlt
      have hf := hN.own.frozenAt (j * 3)
      have hN1 := hN.setRule hlt (K : Int)
      have hsz := HB.out.size
      have hB1 : Below base w (wr.setCell ⟨g, j * 3, none⟩ (.int .i64 (K : Int))) := HB.out.setCell (p := ⟨g, j * 3, none⟩) hg _
      have HN1 := hide hN1
      have HB1 := hide hB1
      have l1 := HC.out (j * 3 + 1)
      have l2 := HC.out (j * 3 + 2)
      have hl1 := HL.out (j * 3 + 1)
      have hl2 := HL.out (j * 3 + 2)
      have hxl : xs'.length = n * 3 := hN.own.1
      have He1 : Hid ((xs'.set (j * 3) (.int .i64 (K : Int)))[j * 3 + 1]? = some pv) := hide (by rw [List.getElem?_set_ne (by omega)]; exact e1)
      have He2 : Hid ((xs'.set (j * 3) (.int .i64 (K : Int)))[j * 3 + 2]? = some nv) := hide (by rw [List.getElem?_set_ne (by omega)]; exact e2)
      clear hN1 hB1 o1 o2 hN e1 e2 q1 q2
      go_upto_region 5 with fail
      obtain ⟨W1, hW1⟩ : ∃ W1, W1 = wr.setCell ⟨g, j * 3, none⟩ (.int .i64 (K : Int)) := ⟨_, rfl⟩
      rw [← hW1] at HN1 HB1 ⊢
      clear hW1 q0 hf
      obtain ⟨g', pv', nv', eg, -, -, -, q1, q2, e1', e2', o1, o2⟩ := HN1.out.at hlt
      simp only [Option.some.injEq, Addr.mk.injEq, and_true] at eg
      subst eg
      rw [He1.out] at e1'
      rw [He2.out] at e2'
      simp only [Option.some.injEq] at e1' e2'
      subst e1'; subst e2'
      have hC1 := markIntS_ow pv base (K + 1) (C' (j * 3 + 1)) W1 (by omega) (by omega) o1
      rw [hl1] at hC1
      have HC1 := hide hC1
      obtain ⟨p1, hp1⟩ : ∃ m, m = (C (j * 3 + 1)).length := ⟨_, rfl⟩
      have Hp1 := hide hp1
      obtain ⟨u1, d1, rfl⟩ := own_form o1
      rw [hl1, ← hp1] at q1 HC1 He1
      rw [← hp1] at Hkk l1
      clear hC1 o1 o2 q2 hp1
      go_upto_region 6 with fail
      go_wp2_with fail
      refine Calls.mono (by rw [show ((K : Int) + 1) = ((K + 1 : Nat) : Int) by omega]; exact HC1.out) ?_
      clear HC1
      rintro e w2 ⟨rfl, ho1, hg1⟩
      have hN2 := HN1.out.setSlot hlt (.inl rfl) He1.out ho1 hg1
      have HN2 := hide hN2
      have hge1 := own_ge ho1
      have hB2 : Below base w w2 := HB1.out.grown hg1 (by have := HB1.out.size; omega) (fun k hk => hge1 k hk)
      have HB2 := hide hB2
      clear q1 ho1 hg1 hN2 hB2 hge1
      obtain ⟨g', pv', nv', eg, -, -, -, -, q2, e1', e2', o1, o2⟩ := HN2.out.at hlt
      simp only [Option.some.injEq, Addr.mk.injEq, and_true] at eg
      subst eg
      rw [He2.out] at e2'
      simp only [Option.some.injEq] at e2'
      subst e2'
      rw [if_neg (show ¬ (j * 3 + 2 = j * 3 + 1) by omega)] at o2
      have hC2 := markIntS_ow nv base (K + 1 + p1) (C' (j * 3 + 2)) w2 (by omega) (by omega) o2
      rw [hl2] at hC2
      have HC2 := hide hC2
      obtain ⟨p2, hp2⟩ : ∃ m, m = (C (j * 3 + 2)).length := ⟨_, rfl⟩
      have Hp2 := hide hp2
      obtain ⟨u2, d2, rfl⟩ := own_form o2
      rw [hl2, ← hp2] at q2 HC2 He2
      rw [← hp2] at Hkk l2
      clear hC2 o1 o2 e1' hp2
      go_wp2_with fail
      refine Calls.mono HC2.out ?_
      clear HC2
      rintro e w3 ⟨rfl, ho2, hg2⟩
      have hN3 := HN2.out.setSlot hlt (.inr rfl) He2.out ho2 hg2
      have HN3 := hide hN3
      have hge2 := own_ge ho2
      have hB3 : Below base w w3 := HB2.out.grown hg2 (by have := HB2.out.size; omega) (fun k hk => hge2 k hk)
      have HB3 := hide hB3
      have HL3 : Hid (∀ s, (if s = j * 3 + 2 then mkL (K + 1 + p1) p2 else if s = j * 3 + 1 then mkL (K + 1) p1 else C' s).length = (C s).length) := hide (fun s => by
        split
        · rename_i e; rw [mkL_len, e, Hp2.out]
        · split
          · rename_i e; rw [mkL_len, e, Hp1.out]
          · exact HL.out s)
      have HM3 : Hid (Mkd (fun i => if i = j then (K : Int) else R' i) (fun s => if s = j * 3 + 2 then mkL (K + 1 + p1) p2 else if s = j * 3 + 1 then mkL (K + 1) p1 else C' s) C k0 (j + 1)) := hide (fun i hi => by
        by_cases e : i = j
        · subst e
          refine ⟨by show (if i = i then (K : Int) else R' i) = _; rw [if_pos rfl, HKe.out], ?_, ?_⟩
          · show (if i * 3 + 1 = i * 3 + 2 then _ else if i * 3 + 1 = i * 3 + 1 then _ else _) = _
            rw [if_neg (by omega), if_pos rfl, HKe.out, Hp1.out]
          · show (if i * 3 + 2 = i * 3 + 2 then _ else _) = _
            rw [if_pos rfl, HKe.out, Hp2.out, Hp1.out]
        · obtain ⟨h1, h2, h3⟩ := HM.out i (by omega)
          refine ⟨by show (if i = j then (K : Int) else R' i) = _; rw [if_neg e]; exact h1, ?_, ?_⟩
          · show (if i * 3 + 1 = j * 3 + 2 then _ else if i * 3 + 1 = j * 3 + 1 then _ else _) = _
            rw [if_neg (by omega), if_neg (by omega)]; exact h2
          · show (if i * 3 + 2 = j * 3 + 2 then _ else if i * 3 + 2 = j * 3 + 1 then _ else _) = _
            rw [if_neg (by omega), if_neg (by omega)]; exact h3)
      clear q2 ho2 hg2 hN3 hB3 hge2
      go_wp2_with fail
      exact ⟨⟨j + 1, _, _, _, by omega, by go_num, by rw [Hkk.out]; go_num, HN3.out, HL3.out, HM3.out, HB3.out⟩, by simp [intOf]; omega⟩
    · have hjn : j = n := by omega
      subst hjn
      go_wp2_with fail
      go_ret
      exact ⟨by rw [← HKe.out]; rfl, ⟨xs', R', C', hN, HM.out⟩, HB.out⟩

set_option maxRecDepth 20000 in
set_option maxHeartbeats 4000000 in
theorem heldNodeS_any (base n k0 : Nat) (v : Value) (xs : List Value) (R R0 : Nat → Int) (C C0 : Nat → List Int) (w : World) (hn : n ≤ 201) (hc : ∀ s, (C0 s).length ≤ 1000) (hk0 : k0 ≤ 1000) (h : NS base w v n xs R C) (hm : Mkd R C C0 k0 n) :
    Calls Try.prog 16 #[v, .int .i64 (k0 : Int)] w fun e w' => e = .returned (.int .i64 (kkF C0 k0 n : Nat)) ∧ Below w.heap.size w w' := by
  obtain ⟨a, c, rfl⟩ := own_form h.own
  have H0 := hide h
  have HC := hide hc
  have HM := hide hm
  have HK := hide (kkF_le hc k0)
  clear h hc hm
  go_enter Try.func16, Try.ntmps16
  go_wp2_with fail
  go_loopw [1, 5] (fun k i w' => ∃ (j : Nat), j ≤ n ∧ i = .int .i64 j ∧ k = .int .i64 (kkF C0 k0 j : Nat) ∧ Below w.heap.size w w') (fun _ i _ => n - (intOf i).toNat)
  case atStart => exact ⟨0, by omega, rfl, rfl, Below.refl _ _⟩
  case round =>
    obtain ⟨j, hj, rfl, rfl, hB⟩ := hrel
    have HB := hide hB
    have hk1 := HK.out j
    have hk2 : kkF C0 k0 j ≤ 500000 := by
      have : j * 2001 ≤ 201 * 2001 := Nat.mul_le_mul_right _ (by omega)
      omega
    have Hkk : Hid (kkF C0 k0 (j + 1) = kkF C0 k0 j + 1 + (C0 (j * 3 + 1)).length + (C0 (j * 3 + 2)).length) := hide rfl
    obtain ⟨K, hK⟩ : ∃ K, K = kkF C0 k0 j := ⟨_, rfl⟩
    have HKe := hide hK
    rw [← hK] at hk2 Hkk ⊢
    clear hB hk1 hK
    by_cases hlt : j < n
    · have hlt' : (j : Int) < (n : Int) := by omega
      have hj0 : (0 : Int) ≤ (j : Int) := by omega
      obtain ⟨m1, m2, m3⟩ := HM.out j hlt
      rw [← HKe.out] at m1 m2 m3
      obtain ⟨g, pv, nv, rfl, -, -, q0, q1, q2, -, -, o1, o2⟩ := (H0.out.below HB.out).at hlt
      rw [m1] at q0
      rw [m2] at o1
      rw [m3] at o2
      have l1 := HC.out (j * 3 + 1)
      have l2 := HC.out (j * 3 + 2)
      obtain ⟨p1, hp1⟩ : ∃ m, m = (C0 (j * 3 + 1)).length := ⟨_, rfl⟩
      obtain ⟨p2, hp2⟩ : ∃ m, m = (C0 (j * 3 + 2)).length := ⟨_, rfl⟩
      rw [← hp1] at o1 o2 l1 Hkk
      rw [← hp2] at o2 l2 Hkk
      have HC1 := hide (heldIntS_ow pv base (K + 1) p1 wr (by omega) (by omega) o1)
      have HC2 := hide (fun (w' : World) (hb : Below wr.heap.size wr w') => heldIntS_ow nv base (K + 1 + p1) p2 w' (by omega) (by omega) (own_keep o2 (fun k _ hk => hb.block k hk)))
      obtain ⟨u1, d1, e1⟩ := own_form o1
      obtain ⟨u2, d2, e2⟩ := own_form o2
      rw [mkL_len] at e1 e2
      subst e1; subst e2
      have hgl : g < w.heap.size := by
        rcases H0.out.own.2 with ⟨-, e⟩ | ⟨g', cap, cur, e, -, hh, -⟩
        · omega
        · simp only [Value.slice.injEq, Option.some.injEq, Addr.mk.injEq, and_true, true_and] at e
          obtain ⟨rfl, -⟩ := e
          exact (Array.getElem?_eq_some_iff.1 hh).1
      have hgl2 : g < wr.heap.size := by have := HB.out.size; omega
      have hk3 : ¬ ((K : Int) + 1 + (p1 : Int) < 0) := by omega
      clear o1 o2 m1 m2 m3 hp1 hp2
      go_upto_region 7 with fail
      go_wp2_with fail
      refine Calls.mono (by rw [show ((K : Int) + 1) = ((K + 1 : Nat) : Int) by omega]; exact HC1.out) ?_
      clear HC1
      rintro e w1 ⟨rfl, hb1⟩
      have q2' := (hb1.cell (p := ⟨g, j * 3 + 2, none⟩) hgl2).trans q2
      have HB1 := hide (HB.out.trans (hb1.mono HB.out.size))
      have HC3 := hide (HC2.out w1 hb1)
      clear HC2 q0 q1 q2 hb1
      go_upto_region 10 with fail
      go_wp2_with fail
      refine Calls.mono HC3.out ?_
      clear HC3 q2'
      rintro e w2 ⟨rfl, hb2⟩
      have HB2 := hide (HB1.out.trans (hb2.mono HB1.out.size))
      clear hb2
      go_wp2_with fail
      exact ⟨⟨j + 1, by omega, by go_num, by rw [Hkk.out]; go_num, HB2.out⟩, by simp [intOf]; omega⟩
    · have hjn : j = n := by omega
      subst hjn
      go_wp2_with fail
      go_ret
      exact ⟨by rw [← HKe.out]; rfl, HB.out⟩
end Go.Proofs.Ytmlpnmdckgppnaa.W
