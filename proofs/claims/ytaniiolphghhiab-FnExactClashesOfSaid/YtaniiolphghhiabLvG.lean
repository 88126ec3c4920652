/-
  Both GoodFlow, and l12Names. Conditions: none but those that each theorem states. Written by wip/build/mk_lvg.py.
-/
import Derived.Test.YtaniiolphghhiabGrG
import Derived.Test.YtaniiolphghhiabLvF
namespace Go.Proofs.Ytaniiolphghhiab.W
open Go.ChangeShapes Go.WideShapes Go.ChangeAt Go.RowKit Go.Joins
set_option linter.unusedVariables false
set_option linter.unusedSimpArgs false

set_option maxHeartbeats 2000000 in
theorem l12Names_any (ad : Option Addr) (c : Nat) (l : List Int) (w : World) (h : IRow w ad l) (hl : l.length ≤ 1048576) :
    Calls Try.prog 35 #[.slice ad l.length c] w fun e w' => e = .returned (.bool (risB l 8)) ∧ w' = w := by
  have HR := hide h
  clear h
  obtain ⟨G, hG⟩ : ∃ G, G = risB l 8 := ⟨_, rfl⟩
  rw [← hG]
  have HG := hide hG
  clear hG
  go_enter Try.func35, Try.ntmps35
  go_wp2_with fail
  go_loopw [7] (fun i w' => ∃ j : Nat, j ≤ l.length ∧ i = .int .i64 j ∧ (∀ q, q < j → RisAt l 8 q) ∧ w' = w) (fun i _ => l.length - (intOf i).toNat)
  case atStart => exact ⟨0, by omega, rfl, by intros; omega, rfl⟩
  case round =>
    obtain ⟨j, hj, rfl, hall, rfl⟩ := hrel
    have HA := hide hall
    clear hall
    by_cases hlt : j < l.length
    · have hlt' : (j : Int) < (l.length : Int) := by omega
      obtain ⟨b, o, rfl, hb, p0⟩ := IRow.iat HR.out (Below.refl _ _) hlt
      obtain ⟨x, hx⟩ : ∃ x, x = l[j] := ⟨_, rfl⟩
      rw [← hx] at p0
      have HX := hide hx
      clear hx
      by_cases hbe : inB x 0 7 = true
      · have hbe2 : 0 ≤ x ∧ x < ((8 : Nat) : Int) := by simp [inB] at hbe; omega
        by_cases hj0 : 0 < j
        · have hj0' : (0 : Int) < (j : Int) := by omega
          obtain ⟨b', o', e', hb', p1⟩ := IRow.iat HR.out (Below.refl _ _) (show j - 1 < l.length by omega)
          simp only [Option.some.injEq, Addr.mk.injEq, and_true] at e'
          obtain ⟨rfl, rfl⟩ := e'
          obtain ⟨y, hy⟩ : ∃ y, y = l[j - 1] := ⟨_, rfl⟩
          rw [← hy] at p1
          have HY := hide hy
          clear hy
          obtain ⟨i, rfl⟩ : ∃ i, j = i + 1 := ⟨j - 1, by omega⟩
          simp only [Nat.add_sub_cancel] at p1
          by_cases hyx : y < x
          · have hyx' : ¬ x ≤ y := by omega
            have HA2 : Hid (∀ q, q < i + 1 + 1 → RisAt l 8 q) := hide (fun q hq => by
              by_cases e : q = i + 1
              · subst e
                intro hh
                exact ⟨HX.out ▸ hbe2.1, HX.out ▸ hbe2.2, fun _ => by rw [← HY.out, ← HX.out]; exact hyx⟩
              · exact HA.out q (by omega))
            clear hbe2
            go_wp2_with fail
            refine Calls.mono (l1In_any x 0 7 _) ?_
            rintro e w1 ⟨rfl, hw⟩
            obtain rfl := hw.symm
            rw [hbe]
            go_wp2_with fail
            exact ⟨⟨i + 1 + 1, by omega, by go_num, HA2.out, trivial⟩, by simp [intOf]; omega⟩
          · have hyx' : x ≤ y := by omega
            have HF : Hid (G = false) := hide (by
              rw [HG.out]
              refine risB_no (fun h => ?_)
              have := (h (i + 1) hlt).2.2 (by omega)
              rw [← HX.out] at this
              have e := HY.out
              simp only [Nat.add_sub_cancel] at this e
              omega)
            clear hbe2
            go_wp2_with fail
            refine Calls.mono (l1In_any x 0 7 _) ?_
            rintro e w1 ⟨rfl, hw⟩
            obtain rfl := hw.symm
            rw [hbe]
            go_wp2_with fail
            go_ret
            exact ⟨ret_bool HF.out.symm, rfl⟩
        · have hj0' : ¬ (0 : Int) < (j : Int) := by omega
          have HA2 : Hid (∀ q, q < j + 1 → RisAt l 8 q) := hide (fun q hq => by
            obtain rfl : q = j := by omega
            intro hh
            exact ⟨HX.out ▸ hbe2.1, HX.out ▸ hbe2.2, fun h0 => by omega⟩)
          clear hbe2
          go_wp2_with fail
          refine Calls.mono (l1In_any x 0 7 _) ?_
          rintro e w1 ⟨rfl, hw⟩
          obtain rfl := hw.symm
          rw [hbe]
          go_wp2_with fail
          exact ⟨⟨j + 1, by omega, by go_num, HA2.out, trivial⟩, by simp [intOf]; omega⟩
      · have hbf : inB x 0 7 = false := by simpa using hbe
        have HF : Hid (G = false) := hide (by
          rw [HG.out]
          refine risB_no (fun h => hbe ?_)
          have := h j hlt
          rw [← HX.out] at this
          have h1 := this.1; have h2 := this.2.1; simp [inB]; omega)
        clear hbe
        go_wp2_with fail
        refine Calls.mono (l1In_any x 0 7 _) ?_
        rintro e w1 ⟨rfl, hw⟩
        obtain rfl := hw.symm
        rw [hbf]
        go_wp2_with fail
        go_ret
        exact ⟨ret_bool HF.out.symm, rfl⟩
    · have HF : Hid (G = true) := hide (by rw [HG.out]; exact risB_iff.2 (RisAt.all (fun i hi => HA.out i (by omega))))
      go_wp2_with fail
      go_ret
      exact ⟨ret_bool HF.out.symm, rfl⟩

open Classical in
noncomputable def goodF (D F : List (List Int)) : Bool := decide (GF D F)
theorem goodF_iff {D F : List (List Int)} : goodF D F = true ↔ GF D F := by simp [goodF]
theorem goodF_no {D F : List (List Int)} (h : ¬ GF D F) : goodF D F = false := by simp [goodF, h]
theorem goodF_all {D F : List (List Int)} {n : Nat} (hF : F.length = 2 * n) (h : ∀ q, q < n → RisL (fu F q) 8 ∧ RisL (fs F q) 8) : GF D F ↔ GG D ∧ n = D.length := by
  constructor
  · intro hg; exact ⟨hg.1, by have := hg.2.1; omega⟩
  · rintro ⟨h1, h2⟩
    refine ⟨h1, by omega, fun i hi => ?_⟩
    rcases Nat.mod_two_eq_zero_or_one i with e | e
    · have := (h (i / 2) (by omega)).1
      unfold fu at this
      rwa [show 2 * (i / 2) = i by omega, row_at hi] at this
    · have := (h (i / 2) (by omega)).2
      unfold fs at this
      rwa [show 2 * (i / 2) + 1 = i by omega, row_at hi] at this
theorem goodF_bad {D F : List (List Int)} {n q : Nat} (hF : F.length = 2 * n) (hq : q < n) (h : ¬ (RisL (fu F q) 8 ∧ RisL (fs F q) 8)) : goodF D F = false := goodF_no (fun hg => h (by
  have h0 := hg.2.2 (2 * q) (by omega)
  have h1 := hg.2.2 (2 * q + 1) (by omega)
  rw [← row_at (by omega)] at h0 h1
  exact ⟨h0, h1⟩))

set_option maxHeartbeats 4000000 in
theorem implGoodF_any (v : Value) (D : List (List Int)) (n : Nat) (F : List (List Int)) (w : World) (h : FRow w v D n F) :
    Calls Try.prog 20 #[v] w fun e w' => e = .returned (.bool (goodF D F)) ∧ Below w.heap.size w w' := by
  obtain ⟨ad, c, bd, bc, rfl, hR, hq, hlc, hRF, hsm, hbc, hF⟩ := h
  obtain ⟨G, hG⟩ : ∃ G, G = goodF D F := ⟨_, rfl⟩
  rw [← hG]
  have HG := hide hG
  have HGr := hide (fun (w' : World) (hb : Below w.heap.size w w') => implGoodG_any (.agg #[.slice ad D.length c]) D w' ⟨ad, c, rfl, hR.below hb, hq, hlc⟩)
  have HR := hide hRF
  have HF := hide hF
  have H6 := hide (fun k => row_sm (m := 1048576) hsm.2 k)
  have hn := hsm.1
  have hB0 : Below w.heap.size w (w.alloc (.cells #[.slice ad D.length c, .slice bd n bc] 34)) := (Below.refl _ _).alloc (Nat.le_refl _) _
  have HX := hide (Bx.new w #[.slice ad D.length c, .slice bd n bc] 34)
  obtain ⟨nd, hnd⟩ : ∃ nd, nd = D.length := ⟨_, rfl⟩
  rw [← hnd] at HX hB0 HGr
  rw [← hnd]
  have HND := hide hnd
  clear hR hRF hq hlc hsm hF hbc hG hnd
  go_enter Try.func20, Try.ntmps20
  go_upto_region 1 with fail
  obtain ⟨W1, hW1⟩ : ∃ W1, W1 = w.alloc (.cells #[.slice ad nd c, .slice bd n bc] 34) := ⟨_, rfl⟩
  obtain ⟨X, hX⟩ : ∃ X, X = w.heap.size := ⟨_, rfl⟩
  rw [← hW1] at HX hB0 ⊢
  rw [← hX] at HX ⊢
  clear hW1 hX
  have cX := HX.out.c
  go_wp2_with fail
  refine Calls.mono (HGr.out _ hB0) ?_
  rintro e w1 ⟨rfl, hb⟩
  have HB1 := hide (hB0.trans (hb.mono hB0.size))
  have HX1 := hide (HX.out.below hb HX.out.lt)
  clear cX hb HGr hB0 HX
  have cX := HX1.out.c
  by_cases hg : goodG D = true
  · have HGG := hide (goodG_iff.1 hg)
    rw [hg]
    clear hg
    by_cases hnn : n = nd
    · have hnn' : ((n : Int) != (nd : Int)) = false := by subst hnn; simp
      have HNN := hide hnn
      clear hnn
      go_wp2_with fail
      clear cX hnn'
      go_loopw [22] (fun i w' => ∃ j : Nat, j ≤ n ∧ i = .int .i64 j ∧ (∀ q, q < j → RisL (fu F q) 8 ∧ RisL (fs F q) 8) ∧ Below w.heap.size w w') (fun i _ => n - (intOf i).toNat)
      case atStart => exact ⟨0, by omega, rfl, by intros; omega, HB1.out⟩
      case round =>
        clear HB1 HX1
        obtain ⟨j, hj, rfl, hA, hB⟩ := hrel
        have HA := hide hA
        have HB := hide hB
        clear hA hB
        by_cases hlt : j < n
        · have hlt' : (j : Int) < (n : Int) := by omega
          obtain ⟨b, o, a0, c0, a1, c1, rfl, hb0, p0, p1, r0, r1, -, -⟩ := QRow.two HR.out HB.out HF.out hlt
          have HC0 := hide (fun (w' : World) (hb : Below wr.heap.size wr w') => isRising_any a0 c0 8 (fu F j) w' (RRow.below r0 hb) (H6.out _) (by omega))
          have HC1 := hide (fun (w' : World) (hb : Below wr.heap.size wr w') => isRising_any a1 c1 8 (fs F j) w' (RRow.below r1 hb) (H6.out _) (by omega))
          obtain ⟨m0, hm0⟩ : ∃ m0, m0 = (fu F j).length := ⟨_, rfl⟩
          obtain ⟨m1, hm1⟩ : ∃ m1, m1 = (fs F j).length := ⟨_, rfl⟩
          rw [← hm0] at p0 HC0
          rw [← hm1] at p1 HC1
          have hb4 : Below wr.heap.size wr (wr.alloc (.cells #[.slice a0 m0 c0, .slice a1 m1 c1] 64)) := (Below.refl _ _).alloc (Nat.le_refl _) _
          have HB4 := hide (HB.out.trans (hb4.mono HB.out.size))
          have Hb4 := hide hb4
          clear r0 r1 hm0 hm1 hb4
          go_wp2_with fail
          refine Calls.mono (HC0.out _ Hb4.out) ?_
          rintro e w2 ⟨rfl, hw⟩
          obtain rfl := hw.symm
          by_cases h0 : risB (fu F j) 8 = true
          · rw [h0]
            have H0 := hide (risB_iff.1 h0)
            clear h0
            go_wp2_with fail
            refine Calls.mono (HC1.out _ Hb4.out) ?_
            rintro e w2 ⟨rfl, hw⟩
            obtain rfl := hw.symm
            by_cases h1 : risB (fs F j) 8 = true
            · rw [h1]
              have H1 := hide (risB_iff.1 h1)
              clear h1
              have HA2 : Hid (∀ q, q < j + 1 → RisL (fu F q) 8 ∧ RisL (fs F q) 8) := hide (fun q hq => by
                by_cases e : q = j
                · subst e; exact ⟨H0.out, H1.out⟩
                · exact HA.out q (by omega))
              clear HC0 HC1 p0 p1
              go_wp2_with fail
              exact ⟨⟨j + 1, by omega, by go_num, HA2.out, HB4.out⟩, by simp [intOf]; omega⟩
            · have hf1 : risB (fs F j) 8 = false := by simpa using h1
              have HFl : Hid (G = false) := hide (by rw [HG.out]; exact goodF_bad HF.out hlt (fun h => h1 (risB_iff.2 h.2)))
              rw [hf1]
              clear h1 hf1 HC0 HC1 p0 p1
              go_wp2_with fail
              go_ret
              exact ⟨ret_bool HFl.out.symm, HB4.out⟩
          · have hf0 : risB (fu F j) 8 = false := by simpa using h0
            have HFl : Hid (G = false) := hide (by rw [HG.out]; exact goodF_bad HF.out hlt (fun h => h0 (risB_iff.2 h.1)))
            rw [hf0]
            clear h0 hf0 HC0 HC1 p0 p1
            go_wp2_with fail
            go_ret
            exact ⟨ret_bool HFl.out.symm, HB4.out⟩
        · have HFl : Hid (G = true) := hide (by rw [HG.out]; exact goodF_iff.2 ((goodF_all HF.out (fun q hq => HA.out q (by omega))).2 ⟨HGG.out, by rw [HNN.out, HND.out]⟩))
          go_wp2_with fail
          go_ret
          exact ⟨ret_bool HFl.out.symm, HB.out⟩
    · have hnn' : ((n : Int) != (nd : Int)) = true := by simp; omega
      have HFl : Hid (G = false) := hide (by rw [HG.out]; exact goodF_no (fun h => hnn (by have := h.2.1; have := HF.out; have := HND.out; omega)))
      clear hnn
      go_wp2_with fail
      go_ret
      exact ⟨ret_bool HFl.out.symm, HB1.out⟩
  · have hgf : goodG D = false := by simpa using hg
    have HFl : Hid (G = false) := hide (by rw [HG.out]; exact goodF_no (fun h => hg (goodG_iff.2 h.1)))
    rw [hgf]
    clear hg hgf
    go_wp2_with fail
    go_ret
    exact ⟨ret_bool HFl.out.symm, HB1.out⟩

set_option maxHeartbeats 4000000 in
theorem specGoodF_any (v : Value) (D : List (List Int)) (n : Nat) (F : List (List Int)) (w : World) (h : FRow w v D n F) :
    Calls Try.prog 15 #[v] w fun e w' => e = .returned (.bool (goodF D F)) ∧ Below w.heap.size w w' := by
  obtain ⟨ad, c, bd, bc, rfl, hR, hq, hlc, hRF, hsm, hbc, hF⟩ := h
  obtain ⟨G, hG⟩ : ∃ G, G = goodF D F := ⟨_, rfl⟩
  rw [← hG]
  have HG := hide hG
  have HGr := hide (fun (w' : World) (hb : Below w.heap.size w w') => specGoodG_any (.agg #[.slice ad D.length c]) D w' ⟨ad, c, rfl, hR.below hb, hq, hlc⟩)
  have HR := hide hRF
  have HF := hide hF
  have H6 := hide (fun k => row_sm (m := 1048576) hsm.2 k)
  have hn := hsm.1
  have hB0 : Below w.heap.size w (w.alloc (.cells #[.slice ad D.length c, .slice bd n bc] 34)) := (Below.refl _ _).alloc (Nat.le_refl _) _
  have HX := hide (Bx.new w #[.slice ad D.length c, .slice bd n bc] 34)
  have hqn := hq.1
  obtain ⟨nd, hnd⟩ : ∃ nd, nd = D.length := ⟨_, rfl⟩
  rw [← hnd] at HX hB0 HGr hqn
  rw [← hnd]
  have HND := hide hnd
  clear hR hRF hq hlc hsm hF hbc hG hnd
  go_enter Try.func15, Try.ntmps15
  go_upto_region 1 with fail
  obtain ⟨W1, hW1⟩ : ∃ W1, W1 = w.alloc (.cells #[.slice ad nd c, .slice bd n bc] 34) := ⟨_, rfl⟩
  obtain ⟨X, hX⟩ : ∃ X, X = w.heap.size := ⟨_, rfl⟩
  rw [← hW1] at HX hB0 ⊢
  rw [← hX] at HX ⊢
  clear hW1 hX
  have HB1 := hide hB0
  have cX := HX.out.c
  go_wp2_with fail
  clear cX hB0
  go_loopw [8] (fun i w' => ∃ j : Nat, j ≤ n ∧ i = .int .i64 j ∧ (∀ q, q < j → RisL (fu F q) 8 ∧ RisL (fs F q) 8) ∧ Bx w' X #[.slice ad nd c, .slice bd n bc] 34 ∧ Below w.heap.size w w') (fun i _ => n - (intOf i).toNat)
  case atStart => exact ⟨0, by omega, rfl, by intros; omega, HX.out, HB1.out⟩
  case round =>
    clear HB1 HX
    obtain ⟨j, hj, rfl, hA, hx, hB⟩ := hrel
    have HA := hide hA
    have HB := hide hB
    have HX := hide hx
    clear hA hB hx
    by_cases hlt : j < n
    · have hlt' : (j : Int) < (n : Int) := by omega
      obtain ⟨b, o, a0, c0, a1, c1, rfl, hb0, p0, p1, r0, r1, -, -⟩ := QRow.two HR.out HB.out HF.out hlt
      have HC0 := hide (fun (w' : World) (hb : Below wr.heap.size wr w') => l12Names_any a0 c0 (fu F j) w' (RRow.below r0 hb) (H6.out _))
      have HC1 := hide (fun (w' : World) (hb : Below wr.heap.size wr w') => l12Names_any a1 c1 (fs F j) w' (RRow.below r1 hb) (H6.out _))
      obtain ⟨m0, hm0⟩ : ∃ m0, m0 = (fu F j).length := ⟨_, rfl⟩
      obtain ⟨m1, hm1⟩ : ∃ m1, m1 = (fs F j).length := ⟨_, rfl⟩
      rw [← hm0] at p0 HC0
      rw [← hm1] at p1 HC1
      have hb4 : Below wr.heap.size wr (wr.alloc (.cells #[.slice a0 m0 c0, .slice a1 m1 c1] 64)) := (Below.refl _ _).alloc (Nat.le_refl _) _
      have HB4 := hide (HB.out.trans (hb4.mono HB.out.size))
      have HX4 := hide (HX.out.alloc (.cells #[.slice a0 m0 c0, .slice a1 m1 c1] 64))
      have Hb4 := hide hb4
      clear r0 r1 hm0 hm1 hb4
      go_wp2_with fail
      refine Calls.mono (HC0.out _ Hb4.out) ?_
      rintro e w2 ⟨rfl, hw⟩
      obtain rfl := hw.symm
      by_cases h0 : risB (fu F j) 8 = true
      · rw [h0]
        have H0 := hide (risB_iff.1 h0)
        clear h0
        go_wp2_with fail
        refine Calls.mono (HC1.out _ Hb4.out) ?_
        rintro e w2 ⟨rfl, hw⟩
        obtain rfl := hw.symm
        by_cases h1 : risB (fs F j) 8 = true
        · rw [h1]
          have H1 := hide (risB_iff.1 h1)
          clear h1
          have HA2 : Hid (∀ q, q < j + 1 → RisL (fu F q) 8 ∧ RisL (fs F q) 8) := hide (fun q hq => by
            by_cases e : q = j
            · subst e; exact ⟨H0.out, H1.out⟩
            · exact HA.out q (by omega))
          clear HC0 HC1 p0 p1
          go_wp2_with fail
          exact ⟨⟨j + 1, by omega, by go_num, HA2.out, HX4.out, HB4.out⟩, by simp [intOf]; omega⟩
        · have hf1 : risB (fs F j) 8 = false := by simpa using h1
          have HFl : Hid (G = false) := hide (by rw [HG.out]; exact goodF_bad HF.out hlt (fun h => h1 (risB_iff.2 h.2)))
          rw [hf1]
          clear h1 hf1 HC0 HC1 p0 p1
          go_wp2_with fail
          go_ret
          exact ⟨ret_bool HFl.out.symm, HB4.out⟩
      · have hf0 : risB (fu F j) 8 = false := by simpa using h0
        have HFl : Hid (G = false) := hide (by rw [HG.out]; exact goodF_bad HF.out hlt (fun h => h0 (risB_iff.2 h.1)))
        rw [hf0]
        clear h0 hf0 HC0 HC1 p0 p1
        go_wp2_with fail
        go_ret
        exact ⟨ret_bool HFl.out.symm, HB4.out⟩
    · have HFl : Hid (G = (goodG D && decide (n = nd))) := hide (by
        rw [HG.out, Bool.eq_iff_iff, goodF_iff, Bool.and_eq_true, goodG_iff, decide_eq_true_eq, HND.out]
        exact goodF_all HF.out (fun q hq => HA.out q (by omega)))
      have cX := HX.out.c
      go_wp2_with fail
      refine Calls.mono (HGr.out _ HB.out) ?_
      rintro e w1 ⟨rfl, hb⟩
      have HB2 := hide (HB.out.trans (hb.mono HB.out.size))
      have HX2 := hide (HX.out.below hb HX.out.lt)
      clear cX hb HGr
      have cX := HX2.out.c
      obtain ⟨g, hg⟩ : ∃ g, g = goodG D := ⟨_, rfl⟩
      rw [← hg] at HFl ⊢
      clear hg
      cases g with
      | true =>
        by_cases hnn : n = nd
        · have hnn' : ((n : Int) == (nd : Int)) = true := by subst hnn; simp
          have HFl2 : Hid (G = true) := hide (by rw [HFl.out]; simpa using hnn)
          clear hnn HFl
          go_wp2_with fail
          go_ret
          exact ⟨ret_bool HFl2.out.symm, HB2.out⟩
        · have hnn' : ((n : Int) == (nd : Int)) = false := by simp; omega
          have HFl2 : Hid (G = false) := hide (by rw [HFl.out]; simpa using hnn)
          clear hnn HFl
          go_wp2_with fail
          go_ret
          exact ⟨ret_bool HFl2.out.symm, HB2.out⟩
      | false =>
        have HFl2 : Hid (G = false) := hide (by rw [HFl.out]; rfl)
        clear HFl
        go_wp2_with fail
        go_ret
        exact ⟨ret_bool HFl2.out.symm, HB2.out⟩
end Go.Proofs.Ytaniiolphghhiab.W
