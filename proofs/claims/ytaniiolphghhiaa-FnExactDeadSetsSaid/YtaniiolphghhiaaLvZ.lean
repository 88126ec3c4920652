/-
  The specification's DeadSets. Conditions: none but those that each theorem states.
-/
import Derived.Test.YtaniiolphghhiaaLvU
namespace Go.Proofs.Ytaniiolphghhiaa.W
open Go.ChangeShapes Go.WideShapes Go.ChangeAt Go.RowKit Go.Joins
set_option linter.unusedVariables false
set_option linter.unusedSimpArgs false
set_option maxRecDepth 20000

/-- Those of the first i that are not of o. -/
def wm (ss o : List Int) (i : Nat) : List Int := (ss.take i).filter fun x => !o.contains x
theorem wm_put (ss o : List Int) (i : Nat) (h : i < ss.length) (hn : ss[i] ∉ o) : wm ss o (i + 1) = wm ss o i ++ [ss[i]] := by
  unfold wm
  rw [List.take_add_one, List.getElem?_eq_getElem h, List.filter_append]
  simp [hn]
theorem wm_skip (ss o : List Int) (i : Nat) (h : i < ss.length) (hn : ss[i] ∈ o) : wm ss o (i + 1) = wm ss o i := by
  unfold wm
  rw [List.take_add_one, List.getElem?_eq_getElem h, List.filter_append]
  simp [hn]
theorem wm_len (ss o : List Int) (i : Nat) : (wm ss o i).length ≤ ss.length := by
  unfold wm
  exact Nat.le_trans (List.length_filter_le _ _) (by rw [List.length_take]; omega)
theorem wm_all {ss o : List Int} (h : R8 ss) : wm ss o ss.length = woL ss o := by unfold wm; rw [List.take_length, woL_filter h]
theorem deL_len (D F : List (List Int)) : (deL D F).length = D.length := by simp [deL]
theorem deL_take {D F : List (List Int)} {k : Nat} (h : k < D.length) : (deL D F).take (k + 1) = (deL D F).take k ++ [woL (fs F k) (ou D (lvR D F) k)] := by
  rw [List.take_add_one, List.getElem?_eq_getElem (by rw [deL_len]; exact h)]
  simp [deL]
theorem oneI_pt {w : World} {g : Nat} {x : Int} (h : Bx w g #[.int .i64 x] 3) : PtI w (.slice (some ⟨g, 0, none⟩) 1 1) 1 (ic [x]) := .inr ⟨_, _, rfl, rfl, fun q y hy => by
  obtain rfl : q = 0 := by have := (List.getElem?_eq_some_iff.1 hy).1; simp [ic] at this; omega
  rw [Addr.add_lit, h.c]
  simpa [ic] using hy, ic_one _⟩

set_option maxHeartbeats 16000000 in
theorem specDead_any (v : Value) (D : List (List Int)) (n : Nat) (F : List (List Int)) (w : World) (h : FRow w v D n F) :
    Calls Try.prog 26 #[v] w fun e w' => ∃ v', e = .returned (.tuple #[v', .bool (goodF D F)]) ∧ QV w' v' (deR D F) ∧ Below w.heap.size w w' := by
  have HGf := hide (fun (w' : World) (hb : Below w.heap.size w w') => specGoodF_any v D n F w' (h.below hb))
  have HLi := hide (fun (w' : World) (hb : Below w.heap.size w w') (hf : GF D F) => l12Live_any v D n F w' (h.below hb) hf)
  have HOu := hide (fun (Z k : Nat) (w' : World) (hb : Below w.heap.size w w') (hf : GF D F) (hQ : QSI w' Z (lvR D F)) (hk : k < D.length) => l12Out_any v (.slice (some ⟨Z, 0, none⟩) (lvR D F).length (lvR D F).length) D n F (lvR D F) k w' (h.below hb) hf.1 (hQ.qv (lvR_sm hf)) (lvR_len D F) (lvR_r8 D F) hk)
  rw [lvR_len] at HOu
  obtain ⟨ad, c, bd, bc, rfl, -, -, -, hRF, -, -, hF2⟩ := h
  have HRF := hide hRF
  clear hRF
  obtain ⟨nd, hnd⟩ : ∃ nd, nd = D.length := ⟨_, rfl⟩
  have hB0 : Below w.heap.size w (w.alloc (.cells #[.slice ad D.length c, .slice bd n bc] 33)) := (Below.refl _ _).alloc (Nat.le_refl _) _
  have HX := hide (Bx.new w #[.slice ad D.length c, .slice bd n bc] 33)
  rw [← hnd] at HX hB0 HGf HLi HOu ⊢
  have HND := hide hnd
  have HF2 := hide hF2
  clear hnd hF2
  go_enter Try.func26, Try.ntmps26
  go_upto_region 1 with fail
  obtain ⟨W1, hW1⟩ : ∃ W1, W1 = w.alloc (.cells #[.slice ad nd c, .slice bd n bc] 33) := ⟨_, rfl⟩
  obtain ⟨X, hX⟩ : ∃ X, X = w.heap.size := ⟨_, rfl⟩
  rw [← hW1] at HX hB0 ⊢
  rw [← hX] at HX ⊢
  clear hW1 hX
  have cX := HX.out.c
  go_wp2_with fail
  refine Calls.mono (HGf.out _ hB0) ?_
  rintro e w1 ⟨rfl, hb⟩
  have HB1 := hide (hB0.trans (hb.mono hB0.size))
  have HX1 := hide (HX.out.below hb HX.out.lt)
  clear cX hb HGf hB0 HX
  have cX := HX1.out.c
  by_cases hg : goodF D F = true
  · have HF := hide (goodF_iff.1 hg)
    have HR := hide (deR_yes hg)
    have HGe := hide hg
    have HNn : Hid (n = nd) := hide (by rw [HND.out]; have := (goodF_iff.1 hg).2.1; have := HF2.out; omega)
    have hn12 : nd ≤ 12 := by rw [HND.out]; exact (goodF_iff.1 hg).1.2.1
    rw [hg]
    clear hg
    go_wp2_with fail
    refine Calls.mono (HLi.out _ HB1.out HF.out) ?_
    rintro e w2 ⟨Z, rfl, -, hQ, hb⟩
    have HQ := hide hQ
    have HB2 := hide (HB1.out.trans (hb.mono HB1.out.size))
    have HX2 := hide (HX1.out.below hb HX1.out.lt)
    clear cX hQ hb HX1 HLi HB1
    have cX := HX2.out.c
    go_wp2_with fail
    clear cX
    go_loopw [5, 19] (fun v i w' => ∃ (k : Nat), k ≤ nd ∧ i = .int .i64 k ∧ OO w' w2.heap.size v ((deL D F).take k) ∧ Below w2.heap.size w2 w') (fun _ i _ => nd - (intOf i).toNat)
    case atStart => exact ⟨0, by omega, rfl, by rw [List.take_zero]; exact OO.nil _ _, Below.refl _ _⟩
    case round =>
      obtain ⟨k, hk, rfl, hO, hB⟩ := hrel
      have HB := hide hB
      obtain ⟨vs, hvs⟩ := hO
      have HVs := hide hvs
      have hlen : ((deL D F).take k).length = k := by rw [List.length_take, deL_len, ← HND.out]; omega
      have HLen := hide hlen
      obtain ⟨av, cv, rfl⟩ := own_form hvs.own
      by_cases hlt : k < nd
      · have hlt' : (k : Int) < (nd : Int) := by omega
        have hkn : k < n := by have := HNn.out; omega
        have hltn : (k : Int) < (n : Int) := by omega
        have hkD : k < D.length := by rw [← HND.out]; exact hlt
        have hk0 : (0 : Int) ≤ (k : Int) := by omega
        obtain ⟨b, o, a0, c0, a1, c1, rfl, hb0, p0, p1, r0, r1, -, -⟩ := QRow.two HRF.out (HB2.out.trans (hB.mono HB2.out.size)) HF2.out hkn
        have R1 : R8 (fs F k) := HF.out.r8 (2 * k + 1)
        have l1 := r8_len R1
        obtain ⟨ss, hss⟩ : ∃ ss, ss = fs F k := ⟨_, rfl⟩
        obtain ⟨oo, hoo⟩ : ∃ oo, oo = ou D (lvR D F) k := ⟨_, rfl⟩
        rw [← hss] at p1 r1 R1 l1
        have HE : Hid ((deL D F).take (k + 1) = (deL D F).take k ++ [woL ss oo]) := hide (by rw [hss, hoo]; exact deL_take hkD)
        have HOo : Hid (∀ (w' : World), Below w2.heap.size w2 w' → Calls Try.prog 49 #[.agg #[.slice ad nd c, .slice (some ⟨b, o, none⟩) n bc], .slice (some ⟨Z, 0, none⟩) nd nd, .int .i64 (k : Int)] w' fun e w'' => ∃ v', e = .returned v' ∧ ON w'' w'.heap.size v' oo ∧ Below w'.heap.size w' w'') := hide (fun w' hb => by rw [hoo]; exact HOu.out Z k w' (HB2.out.trans (hb.mono HB2.out.size)) HF.out (HQ.out.below hb) hlt)
        have HOl : Hid (oo.length ≤ 8) := hide (by rw [hoo]; exact lst_len _ _)
        obtain ⟨m0, hm0⟩ : ∃ m, m = (fu F k).length := ⟨_, rfl⟩
        obtain ⟨m1, hm1⟩ : ∃ m, m = ss.length := ⟨_, rfl⟩
        rw [← hm0] at p0
        rw [← hm1] at p1 l1
        have HM1 := hide hm1
        have HR1 := hide r1
        have HR8 := hide R1
        have hbase : w2.heap.size ≤ wr.heap.size := hB.size
        have cX := (HX2.out.below hB HX2.out.lt).c
        rw [hlen]
        rw [hlen] at HVs
        obtain ⟨W3, hW3⟩ : ∃ W3, W3 = wr.alloc (.cells #[.slice a0 m0 c0, .slice a1 m1 c1] 54) := ⟨_, rfl⟩
        have hb3 : Below wr.heap.size wr W3 := by rw [hW3]; exact (Below.refl _ _).alloc (Nat.le_refl _) _
        have HX3 := hide ((HX2.out.below hB HX2.out.lt).below hb3 (HX2.out.below hB HX2.out.lt).lt)
        have hXb : X < wr.heap.size := (HX2.out.below hB HX2.out.lt).lt
        have Hb3 := hide hb3
        have Hbx : Hid (Bx W3 wr.heap.size #[.slice a0 m0 c0, .slice a1 m1 c1] 54) := hide (by rw [hW3]; exact Bx.new wr _ _)
        clear hB hvs hlen hss hoo hm0 hm1 r0 r1 R1 hb3
        go_upto_region 9 with fail
        rw [← hW3]
        clear hW3 cX p0 p1
        have cB := Hbx.out.c
        go_wp2_with fail
        clear cB
        go_loopw [8, 27] (fun v i w' => ∃ (q : Nat), q ≤ m1 ∧ i = .int .i64 q ∧ ON w' W3.heap.size v (wm ss oo q) ∧ Below W3.heap.size W3 w') (fun _ i _ => m1 - (intOf i).toNat)
        case atStart => exact ⟨0, by omega, rfl, World.ownsRow_nil _ _ _ _, Below.refl _ _⟩
        case round =>
          obtain ⟨q, hq, rfl, hv, hB9⟩ := hrel
          have HV := hide hv
          have HB9 := hide hB9
          obtain ⟨aw, cw, rfl⟩ := own_form hv
          by_cases hlq : q < m1
          · have hlq' : (q : Int) < (m1 : Int) := by omega
            have hql : q < ss.length := by rw [← HM1.out]; exact hlq
            have hbq := Hb3.out.trans (hB9.mono Hb3.out.size)
            obtain ⟨b2, o2, rfl, hb2, p2⟩ := IRow.iat HR1.out hbq hql
            have HC := hide (HOo.out _ (HB.out.trans (hbq.mono hbase)))
            have cX := (HX3.out.below hB9 HX3.out.lt).c
            have HPt : Hid (∀ (w' : World) (g : Nat), Bx w' g #[.int .i64 ss[q]] 3 → PtI w' (.slice (some ⟨g, 0, none⟩) 1 1) 1 (ic [ss[q]])) := hide (fun w' g h => oneI_pt h)
            have hwl := wm_len ss oo q
            have HHas := hide (fun (x : Value) (w' : World) (hx : NV w' x oo) (hl : oo.length ≤ 1048576) => l1Has_v x oo ss[q] w' hx hl)
            have HPu := hide (wm_put ss oo q hql)
            have HSk := hide (wm_skip ss oo q hql)
            obtain ⟨y, hy⟩ : ∃ y, y = ss[q] := ⟨_, rfl⟩
            rw [← hy] at p2 HPt HHas HPu HSk
            obtain ⟨nq, hnq⟩ : ∃ nq, nq = (wm ss oo q).length := ⟨_, rfl⟩
            rw [← hnq]
            rw [← hnq] at HV hwl
            rw [← HM1.out] at hwl
            have HNq := hide hnq
            clear hv hy hnq hB9 hbq hb2
            go_wp2_with fail
            refine Calls.mono HC.out ?_
            rintro e w5 ⟨x, rfl, ho, hb5⟩
            have HNo := hide ho.nv
            have HV5 := hide (ON.below (l := wm ss oo q) (v := .slice aw nq cw) HV.out hb5)
            have HB5 := hide (HB9.out.trans (hb5.mono HB9.out.size))
            obtain ⟨ax, cx, rfl⟩ := own_form ho
            clear ho hb5 HC cX
            go_wp2_with fail
            refine Calls.mono (HHas.out _ w5 HNo.out (by have := HOl.out; omega)) ?_
            rintro e w6 ⟨rfl, hw⟩
            obtain rfl := hw.symm
            by_cases hin : y ∈ oo
            · have hd : decide (y ∈ oo) = true := decide_eq_true hin
              have HEq := hide (HSk.out hin)
              rw [hd]
              have HVn : Hid (ON w5 W3.heap.size (.slice aw nq cw) (wm ss oo (q + 1))) := hide (by rw [HEq.out]; exact HV5.out)
              clear hin hd p2 HV HPu HSk
              go_wp2_with fail
              go_roundw
              case rel => exact ⟨q + 1, by omega, by go_num, HVn.out, HB5.out⟩
              case measure => simp [intOf]; omega
            · have hd : decide (y ∈ oo) = false := decide_eq_false hin
              have HEq := hide (HPu.out hin)
              rw [hd]
              have HPt6 := hide (HPt.out (w5.alloc (.cells #[.int .i64 y] 3)) w5.heap.size (Bx.new w5 _ _))
              have hb56 : Below w5.heap.size w5 (w5.alloc (.cells #[.int .i64 y] 3)) := (Below.refl _ _).alloc (Nat.le_refl _) _
              have HV6 := hide (own_keep HV5.out (w' := w5.alloc (.cells #[.int .i64 y] 3)) (fun k _ hk => hb56.block k hk))
              have hb5w : W3.heap.size ≤ (w5.alloc (.cells #[.int .i64 y] 3)).heap.size := Nat.le_trans HB5.out.size hb56.size
              have Hb56 := hide hb56
              have HLw := hide hb5w
              have hnq8 : (wm ss oo q).length ≤ 8 := by rw [← HNq.out]; omega
              clear hin hd p2 HV HPu HSk hb56 hb5w
              go_wp2_with (at_builtin; refine wpList_append_i rfl _ _ rfl W3.heap.size _ (wm ss oo q).length (ic (wm ss oo q)) rfl HV6.out _ 1 (ic [y]) rfl HPt6.out (by omega) HLw.out ?_)
              intro v7 w7 ho7 hg7
              rw [← ic_app, ← HEq.out] at ho7
              have HV7 : Hid (ON w7 W3.heap.size v7 (wm ss oo (q + 1))) := hide (by
                have e : (wm ss oo q).length + 1 = (wm ss oo (q + 1)).length := by rw [HEq.out]; simp
                rw [e] at ho7
                exact ho7)
              have HB7 := hide (show Below W3.heap.size W3 w7 from by
                have h1 := HB5.out.trans (Hb56.out.mono HB5.out.size)
                exact h1.trans (grown_below hg7 h1.size (own_ge HV6.out)))
              obtain ⟨a7, c7, rfl⟩ := own_form HV7.out
              clear ho7 hg7 HV6 HPt6 hnq8
              go_wp2_with fail
              go_roundw
              case rel => exact ⟨q + 1, by omega, by go_num, HV7.out, HB7.out⟩
              case measure => simp [intOf]; omega
          · obtain rfl : q = m1 := by omega
            have HWe : Hid (wm ss oo q = woL ss oo) := hide (by rw [HM1.out]; exact wm_all HR8.out)
            have hx9 : ON wr W3.heap.size (.slice aw (wm ss oo q).length cw) (woL ss oo) := by rw [← HWe.out]; exact HV.out
            obtain ⟨nx, hnx⟩ : ∃ nx, nx = (wm ss oo q).length := ⟨_, rfl⟩
            rw [← hnx] at hx9 ⊢
            obtain ⟨W9, hW9⟩ : ∃ W9, W9 = wr.alloc (.cells #[.slice aw nx cw] 42) := ⟨_, rfl⟩
            have hb89 : Below wr.heap.size wr W9 := by rw [hW9]; exact (Below.refl _ _).alloc (Nat.le_refl _) _
            have hbo := Hb3.out.trans (hB9.mono Hb3.out.size)
            have hb1 := hbo.trans (hb89.mono hbo.size)
            have hx1 := own_lower (hx9.below hb89) Hb3.out.size
            have hy1 : W9.cell? ⟨wr.heap.size, 0, none⟩ = some (.slice aw nx cw) := by rw [hW9]; simp
            have hob := own_keep HVs.out.own (fun k _ hk => hb1.block k hk)
            have hWl := Nat.le_trans hbase hb1.size
            have HW9 := hide hW9
            have Hb1 := hide hb1
            have Hx1 := hide hx1
            have Hy1 := hide hy1
            have Hob := hide hob
            have HWl := hide hWl
            rw [HLen.out] at Hob
            clear hW9 hb89 hb1 hx1 hy1 hob hWl hx9 hnx hv hB9 HV
            go_wp2_with (at_builtin; rw [← HW9.out]; refine wpList_append_r rfl _ _ rfl w2.heap.size _ k _ rfl Hob.out wr.heap.size _ rfl Hy1.out rfl (by omega) HWl.out ?_)
            intro v6 w6 hO6 hg6
            have HO6 := hide (HVs.out.snoc (l := woL ss oo) hbase Hb1.out Hx1.out (by rw [HLen.out]; exact hO6) hg6)
            rw [← HE.out] at HO6
            have HB6 := hide (HB.out.trans ((Hb1.out.mono hbase).trans (grown_below hg6 HWl.out (own_ge HVs.out.own))))
            obtain ⟨av6, cv6, rfl⟩ := own_form hO6
            clear hO6 hg6 Hob Hx1 Hy1 Hb1 HW9
            go_wp2_with fail
            go_roundw
            case rel => exact ⟨k + 1, by omega, by go_num, HO6.out, HB6.out⟩
            case measure => simp [intOf]; omega
      · obtain rfl : k = nd := by omega
        have hnk : ¬ ((k : Nat) : Int) < (n : Int) := by have := HNn.out; omega
        have HE : Hid ((deL D F).take k = deL D F) := hide (List.take_of_length_le (by rw [deL_len, ← HND.out]; exact Nat.le_refl _))
        have hOO : OO wr w2.heap.size (.slice av k cv) ((deL D F).take k) := ⟨vs, by rw [← hlen]; rw [hlen]; have := HVs.out; rw [hlen] at this; exact this⟩
        have hsm : QSm (deL D F) := by
          have := mapLst_sm (f := fun k n => hb (fs F k) n && !hb (ou D (lvR D F) k) n) HF.out.1.2.1
          exact ⟨by have := this.1; unfold deL woL; omega, fun l hl => by have := this.2 l hl; omega⟩
        have HV := hide (OO.qv (HE.out ▸ hOO) hsm)
        have HBf := hide (HB2.out.trans (hB.mono HB2.out.size))
        rw [hlen]
        clear hsm hOO hB hvs hlen
        go_wp2_with fail
        exact bodyPost_ret (v := .tuple #[.slice av k cv, .bool true]) (by simp [results, Try.results26, go_sem]) rfl ⟨_, by rw [HGe.out], by rw [HR.out]; exact HV.out, HBf.out⟩
  · have hgf : goodF D F = false := by simpa using hg
    have HR := hide (deR_no hgf)
    have HGe := hide hgf
    rw [hgf]
    clear hg hgf
    go_wp2_with fail
    exact bodyPost_ret (v := .tuple #[.slice none 0 0, .bool false]) (by simp [results, Try.results26, go_sem]) rfl ⟨_, by rw [HGe.out], by rw [HR.out]; exact QV.nilv _, HB1.out⟩
end Go.Proofs.Ytaniiolphghhiaa.W
