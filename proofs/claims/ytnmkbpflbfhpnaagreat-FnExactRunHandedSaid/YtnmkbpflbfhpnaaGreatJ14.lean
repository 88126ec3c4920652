/-
  Some texts of this proof in one: HnW, TeI.
-/
import Derived.Test.YtnmkbpflbfhpnaaGreatHnU
import Derived.Deep.RegionHeld3
import Derived.Deep.CutRange
import Derived.Test.YtnmkbpflbfhpnaaGreatJ06
/-
  The specification hands on a let and a condition: contracts of l7Hand there. Conditions: as the theorems state.
-/
namespace Go.Proofs.YtnmkbpflbfhpnaaGreat.W
open Go.ChangeShapes Go.WideShapes Go.ChangeAt Go.RowKit
set_option linter.unusedVariables false

theorem ifT_row {w : World} {f g : F} {k4 n4 k8 n8 : Int} {a4 a8 : Option Addr} {l4 c4 l8 c8 r : Nat} {T : TypeId} {fr : Nat × Nat} (hf : TV w AnyQ f (.agg #[.int .i64 k4, .int .i64 n4, .slice a4 l4 c4])) (hg : TV w AnyQ g (.agg #[.int .i64 k8, .int .i64 n8, .slice a8 l8 c8])) (hr : w.heap[r]? = some (.cells #[.int .i64 1, .int .i64 0, .slice none 0 0, .int .i64 k4, .int .i64 n4, .slice a4 l4 c4, .int .i64 k8, .int .i64 n8, .slice a8 l8 c8] T fr)) :
    TV w AnyQ (ifT (varT 0) f g) (.agg #[.int .i64 6, .int .i64 0, .slice (some ⟨r, 0, none⟩) 3 3]) := by
  have hl : ((varT 0).app (f.app g)).len = 3 := by rw [F.app_len, F.app_len, hf.len, hg.len]; rfl
  have := KidT.row (cap := 3) (KidsAt.app (TV.var w AnyQ 0).one (KidsAt.app hf.one hg.one)) (by rw [hl]; omega) hr trivial
  rw [hl] at this
  exact ⟨⟨6, 0⟩, _, _, rfl, rfl, this⟩

set_option maxRecDepth 20000 in
set_option maxHeartbeats 8000000 in
theorem hand_let (xn : Int) (y : Cc) (ky ay : F) (z : Cc) (kz az : F) (s : Value) (P : Nat → Prop) (w : World) (hy : HHd y ky ay) (oy : ay.okw) (ly : ay.flat.length ≤ 1000000) (ny : ay.len = 1) (hz : HHd z kz az) (oz : az.okw) (lz : az.flat.length ≤ 1000000) (nz : az.len = 1) (hT : KidT w P (.cons y ky (.cons z kz .nil)) s) :
    Calls Tryz.prog 39 #[.agg #[.int .i64 7, .int .i64 xn, s]] w fun e w' => ∃ v', e = .returned v' ∧ TV w' AnyQ (lamT (appT (sh 1 0 ay) (lamT (appT (sh 1 1 az) (varT 1))))) v' ∧ Below w.heap.size w w' := by
  obtain ⟨sad, sc, rfl⟩ := hT.form
  obtain ⟨g, rfl, hg, -, y0, y1, sy, y2, hTy⟩ := hT.first
  obtain ⟨z0, z1, sz, z2, hTz⟩ := hT.second
  have hKL : (.cons y ky (.cons z kz .nil) : F).len = 2 := rfl
  rw [hKL] at hT ⊢
  obtain ⟨w0, hw0⟩ : ∃ w0, w0 = (w.alloc (.cells #[.int .i64 7, .int .i64 xn, .slice (some ⟨g, 0, none⟩) 2 sc] 50)).alloc (.cells #[.int .i64 0, .int .i64 0, .slice none 0 0] 50) := ⟨_, rfl⟩
  have hB0 : Below w.heap.size w w0 := by rw [hw0]; exact bel2 _ _ _
  have hsz0 : w0.heap.size = w.heap.size + 1 + 1 := by rw [hw0]; simp
  have hbT : w0.heap[w.heap.size]? = some (.cells #[.int .i64 7, .int .i64 xn, .slice (some ⟨g, 0, none⟩) 2 sc] 50) := by rw [hw0, heap_alloc_old _ _ (by simp)]; exact heap_alloc_new _ _
  have hbR : w0.heap[w.heap.size + 1]? = some (.cells #[.int .i64 0, .int .i64 0, .slice none 0 0] 50) := by
    rw [hw0]
    have := heap_alloc_new (w.alloc (.cells #[.int .i64 7, .int .i64 xn, .slice (some ⟨g, 0, none⟩) 2 sc] 50)) (.cells #[.int .i64 0, .int .i64 0, .slice none 0 0] 50)
    simpa using this
  have HbR := hide hbR
  have HB := hide hB0
  have HT0 := hide (hT.below hB0)
  have hlR : w.heap.size + 1 < w0.heap.size := by omega
  have HFit : Hid (lamT (appT (sh 1 0 ay) (lamT (appT (sh 1 1 az) (varT 1))))).fit := hide (lamT_fit rfl (appT_fit (by rw [sh_len]; exact ny) rfl (sh_fit 1 0 (V.F.okw_fit oy)) (lamT_fit rfl (appT_fit (by rw [sh_len]; exact nz) rfl (sh_fit 1 1 (V.F.okw_fit oz)) (varT_fit 1)))))
  have HHy := hide hy
  have HGy := hide hy
  have HOy := hide oy
  have HLy := hide ly
  have HNy := hide ny
  have HKy := hide (hTy.below hB0)
  obtain ⟨yad, yc, rfl⟩ := hTy.form
  obtain ⟨yn, hyn⟩ : ∃ yn, yn = ky.len := ⟨_, rfl⟩
  rw [← hyn] at y2 HKy
  have HHz := hide hz
  have HGz := hide hz
  have HOz := hide oz
  have HLz := hide lz
  have HNz := hide nz
  have HKz := hide (hTz.below hB0)
  obtain ⟨zad, zc, rfl⟩ := hTz.form
  obtain ⟨zn, hzn⟩ : ∃ zn, zn = kz.len := ⟨_, rfl⟩
  rw [← hzn] at z2 HKz
  unfold HHd at HHy HHz
  have HEv : Hid (∀ w', Below w0.heap.size w0 w' → w'.cell? ⟨w.heap.size, 0, none⟩ = some (.int .i64 7) ∧ w'.cell? ⟨w.heap.size, 1, none⟩ = some (.int .i64 xn) ∧ w'.cell? ⟨w.heap.size, 2, none⟩ = some (.slice (some ⟨g, 0, none⟩) 2 sc) ∧ w'.cell? ⟨g, 0, none⟩ = some (.int .i64 y.k) ∧ w'.cell? ⟨g, 1, none⟩ = some (.int .i64 y.n) ∧ w'.cell? ⟨g, 2, none⟩ = some (.slice yad yn yc) ∧ w'.cell? ⟨g, 3, none⟩ = some (.int .i64 z.k) ∧ w'.cell? ⟨g, 4, none⟩ = some (.int .i64 z.n) ∧ w'.cell? ⟨g, 5, none⟩ = some (.slice zad zn zc)) := hide (fun w' hb => ⟨(hb.cell (p := ⟨w.heap.size, 0, none⟩) (show w.heap.size < w0.heap.size by omega)).trans ((cell_of_blk hbT 0).trans rfl), (hb.cell (p := ⟨w.heap.size, 1, none⟩) (show w.heap.size < w0.heap.size by omega)).trans ((cell_of_blk hbT 1).trans rfl), (hb.cell (p := ⟨w.heap.size, 2, none⟩) (show w.heap.size < w0.heap.size by omega)).trans ((cell_of_blk hbT 2).trans rfl), (hb.cell (p := ⟨g, 0, none⟩) (show g < w0.heap.size by omega)).trans ((hB0.cell (p := ⟨g, 0, none⟩) hg).trans y0), (hb.cell (p := ⟨g, 1, none⟩) (show g < w0.heap.size by omega)).trans ((hB0.cell (p := ⟨g, 1, none⟩) hg).trans y1), (hb.cell (p := ⟨g, 2, none⟩) (show g < w0.heap.size by omega)).trans ((hB0.cell (p := ⟨g, 2, none⟩) hg).trans y2), (hb.cell (p := ⟨g, 3, none⟩) (show g < w0.heap.size by omega)).trans ((hB0.cell (p := ⟨g, 3, none⟩) hg).trans z0), (hb.cell (p := ⟨g, 4, none⟩) (show g < w0.heap.size by omega)).trans ((hB0.cell (p := ⟨g, 4, none⟩) hg).trans z1), (hb.cell (p := ⟨g, 5, none⟩) (show g < w0.heap.size by omega)).trans ((hB0.cell (p := ⟨g, 5, none⟩) hg).trans z2)⟩)
  have HSz := hide hsz0
  have HW0 := hide hw0
  clear hsz0 hw0 hB0 hbT hbR hT hTy hy oy ly ny hyn y0 y1 y2 hTz hz oz lz nz hzn hKL
  go_enter Tryz.func39, Tryz.ntmps39
  go_wp2_with fail
  rw [← HW0.out]
  clear HW0
  refine Calls.mono (HHz.out _ _ _ HKz.out) ?_
  rintro e w1 ⟨v1, rfl, hv, hb⟩
  have HV1 := hide hv
  obtain ⟨k1, n1, a1, l1, c1, rfl⟩ := hv.form
  have HQ1 := hide hb
  have HX1 := hide hb
  clear hb hv
  go_wp2_with fail
  refine Calls.mono (shift_11 az _ _ HOz.out HLz.out HV1.out) ?_
  rintro e w2 ⟨v2, rfl, hv, hb⟩
  have HV2 := hide hv
  obtain ⟨k2, n2, a2, l2, c2, rfl⟩ := hv.form
  have HQ2 := hide (HQ1.out.trans (hb.mono HQ1.out.size))
  have HX2 := hide hb
  clear hb hv
  go_wp2_with fail
  refine Calls.mono (l7Var_any 1 _) ?_
  rintro e w3 ⟨rfl, hb⟩
  have HQ3 := hide (HQ2.out.trans (hb.mono HQ2.out.size))
  have HX3 := hide hb
  clear hb
  go_wp2_with fail
  refine Calls.mono (app_tv (sh 1 1 az) (varT 1) _ _ _ (HV2.out.below HX3.out) (TV.var _ _ _)) ?_
  rintro e w4 ⟨v4, rfl, hv, hb⟩
  have HV4 := hide hv
  obtain ⟨k4, n4, a4, l4, c4, rfl⟩ := hv.form
  have HQ4 := hide (HQ3.out.trans (hb.mono HQ3.out.size))
  have HX4 := hide hb
  clear hb hv
  go_wp2_with fail
  clear z0 z1 z2
  obtain ⟨wc, hwc⟩ : ∃ wc, wc = w4.alloc (.cells #[.int .i64 k4, .int .i64 n4, .slice a4 l4 c4] 50) := ⟨_, rfl⟩
  rw [← hwc]
  have hBc : Below w0.heap.size w0 wc := by rw [hwc]; exact HQ4.out.alloc HQ4.out.size _
  have hbx : wc.heap[w4.heap.size]? = some (.cells #[.int .i64 k4, .int .i64 n4, .slice a4 l4 c4] 50) := by rw [hwc]; exact heap_alloc_new _ _
  have hlS : w4.heap.size < wc.heap.size := by rw [hwc]; simp
  have HVs : Hid (TV wc AnyQ (appT (sh 1 1 az) (varT 1)) (.agg #[.int .i64 k4, .int .i64 n4, .slice a4 l4 c4])) := hide (by rw [hwc]; exact HV4.out.below (bel1 _ _))
  have HBc := hide hBc
  have h4s := HQ4.out.size
  have hsz0 := HSz.out
  have HRc : Hid (wc.heap[w.heap.size + 1]? = some (.cells #[.int .i64 0, .int .i64 0, .slice none 0 0] 50)) := hide ((hBc.block (w.heap.size + 1) (by omega)).trans HbR.out)
  have hlRc : w.heap.size + 1 < wc.heap.size := by omega
  have HKyc := hide (HKy.out.below hBc)
  have HAll : Hid (∀ w', Below wc.heap.size wc w' → w'.cell? ⟨w.heap.size, 2, none⟩ = some (.slice (some ⟨g, 0, none⟩) 2 sc) ∧ w'.cell? ⟨g, 0, none⟩ = some (.int .i64 y.k) ∧ w'.cell? ⟨g, 1, none⟩ = some (.int .i64 y.n) ∧ w'.cell? ⟨g, 2, none⟩ = some (.slice yad yn yc) ∧ w'.cell? ⟨w4.heap.size, 0, none⟩ = some (.int .i64 k4) ∧ w'.cell? ⟨w4.heap.size, 1, none⟩ = some (.int .i64 n4) ∧ w'.cell? ⟨w4.heap.size, 2, none⟩ = some (.slice a4 l4 c4)) := hide (fun w' hb => by
    obtain ⟨j0, j1, j2, j3, j4, j5, j6, j7, j8⟩ := HEv.out w' (HBc.out.trans (hb.mono HBc.out.size))
    exact ⟨j2, j3, j4, j5, (hb.cell (p := ⟨w4.heap.size, 0, none⟩) (hlS)).trans ((cell_of_blk hbx 0).trans rfl), (hb.cell (p := ⟨w4.heap.size, 1, none⟩) (hlS)).trans ((cell_of_blk hbx 1).trans rfl), (hb.cell (p := ⟨w4.heap.size, 2, none⟩) (hlS)).trans ((cell_of_blk hbx 2).trans rfl)⟩)
  have HSet : Hid (∀ w' (x y' z' : Value), (w'.cell? ⟨w.heap.size, 2, none⟩ = some (.slice (some ⟨g, 0, none⟩) 2 sc) ∧ w'.cell? ⟨g, 0, none⟩ = some (.int .i64 y.k) ∧ w'.cell? ⟨g, 1, none⟩ = some (.int .i64 y.n) ∧ w'.cell? ⟨g, 2, none⟩ = some (.slice yad yn yc) ∧ w'.cell? ⟨w4.heap.size, 0, none⟩ = some (.int .i64 k4) ∧ w'.cell? ⟨w4.heap.size, 1, none⟩ = some (.int .i64 n4) ∧ w'.cell? ⟨w4.heap.size, 2, none⟩ = some (.slice a4 l4 c4)) → (set3 w' (w.heap.size + 1) x y' z').cell? ⟨w.heap.size, 2, none⟩ = some (.slice (some ⟨g, 0, none⟩) 2 sc) ∧ (set3 w' (w.heap.size + 1) x y' z').cell? ⟨g, 0, none⟩ = some (.int .i64 y.k) ∧ (set3 w' (w.heap.size + 1) x y' z').cell? ⟨g, 1, none⟩ = some (.int .i64 y.n) ∧ (set3 w' (w.heap.size + 1) x y' z').cell? ⟨g, 2, none⟩ = some (.slice yad yn yc) ∧ (set3 w' (w.heap.size + 1) x y' z').cell? ⟨w4.heap.size, 0, none⟩ = some (.int .i64 k4) ∧ (set3 w' (w.heap.size + 1) x y' z').cell? ⟨w4.heap.size, 1, none⟩ = some (.int .i64 n4) ∧ (set3 w' (w.heap.size + 1) x y' z').cell? ⟨w4.heap.size, 2, none⟩ = some (.slice a4 l4 c4)) := hide (fun w' x y' z' ⟨j0, j1, j2, j3, j4, j5, j6⟩ => ⟨set3_cell (show w.heap.size ≠ w.heap.size + 1 by omega) _ _ _ j0, set3_cell (show g ≠ w.heap.size + 1 by omega) _ _ _ j1, set3_cell (show g ≠ w.heap.size + 1 by omega) _ _ _ j2, set3_cell (show g ≠ w.heap.size + 1 by omega) _ _ _ j3, set3_cell (show w4.heap.size ≠ w.heap.size + 1 by omega) _ _ _ j4, set3_cell (show w4.heap.size ≠ w.heap.size + 1 by omega) _ _ _ j5, set3_cell (show w4.heap.size ≠ w.heap.size + 1 by omega) _ _ _ j6⟩)
  have HBw : Hid (Below w.heap.size w wc) := hide (HB.out.trans (hBc.mono (by omega)))
  clear hwc hBc hbx hsz0 h4s
  have HWB0d : Hid (Below wc.heap.size wc wc.drew) := hide (belowDrew (Below.refl _ _))
  obtain ⟨Wu0, Wu1, Wu2, Wu3, Wu4, Wu5, Wu6⟩ := HAll.out wc.drew HWB0d.out
  go_region_held3 (fun w' => w'.cell? ⟨w.heap.size, 2, none⟩ = some (.slice (some ⟨g, 0, none⟩) 2 sc) ∧ w'.cell? ⟨g, 0, none⟩ = some (.int .i64 y.k) ∧ w'.cell? ⟨g, 1, none⟩ = some (.int .i64 y.n) ∧ w'.cell? ⟨g, 2, none⟩ = some (.slice yad yn yc) ∧ w'.cell? ⟨w4.heap.size, 0, none⟩ = some (.int .i64 k4) ∧ w'.cell? ⟨w4.heap.size, 1, none⟩ = some (.int .i64 n4) ∧ w'.cell? ⟨w4.heap.size, 2, none⟩ = some (.slice a4 l4 c4)) (first | (with_reducible exact HAll.out _ HWB0d.out) | (with_reducible exact HAll.out _ HWB1.out) | (with_reducible exact HAll.out _ HWB2.out) | (with_reducible exact HAll.out _ HWB3.out) | (with_reducible exact HAll.out _ HWB4.out) | (with_reducible exact HAll.out _ HWB5.out) | (with_reducible exact HSet.out _ _ _ _ (HAll.out _ HWB5.out)))
    (first
      | ((with_reducible refine Calls.mono (HHy.out _ _ _ (by first | exact HKyc.out.below HWB0d.out)) ?_); rintro e W1 ⟨Wv1, rfl, hv, hx⟩; have HWB1 : Hid (Below wc.heap.size wc W1) := hide (by first | exact HWB0d.out.trans (hx.mono HWB0d.out.size)); have HWV1_1 := hide hv; obtain ⟨Wk1, Wn1, Wa1, Wl1, Wc1, rfl⟩ := hv.form; clear hv hx)
      | ((with_reducible refine Calls.mono (shift_10 ay _ _ HOy.out HLy.out (by first | exact HWV1_1.out)) ?_); rintro e W2 ⟨Wv2, rfl, hv, hx⟩; have HWB2 : Hid (Below wc.heap.size wc W2) := hide (by first | exact HWB1.out.trans (hx.mono HWB1.out.size)); have HWV1_2 := hide (show TV W2 AnyQ _ _ from (by first | exact HWV1_1.out.below hx)); have HWV2_2 := hide hv; obtain ⟨Wk2, Wn2, Wa2, Wl2, Wc2, rfl⟩ := hv.form; clear hv hx)
      | ((with_reducible refine Calls.mono (lam_tv (appT (sh 1 1 az) (varT 1)) (.agg #[.int .i64 k4, .int .i64 n4, .slice a4 l4 c4]) _ (by first | exact HVs.out.below HWB2.out)) ?_); rintro e W3 ⟨Wv3, rfl, hv, hx⟩; have HWB3 : Hid (Below wc.heap.size wc W3) := hide (by first | exact HWB2.out.trans (hx.mono HWB2.out.size)); have HWV1_3 := hide (show TV W3 AnyQ _ _ from (by first | exact HWV1_2.out.below hx)); have HWV2_3 := hide (show TV W3 AnyQ _ _ from (by first | exact HWV2_2.out.below hx)); have HWV3_3 := hide hv; obtain ⟨Wk3, Wn3, Wa3, Wl3, Wc3, rfl⟩ := hv.form; clear hv hx)
      | ((with_reducible refine Calls.mono (app_tv (sh 1 0 ay) (lamT (appT (sh 1 1 az) (varT 1))) _ _ _ (by first | exact HWV2_3.out) (by first | exact HWV3_3.out)) ?_); rintro e W4 ⟨Wv4, rfl, hv, hx⟩; have HWB4 : Hid (Below wc.heap.size wc W4) := hide (by first | exact HWB3.out.trans (hx.mono HWB3.out.size)); have HWV1_4 := hide (show TV W4 AnyQ _ _ from (by first | exact HWV1_3.out.below hx)); have HWV2_4 := hide (show TV W4 AnyQ _ _ from (by first | exact HWV2_3.out.below hx)); have HWV3_4 := hide (show TV W4 AnyQ _ _ from (by first | exact HWV3_3.out.below hx)); have HWV4_4 := hide hv; obtain ⟨Wk4, Wn4, Wa4, Wl4, Wc4, rfl⟩ := hv.form; clear hv hx)
      | ((with_reducible refine Calls.mono (lam_tv (appT (sh 1 0 ay) (lamT (appT (sh 1 1 az) (varT 1)))) _ _ (by first | exact HWV4_4.out)) ?_); rintro e W5 ⟨Wv5, rfl, hv, hx⟩; have HWB5 : Hid (Below wc.heap.size wc W5) := hide (by first | exact HWB4.out.trans (hx.mono HWB4.out.size)); have HWV1_5 := hide (show TV W5 AnyQ _ _ from (by first | exact HWV1_4.out.below hx)); have HWV2_5 := hide (show TV W5 AnyQ _ _ from (by first | exact HWV2_4.out.below hx)); have HWV3_5 := hide (show TV W5 AnyQ _ _ from (by first | exact HWV3_4.out.below hx)); have HWV4_5 := hide (show TV W5 AnyQ _ _ from (by first | exact HWV4_4.out.below hx)); have HWV5_5 := hide hv; obtain ⟨Wk5, Wn5, Wa5, Wl5, Wc5, rfl⟩ := hv.form; clear hv hx; have hzr : W5.heap[w.heap.size + 1]? = some (.cells #[.int .i64 0, .int .i64 0, .slice none 0 0] 50) := (HWB5.out.block (w.heap.size + 1) hlRc).trans HRc.out; have zr0 : W5.cell? ⟨w.heap.size + 1, 0, none⟩ = some (.int .i64 0) := (cell_of_blk hzr 0).trans rfl; have zr1 : W5.cell? ⟨w.heap.size + 1, 1, none⟩ = some (.int .i64 0) := (cell_of_blk hzr 1).trans rfl; have zr2 : W5.cell? ⟨w.heap.size + 1, 2, none⟩ = some (.slice none 0 0) := (cell_of_blk hzr 2).trans rfl; have zrf := unfrozen_of_blk hzr; have HZr := hide hzr; clear hzr))
  go_wp2_with fail
  have hre := set3_at HZr.out (.int .i64 Wk5) (.int .i64 Wn5) (.slice Wa5 Wl5 Wc5)
  have r0 := (cell_of_blk hre 0).trans rfl
  have r1 := (cell_of_blk hre 1).trans rfl
  have r2 := (cell_of_blk hre 2).trans rfl
  exact bodyPost_ret (v := .agg #[.int .i64 Wk5, .int .i64 Wn5, .slice Wa5 Wl5 Wc5]) (by simp [results, Tryz.results39, go_sem, r0, r1, r2]) rfl ⟨_, rfl, HWV5_5.out.set3 HFit.out HZr.out _ _ _, below_set3 (HBw.out.trans (HWB5.out.mono HBw.out.size)) (by omega) _ _ _⟩

set_option maxRecDepth 20000 in
set_option maxHeartbeats 8000000 in
theorem hand_if (xn : Int) (y : Cc) (ky ay : F) (z : Cc) (kz az : F) (u : Cc) (ku au : F) (s : Value) (P : Nat → Prop) (w : World) (hy : HHd y ky ay) (oy : ay.okw) (ly : ay.flat.length ≤ 1000000) (ny : ay.len = 1) (hz : HHd z kz az) (oz : az.okw) (lz : az.flat.length ≤ 1000000) (nz : az.len = 1) (hu : HHd u ku au) (ou : au.okw) (lu : au.flat.length ≤ 1000000) (nu : au.len = 1) (hT : KidT w P (.cons y ky (.cons z kz (.cons u ku .nil))) s) :
    Calls Tryz.prog 39 #[.agg #[.int .i64 6, .int .i64 xn, s]] w fun e w' => ∃ v', e = .returned v' ∧ TV w' AnyQ (lamT (appT (sh 1 0 ay) (lamT (ifT (varT 0) (appT (sh 2 0 az) (varT 1)) (appT (sh 2 0 au) (varT 1)))))) v' ∧ Below w.heap.size w w' := by
  obtain ⟨sad, sc, rfl⟩ := hT.form
  obtain ⟨g, rfl, hg, -, y0, y1, sy, y2, hTy⟩ := hT.first
  obtain ⟨z0, z1, sz, z2, hTz⟩ := hT.second
  obtain ⟨u0, u1, su, u2, hTu⟩ := hT.third
  have hKL : (.cons y ky (.cons z kz (.cons u ku .nil)) : F).len = 3 := rfl
  rw [hKL] at hT ⊢
  obtain ⟨w0, hw0⟩ : ∃ w0, w0 = (w.alloc (.cells #[.int .i64 6, .int .i64 xn, .slice (some ⟨g, 0, none⟩) 3 sc] 50)).alloc (.cells #[.int .i64 0, .int .i64 0, .slice none 0 0] 50) := ⟨_, rfl⟩
  have hB0 : Below w.heap.size w w0 := by rw [hw0]; exact bel2 _ _ _
  have hsz0 : w0.heap.size = w.heap.size + 1 + 1 := by rw [hw0]; simp
  have hbT : w0.heap[w.heap.size]? = some (.cells #[.int .i64 6, .int .i64 xn, .slice (some ⟨g, 0, none⟩) 3 sc] 50) := by rw [hw0, heap_alloc_old _ _ (by simp)]; exact heap_alloc_new _ _
  have hbR : w0.heap[w.heap.size + 1]? = some (.cells #[.int .i64 0, .int .i64 0, .slice none 0 0] 50) := by
    rw [hw0]
    have := heap_alloc_new (w.alloc (.cells #[.int .i64 6, .int .i64 xn, .slice (some ⟨g, 0, none⟩) 3 sc] 50)) (.cells #[.int .i64 0, .int .i64 0, .slice none 0 0] 50)
    simpa using this
  have HbR := hide hbR
  have HB := hide hB0
  have HT0 := hide (hT.below hB0)
  have hlR : w.heap.size + 1 < w0.heap.size := by omega
  have HFit : Hid (lamT (appT (sh 1 0 ay) (lamT (ifT (varT 0) (appT (sh 2 0 az) (varT 1)) (appT (sh 2 0 au) (varT 1)))))).fit := hide (lamT_fit rfl (appT_fit (by rw [sh_len]; exact ny) rfl (sh_fit 1 0 (V.F.okw_fit oy)) (lamT_fit rfl (ifT_fit rfl rfl rfl (varT_fit 0) (appT_fit (by rw [sh_len]; exact nz) rfl (sh_fit 2 0 (V.F.okw_fit oz)) (varT_fit 1)) (appT_fit (by rw [sh_len]; exact nu) rfl (sh_fit 2 0 (V.F.okw_fit ou)) (varT_fit 1))))))
  have HHy := hide hy
  have HGy := hide hy
  have HOy := hide oy
  have HLy := hide ly
  have HNy := hide ny
  have HKy := hide (hTy.below hB0)
  obtain ⟨yad, yc, rfl⟩ := hTy.form
  obtain ⟨yn, hyn⟩ : ∃ yn, yn = ky.len := ⟨_, rfl⟩
  rw [← hyn] at y2 HKy
  have HHz := hide hz
  have HGz := hide hz
  have HOz := hide oz
  have HLz := hide lz
  have HNz := hide nz
  have HKz := hide (hTz.below hB0)
  obtain ⟨zad, zc, rfl⟩ := hTz.form
  obtain ⟨zn, hzn⟩ : ∃ zn, zn = kz.len := ⟨_, rfl⟩
  rw [← hzn] at z2 HKz
  have HHu := hide hu
  have HGu := hide hu
  have HOu := hide ou
  have HLu := hide lu
  have HNu := hide nu
  have HKu := hide (hTu.below hB0)
  obtain ⟨uad, uc, rfl⟩ := hTu.form
  obtain ⟨un, hun⟩ : ∃ un, un = ku.len := ⟨_, rfl⟩
  rw [← hun] at u2 HKu
  unfold HHd at HHy HHz HHu
  have HEv : Hid (∀ w', Below w0.heap.size w0 w' → w'.cell? ⟨w.heap.size, 0, none⟩ = some (.int .i64 6) ∧ w'.cell? ⟨w.heap.size, 1, none⟩ = some (.int .i64 xn) ∧ w'.cell? ⟨w.heap.size, 2, none⟩ = some (.slice (some ⟨g, 0, none⟩) 3 sc) ∧ w'.cell? ⟨g, 0, none⟩ = some (.int .i64 y.k) ∧ w'.cell? ⟨g, 1, none⟩ = some (.int .i64 y.n) ∧ w'.cell? ⟨g, 2, none⟩ = some (.slice yad yn yc) ∧ w'.cell? ⟨g, 3, none⟩ = some (.int .i64 z.k) ∧ w'.cell? ⟨g, 4, none⟩ = some (.int .i64 z.n) ∧ w'.cell? ⟨g, 5, none⟩ = some (.slice zad zn zc) ∧ w'.cell? ⟨g, 6, none⟩ = some (.int .i64 u.k) ∧ w'.cell? ⟨g, 7, none⟩ = some (.int .i64 u.n) ∧ w'.cell? ⟨g, 8, none⟩ = some (.slice uad un uc)) := hide (fun w' hb => ⟨(hb.cell (p := ⟨w.heap.size, 0, none⟩) (show w.heap.size < w0.heap.size by omega)).trans ((cell_of_blk hbT 0).trans rfl), (hb.cell (p := ⟨w.heap.size, 1, none⟩) (show w.heap.size < w0.heap.size by omega)).trans ((cell_of_blk hbT 1).trans rfl), (hb.cell (p := ⟨w.heap.size, 2, none⟩) (show w.heap.size < w0.heap.size by omega)).trans ((cell_of_blk hbT 2).trans rfl), (hb.cell (p := ⟨g, 0, none⟩) (show g < w0.heap.size by omega)).trans ((hB0.cell (p := ⟨g, 0, none⟩) hg).trans y0), (hb.cell (p := ⟨g, 1, none⟩) (show g < w0.heap.size by omega)).trans ((hB0.cell (p := ⟨g, 1, none⟩) hg).trans y1), (hb.cell (p := ⟨g, 2, none⟩) (show g < w0.heap.size by omega)).trans ((hB0.cell (p := ⟨g, 2, none⟩) hg).trans y2), (hb.cell (p := ⟨g, 3, none⟩) (show g < w0.heap.size by omega)).trans ((hB0.cell (p := ⟨g, 3, none⟩) hg).trans z0), (hb.cell (p := ⟨g, 4, none⟩) (show g < w0.heap.size by omega)).trans ((hB0.cell (p := ⟨g, 4, none⟩) hg).trans z1), (hb.cell (p := ⟨g, 5, none⟩) (show g < w0.heap.size by omega)).trans ((hB0.cell (p := ⟨g, 5, none⟩) hg).trans z2), (hb.cell (p := ⟨g, 6, none⟩) (show g < w0.heap.size by omega)).trans ((hB0.cell (p := ⟨g, 6, none⟩) hg).trans u0), (hb.cell (p := ⟨g, 7, none⟩) (show g < w0.heap.size by omega)).trans ((hB0.cell (p := ⟨g, 7, none⟩) hg).trans u1), (hb.cell (p := ⟨g, 8, none⟩) (show g < w0.heap.size by omega)).trans ((hB0.cell (p := ⟨g, 8, none⟩) hg).trans u2)⟩)
  have HSz := hide hsz0
  have HW0 := hide hw0
  clear hsz0 hw0 hB0 hbT hbR hT hTy hy oy ly ny hyn y0 y1 y2 hTz hz oz lz nz hzn hTu hu ou lu nu hun u0 u1 u2 hKL
  go_enter Tryz.func39, Tryz.ntmps39
  go_wp2_with fail
  rw [← HW0.out]
  clear HW0
  refine Calls.mono (HHz.out _ _ _ HKz.out) ?_
  rintro e w1 ⟨v1, rfl, hv, hb⟩
  have HV1 := hide hv
  obtain ⟨k1, n1, a1, l1, c1, rfl⟩ := hv.form
  have HQ1 := hide hb
  have HX1 := hide hb
  clear hb hv
  go_wp2_with fail
  refine Calls.mono (shift_20 az _ _ HOz.out HLz.out HV1.out) ?_
  rintro e w2 ⟨v2, rfl, hv, hb⟩
  have HV2 := hide hv
  obtain ⟨k2, n2, a2, l2, c2, rfl⟩ := hv.form
  have HQ2 := hide (HQ1.out.trans (hb.mono HQ1.out.size))
  have HX2 := hide hb
  clear hb hv
  go_wp2_with fail
  refine Calls.mono (l7Var_any 1 _) ?_
  rintro e w3 ⟨rfl, hb⟩
  have HQ3 := hide (HQ2.out.trans (hb.mono HQ2.out.size))
  have HX3 := hide hb
  clear hb
  go_wp2_with fail
  refine Calls.mono (app_tv (sh 2 0 az) (varT 1) _ _ _ (HV2.out.below HX3.out) (TV.var _ _ _)) ?_
  rintro e w4 ⟨v4, rfl, hv, hb⟩
  have HV4 := hide hv
  obtain ⟨k4, n4, a4, l4, c4, rfl⟩ := hv.form
  have HQ4 := hide (HQ3.out.trans (hb.mono HQ3.out.size))
  have HX4 := hide hb
  clear hb hv
  clear z0 z1 z2
  go_upto_region 15 with fail
  obtain ⟨wa, hwa⟩ : ∃ wa, wa = w4.alloc (.cells #[.int .i64 k4, .int .i64 n4, .slice a4 l4 c4] 50) := ⟨_, rfl⟩
  rw [← hwa]
  have hBa : Below w0.heap.size w0 wa := by rw [hwa]; exact HQ4.out.alloc HQ4.out.size _
  have hbf : wa.heap[w4.heap.size]? = some (.cells #[.int .i64 k4, .int .i64 n4, .slice a4 l4 c4] 50) := by rw [hwa]; exact heap_alloc_new _ _
  have HVf : Hid (TV wa AnyQ (appT (sh 2 0 az) (varT 1)) (.agg #[.int .i64 k4, .int .i64 n4, .slice a4 l4 c4])) := hide (by rw [hwa]; exact HV4.out.below (bel1 _ _))
  have hla : w4.heap.size < wa.heap.size := by rw [hwa]; simp
  have HBa := hide hBa
  have HBf := hide hbf
  obtain ⟨f0, f1, f2, f3, f4, f5, f6, f7, f8, f9, f10, f11⟩ := HEv.out wa hBa
  clear hwa hBa hbf
  go_wp2_with fail
  refine Calls.mono (HHu.out _ _ _ (HKu.out.below HBa.out)) ?_
  rintro e w5 ⟨v5, rfl, hv, hb⟩
  have HV5 := hide hv
  obtain ⟨k5, n5, a5, l5, c5, rfl⟩ := hv.form
  have HQ5 := hide (HBa.out.trans (hb.mono HBa.out.size))
  have HX5 := hide hb
  clear hb hv
  go_wp2_with fail
  refine Calls.mono (shift_20 au _ _ HOu.out HLu.out HV5.out) ?_
  rintro e w6 ⟨v6, rfl, hv, hb⟩
  have HV6 := hide hv
  obtain ⟨k6, n6, a6, l6, c6, rfl⟩ := hv.form
  have HQ6 := hide (HQ5.out.trans (hb.mono HQ5.out.size))
  have HX6 := hide hb
  clear hb hv
  go_wp2_with fail
  refine Calls.mono (l7Var_any 1 _) ?_
  rintro e w7 ⟨rfl, hb⟩
  have HQ7 := hide (HQ6.out.trans (hb.mono HQ6.out.size))
  have HX7 := hide hb
  clear hb
  go_wp2_with fail
  refine Calls.mono (app_tv (sh 2 0 au) (varT 1) _ _ _ (HV6.out.below HX7.out) (TV.var _ _ _)) ?_
  rintro e w8 ⟨v8, rfl, hv, hb⟩
  have HV8 := hide hv
  obtain ⟨k8, n8, a8, l8, c8, rfl⟩ := hv.form
  have HQ8 := hide (HQ7.out.trans (hb.mono HQ7.out.size))
  have HX8 := hide hb
  clear hb hv
  go_wp2_with fail
  clear f0 f1 f2 f3 f4 f5 f6 f7 f8 f9 f10 f11
  obtain ⟨wb, hwb⟩ : ∃ wb, wb = w8.alloc (.cells #[.int .i64 k8, .int .i64 n8, .slice a8 l8 c8] 50) := ⟨_, rfl⟩
  rw [← hwb]
  have hA8 : Below wa.heap.size wa w8 := ((HX5.out.trans (HX6.out.mono HX5.out.size)).trans (HX7.out.mono (HX5.out.trans (HX6.out.mono HX5.out.size)).size)).trans (HX8.out.mono ((HX5.out.trans (HX6.out.mono HX5.out.size)).trans (HX7.out.mono (HX5.out.trans (HX6.out.mono HX5.out.size)).size)).size)
  have hAb : Below wa.heap.size wa wb := by rw [hwb]; exact hA8.alloc hA8.size _
  have hBb : Below w0.heap.size w0 wb := HBa.out.trans (hAb.mono HBa.out.size)
  have hbg : wb.heap[w8.heap.size]? = some (.cells #[.int .i64 k8, .int .i64 n8, .slice a8 l8 c8] 50) := by rw [hwb]; exact heap_alloc_new _ _
  have hbf : wb.heap[w4.heap.size]? = some (.cells #[.int .i64 k4, .int .i64 n4, .slice a4 l4 c4] 50) := (hAb.block w4.heap.size hla).trans HBf.out
  have HVf2 := hide (HVf.out.below hAb)
  have HVg2 : Hid (TV wb AnyQ (appT (sh 2 0 au) (varT 1)) (.agg #[.int .i64 k8, .int .i64 n8, .slice a8 l8 c8])) := hide (by rw [hwb]; exact HV8.out.below (bel1 _ _))
  have hlf : w4.heap.size < wb.heap.size := Nat.lt_of_lt_of_le hla hAb.size
  have hlg : w8.heap.size < wb.heap.size := by rw [hwb]; simp
  have HBb := hide hBb
  clear hwb hA8 hAb hBb HBf
  have HAll : Hid (∀ w', Below wb.heap.size wb w' → w'.cell? ⟨w4.heap.size, 0, none⟩ = some (.int .i64 k4) ∧ w'.cell? ⟨w4.heap.size, 1, none⟩ = some (.int .i64 n4) ∧ w'.cell? ⟨w4.heap.size, 2, none⟩ = some (.slice a4 l4 c4) ∧ w'.cell? ⟨w8.heap.size, 0, none⟩ = some (.int .i64 k8) ∧ w'.cell? ⟨w8.heap.size, 1, none⟩ = some (.int .i64 n8) ∧ w'.cell? ⟨w8.heap.size, 2, none⟩ = some (.slice a8 l8 c8)) := hide (fun w' hb => ⟨(hb.cell (p := ⟨w4.heap.size, 0, none⟩) hlf).trans ((cell_of_blk hbf 0).trans rfl), (hb.cell (p := ⟨w4.heap.size, 1, none⟩) hlf).trans ((cell_of_blk hbf 1).trans rfl), (hb.cell (p := ⟨w4.heap.size, 2, none⟩) hlf).trans ((cell_of_blk hbf 2).trans rfl), (hb.cell (p := ⟨w8.heap.size, 0, none⟩) hlg).trans ((cell_of_blk hbg 0).trans rfl), (hb.cell (p := ⟨w8.heap.size, 1, none⟩) hlg).trans ((cell_of_blk hbg 1).trans rfl), (hb.cell (p := ⟨w8.heap.size, 2, none⟩) hlg).trans ((cell_of_blk hbg 2).trans rfl)⟩)
  clear hbf hbg
  have HFf : Hid (appT (sh 2 0 az) (varT 1)).fit := hide (appT_fit (by rw [sh_len]; exact HNz.out) rfl (sh_fit 2 0 (V.F.okw_fit HOz.out)) (varT_fit 1))
  have HFg : Hid (appT (sh 2 0 au) (varT 1)).fit := hide (appT_fit (by rw [sh_len]; exact HNu.out) rfl (sh_fit 2 0 (V.F.okw_fit HOu.out)) (varT_fit 1))
  go_cut [6] from 75 to 79 (fun v6 wx => ∃ (b : Nat) (ad : Option Addr), v6 = .pointer (some ⟨b, 0, none⟩) ∧ wx.heap[b]? = some (.cells #[.int .i64 6, .int .i64 0, .slice ad 3 3] 50 (0, 0)) ∧ TV wx AnyQ (ifT (varT 0) (appT (sh 2 0 az) (varT 1)) (appT (sh 2 0 au) (varT 1))) (.agg #[.int .i64 6, .int .i64 0, .slice ad 3 3]) ∧ Below wb.heap.size wb wx ∧ wb.heap.size ≤ b)
  case first =>
    have HWB0d : Hid (Below wb.heap.size wb wb.drew) := hide (belowDrew (Below.refl _ _))
    have HWB0a : Hid (Below wb.heap.size wb (wb.alloc (.cells #[.int .i64 0, .int .i64 0, .slice none 0 0] 50)).drew) := hide (belowDrew (bel1 _ _))
    obtain ⟨Wu0, Wu1, Wu2, Wu3, Wu4, Wu5⟩ := HAll.out wb.drew HWB0d.out
    obtain ⟨Wt0, Wt1, Wt2, Wt3, Wt4, Wt5⟩ := HAll.out (wb.alloc (.cells #[.int .i64 0, .int .i64 0, .slice none 0 0] 50)).drew HWB0a.out
    go_region_held3 (fun w' => w'.cell? ⟨w4.heap.size, 0, none⟩ = some (.int .i64 k4) ∧ w'.cell? ⟨w4.heap.size, 1, none⟩ = some (.int .i64 n4) ∧ w'.cell? ⟨w4.heap.size, 2, none⟩ = some (.slice a4 l4 c4) ∧ w'.cell? ⟨w8.heap.size, 0, none⟩ = some (.int .i64 k8) ∧ w'.cell? ⟨w8.heap.size, 1, none⟩ = some (.int .i64 n8) ∧ w'.cell? ⟨w8.heap.size, 2, none⟩ = some (.slice a8 l8 c8)) (first | (with_reducible exact HAll.out _ HWB0d.out) | (with_reducible exact HAll.out _ HWB0a.out) | (with_reducible exact HAll.out _ HWB1.out) | (with_reducible exact HAll.out _ (HWB1.out.alloc HWB1.out.size _)) | (with_reducible exact HAll.out _ ((HWB1.out.alloc HWB1.out.size _).alloc (HWB1.out.alloc HWB1.out.size _).size _)) | (with_reducible exact HAll.out _ (below_set3 (HWB1.out.alloc HWB1.out.size _) (b := wb.heap.size) (Nat.le_refl _) _ _ _)) | (with_reducible exact HAll.out _ ((below_set3 HWB1.out (b := wb.heap.size) (Nat.le_refl _) _ _ _).alloc (below_set3 HWB1.out (b := wb.heap.size) (Nat.le_refl _) _ _ _).size _)) | (with_reducible exact HAll.out _ (below_set3 ((HWB1.out.alloc HWB1.out.size _).alloc (HWB1.out.alloc HWB1.out.size _).size _) (b := W1.heap.size) HWB1.out.size _ _ _)) | (with_reducible exact HAll.out _ (below_set3 ((HWB1.out.alloc HWB1.out.size _).alloc (HWB1.out.alloc HWB1.out.size _).size _) (b := W1.heap.size + 1) (Nat.le_succ_of_le HWB1.out.size) _ _ _)))
      (first
        | ((with_reducible refine Calls.mono (l7Var_any 0 _) ?_); rintro e W1 ⟨rfl, hx⟩; have HWB1 : Hid (Below wb.heap.size wb W1) := hide (by first | exact HWB0d.out.trans (hx.mono HWB0d.out.size) | exact HWB0a.out.trans (hx.mono HWB0a.out.size)); (try have zb0_1 : W1.heap[wb.heap.size]? = some (.cells #[.int .i64 0, .int .i64 0, .slice none 0 0] 50) := (hx.block wb.heap.size (show wb.heap.size < (wb.alloc (.cells #[.int .i64 0, .int .i64 0, .slice none 0 0] 50)).heap.size by simp)).trans (heap_alloc_new _ _)); clear hx; (try have zlt : wb.heap.size < W1.heap.size := (Array.getElem?_eq_some_iff.1 zb0_1).1; have zne : ¬ wb.heap.size = W1.heap.size := Nat.ne_of_lt zlt; have zk0 : ∀ o, (W1.alloc o).cell? ⟨wb.heap.size, 0, none⟩ = some (.int .i64 0) := fun o => cell_keep o ((cell_of_blk zb0_1 0).trans rfl); have zk1 : ∀ o, (W1.alloc o).cell? ⟨wb.heap.size, 1, none⟩ = some (.int .i64 0) := fun o => cell_keep o ((cell_of_blk zb0_1 1).trans rfl); have zk2 : ∀ o, (W1.alloc o).cell? ⟨wb.heap.size, 2, none⟩ = some (.slice none 0 0) := fun o => cell_keep o ((cell_of_blk zb0_1 2).trans rfl); have zkf : ∀ o i, (W1.alloc o).frozen? ⟨wb.heap.size, i, none⟩ = false := fun o i => unfrozen_of_blk ((heap_alloc_old _ _ zlt).trans zb0_1) i); (try have zc0_0 : W1.cell? ⟨wb.heap.size, 0, none⟩ = some (.int .i64 0) := (cell_of_blk zb0_1 0).trans rfl); (try have zc0_1 : W1.cell? ⟨wb.heap.size, 1, none⟩ = some (.int .i64 0) := (cell_of_blk zb0_1 1).trans rfl); (try have zc0_2 : W1.cell? ⟨wb.heap.size, 2, none⟩ = some (.slice none 0 0) := (cell_of_blk zb0_1 2).trans rfl); (try have zf0 := unfrozen_of_blk zb0_1); (try have hzb := hide zb0_1; clear zb0_1)))
    · go_wp2_with fail
      go_meet
      have hr : ((W1.alloc (.cells #[.int .i64 1, .int .i64 0, .slice none 0 0, .int .i64 k4, .int .i64 n4, .slice a4 l4 c4, .int .i64 k8, .int .i64 n8, .slice a8 l8 c8] 50)).alloc (.cells #[.int .i64 6, .int .i64 0, .slice (some ⟨W1.heap.size, 0, none⟩) 3 3] 50)).heap[W1.heap.size]? = some (.cells #[.int .i64 1, .int .i64 0, .slice none 0 0, .int .i64 k4, .int .i64 n4, .slice a4 l4 c4, .int .i64 k8, .int .i64 n8, .slice a8 l8 c8] 50) := by rw [heap_alloc_old _ _ (by simp)]; exact heap_alloc_new _ _
      have hb : ((W1.alloc (.cells #[.int .i64 1, .int .i64 0, .slice none 0 0, .int .i64 k4, .int .i64 n4, .slice a4 l4 c4, .int .i64 k8, .int .i64 n8, .slice a8 l8 c8] 50)).alloc (.cells #[.int .i64 6, .int .i64 0, .slice (some ⟨W1.heap.size, 0, none⟩) 3 3] 50)).heap[W1.heap.size + 1]? = some (.cells #[.int .i64 6, .int .i64 0, .slice (some ⟨W1.heap.size, 0, none⟩) 3 3] 50) := by
        have := heap_alloc_new (W1.alloc (.cells #[.int .i64 1, .int .i64 0, .slice none 0 0, .int .i64 k4, .int .i64 n4, .slice a4 l4 c4, .int .i64 k8, .int .i64 n8, .slice a8 l8 c8] 50)) (.cells #[.int .i64 6, .int .i64 0, .slice (some ⟨W1.heap.size, 0, none⟩) 3 3] 50)
        simpa using this
      exact ⟨W1.heap.size + 1, _, rfl, hb, ifT_row ((HVf2.out.below HWB1.out).below (bel2 _ _ _)) ((HVg2.out.below HWB1.out).below (bel2 _ _ _)) hr, (HWB1.out.alloc HWB1.out.size _).alloc (HWB1.out.alloc HWB1.out.size _).size _, Nat.le_succ_of_le HWB1.out.size⟩
    · go_wp2_with fail
      go_meet
      have hb : ((W1.alloc (.cells #[.int .i64 6, .int .i64 0, .slice (some ⟨W1.heap.size + 1, 0, none⟩) 3 3] 50)).alloc (.cells #[.int .i64 1, .int .i64 0, .slice none 0 0, .int .i64 k4, .int .i64 n4, .slice a4 l4 c4, .int .i64 k8, .int .i64 n8, .slice a8 l8 c8] 50)).heap[W1.heap.size]? = some (.cells #[.int .i64 6, .int .i64 0, .slice (some ⟨W1.heap.size + 1, 0, none⟩) 3 3] 50) := by rw [heap_alloc_old _ _ (by simp)]; exact heap_alloc_new _ _
      have hr : ((W1.alloc (.cells #[.int .i64 6, .int .i64 0, .slice (some ⟨W1.heap.size + 1, 0, none⟩) 3 3] 50)).alloc (.cells #[.int .i64 1, .int .i64 0, .slice none 0 0, .int .i64 k4, .int .i64 n4, .slice a4 l4 c4, .int .i64 k8, .int .i64 n8, .slice a8 l8 c8] 50)).heap[W1.heap.size + 1]? = some (.cells #[.int .i64 1, .int .i64 0, .slice none 0 0, .int .i64 k4, .int .i64 n4, .slice a4 l4 c4, .int .i64 k8, .int .i64 n8, .slice a8 l8 c8] 50) := by
        have := heap_alloc_new (W1.alloc (.cells #[.int .i64 6, .int .i64 0, .slice (some ⟨W1.heap.size + 1, 0, none⟩) 3 3] 50)) (.cells #[.int .i64 1, .int .i64 0, .slice none 0 0, .int .i64 k4, .int .i64 n4, .slice a4 l4 c4, .int .i64 k8, .int .i64 n8, .slice a8 l8 c8] 50)
        simpa using this
      exact ⟨W1.heap.size, _, rfl, hb, ifT_row ((HVf2.out.below HWB1.out).below (bel2 _ _ _)) ((HVg2.out.below HWB1.out).below (bel2 _ _ _)) hr, (HWB1.out.alloc HWB1.out.size _).alloc (HWB1.out.alloc HWB1.out.size _).size _, HWB1.out.size⟩
    · go_wp2_with fail
      go_meet
      have hr : ((set3 W1 wb.heap.size (.int .i64 6) (.int .i64 0) (.slice (some ⟨W1.heap.size, 0, none⟩) 3 3)).alloc (.cells #[.int .i64 1, .int .i64 0, .slice none 0 0, .int .i64 k4, .int .i64 n4, .slice a4 l4 c4, .int .i64 k8, .int .i64 n8, .slice a8 l8 c8] 50)).heap[W1.heap.size]? = some (.cells #[.int .i64 1, .int .i64 0, .slice none 0 0, .int .i64 k4, .int .i64 n4, .slice a4 l4 c4, .int .i64 k8, .int .i64 n8, .slice a8 l8 c8] 50) := by
        have := heap_alloc_new (set3 W1 wb.heap.size (.int .i64 6) (.int .i64 0) (.slice (some ⟨W1.heap.size, 0, none⟩) 3 3)) (.cells #[.int .i64 1, .int .i64 0, .slice none 0 0, .int .i64 k4, .int .i64 n4, .slice a4 l4 c4, .int .i64 k8, .int .i64 n8, .slice a8 l8 c8] 50)
        rw [set3_size] at this
        exact this
      have hb : ((set3 W1 wb.heap.size (.int .i64 6) (.int .i64 0) (.slice (some ⟨W1.heap.size, 0, none⟩) 3 3)).alloc (.cells #[.int .i64 1, .int .i64 0, .slice none 0 0, .int .i64 k4, .int .i64 n4, .slice a4 l4 c4, .int .i64 k8, .int .i64 n8, .slice a8 l8 c8] 50)).heap[wb.heap.size]? = some (.cells #[.int .i64 6, .int .i64 0, .slice (some ⟨W1.heap.size, 0, none⟩) 3 3] 50) := by
        rw [heap_alloc_old _ _ (by rw [set3_size]; exact zlt)]
        exact set3_at hzb.out _ _ _
      exact ⟨wb.heap.size, _, rfl, hb, ifT_row (((HVf2.out.below HWB1.out).set3 HFf.out hzb.out _ _ _).below (bel1 _ _)) (((HVg2.out.below HWB1.out).set3 HFg.out hzb.out _ _ _).below (bel1 _ _)) hr, (below_set3 HWB1.out (b := wb.heap.size) (Nat.le_refl _) _ _ _).alloc (below_set3 HWB1.out (b := wb.heap.size) (Nat.le_refl _) _ _ _).size _, Nat.le_refl _⟩
  case rest =>
    obtain ⟨b, bad, rfl, hbb, hbV, hbB, hbl⟩ := hcut
    have HVs := hide hbV
    have hbt := (Array.getElem?_eq_some_iff.1 hbb).1
    have hsz0 := HSz.out
    have h1s := HBb.out.size
    have h2s := hbB.size
    have HBc : Hid (Below w0.heap.size w0 wc) := hide (HBb.out.trans (hbB.mono HBb.out.size))
    have HRc : Hid (wc.heap[w.heap.size + 1]? = some (.cells #[.int .i64 0, .int .i64 0, .slice none 0 0] 50)) := hide ((HBc.out.block (w.heap.size + 1) (by omega)).trans HbR.out)
    have hlRc : w.heap.size + 1 < wc.heap.size := by omega
    have HKyc := hide (HKy.out.below HBc.out)
    have HAlx : Hid (∀ w', Below wc.heap.size wc w' → w'.cell? ⟨w.heap.size, 2, none⟩ = some (.slice (some ⟨g, 0, none⟩) 3 sc) ∧ w'.cell? ⟨g, 0, none⟩ = some (.int .i64 y.k) ∧ w'.cell? ⟨g, 1, none⟩ = some (.int .i64 y.n) ∧ w'.cell? ⟨g, 2, none⟩ = some (.slice yad yn yc) ∧ w'.cell? ⟨b, 0, none⟩ = some (.int .i64 6) ∧ w'.cell? ⟨b, 1, none⟩ = some (.int .i64 0) ∧ w'.cell? ⟨b, 2, none⟩ = some (.slice bad 3 3)) := hide (fun w' hb => by
      obtain ⟨j0, j1, j2, j3, j4, j5, j6, j7, j8, j9, j10, j11⟩ := HEv.out w' (HBc.out.trans (hb.mono HBc.out.size))
      exact ⟨j2, j3, j4, j5, (hb.cell (p := ⟨b, 0, none⟩) (hbt)).trans ((cell_of_blk hbb 0).trans rfl), (hb.cell (p := ⟨b, 1, none⟩) (hbt)).trans ((cell_of_blk hbb 1).trans rfl), (hb.cell (p := ⟨b, 2, none⟩) (hbt)).trans ((cell_of_blk hbb 2).trans rfl)⟩)
    have HSet : Hid (∀ w' (x y' z' : Value), (w'.cell? ⟨w.heap.size, 2, none⟩ = some (.slice (some ⟨g, 0, none⟩) 3 sc) ∧ w'.cell? ⟨g, 0, none⟩ = some (.int .i64 y.k) ∧ w'.cell? ⟨g, 1, none⟩ = some (.int .i64 y.n) ∧ w'.cell? ⟨g, 2, none⟩ = some (.slice yad yn yc) ∧ w'.cell? ⟨b, 0, none⟩ = some (.int .i64 6) ∧ w'.cell? ⟨b, 1, none⟩ = some (.int .i64 0) ∧ w'.cell? ⟨b, 2, none⟩ = some (.slice bad 3 3)) → (set3 w' (w.heap.size + 1) x y' z').cell? ⟨w.heap.size, 2, none⟩ = some (.slice (some ⟨g, 0, none⟩) 3 sc) ∧ (set3 w' (w.heap.size + 1) x y' z').cell? ⟨g, 0, none⟩ = some (.int .i64 y.k) ∧ (set3 w' (w.heap.size + 1) x y' z').cell? ⟨g, 1, none⟩ = some (.int .i64 y.n) ∧ (set3 w' (w.heap.size + 1) x y' z').cell? ⟨g, 2, none⟩ = some (.slice yad yn yc) ∧ (set3 w' (w.heap.size + 1) x y' z').cell? ⟨b, 0, none⟩ = some (.int .i64 6) ∧ (set3 w' (w.heap.size + 1) x y' z').cell? ⟨b, 1, none⟩ = some (.int .i64 0) ∧ (set3 w' (w.heap.size + 1) x y' z').cell? ⟨b, 2, none⟩ = some (.slice bad 3 3)) := hide (fun w' x y' z' ⟨j0, j1, j2, j3, j4, j5, j6⟩ => ⟨set3_cell (show w.heap.size ≠ w.heap.size + 1 by omega) _ _ _ j0, set3_cell (show g ≠ w.heap.size + 1 by omega) _ _ _ j1, set3_cell (show g ≠ w.heap.size + 1 by omega) _ _ _ j2, set3_cell (show g ≠ w.heap.size + 1 by omega) _ _ _ j3, set3_cell (show b ≠ w.heap.size + 1 by omega) _ _ _ j4, set3_cell (show b ≠ w.heap.size + 1 by omega) _ _ _ j5, set3_cell (show b ≠ w.heap.size + 1 by omega) _ _ _ j6⟩)
    have HBw : Hid (Below w.heap.size w wc) := hide (HB.out.trans (HBc.out.mono (by omega)))
    clear hbb hbV hbB hsz0 h1s h2s
    go_wp2_with fail
    have HXB0d : Hid (Below wc.heap.size wc wc.drew) := hide (belowDrew (Below.refl _ _))
    obtain ⟨Xu0, Xu1, Xu2, Xu3, Xu4, Xu5, Xu6⟩ := HAlx.out wc.drew HXB0d.out
    go_region_held3 (fun w' => w'.cell? ⟨w.heap.size, 2, none⟩ = some (.slice (some ⟨g, 0, none⟩) 3 sc) ∧ w'.cell? ⟨g, 0, none⟩ = some (.int .i64 y.k) ∧ w'.cell? ⟨g, 1, none⟩ = some (.int .i64 y.n) ∧ w'.cell? ⟨g, 2, none⟩ = some (.slice yad yn yc) ∧ w'.cell? ⟨b, 0, none⟩ = some (.int .i64 6) ∧ w'.cell? ⟨b, 1, none⟩ = some (.int .i64 0) ∧ w'.cell? ⟨b, 2, none⟩ = some (.slice bad 3 3)) (first | (with_reducible exact HAlx.out _ HXB0d.out) | (with_reducible exact HAlx.out _ HXB1.out) | (with_reducible exact HAlx.out _ HXB2.out) | (with_reducible exact HAlx.out _ HXB3.out) | (with_reducible exact HAlx.out _ HXB4.out) | (with_reducible exact HAlx.out _ HXB5.out) | (with_reducible exact HSet.out _ _ _ _ (HAlx.out _ HXB5.out)))
      (first
        | ((with_reducible refine Calls.mono (HHy.out _ _ _ (by first | exact HKyc.out.below HXB0d.out)) ?_); rintro e X1 ⟨Xv1, rfl, hv, hx⟩; have HXB1 : Hid (Below wc.heap.size wc X1) := hide (by first | exact HXB0d.out.trans (hx.mono HXB0d.out.size)); have HXV1_1 := hide hv; obtain ⟨Xk1, Xn1, Xa1, Xl1, Xc1, rfl⟩ := hv.form; clear hv hx)
        | ((with_reducible refine Calls.mono (shift_10 ay _ _ HOy.out HLy.out (by first | exact HXV1_1.out)) ?_); rintro e X2 ⟨Xv2, rfl, hv, hx⟩; have HXB2 : Hid (Below wc.heap.size wc X2) := hide (by first | exact HXB1.out.trans (hx.mono HXB1.out.size)); have HXV1_2 := hide (show TV X2 AnyQ _ _ from (by first | exact HXV1_1.out.below hx)); have HXV2_2 := hide hv; obtain ⟨Xk2, Xn2, Xa2, Xl2, Xc2, rfl⟩ := hv.form; clear hv hx)
        | ((with_reducible refine Calls.mono (lam_tv (ifT (varT 0) (appT (sh 2 0 az) (varT 1)) (appT (sh 2 0 au) (varT 1))) (.agg #[.int .i64 6, .int .i64 0, .slice bad 3 3]) _ (by first | exact HVs.out.below HXB2.out)) ?_); rintro e X3 ⟨Xv3, rfl, hv, hx⟩; have HXB3 : Hid (Below wc.heap.size wc X3) := hide (by first | exact HXB2.out.trans (hx.mono HXB2.out.size)); have HXV1_3 := hide (show TV X3 AnyQ _ _ from (by first | exact HXV1_2.out.below hx)); have HXV2_3 := hide (show TV X3 AnyQ _ _ from (by first | exact HXV2_2.out.below hx)); have HXV3_3 := hide hv; obtain ⟨Xk3, Xn3, Xa3, Xl3, Xc3, rfl⟩ := hv.form; clear hv hx)
        | ((with_reducible refine Calls.mono (app_tv (sh 1 0 ay) (lamT (ifT (varT 0) (appT (sh 2 0 az) (varT 1)) (appT (sh 2 0 au) (varT 1)))) _ _ _ (by first | exact HXV2_3.out) (by first | exact HXV3_3.out)) ?_); rintro e X4 ⟨Xv4, rfl, hv, hx⟩; have HXB4 : Hid (Below wc.heap.size wc X4) := hide (by first | exact HXB3.out.trans (hx.mono HXB3.out.size)); have HXV1_4 := hide (show TV X4 AnyQ _ _ from (by first | exact HXV1_3.out.below hx)); have HXV2_4 := hide (show TV X4 AnyQ _ _ from (by first | exact HXV2_3.out.below hx)); have HXV3_4 := hide (show TV X4 AnyQ _ _ from (by first | exact HXV3_3.out.below hx)); have HXV4_4 := hide hv; obtain ⟨Xk4, Xn4, Xa4, Xl4, Xc4, rfl⟩ := hv.form; clear hv hx)
        | ((with_reducible refine Calls.mono (lam_tv (appT (sh 1 0 ay) (lamT (ifT (varT 0) (appT (sh 2 0 az) (varT 1)) (appT (sh 2 0 au) (varT 1))))) _ _ (by first | exact HXV4_4.out)) ?_); rintro e X5 ⟨Xv5, rfl, hv, hx⟩; have HXB5 : Hid (Below wc.heap.size wc X5) := hide (by first | exact HXB4.out.trans (hx.mono HXB4.out.size)); have HXV1_5 := hide (show TV X5 AnyQ _ _ from (by first | exact HXV1_4.out.below hx)); have HXV2_5 := hide (show TV X5 AnyQ _ _ from (by first | exact HXV2_4.out.below hx)); have HXV3_5 := hide (show TV X5 AnyQ _ _ from (by first | exact HXV3_4.out.below hx)); have HXV4_5 := hide (show TV X5 AnyQ _ _ from (by first | exact HXV4_4.out.below hx)); have HXV5_5 := hide hv; obtain ⟨Xk5, Xn5, Xa5, Xl5, Xc5, rfl⟩ := hv.form; clear hv hx; have hzr : X5.heap[w.heap.size + 1]? = some (.cells #[.int .i64 0, .int .i64 0, .slice none 0 0] 50) := (HXB5.out.block (w.heap.size + 1) hlRc).trans HRc.out; have zr0 : X5.cell? ⟨w.heap.size + 1, 0, none⟩ = some (.int .i64 0) := (cell_of_blk hzr 0).trans rfl; have zr1 : X5.cell? ⟨w.heap.size + 1, 1, none⟩ = some (.int .i64 0) := (cell_of_blk hzr 1).trans rfl; have zr2 : X5.cell? ⟨w.heap.size + 1, 2, none⟩ = some (.slice none 0 0) := (cell_of_blk hzr 2).trans rfl; have zrf := unfrozen_of_blk hzr; have HZr := hide hzr; clear hzr))
    go_wp2_with fail
    have hre := set3_at HZr.out (.int .i64 Xk5) (.int .i64 Xn5) (.slice Xa5 Xl5 Xc5)
    have r0 := (cell_of_blk hre 0).trans rfl
    have r1 := (cell_of_blk hre 1).trans rfl
    have r2 := (cell_of_blk hre 2).trans rfl
    exact bodyPost_ret (v := .agg #[.int .i64 Xk5, .int .i64 Xn5, .slice Xa5 Xl5 Xc5]) (by simp [results, Tryz.results39, go_sem, r0, r1, r2]) rfl ⟨_, rfl, HXV5_5.out.set3 HFit.out HZr.out _ _ _, below_set3 (HBw.out.trans (HXB5.out.mono HBw.out.size)) (by omega) _ _ _⟩
end Go.Proofs.YtnmkbpflbfhpnaaGreat.W

/-
  The variables that are bound nowhere, by the program: contracts of FreeIn's closure and of FreeIn. Conditions: at most 1048576 cells.
-/
namespace Go.Proofs.YtnmkbpflbfhpnaaGreat.W
open Go.ChangeShapes Go.WideShapes Go.ChangeAt Go.RowKit
set_option linter.unusedVariables false

theorem iOwn_lower {w : World} {base base' n size : Nat} {e : TypeId} {v : Value} {xs : List Value} (h : w.ownsRow base e size v n xs) (hb : base' ≤ base) : w.ownsRow base' e size v n xs := by
  refine ⟨h.1, ?_⟩
  rcases h.2 with h1 | ⟨g, cap, cur, hv, hg, rest⟩
  · exact .inl h1
  · exact .inr ⟨g, cap, cur, hv, by omega, rest⟩

/-- A hundred marks. -/
def bitO (s : List Bool) : Obj := .cells (s.map Value.bool).toArray 151 (0, 0)
def bitS (s : List Bool) (n : Int) (d : Nat) : List Bool := if (d : Int) ≤ n then s.set (n - (d : Int)).toNat true else s
def sameV (_ : List Bool) (n : Int) (_ : Nat) : F := .cons ⟨1, n⟩ .nil .nil

theorem fnFree : ∀ args w, (callFunc 87 args).run Tryz.prog w = .ok (.enter 87 args) w := fun args w => by kernel_rfl

set_option maxRecDepth 20000 in
set_option maxHeartbeats 1000000 in
theorem chgFree (cb : Nat) : ChgOK (σ := {s : List Bool // s.length = 100}) 87 #[.pointer (some ⟨cb, 0, none⟩)] cb (fun s w => w.heap[cb]? = some (bitO s.1)) (fun s n d => sameV s.1 n d) (fun s n d => ⟨bitS s.1 n d, by unfold bitS; split <;> simp [s.2]⟩) := by
  rintro ⟨s, hs⟩ n d w h0 h1 hd hcb hinv
  have hb : w.heap[cb]? = some (bitO s) := hinv.get
  simp only
  show Calls Tryz.prog 87 #[.agg #[.int .i64 n], .int .i64 (d : Int), .pointer (some ⟨cb, 0, none⟩)] w _
  have HB := hide hb
  clear hb hinv
  by_cases hdn : (d : Int) ≤ n
  · obtain ⟨j, hj⟩ := Int.eq_ofNat_of_zero_le (show 0 ≤ n - (d : Int) by omega)
    have hj100 : j < 100 := by omega
    have hj100' : (j : Int) < 100 := by omega
    have hjs : j < s.length := by omega
    have hcell : w.cell? ⟨cb, j, none⟩ = some (.bool (s[j]'hjs)) := by rw [cell_of_blk HB.out]; simp [hjs]
    have hfz : w.frozen? ⟨cb, j, none⟩ = false := unfrozen_of_blk HB.out j
    have hset : bitS s n d = s.set j true := by unfold bitS; rw [if_pos hdn, hj]; rfl
    go_enter Tryz.func87, Tryz.ntmps87
    have HSet := hide hset
    have HJ := hide hj
    clear hset
    go_wp2_with fail
    go_ret
    refine ⟨rfl, Inv.blk ?_, ((Oth.refl cb w).setCell j (.bool true)).trans (Oth.alloc1 _ _ _)⟩
    show _ = some (bitO (bitS s n d))
    rw [HSet.out, heap_alloc_old _ _ (by simp [World.setCell]; exact hcb), blk_setCell HB.out]
    simp [bitO]
  · have hset : bitS s n d = s := by unfold bitS; rw [if_neg hdn]
    have HSet := hide hset
    clear hset
    go_enter Tryz.func87, Tryz.ntmps87
    go_wp2_with fail
    go_ret
    refine ⟨rfl, Inv.blk ?_, Oth.alloc1 _ _ _⟩
    show _ = some (bitO (bitS s n d))
    rw [HSet.out, heap_alloc_old _ _ hcb]
    exact HB.out

/-- The places below j that are marked. -/
def mkd (s : List Bool) (j : Nat) : List Int := ((List.range j).filter fun i => s.getD i false).map Int.ofNat
def marked (s : List Bool) : List Int := mkd s 100
theorem mkd_succ (s : List Bool) (j : Nat) : mkd s (j + 1) = if s.getD j false = true then mkd s j ++ [(j : Int)] else mkd s j := by
  unfold mkd
  rw [List.range_succ, List.filter_append, List.map_append]
  split
  · rename_i h; rw [List.filter_cons, if_pos h]; rfl
  · rename_i h; rw [List.filter_cons, if_neg h]; simp
theorem mkd_len (s : List Bool) (j : Nat) : (mkd s j).length ≤ j := by
  unfold mkd
  rw [List.length_map]
  exact Nat.le_trans (List.length_filter_le _ _) (by simp)

theorem idx_bool (B : List Bool) (hB : B.length = 100) (j : Nat) (hj : j < 100) (w : World) : (Instr.index 151 (.agg (B.map Value.bool).toArray) (.int .i64 (j : Int))).run Tryz.prog w = .ok (.bool (B.getD j false)) w := by
  obtain ⟨i, hi, e⟩ := Option.map_eq_some_iff.1 (show (Tryz.prog.info? 4).map (fun i => (i.zero, i.size, i.bytes)) = some (some (.bool false), 1, 1) by kernel_rfl)
  simp only [Prod.mk.injEq] at e
  have hjl : j < B.length := by omega
  simp [Instr.index, run_underlying Tryz.underlying151, sizeOf, typeInfo, hi, e.2.1, go_sem, hj, hjl]

/-- The marks of a term's variables (type 151). -/
def bits (x : Cc) (k : F) : List Bool := (w1 (σ := {s : List Bool // s.length = 100}) (fun s n d => sameV s.1 n d) (fun s n d => ⟨bitS s.1 n d, by unfold bitS; split <;> simp [s.2]⟩) 0 x k ⟨List.replicate 100 false, by simp⟩).2.1

set_option maxRecDepth 20000 in
set_option maxHeartbeats 1000000 in
theorem implFreeIn_some (ad : Option Addr) (c : Nat) (l : List Cc) (a : F) (w : World) (hl : l.length ≤ 1048576) (hc : l.length ≤ c) (h : CRow w ad l) (ht : treeT l = some a) (x : Cc) (k : F) (ha : a = .cons x k .nil) :
    Calls Tryz.prog 47 #[.slice ad l.length c] w fun e w' => ∃ s', e = .returned (.tuple #[s', .bool true]) ∧ w'.ownsRow w.heap.size 3 1 s' (marked (bits x k)).length ((marked (bits x k)).map (Value.int .i64)) ∧ Below w.heap.size w w' := by
  have HR := hide h
  have hg : goodT l = true := by unfold goodT; rw [ht]; rfl
  have HT := hide (treeT_flat ht)
  have HG := hide (implGoodT_any ad c l)
  rw [hg] at HG
  clear h ht hg
  go_enter Tryz.func47, Tryz.ntmps47
  go_wp2_with fail
  refine (HG.out w hl HR.out).mono ?_
  rintro e w1 ⟨rfl, hb1⟩
  go_wp2_with fail
  obtain ⟨t1, t2, t3, t4, t5⟩ := HT.out
  obtain ⟨w2, hw2⟩ : ∃ w2, w2 = w1.alloc (.cells Tryz.zeroCells151 151) := ⟨_, rfl⟩
  rw [← hw2]
  have hz : Tryz.zeroCells151 = ((List.replicate 100 false).map Value.bool).toArray := by kernel_rfl
  have hbk : w2.heap[w1.heap.size]? = some (bitO (List.replicate 100 false)) := by rw [hw2, hz]; exact heap_alloc_new _ _
  have hB12 : Below w1.heap.size w1 w2 := by rw [hw2]; exact (Below.refl _ _).alloc (Nat.le_refl _) _
  have hB2 : Below w.heap.size w w2 := hb1.trans (hB12.mono hb1.size)
  have hR2 := HR.out.below hB2
  have hpo := partOf_any a ad c w2 t2 t3 (by rw [← t1]; exact hl) (by rw [← t1]; exact hc) (by rw [← t1]; exact hR2)
  rw [← t1] at hpo
  have HPo := hide hpo
  have HBk := hide hbk
  have hsz1 := hb1.size
  have hcb : w1.heap.size < w2.heap.size := (Array.getElem?_eq_some_iff.1 hbk).1
  subst ha
  obtain ⟨g1, l1, o1, -⟩ := ok_cons t2
  have hkf : 0 + k.flat.length ≤ 1048576 := by rw [t1] at t4; simp [F.flat] at t4; omega
  have hwv := withVariables_any (σ := {s : List Bool // s.length = 100}) 87 #[.pointer (some ⟨w1.heap.size, 0, none⟩)] w1.heap.size (fun s w => w.heap[w1.heap.size]? = some (bitO s.1)) (fun s n d => sameV s.1 n d) (fun s n d => ⟨bitS s.1 n d, by unfold bitS; split <;> simp [s.2]⟩) fnFree (chgFree _) (fun s n d => rfl) k x ⟨List.replicate 100 false, by simp⟩ 0 g1 l1 o1 hkf
  have hpt : pvT (.cons x k .nil) = pv x.k x.n (pvs k) := rfl
  rw [← hpt] at hwv
  have hrl := wv_len (σ := {s : List Bool // s.length = 100}) (g := fun s n d => sameV s.1 n d) (st := fun s n d => ⟨bitS s.1 n d, by unfold bitS; split <;> simp [s.2]⟩) (fun s n d => rfl) (.cons x k .nil) 0 0 0 ⟨List.replicate 100 false, by simp⟩
  obtain ⟨RR, hRR⟩ : ∃ RR, RR = W.w1 (σ := {s : List Bool // s.length = 100}) (fun s n d => sameV s.1 n d) (fun s n d => ⟨bitS s.1 n d, by unfold bitS; split <;> simp [s.2]⟩) 0 x k ⟨List.replicate 100 false, by simp⟩ := ⟨_, rfl⟩
  have hbits : RR.2.1 = bits x k := by rw [hRR]; rfl
  unfold WVC at hwv
  rw [← hRR] at hwv
  have hrl' : RR.1.len = 1 := by rw [hRR]; exact hrl
  obtain ⟨T, u, hV⟩ := pvT_iface hrl'
  obtain ⟨T0, u0, hV0⟩ := pvT_iface (a := .cons x k .nil) rfl
  rw [hV, hV0, show ((0 : Nat) : Int) = 0 from rfl] at hwv
  rw [hV0] at HPo
  have HWV := hide hwv
  have HBits := hide hbits
  clear hw2 hz hbk hR2 hpo t1 t2 t3 t4 t5 HT HG g1 l1 o1 hkf hwv hpt hrl hRR hbits hrl' hV hV0
  refine Calls.mono HPo.out ?_
  rintro e w3 ⟨rfl, hb3⟩
  have HBk3 := hide ((hb3.block _ hcb).trans HBk.out)
  have hcb3 : w1.heap.size < w3.heap.size := Nat.lt_of_lt_of_le hcb hb3.size
  have hB3 : Below w.heap.size w w3 := hB2.trans (hb3.mono hB2.size)
  clear hb3 HBk HPo hB12
  go_wp2_with fail
  refine Calls.mono (HWV.out _ hcb3 (Inv.blk HBk3.out)) ?_
  rintro e w4 ⟨rfl, hi4, ho4⟩
  have hb4 : w4.heap[w1.heap.size]? = some (bitO (bits x k)) := by rw [← HBits.out]; exact hi4.get
  have hB4 : Below w.heap.size w w4 := hB3.trans (ho4.below (by have := hB3.size; omega) hsz1)
  have HB4 := hide hb4
  clear hi4 ho4 hb4 HBk3
  obtain ⟨i0, hi0, hz0, hz1, hz2⟩ := infoPartsT infoInt
  have Hi := hide hi0
  clear hi0
  obtain ⟨B, hB⟩ : ∃ B, B = bits x k := ⟨_, rfl⟩
  rw [← hB] at HB4
  have HBB := hide hB
  clear hB
  have hBl : B.length = 100 := by rw [HBB.out]; exact (W.w1 (σ := {s : List Bool // s.length = 100}) (fun s n d => sameV s.1 n d) (fun s n d => ⟨bitS s.1 n d, by unfold bitS; split <;> simp [s.2]⟩) 0 x k ⟨List.replicate 100 false, by simp⟩).2.2
  have HRg : Hid (w4.rangeAt w1.heap.size 0 (B.map Value.bool)) := hide (fun j v hj => by rw [cell_of_blk HB4.out, Nat.zero_add, ← hj]; simp)
  have HInf : Hid ((Tryz.prog.info? 151).map (·.size) = some (B.map Value.bool).length) := hide (by rw [List.length_map, hBl]; kernel_rfl)
  go_wp2_with fail
  refine wp_load_mid 151 _ rfl w1.heap.size 0 rfl (B.map Value.bool) _ HRg.out Tryz.underlying151 rfl HInf.out ?_
  go_wp2_with fail
  have hsz4 := hB4.size
  clear HRg HInf HB4
  go_loopw [5, 16] (fun o5 i w' => ∃ j : Nat, j ≤ 100 ∧ i = .int .i64 (j : Int) ∧ w'.ownsRow w4.heap.size 3 1 o5 (mkd B j).length ((mkd B j).map (Value.int .i64)) ∧ Below w4.heap.size w4 w') (fun _ i _ => 100 - (intOf i).toNat)
  case atStart => exact ⟨0, by omega, rfl, World.ownsRow_nil _ _ _ _, Below.refl _ _⟩
  case round =>
    obtain ⟨j, hj, rfl, hown, hBr⟩ := hrel
    obtain ⟨oad, oc, hform⟩ := iOwn_form hown
    subst hform
    have HO := hide hown
    clear hown
    have hml := mkd_len B j
    by_cases hlt : j < 100
    · have hlt' : (j : Int) < 100 := by omega
      have hidx := idx_bool B hBl j hlt
      have hms := mkd_succ B j
      cases hb : B.getD j false with
      | false =>
        rw [hb] at hidx hms
        rw [if_neg (by simp)] at hms
        have HMs := hide hms
        clear hb hms
        go_wp2_with fail
        exact ⟨⟨j + 1, by omega, by go_num, by rw [HMs.out]; exact HO.out, hBr⟩, by simp [intOf]; omega⟩
      | true =>
        rw [hb] at hidx hms
        rw [if_pos rfl] at hms
        have HMs := hide hms
        clear hb hms
        have hszr := hBr.size
        have T2 : Hid (∀ i u, [Value.int .i64 (j : Int)][i]? = some u → (wr.alloc (.cells #[.int .i64 (j : Int)] 3)).cell? ((⟨wr.heap.size, 0, none⟩ : Addr).add i) = some u) := hide (by
          intro i u hu
          rw [iAdd, Nat.zero_add, cell_of_blk (heap_alloc_new wr (.cells #[.int .i64 (j : Int)] 3)), ← hu]
          simp)
        have M2 : Hid ((mkd B j).length + 1 ≤ maxLen) := hide (by unfold maxLen; omega)
        obtain ⟨ml, hmle⟩ : ∃ ml, ml = (mkd B j).length := ⟨_, rfl⟩
        rw [← hmle] at HO M2 hml ⊢
        have HMl := hide hmle
        clear hmle
        go_wp2_with (at_builtin; refine wpList_append_own _ rfl _ _ 42 rfl w4.heap.size 3 i0 (.int .i64 0) 1 8 Tryz.underlying42 Hi.out hz0 hz1 hz2 rfl (by decide) _ _ _ rfl (HO.out.alloc _) ⟨wr.heap.size, 0, none⟩ 1 1 [.int .i64 (j : Int)] rfl rfl T2.out (iOne [(j : Int)]) M2.out (by omega) (by simp; omega) ?_)
        intro v2 w2' hown2 hgrow2 _
        obtain ⟨ad2, c2, rfl⟩ := iOwn_form hown2
        have hB2' : Below w4.heap.size w4 w2' := (hBr.alloc hBr.size _).grown hgrow2 (by simp; omega) (fun k hk => (HO.out.lt k hk).1)
        have HO2 := hide hown2
        clear hown2 hgrow2
        go_wp2_with fail
        refine ⟨⟨j + 1, by omega, by go_num, ?_, hB2'⟩, by simp [intOf]; omega⟩
        rw [HMs.out, List.length_append, List.map_append, ← HMl.out]
        exact HO2.out
    · obtain rfl : j = 100 := by omega
      go_wp2_with fail
      have hBw : Below w.heap.size w wr := hB4.trans (hBr.mono hB4.size)
      refine bodyPost_ret (v := .tuple #[.slice oad (mkd B 100).length oc, .bool true]) (by simp [results, Tryz.results47, go_sem]) rfl ⟨_, rfl, ?_, hBw⟩
      rw [← HBB.out]
      exact iOwn_lower HO.out hB4.size

set_option maxHeartbeats 1000000 in
theorem implFreeIn_none (ad : Option Addr) (c : Nat) (l : List Cc) (w : World) (hl : l.length ≤ 1048576) (h : CRow w ad l) (ht : treeT l = none) :
    Calls Tryz.prog 47 #[.slice ad l.length c] w fun e w' => e = .returned (.tuple #[.slice none 0 0, .bool false]) ∧ Below w.heap.size w w' := by
  have hg : goodT l = false := by unfold goodT; rw [ht]; rfl
  have HR := hide h
  have HG := hide (implGoodT_any ad c l w hl h)
  rw [hg] at HG
  clear h ht hg
  go_enter Tryz.func47, Tryz.ntmps47
  go_wp2_with fail
  refine HG.out.mono ?_
  rintro e w1 ⟨rfl, hb1⟩
  go_wp2_with fail
  exact bodyPost_ret (v := .tuple #[.slice none 0 0, .bool false]) (by simp [results, Tryz.results47, go_sem]) rfl ⟨rfl, hb1⟩
end Go.Proofs.YtnmkbpflbfhpnaaGreat.W
