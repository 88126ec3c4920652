/-
  The specification hands on a number, a variable, a lambda, a sum, an application: contracts of l7Hand there. Conditions: as the theorems state.
-/
import Derived.Test.YtnmkbpflbfhpnaaGreatJ12
import Derived.Deep.RegionHeld3
import Derived.Deep.CutRange
namespace Go.Proofs.YtnmkbpflbfhpnaaGreat.W
open Go.ChangeShapes Go.WideShapes Go.ChangeAt Go.RowKit
set_option linter.unusedVariables false

theorem var_tv (n : Int) (w : World) :
    Calls Tryz.prog 21 #[.int .i64 n] w fun e w' => ∃ v', e = .returned v' ∧ TV w' AnyQ (varT n) v' ∧ Below w.heap.size w w' :=
  Calls.mono (l7Var_any n w) (fun e w' h => ⟨_, h.1, TV.var _ _ _, h.2⟩)
theorem tvNum (w : World) (n : Int) : TV w AnyQ (.cons ⟨2, n⟩ .nil .nil) (.agg #[.int .i64 2, .int .i64 n, .slice none 0 0]) := ⟨⟨2, n⟩, .nil, _, rfl, rfl, KidT.nil⟩
theorem KidT.is_nil {w : World} {P : Nat → Prop} {s : Value} (h : KidT w P .nil s) : s = .slice none 0 0 := by
  obtain ⟨ck, _, ⟨_, e⟩ | ⟨h, _⟩⟩ := h
  · exact e
  · simp [F.len] at h
/-- The third kid, as a walk wants it. -/
theorem KidT.third {w : World} {P : Nat → Prop} {k r ky kz : F} {x y z : Cc} {g n c : Nat} (h : KidT w P (.cons y ky (.cons z kz (.cons x k r))) (.slice (some ⟨g, 0, none⟩) n c)) :
    w.cell? ⟨g, 6, none⟩ = some (.int .i64 x.k) ∧ w.cell? ⟨g, 7, none⟩ = some (.int .i64 x.n) ∧ ∃ sx, w.cell? ⟨g, 8, none⟩ = some sx ∧ KidT w P k sx := by
  obtain ⟨g', cap, sx, he, hP, hg, hTy, p0, p1, p2⟩ := KidT.kid (a := .cons y ky (.cons z kz .nil)) h
  simp only [Value.slice.injEq, Option.some.injEq, Addr.mk.injEq] at he
  obtain ⟨⟨rfl, -, -⟩, -, -⟩ := he
  simp only [F.len, Nat.zero_add, Nat.reduceAdd, Nat.reduceMul] at p0 p1 p2
  exact ⟨p0, p1, sx, p2, hTy⟩
theorem varT_fit (n : Int) : (varT n).fit := ⟨rfl, fun h => by simp at h, rfl, trivial, trivial⟩
theorem addT_fit {a b : F} (h1 : a.len = 1) (h2 : b.len = 1) (ha : a.fit) (hb : b.fit) : (addT a b).fit := ⟨rfl, fun _ => rfl, by rw [F.app_len, h1, h2]; rfl, (F.app_fit _ _).2 ⟨ha, hb⟩, trivial⟩
theorem ifT_fit {a b c : F} (h1 : a.len = 1) (h2 : b.len = 1) (h3 : c.len = 1) (ha : a.fit) (hb : b.fit) (hc : c.fit) : (ifT a b c).fit := ⟨rfl, fun _ => rfl, by rw [F.app_len, F.app_len, h1, h2, h3]; rfl, (F.app_fit _ _).2 ⟨ha, (F.app_fit _ _).2 ⟨hb, hc⟩⟩, trivial⟩

set_option maxRecDepth 20000 in
set_option maxHeartbeats 8000000 in
theorem hand_num (xn : Int) (s : Value) (P : Nat → Prop) (w : World) (hT : KidT w P (.nil) s) :
    Calls Tryz.prog 39 #[.agg #[.int .i64 2, .int .i64 xn, s]] w fun e w' => ∃ v', e = .returned v' ∧ TV w' AnyQ (lamT (appT (varT 0) (.cons ⟨2, xn⟩ .nil .nil))) v' ∧ Below w.heap.size w w' := by
  obtain rfl := hT.is_nil
  obtain ⟨w0, hw0⟩ : ∃ w0, w0 = (w.alloc (.cells #[.int .i64 2, .int .i64 xn, .slice none 0 0] 50)).alloc (.cells #[.int .i64 0, .int .i64 0, .slice none 0 0] 50) := ⟨_, rfl⟩
  have hB0 : Below w.heap.size w w0 := by rw [hw0]; exact bel2 _ _ _
  have hsz0 : w0.heap.size = w.heap.size + 1 + 1 := by rw [hw0]; simp
  have hbT : w0.heap[w.heap.size]? = some (.cells #[.int .i64 2, .int .i64 xn, .slice none 0 0] 50) := by rw [hw0, heap_alloc_old _ _ (by simp)]; exact heap_alloc_new _ _
  have hbR : w0.heap[w.heap.size + 1]? = some (.cells #[.int .i64 0, .int .i64 0, .slice none 0 0] 50) := by
    rw [hw0]
    have := heap_alloc_new (w.alloc (.cells #[.int .i64 2, .int .i64 xn, .slice none 0 0] 50)) (.cells #[.int .i64 0, .int .i64 0, .slice none 0 0] 50)
    simpa using this
  have HbR := hide hbR
  have HB := hide hB0
  have HT0 := hide (hT.below hB0)
  have hlR : w.heap.size + 1 < w0.heap.size := by omega
  have HFit : Hid (lamT (appT (varT 0) (.cons ⟨2, xn⟩ .nil .nil))).fit := hide (lamT_fit rfl (appT_fit rfl rfl (varT_fit 0) ⟨rfl, fun h => by simp at h, rfl, trivial, trivial⟩))
  have HEv : Hid (∀ w', Below w0.heap.size w0 w' → w'.cell? ⟨w.heap.size, 0, none⟩ = some (.int .i64 2) ∧ w'.cell? ⟨w.heap.size, 1, none⟩ = some (.int .i64 xn) ∧ w'.cell? ⟨w.heap.size, 2, none⟩ = some (.slice none 0 0)) := hide (fun w' hb => ⟨(hb.cell (p := ⟨w.heap.size, 0, none⟩) (show w.heap.size < w0.heap.size by omega)).trans ((cell_of_blk hbT 0).trans rfl), (hb.cell (p := ⟨w.heap.size, 1, none⟩) (show w.heap.size < w0.heap.size by omega)).trans ((cell_of_blk hbT 1).trans rfl), (hb.cell (p := ⟨w.heap.size, 2, none⟩) (show w.heap.size < w0.heap.size by omega)).trans ((cell_of_blk hbT 2).trans rfl)⟩)
  have HSz := hide hsz0
  have HW0 := hide hw0
  clear hsz0 hw0 hB0 hbT hbR hT
  go_enter Tryz.func39, Tryz.ntmps39
  go_wp2_with fail
  rw [← HW0.out]
  clear HW0
  have HAll : Hid (∀ w', Below w0.heap.size w0 w' → w'.cell? ⟨w.heap.size, 0, none⟩ = some (.int .i64 2) ∧ w'.cell? ⟨w.heap.size, 1, none⟩ = some (.int .i64 xn) ∧ w'.cell? ⟨w.heap.size, 2, none⟩ = some (.slice none 0 0)) := hide (fun w' hb => by
    obtain ⟨j0, j1, j2⟩ := HEv.out w' hb
    exact ⟨j0, j1, j2⟩)
  have HSet : Hid (∀ w' (x y' z' : Value), (w'.cell? ⟨w.heap.size, 0, none⟩ = some (.int .i64 2) ∧ w'.cell? ⟨w.heap.size, 1, none⟩ = some (.int .i64 xn) ∧ w'.cell? ⟨w.heap.size, 2, none⟩ = some (.slice none 0 0)) → (set3 w' (w.heap.size + 1) x y' z').cell? ⟨w.heap.size, 0, none⟩ = some (.int .i64 2) ∧ (set3 w' (w.heap.size + 1) x y' z').cell? ⟨w.heap.size, 1, none⟩ = some (.int .i64 xn) ∧ (set3 w' (w.heap.size + 1) x y' z').cell? ⟨w.heap.size, 2, none⟩ = some (.slice none 0 0)) := hide (fun w' x y' z' ⟨j0, j1, j2⟩ => ⟨set3_cell (show w.heap.size ≠ w.heap.size + 1 by omega) _ _ _ j0, set3_cell (show w.heap.size ≠ w.heap.size + 1 by omega) _ _ _ j1, set3_cell (show w.heap.size ≠ w.heap.size + 1 by omega) _ _ _ j2⟩)
  have HWB0d : Hid (Below w0.heap.size w0 w0.drew) := hide (belowDrew (Below.refl _ _))
  obtain ⟨Wu0, Wu1, Wu2⟩ := HAll.out w0.drew HWB0d.out
  go_region_held3 (fun w' => w'.cell? ⟨w.heap.size, 0, none⟩ = some (.int .i64 2) ∧ w'.cell? ⟨w.heap.size, 1, none⟩ = some (.int .i64 xn) ∧ w'.cell? ⟨w.heap.size, 2, none⟩ = some (.slice none 0 0)) (first | (with_reducible exact HAll.out _ HWB0d.out) | (with_reducible exact HAll.out _ HWB1.out) | (with_reducible exact HAll.out _ HWB2.out) | (with_reducible exact HAll.out _ HWB3.out) | (with_reducible exact HSet.out _ _ _ _ (HAll.out _ HWB3.out)))
    (first
      | ((with_reducible refine Calls.mono (var_tv 0 _) ?_); rintro e W1 ⟨Wv1, rfl, hv, hx⟩; have HWB1 : Hid (Below w0.heap.size w0 W1) := hide (by first | exact HWB0d.out.trans (hx.mono HWB0d.out.size)); have HWV1_1 := hide hv; obtain ⟨Wk1, Wn1, Wa1, Wl1, Wc1, rfl⟩ := hv.form; clear hv hx)
      | ((with_reducible refine Calls.mono (app_tv (varT 0) (.cons ⟨2, xn⟩ .nil .nil) _ _ _ (by first | exact HWV1_1.out) (tvNum _ xn)) ?_); rintro e W2 ⟨Wv2, rfl, hv, hx⟩; have HWB2 : Hid (Below w0.heap.size w0 W2) := hide (by first | exact HWB1.out.trans (hx.mono HWB1.out.size)); have HWV1_2 := hide (show TV W2 AnyQ _ _ from (by first | exact HWV1_1.out.below hx)); have HWV2_2 := hide hv; obtain ⟨Wk2, Wn2, Wa2, Wl2, Wc2, rfl⟩ := hv.form; clear hv hx)
      | ((with_reducible refine Calls.mono (lam_tv (appT (varT 0) (.cons ⟨2, xn⟩ .nil .nil)) _ _ (by first | exact HWV2_2.out)) ?_); rintro e W3 ⟨Wv3, rfl, hv, hx⟩; have HWB3 : Hid (Below w0.heap.size w0 W3) := hide (by first | exact HWB2.out.trans (hx.mono HWB2.out.size)); have HWV1_3 := hide (show TV W3 AnyQ _ _ from (by first | exact HWV1_2.out.below hx)); have HWV2_3 := hide (show TV W3 AnyQ _ _ from (by first | exact HWV2_2.out.below hx)); have HWV3_3 := hide hv; obtain ⟨Wk3, Wn3, Wa3, Wl3, Wc3, rfl⟩ := hv.form; clear hv hx; have hzr : W3.heap[w.heap.size + 1]? = some (.cells #[.int .i64 0, .int .i64 0, .slice none 0 0] 50) := (HWB3.out.block (w.heap.size + 1) hlR).trans HbR.out; have zr0 : W3.cell? ⟨w.heap.size + 1, 0, none⟩ = some (.int .i64 0) := (cell_of_blk hzr 0).trans rfl; have zr1 : W3.cell? ⟨w.heap.size + 1, 1, none⟩ = some (.int .i64 0) := (cell_of_blk hzr 1).trans rfl; have zr2 : W3.cell? ⟨w.heap.size + 1, 2, none⟩ = some (.slice none 0 0) := (cell_of_blk hzr 2).trans rfl; have zrf := unfrozen_of_blk hzr; have HZr := hide hzr; clear hzr))
  go_wp2_with fail
  have hre := set3_at HZr.out (.int .i64 Wk3) (.int .i64 Wn3) (.slice Wa3 Wl3 Wc3)
  have r0 := (cell_of_blk hre 0).trans rfl
  have r1 := (cell_of_blk hre 1).trans rfl
  have r2 := (cell_of_blk hre 2).trans rfl
  exact bodyPost_ret (v := .agg #[.int .i64 Wk3, .int .i64 Wn3, .slice Wa3 Wl3 Wc3]) (by simp [results, Tryz.results39, go_sem, r0, r1, r2]) rfl ⟨_, rfl, HWV3_3.out.set3 HFit.out HZr.out _ _ _, below_set3 (HB.out.trans (HWB3.out.mono HB.out.size)) (by omega) _ _ _⟩

set_option maxRecDepth 20000 in
set_option maxHeartbeats 8000000 in
theorem hand_var (xn : Int) (s : Value) (P : Nat → Prop) (w : World) (h0 : 0 ≤ xn) (h9 : xn ≤ 1000000) (hT : KidT w P (.nil) s) :
    Calls Tryz.prog 39 #[.agg #[.int .i64 1, .int .i64 xn, s]] w fun e w' => ∃ v', e = .returned v' ∧ TV w' AnyQ (lamT (appT (varT 0) (varT (xn + 1)))) v' ∧ Below w.heap.size w w' := by
  obtain rfl := hT.is_nil
  obtain ⟨w0, hw0⟩ : ∃ w0, w0 = (w.alloc (.cells #[.int .i64 1, .int .i64 xn, .slice none 0 0] 50)).alloc (.cells #[.int .i64 0, .int .i64 0, .slice none 0 0] 50) := ⟨_, rfl⟩
  have hB0 : Below w.heap.size w w0 := by rw [hw0]; exact bel2 _ _ _
  have hsz0 : w0.heap.size = w.heap.size + 1 + 1 := by rw [hw0]; simp
  have hbT : w0.heap[w.heap.size]? = some (.cells #[.int .i64 1, .int .i64 xn, .slice none 0 0] 50) := by rw [hw0, heap_alloc_old _ _ (by simp)]; exact heap_alloc_new _ _
  have hbR : w0.heap[w.heap.size + 1]? = some (.cells #[.int .i64 0, .int .i64 0, .slice none 0 0] 50) := by
    rw [hw0]
    have := heap_alloc_new (w.alloc (.cells #[.int .i64 1, .int .i64 xn, .slice none 0 0] 50)) (.cells #[.int .i64 0, .int .i64 0, .slice none 0 0] 50)
    simpa using this
  have HbR := hide hbR
  have HB := hide hB0
  have HT0 := hide (hT.below hB0)
  have hlR : w.heap.size + 1 < w0.heap.size := by omega
  have HFit : Hid (lamT (appT (varT 0) (varT (xn + 1)))).fit := hide (lamT_fit rfl (appT_fit rfl rfl (varT_fit _) (varT_fit _)))
  have HEv : Hid (∀ w', Below w0.heap.size w0 w' → w'.cell? ⟨w.heap.size, 0, none⟩ = some (.int .i64 1) ∧ w'.cell? ⟨w.heap.size, 1, none⟩ = some (.int .i64 xn) ∧ w'.cell? ⟨w.heap.size, 2, none⟩ = some (.slice none 0 0)) := hide (fun w' hb => ⟨(hb.cell (p := ⟨w.heap.size, 0, none⟩) (show w.heap.size < w0.heap.size by omega)).trans ((cell_of_blk hbT 0).trans rfl), (hb.cell (p := ⟨w.heap.size, 1, none⟩) (show w.heap.size < w0.heap.size by omega)).trans ((cell_of_blk hbT 1).trans rfl), (hb.cell (p := ⟨w.heap.size, 2, none⟩) (show w.heap.size < w0.heap.size by omega)).trans ((cell_of_blk hbT 2).trans rfl)⟩)
  have HSz := hide hsz0
  have HW0 := hide hw0
  clear hsz0 hw0 hB0 hbT hbR hT
  go_enter Tryz.func39, Tryz.ntmps39
  go_wp2_with fail
  rw [← HW0.out]
  clear HW0
  have hw : IntKind.i64.wrap (xn + 1) = xn + 1 := IntWalk.i64_in _ ⟨by omega, by omega⟩
  have HAll : Hid (∀ w', Below w0.heap.size w0 w' → w'.cell? ⟨w.heap.size, 0, none⟩ = some (.int .i64 1) ∧ w'.cell? ⟨w.heap.size, 1, none⟩ = some (.int .i64 xn)) := hide (fun w' hb => by
    obtain ⟨j0, j1, j2⟩ := HEv.out w' hb
    exact ⟨j0, j1⟩)
  have HSet : Hid (∀ w' (x y' z' : Value), (w'.cell? ⟨w.heap.size, 0, none⟩ = some (.int .i64 1) ∧ w'.cell? ⟨w.heap.size, 1, none⟩ = some (.int .i64 xn)) → (set3 w' (w.heap.size + 1) x y' z').cell? ⟨w.heap.size, 0, none⟩ = some (.int .i64 1) ∧ (set3 w' (w.heap.size + 1) x y' z').cell? ⟨w.heap.size, 1, none⟩ = some (.int .i64 xn)) := hide (fun w' x y' z' ⟨j0, j1⟩ => ⟨set3_cell (show w.heap.size ≠ w.heap.size + 1 by omega) _ _ _ j0, set3_cell (show w.heap.size ≠ w.heap.size + 1 by omega) _ _ _ j1⟩)
  have HWB0d : Hid (Below w0.heap.size w0 w0.drew) := hide (belowDrew (Below.refl _ _))
  obtain ⟨Wu0, Wu1⟩ := HAll.out w0.drew HWB0d.out
  go_region_held3 (fun w' => w'.cell? ⟨w.heap.size, 0, none⟩ = some (.int .i64 1) ∧ w'.cell? ⟨w.heap.size, 1, none⟩ = some (.int .i64 xn)) (first | (with_reducible exact HAll.out _ HWB0d.out) | (with_reducible exact HAll.out _ HWB1.out) | (with_reducible exact HAll.out _ HWB2.out) | (with_reducible exact HAll.out _ HWB3.out) | (with_reducible exact HAll.out _ HWB4.out) | (with_reducible exact HSet.out _ _ _ _ (HAll.out _ HWB4.out)))
    (first
      | ((with_reducible refine Calls.mono (var_tv 0 _) ?_); rintro e W1 ⟨Wv1, rfl, hv, hx⟩; have HWB1 : Hid (Below w0.heap.size w0 W1) := hide (by first | exact HWB0d.out.trans (hx.mono HWB0d.out.size)); have HWV1_1 := hide hv; obtain ⟨Wk1, Wn1, Wa1, Wl1, Wc1, rfl⟩ := hv.form; clear hv hx)
      | ((with_reducible refine Calls.mono (var_tv (xn + 1) _) ?_); rintro e W2 ⟨Wv2, rfl, hv, hx⟩; have HWB2 : Hid (Below w0.heap.size w0 W2) := hide (by first | exact HWB1.out.trans (hx.mono HWB1.out.size)); have HWV1_2 := hide (show TV W2 AnyQ _ _ from (by first | exact HWV1_1.out.below hx)); have HWV2_2 := hide hv; obtain ⟨Wk2, Wn2, Wa2, Wl2, Wc2, rfl⟩ := hv.form; clear hv hx)
      | ((with_reducible refine Calls.mono (app_tv (varT 0) (varT (xn + 1)) _ _ _ (by first | exact HWV1_2.out) (by first | exact HWV2_2.out)) ?_); rintro e W3 ⟨Wv3, rfl, hv, hx⟩; have HWB3 : Hid (Below w0.heap.size w0 W3) := hide (by first | exact HWB2.out.trans (hx.mono HWB2.out.size)); have HWV1_3 := hide (show TV W3 AnyQ _ _ from (by first | exact HWV1_2.out.below hx)); have HWV2_3 := hide (show TV W3 AnyQ _ _ from (by first | exact HWV2_2.out.below hx)); have HWV3_3 := hide hv; obtain ⟨Wk3, Wn3, Wa3, Wl3, Wc3, rfl⟩ := hv.form; clear hv hx)
      | ((with_reducible refine Calls.mono (lam_tv (appT (varT 0) (varT (xn + 1))) _ _ (by first | exact HWV3_3.out)) ?_); rintro e W4 ⟨Wv4, rfl, hv, hx⟩; have HWB4 : Hid (Below w0.heap.size w0 W4) := hide (by first | exact HWB3.out.trans (hx.mono HWB3.out.size)); have HWV1_4 := hide (show TV W4 AnyQ _ _ from (by first | exact HWV1_3.out.below hx)); have HWV2_4 := hide (show TV W4 AnyQ _ _ from (by first | exact HWV2_3.out.below hx)); have HWV3_4 := hide (show TV W4 AnyQ _ _ from (by first | exact HWV3_3.out.below hx)); have HWV4_4 := hide hv; obtain ⟨Wk4, Wn4, Wa4, Wl4, Wc4, rfl⟩ := hv.form; clear hv hx; have hzr : W4.heap[w.heap.size + 1]? = some (.cells #[.int .i64 0, .int .i64 0, .slice none 0 0] 50) := (HWB4.out.block (w.heap.size + 1) hlR).trans HbR.out; have zr0 : W4.cell? ⟨w.heap.size + 1, 0, none⟩ = some (.int .i64 0) := (cell_of_blk hzr 0).trans rfl; have zr1 : W4.cell? ⟨w.heap.size + 1, 1, none⟩ = some (.int .i64 0) := (cell_of_blk hzr 1).trans rfl; have zr2 : W4.cell? ⟨w.heap.size + 1, 2, none⟩ = some (.slice none 0 0) := (cell_of_blk hzr 2).trans rfl; have zrf := unfrozen_of_blk hzr; have HZr := hide hzr; clear hzr))
  go_wp2_with fail
  have hre := set3_at HZr.out (.int .i64 Wk4) (.int .i64 Wn4) (.slice Wa4 Wl4 Wc4)
  have r0 := (cell_of_blk hre 0).trans rfl
  have r1 := (cell_of_blk hre 1).trans rfl
  have r2 := (cell_of_blk hre 2).trans rfl
  exact bodyPost_ret (v := .agg #[.int .i64 Wk4, .int .i64 Wn4, .slice Wa4 Wl4 Wc4]) (by simp [results, Tryz.results39, go_sem, r0, r1, r2]) rfl ⟨_, rfl, HWV4_4.out.set3 HFit.out HZr.out _ _ _, below_set3 (HB.out.trans (HWB4.out.mono HB.out.size)) (by omega) _ _ _⟩

set_option maxRecDepth 20000 in
set_option maxHeartbeats 8000000 in
theorem hand_lam (xn : Int) (y : Cc) (ky ay : F) (s : Value) (P : Nat → Prop) (w : World) (hy : HHd y ky ay) (oy : ay.okw) (ly : ay.flat.length ≤ 1000000) (ny : ay.len = 1) (hT : KidT w P (.cons y ky .nil) s) :
    Calls Tryz.prog 39 #[.agg #[.int .i64 3, .int .i64 xn, s]] w fun e w' => ∃ v', e = .returned v' ∧ TV w' AnyQ (lamT (appT (varT 0) (lamT (sh 1 1 ay)))) v' ∧ Below w.heap.size w w' := by
  obtain ⟨sad, sc, rfl⟩ := hT.form
  obtain ⟨g, rfl, hg, -, y0, y1, sy, y2, hTy⟩ := hT.first
  have hKL : (.cons y ky .nil : F).len = 1 := rfl
  rw [hKL] at hT ⊢
  obtain ⟨w0, hw0⟩ : ∃ w0, w0 = (w.alloc (.cells #[.int .i64 3, .int .i64 xn, .slice (some ⟨g, 0, none⟩) 1 sc] 50)).alloc (.cells #[.int .i64 0, .int .i64 0, .slice none 0 0] 50) := ⟨_, rfl⟩
  have hB0 : Below w.heap.size w w0 := by rw [hw0]; exact bel2 _ _ _
  have hsz0 : w0.heap.size = w.heap.size + 1 + 1 := by rw [hw0]; simp
  have hbT : w0.heap[w.heap.size]? = some (.cells #[.int .i64 3, .int .i64 xn, .slice (some ⟨g, 0, none⟩) 1 sc] 50) := by rw [hw0, heap_alloc_old _ _ (by simp)]; exact heap_alloc_new _ _
  have hbR : w0.heap[w.heap.size + 1]? = some (.cells #[.int .i64 0, .int .i64 0, .slice none 0 0] 50) := by
    rw [hw0]
    have := heap_alloc_new (w.alloc (.cells #[.int .i64 3, .int .i64 xn, .slice (some ⟨g, 0, none⟩) 1 sc] 50)) (.cells #[.int .i64 0, .int .i64 0, .slice none 0 0] 50)
    simpa using this
  have HbR := hide hbR
  have HB := hide hB0
  have HT0 := hide (hT.below hB0)
  have hlR : w.heap.size + 1 < w0.heap.size := by omega
  have HFit : Hid (lamT (appT (varT 0) (lamT (sh 1 1 ay)))).fit := hide (lamT_fit rfl (appT_fit rfl rfl (varT_fit _) (lamT_fit (by rw [sh_len]; exact ny) (sh_fit 1 1 (V.F.okw_fit oy)))))
  have HHy := hide hy
  have HGy := hide hy
  have HOy := hide oy
  have HLy := hide ly
  have HNy := hide ny
  have HKy := hide (hTy.below hB0)
  obtain ⟨yad, yc, rfl⟩ := hTy.form
  obtain ⟨yn, hyn⟩ : ∃ yn, yn = ky.len := ⟨_, rfl⟩
  rw [← hyn] at y2 HKy
  unfold HHd at HHy
  have HEv : Hid (∀ w', Below w0.heap.size w0 w' → w'.cell? ⟨w.heap.size, 0, none⟩ = some (.int .i64 3) ∧ w'.cell? ⟨w.heap.size, 1, none⟩ = some (.int .i64 xn) ∧ w'.cell? ⟨w.heap.size, 2, none⟩ = some (.slice (some ⟨g, 0, none⟩) 1 sc) ∧ w'.cell? ⟨g, 0, none⟩ = some (.int .i64 y.k) ∧ w'.cell? ⟨g, 1, none⟩ = some (.int .i64 y.n) ∧ w'.cell? ⟨g, 2, none⟩ = some (.slice yad yn yc)) := hide (fun w' hb => ⟨(hb.cell (p := ⟨w.heap.size, 0, none⟩) (show w.heap.size < w0.heap.size by omega)).trans ((cell_of_blk hbT 0).trans rfl), (hb.cell (p := ⟨w.heap.size, 1, none⟩) (show w.heap.size < w0.heap.size by omega)).trans ((cell_of_blk hbT 1).trans rfl), (hb.cell (p := ⟨w.heap.size, 2, none⟩) (show w.heap.size < w0.heap.size by omega)).trans ((cell_of_blk hbT 2).trans rfl), (hb.cell (p := ⟨g, 0, none⟩) (show g < w0.heap.size by omega)).trans ((hB0.cell (p := ⟨g, 0, none⟩) hg).trans y0), (hb.cell (p := ⟨g, 1, none⟩) (show g < w0.heap.size by omega)).trans ((hB0.cell (p := ⟨g, 1, none⟩) hg).trans y1), (hb.cell (p := ⟨g, 2, none⟩) (show g < w0.heap.size by omega)).trans ((hB0.cell (p := ⟨g, 2, none⟩) hg).trans y2)⟩)
  have HSz := hide hsz0
  have HW0 := hide hw0
  clear hsz0 hw0 hB0 hbT hbR hT hTy hy oy ly ny hyn y0 y1 y2 hKL
  go_enter Tryz.func39, Tryz.ntmps39
  go_wp2_with fail
  rw [← HW0.out]
  clear HW0
  have HAll : Hid (∀ w', Below w0.heap.size w0 w' → w'.cell? ⟨w.heap.size, 2, none⟩ = some (.slice (some ⟨g, 0, none⟩) 1 sc) ∧ w'.cell? ⟨g, 0, none⟩ = some (.int .i64 y.k) ∧ w'.cell? ⟨g, 1, none⟩ = some (.int .i64 y.n) ∧ w'.cell? ⟨g, 2, none⟩ = some (.slice yad yn yc)) := hide (fun w' hb => by
    obtain ⟨j0, j1, j2, j3, j4, j5⟩ := HEv.out w' hb
    exact ⟨j2, j3, j4, j5⟩)
  have HSet : Hid (∀ w' (x y' z' : Value), (w'.cell? ⟨w.heap.size, 2, none⟩ = some (.slice (some ⟨g, 0, none⟩) 1 sc) ∧ w'.cell? ⟨g, 0, none⟩ = some (.int .i64 y.k) ∧ w'.cell? ⟨g, 1, none⟩ = some (.int .i64 y.n) ∧ w'.cell? ⟨g, 2, none⟩ = some (.slice yad yn yc)) → (set3 w' (w.heap.size + 1) x y' z').cell? ⟨w.heap.size, 2, none⟩ = some (.slice (some ⟨g, 0, none⟩) 1 sc) ∧ (set3 w' (w.heap.size + 1) x y' z').cell? ⟨g, 0, none⟩ = some (.int .i64 y.k) ∧ (set3 w' (w.heap.size + 1) x y' z').cell? ⟨g, 1, none⟩ = some (.int .i64 y.n) ∧ (set3 w' (w.heap.size + 1) x y' z').cell? ⟨g, 2, none⟩ = some (.slice yad yn yc)) := hide (fun w' x y' z' ⟨j0, j1, j2, j3⟩ => ⟨set3_cell (show w.heap.size ≠ w.heap.size + 1 by omega) _ _ _ j0, set3_cell (show g ≠ w.heap.size + 1 by omega) _ _ _ j1, set3_cell (show g ≠ w.heap.size + 1 by omega) _ _ _ j2, set3_cell (show g ≠ w.heap.size + 1 by omega) _ _ _ j3⟩)
  have HWB0d : Hid (Below w0.heap.size w0 w0.drew) := hide (belowDrew (Below.refl _ _))
  obtain ⟨Wu0, Wu1, Wu2, Wu3⟩ := HAll.out w0.drew HWB0d.out
  go_region_held3 (fun w' => w'.cell? ⟨w.heap.size, 2, none⟩ = some (.slice (some ⟨g, 0, none⟩) 1 sc) ∧ w'.cell? ⟨g, 0, none⟩ = some (.int .i64 y.k) ∧ w'.cell? ⟨g, 1, none⟩ = some (.int .i64 y.n) ∧ w'.cell? ⟨g, 2, none⟩ = some (.slice yad yn yc)) (first | (with_reducible exact HAll.out _ HWB0d.out) | (with_reducible exact HAll.out _ HWB1.out) | (with_reducible exact HAll.out _ HWB2.out) | (with_reducible exact HAll.out _ HWB3.out) | (with_reducible exact HAll.out _ HWB4.out) | (with_reducible exact HAll.out _ HWB5.out) | (with_reducible exact HAll.out _ HWB6.out) | (with_reducible exact HSet.out _ _ _ _ (HAll.out _ HWB6.out)))
    (first
      | ((with_reducible refine Calls.mono (var_tv 0 _) ?_); rintro e W1 ⟨Wv1, rfl, hv, hx⟩; have HWB1 : Hid (Below w0.heap.size w0 W1) := hide (by first | exact HWB0d.out.trans (hx.mono HWB0d.out.size)); have HWV1_1 := hide hv; obtain ⟨Wk1, Wn1, Wa1, Wl1, Wc1, rfl⟩ := hv.form; clear hv hx)
      | ((with_reducible refine Calls.mono (HHy.out _ _ _ (by first | exact HKy.out.below HWB1.out)) ?_); rintro e W2 ⟨Wv2, rfl, hv, hx⟩; have HWB2 : Hid (Below w0.heap.size w0 W2) := hide (by first | exact HWB1.out.trans (hx.mono HWB1.out.size)); have HWV1_2 := hide (show TV W2 AnyQ _ _ from (by first | exact HWV1_1.out.below hx)); have HWV2_2 := hide hv; obtain ⟨Wk2, Wn2, Wa2, Wl2, Wc2, rfl⟩ := hv.form; clear hv hx)
      | ((with_reducible refine Calls.mono (shift_11 ay _ _ HOy.out HLy.out (by first | exact HWV2_2.out)) ?_); rintro e W3 ⟨Wv3, rfl, hv, hx⟩; have HWB3 : Hid (Below w0.heap.size w0 W3) := hide (by first | exact HWB2.out.trans (hx.mono HWB2.out.size)); have HWV1_3 := hide (show TV W3 AnyQ _ _ from (by first | exact HWV1_2.out.below hx)); have HWV2_3 := hide (show TV W3 AnyQ _ _ from (by first | exact HWV2_2.out.below hx)); have HWV3_3 := hide hv; obtain ⟨Wk3, Wn3, Wa3, Wl3, Wc3, rfl⟩ := hv.form; clear hv hx)
      | ((with_reducible refine Calls.mono (lam_tv (sh 1 1 ay) _ _ (by first | exact HWV3_3.out)) ?_); rintro e W4 ⟨Wv4, rfl, hv, hx⟩; have HWB4 : Hid (Below w0.heap.size w0 W4) := hide (by first | exact HWB3.out.trans (hx.mono HWB3.out.size)); have HWV1_4 := hide (show TV W4 AnyQ _ _ from (by first | exact HWV1_3.out.below hx)); have HWV2_4 := hide (show TV W4 AnyQ _ _ from (by first | exact HWV2_3.out.below hx)); have HWV3_4 := hide (show TV W4 AnyQ _ _ from (by first | exact HWV3_3.out.below hx)); have HWV4_4 := hide hv; obtain ⟨Wk4, Wn4, Wa4, Wl4, Wc4, rfl⟩ := hv.form; clear hv hx)
      | ((with_reducible refine Calls.mono (app_tv (varT 0) (lamT (sh 1 1 ay)) _ _ _ (by first | exact HWV1_4.out) (by first | exact HWV4_4.out)) ?_); rintro e W5 ⟨Wv5, rfl, hv, hx⟩; have HWB5 : Hid (Below w0.heap.size w0 W5) := hide (by first | exact HWB4.out.trans (hx.mono HWB4.out.size)); have HWV1_5 := hide (show TV W5 AnyQ _ _ from (by first | exact HWV1_4.out.below hx)); have HWV2_5 := hide (show TV W5 AnyQ _ _ from (by first | exact HWV2_4.out.below hx)); have HWV3_5 := hide (show TV W5 AnyQ _ _ from (by first | exact HWV3_4.out.below hx)); have HWV4_5 := hide (show TV W5 AnyQ _ _ from (by first | exact HWV4_4.out.below hx)); have HWV5_5 := hide hv; obtain ⟨Wk5, Wn5, Wa5, Wl5, Wc5, rfl⟩ := hv.form; clear hv hx)
      | ((with_reducible refine Calls.mono (lam_tv (appT (varT 0) (lamT (sh 1 1 ay))) _ _ (by first | exact HWV5_5.out)) ?_); rintro e W6 ⟨Wv6, rfl, hv, hx⟩; have HWB6 : Hid (Below w0.heap.size w0 W6) := hide (by first | exact HWB5.out.trans (hx.mono HWB5.out.size)); have HWV1_6 := hide (show TV W6 AnyQ _ _ from (by first | exact HWV1_5.out.below hx)); have HWV2_6 := hide (show TV W6 AnyQ _ _ from (by first | exact HWV2_5.out.below hx)); have HWV3_6 := hide (show TV W6 AnyQ _ _ from (by first | exact HWV3_5.out.below hx)); have HWV4_6 := hide (show TV W6 AnyQ _ _ from (by first | exact HWV4_5.out.below hx)); have HWV5_6 := hide (show TV W6 AnyQ _ _ from (by first | exact HWV5_5.out.below hx)); have HWV6_6 := hide hv; obtain ⟨Wk6, Wn6, Wa6, Wl6, Wc6, rfl⟩ := hv.form; clear hv hx; have hzr : W6.heap[w.heap.size + 1]? = some (.cells #[.int .i64 0, .int .i64 0, .slice none 0 0] 50) := (HWB6.out.block (w.heap.size + 1) hlR).trans HbR.out; have zr0 : W6.cell? ⟨w.heap.size + 1, 0, none⟩ = some (.int .i64 0) := (cell_of_blk hzr 0).trans rfl; have zr1 : W6.cell? ⟨w.heap.size + 1, 1, none⟩ = some (.int .i64 0) := (cell_of_blk hzr 1).trans rfl; have zr2 : W6.cell? ⟨w.heap.size + 1, 2, none⟩ = some (.slice none 0 0) := (cell_of_blk hzr 2).trans rfl; have zrf := unfrozen_of_blk hzr; have HZr := hide hzr; clear hzr))
  go_wp2_with fail
  have hre := set3_at HZr.out (.int .i64 Wk6) (.int .i64 Wn6) (.slice Wa6 Wl6 Wc6)
  have r0 := (cell_of_blk hre 0).trans rfl
  have r1 := (cell_of_blk hre 1).trans rfl
  have r2 := (cell_of_blk hre 2).trans rfl
  exact bodyPost_ret (v := .agg #[.int .i64 Wk6, .int .i64 Wn6, .slice Wa6 Wl6 Wc6]) (by simp [results, Tryz.results39, go_sem, r0, r1, r2]) rfl ⟨_, rfl, HWV6_6.out.set3 HFit.out HZr.out _ _ _, below_set3 (HB.out.trans (HWB6.out.mono HB.out.size)) (by omega) _ _ _⟩

set_option maxRecDepth 20000 in
set_option maxHeartbeats 8000000 in
theorem hand_app (xn : Int) (y : Cc) (ky ay : F) (z : Cc) (kz az : F) (s : Value) (P : Nat → Prop) (w : World) (hy : HHd y ky ay) (oy : ay.okw) (ly : ay.flat.length ≤ 1000000) (ny : ay.len = 1) (hz : HHd z kz az) (oz : az.okw) (lz : az.flat.length ≤ 1000000) (nz : az.len = 1) (hT : KidT w P (.cons y ky (.cons z kz .nil)) s) :
    Calls Tryz.prog 39 #[.agg #[.int .i64 4, .int .i64 xn, s]] w fun e w' => ∃ v', e = .returned v' ∧ TV w' AnyQ (lamT (appT (sh 1 0 ay) (lamT (appT (sh 2 0 az) (lamT (appT (appT (varT 1) (varT 0)) (varT 2))))))) v' ∧ Below w.heap.size w w' := by
  obtain ⟨sad, sc, rfl⟩ := hT.form
  obtain ⟨g, rfl, hg, -, y0, y1, sy, y2, hTy⟩ := hT.first
  obtain ⟨z0, z1, sz, z2, hTz⟩ := hT.second
  have hKL : (.cons y ky (.cons z kz .nil) : F).len = 2 := rfl
  rw [hKL] at hT ⊢
  obtain ⟨w0, hw0⟩ : ∃ w0, w0 = (w.alloc (.cells #[.int .i64 4, .int .i64 xn, .slice (some ⟨g, 0, none⟩) 2 sc] 50)).alloc (.cells #[.int .i64 0, .int .i64 0, .slice none 0 0] 50) := ⟨_, rfl⟩
  have hB0 : Below w.heap.size w w0 := by rw [hw0]; exact bel2 _ _ _
  have hsz0 : w0.heap.size = w.heap.size + 1 + 1 := by rw [hw0]; simp
  have hbT : w0.heap[w.heap.size]? = some (.cells #[.int .i64 4, .int .i64 xn, .slice (some ⟨g, 0, none⟩) 2 sc] 50) := by rw [hw0, heap_alloc_old _ _ (by simp)]; exact heap_alloc_new _ _
  have hbR : w0.heap[w.heap.size + 1]? = some (.cells #[.int .i64 0, .int .i64 0, .slice none 0 0] 50) := by
    rw [hw0]
    have := heap_alloc_new (w.alloc (.cells #[.int .i64 4, .int .i64 xn, .slice (some ⟨g, 0, none⟩) 2 sc] 50)) (.cells #[.int .i64 0, .int .i64 0, .slice none 0 0] 50)
    simpa using this
  have HbR := hide hbR
  have HB := hide hB0
  have HT0 := hide (hT.below hB0)
  have hlR : w.heap.size + 1 < w0.heap.size := by omega
  have HFit : Hid (lamT (appT (sh 1 0 ay) (lamT (appT (sh 2 0 az) (lamT (appT (appT (varT 1) (varT 0)) (varT 2))))))).fit := hide (lamT_fit rfl (appT_fit (by rw [sh_len]; exact ny) rfl (sh_fit 1 0 (V.F.okw_fit oy)) (lamT_fit rfl (appT_fit (by rw [sh_len]; exact nz) rfl (sh_fit 2 0 (V.F.okw_fit oz)) (lamT_fit rfl (appT_fit rfl rfl (appT_fit rfl rfl (varT_fit _) (varT_fit _)) (varT_fit _)))))))
  have HHy := hide hy
  have HGy := hide hy
  have HOy := hide oy
  have HLy := hide ly
  have HNy := hide ny
  have HKy := hide (hTy.below hB0)
  obtain ⟨yad, yc, rfl⟩ := hTy.form
  obtain ⟨yn, hyn⟩ : ∃ yn, yn = ky.len := ⟨_, rfl⟩
  rw [← hyn] at y2 HKy
  have HHz := hide hz
  have HGz := hide hz
  have HOz := hide oz
  have HLz := hide lz
  have HNz := hide nz
  have HKz := hide (hTz.below hB0)
  obtain ⟨zad, zc, rfl⟩ := hTz.form
  obtain ⟨zn, hzn⟩ : ∃ zn, zn = kz.len := ⟨_, rfl⟩
  rw [← hzn] at z2 HKz
  unfold HHd at HHy HHz
  have HEv : Hid (∀ w', Below w0.heap.size w0 w' → w'.cell? ⟨w.heap.size, 0, none⟩ = some (.int .i64 4) ∧ w'.cell? ⟨w.heap.size, 1, none⟩ = some (.int .i64 xn) ∧ w'.cell? ⟨w.heap.size, 2, none⟩ = some (.slice (some ⟨g, 0, none⟩) 2 sc) ∧ w'.cell? ⟨g, 0, none⟩ = some (.int .i64 y.k) ∧ w'.cell? ⟨g, 1, none⟩ = some (.int .i64 y.n) ∧ w'.cell? ⟨g, 2, none⟩ = some (.slice yad yn yc) ∧ w'.cell? ⟨g, 3, none⟩ = some (.int .i64 z.k) ∧ w'.cell? ⟨g, 4, none⟩ = some (.int .i64 z.n) ∧ w'.cell? ⟨g, 5, none⟩ = some (.slice zad zn zc)) := hide (fun w' hb => ⟨(hb.cell (p := ⟨w.heap.size, 0, none⟩) (show w.heap.size < w0.heap.size by omega)).trans ((cell_of_blk hbT 0).trans rfl), (hb.cell (p := ⟨w.heap.size, 1, none⟩) (show w.heap.size < w0.heap.size by omega)).trans ((cell_of_blk hbT 1).trans rfl), (hb.cell (p := ⟨w.heap.size, 2, none⟩) (show w.heap.size < w0.heap.size by omega)).trans ((cell_of_blk hbT 2).trans rfl), (hb.cell (p := ⟨g, 0, none⟩) (show g < w0.heap.size by omega)).trans ((hB0.cell (p := ⟨g, 0, none⟩) hg).trans y0), (hb.cell (p := ⟨g, 1, none⟩) (show g < w0.heap.size by omega)).trans ((hB0.cell (p := ⟨g, 1, none⟩) hg).trans y1), (hb.cell (p := ⟨g, 2, none⟩) (show g < w0.heap.size by omega)).trans ((hB0.cell (p := ⟨g, 2, none⟩) hg).trans y2), (hb.cell (p := ⟨g, 3, none⟩) (show g < w0.heap.size by omega)).trans ((hB0.cell (p := ⟨g, 3, none⟩) hg).trans z0), (hb.cell (p := ⟨g, 4, none⟩) (show g < w0.heap.size by omega)).trans ((hB0.cell (p := ⟨g, 4, none⟩) hg).trans z1), (hb.cell (p := ⟨g, 5, none⟩) (show g < w0.heap.size by omega)).trans ((hB0.cell (p := ⟨g, 5, none⟩) hg).trans z2)⟩)
  have HSz := hide hsz0
  have HW0 := hide hw0
  clear hsz0 hw0 hB0 hbT hbR hT hTy hy oy ly ny hyn y0 y1 y2 hTz hz oz lz nz hzn z0 z1 z2 hKL
  go_enter Tryz.func39, Tryz.ntmps39
  go_wp2_with fail
  rw [← HW0.out]
  clear HW0
  have HAll : Hid (∀ w', Below w0.heap.size w0 w' → w'.cell? ⟨w.heap.size, 0, none⟩ = some (.int .i64 4) ∧ w'.cell? ⟨w.heap.size, 1, none⟩ = some (.int .i64 xn) ∧ w'.cell? ⟨w.heap.size, 2, none⟩ = some (.slice (some ⟨g, 0, none⟩) 2 sc)) := hide (fun w' hb => by
    obtain ⟨j0, j1, j2, j3, j4, j5, j6, j7, j8⟩ := HEv.out w' hb
    exact ⟨j0, j1, j2⟩)
  have HSet : Hid (∀ w' (x y' z' : Value), (w'.cell? ⟨w.heap.size, 0, none⟩ = some (.int .i64 4) ∧ w'.cell? ⟨w.heap.size, 1, none⟩ = some (.int .i64 xn) ∧ w'.cell? ⟨w.heap.size, 2, none⟩ = some (.slice (some ⟨g, 0, none⟩) 2 sc)) → (set3 w' (w.heap.size + 1) x y' z').cell? ⟨w.heap.size, 0, none⟩ = some (.int .i64 4) ∧ (set3 w' (w.heap.size + 1) x y' z').cell? ⟨w.heap.size, 1, none⟩ = some (.int .i64 xn) ∧ (set3 w' (w.heap.size + 1) x y' z').cell? ⟨w.heap.size, 2, none⟩ = some (.slice (some ⟨g, 0, none⟩) 2 sc)) := hide (fun w' x y' z' ⟨j0, j1, j2⟩ => ⟨set3_cell (show w.heap.size ≠ w.heap.size + 1 by omega) _ _ _ j0, set3_cell (show w.heap.size ≠ w.heap.size + 1 by omega) _ _ _ j1, set3_cell (show w.heap.size ≠ w.heap.size + 1 by omega) _ _ _ j2⟩)
  have HWB0d : Hid (Below w0.heap.size w0 w0.drew) := hide (belowDrew (Below.refl _ _))
  obtain ⟨Wu0, Wu1, Wu2⟩ := HAll.out w0.drew HWB0d.out
  go_region_held3 (fun w' => w'.cell? ⟨w.heap.size, 0, none⟩ = some (.int .i64 4) ∧ w'.cell? ⟨w.heap.size, 1, none⟩ = some (.int .i64 xn) ∧ w'.cell? ⟨w.heap.size, 2, none⟩ = some (.slice (some ⟨g, 0, none⟩) 2 sc)) (first | (with_reducible exact HAll.out _ HWB0d.out) | (with_reducible exact HAll.out _ HWB1.out) | (with_reducible exact HAll.out _ HWB2.out) | (with_reducible exact HAll.out _ HWB3.out) | (with_reducible exact HAll.out _ HWB4.out) | (with_reducible exact HAll.out _ HWB5.out) | (with_reducible exact HAll.out _ HWB6.out) | (with_reducible exact HSet.out _ _ _ _ (HAll.out _ HWB6.out)))
    (first
      | ((with_reducible refine Calls.mono (var_tv 1 _) ?_); rintro e W1 ⟨Wv1, rfl, hv, hx⟩; have HWB1 : Hid (Below w0.heap.size w0 W1) := hide (by first | exact HWB0d.out.trans (hx.mono HWB0d.out.size)); have HWV1_1 := hide hv; obtain ⟨Wk1, Wn1, Wa1, Wl1, Wc1, rfl⟩ := hv.form; clear hv hx)
      | ((with_reducible refine Calls.mono (var_tv 0 _) ?_); rintro e W2 ⟨Wv2, rfl, hv, hx⟩; have HWB2 : Hid (Below w0.heap.size w0 W2) := hide (by first | exact HWB1.out.trans (hx.mono HWB1.out.size)); have HWV1_2 := hide (show TV W2 AnyQ _ _ from (by first | exact HWV1_1.out.below hx)); have HWV2_2 := hide hv; obtain ⟨Wk2, Wn2, Wa2, Wl2, Wc2, rfl⟩ := hv.form; clear hv hx)
      | ((with_reducible refine Calls.mono (app_tv (varT 1) (varT 0) _ _ _ (by first | exact HWV1_2.out) (by first | exact HWV2_2.out)) ?_); rintro e W3 ⟨Wv3, rfl, hv, hx⟩; have HWB3 : Hid (Below w0.heap.size w0 W3) := hide (by first | exact HWB2.out.trans (hx.mono HWB2.out.size)); have HWV1_3 := hide (show TV W3 AnyQ _ _ from (by first | exact HWV1_2.out.below hx)); have HWV2_3 := hide (show TV W3 AnyQ _ _ from (by first | exact HWV2_2.out.below hx)); have HWV3_3 := hide hv; obtain ⟨Wk3, Wn3, Wa3, Wl3, Wc3, rfl⟩ := hv.form; clear hv hx)
      | ((with_reducible refine Calls.mono (var_tv 2 _) ?_); rintro e W4 ⟨Wv4, rfl, hv, hx⟩; have HWB4 : Hid (Below w0.heap.size w0 W4) := hide (by first | exact HWB3.out.trans (hx.mono HWB3.out.size)); have HWV1_4 := hide (show TV W4 AnyQ _ _ from (by first | exact HWV1_3.out.below hx)); have HWV2_4 := hide (show TV W4 AnyQ _ _ from (by first | exact HWV2_3.out.below hx)); have HWV3_4 := hide (show TV W4 AnyQ _ _ from (by first | exact HWV3_3.out.below hx)); have HWV4_4 := hide hv; obtain ⟨Wk4, Wn4, Wa4, Wl4, Wc4, rfl⟩ := hv.form; clear hv hx)
      | ((with_reducible refine Calls.mono (app_tv (appT (varT 1) (varT 0)) (varT 2) _ _ _ (by first | exact HWV3_4.out) (by first | exact HWV4_4.out)) ?_); rintro e W5 ⟨Wv5, rfl, hv, hx⟩; have HWB5 : Hid (Below w0.heap.size w0 W5) := hide (by first | exact HWB4.out.trans (hx.mono HWB4.out.size)); have HWV1_5 := hide (show TV W5 AnyQ _ _ from (by first | exact HWV1_4.out.below hx)); have HWV2_5 := hide (show TV W5 AnyQ _ _ from (by first | exact HWV2_4.out.below hx)); have HWV3_5 := hide (show TV W5 AnyQ _ _ from (by first | exact HWV3_4.out.below hx)); have HWV4_5 := hide (show TV W5 AnyQ _ _ from (by first | exact HWV4_4.out.below hx)); have HWV5_5 := hide hv; obtain ⟨Wk5, Wn5, Wa5, Wl5, Wc5, rfl⟩ := hv.form; clear hv hx)
      | ((with_reducible refine Calls.mono (l7Two_any ⟨4, xn⟩ y z ky kz ay az (appT (appT (varT 1) (varT 0)) (varT 2)) _ _ P _ HGy.out HGz.out HOy.out HOz.out (appT_fit rfl rfl (appT_fit rfl rfl (varT_fit _) (varT_fit _)) (varT_fit _)) HLy.out HLz.out HNy.out HNz.out (by first | exact HT0.out.below HWB5.out) (by first | exact HWV5_5.out)) ?_); rintro e W6 ⟨Wv6, rfl, hv, hx⟩; have HWB6 : Hid (Below w0.heap.size w0 W6) := hide (by first | exact HWB5.out.trans (hx.mono HWB5.out.size)); have HWV1_6 := hide (show TV W6 AnyQ _ _ from (by first | exact HWV1_5.out.below hx)); have HWV2_6 := hide (show TV W6 AnyQ _ _ from (by first | exact HWV2_5.out.below hx)); have HWV3_6 := hide (show TV W6 AnyQ _ _ from (by first | exact HWV3_5.out.below hx)); have HWV4_6 := hide (show TV W6 AnyQ _ _ from (by first | exact HWV4_5.out.below hx)); have HWV5_6 := hide (show TV W6 AnyQ _ _ from (by first | exact HWV5_5.out.below hx)); have HWV6_6 := hide hv; obtain ⟨Wk6, Wn6, Wa6, Wl6, Wc6, rfl⟩ := hv.form; clear hv hx; have hzr : W6.heap[w.heap.size + 1]? = some (.cells #[.int .i64 0, .int .i64 0, .slice none 0 0] 50) := (HWB6.out.block (w.heap.size + 1) hlR).trans HbR.out; have zr0 : W6.cell? ⟨w.heap.size + 1, 0, none⟩ = some (.int .i64 0) := (cell_of_blk hzr 0).trans rfl; have zr1 : W6.cell? ⟨w.heap.size + 1, 1, none⟩ = some (.int .i64 0) := (cell_of_blk hzr 1).trans rfl; have zr2 : W6.cell? ⟨w.heap.size + 1, 2, none⟩ = some (.slice none 0 0) := (cell_of_blk hzr 2).trans rfl; have zrf := unfrozen_of_blk hzr; have HZr := hide hzr; clear hzr))
  go_wp2_with fail
  have hre := set3_at HZr.out (.int .i64 Wk6) (.int .i64 Wn6) (.slice Wa6 Wl6 Wc6)
  have r0 := (cell_of_blk hre 0).trans rfl
  have r1 := (cell_of_blk hre 1).trans rfl
  have r2 := (cell_of_blk hre 2).trans rfl
  exact bodyPost_ret (v := .agg #[.int .i64 Wk6, .int .i64 Wn6, .slice Wa6 Wl6 Wc6]) (by simp [results, Tryz.results39, go_sem, r0, r1, r2]) rfl ⟨_, rfl, HWV6_6.out.set3 HFit.out HZr.out _ _ _, below_set3 (HB.out.trans (HWB6.out.mono HB.out.size)) (by omega) _ _ _⟩

set_option maxRecDepth 20000 in
set_option maxHeartbeats 8000000 in
theorem hand_add (xn : Int) (y : Cc) (ky ay : F) (z : Cc) (kz az : F) (s : Value) (P : Nat → Prop) (w : World) (hy : HHd y ky ay) (oy : ay.okw) (ly : ay.flat.length ≤ 1000000) (ny : ay.len = 1) (hz : HHd z kz az) (oz : az.okw) (lz : az.flat.length ≤ 1000000) (nz : az.len = 1) (hT : KidT w P (.cons y ky (.cons z kz .nil)) s) :
    Calls Tryz.prog 39 #[.agg #[.int .i64 5, .int .i64 xn, s]] w fun e w' => ∃ v', e = .returned v' ∧ TV w' AnyQ (lamT (appT (sh 1 0 ay) (lamT (appT (sh 2 0 az) (lamT (appT (varT 2) (addT (varT 1) (varT 0)))))))) v' ∧ Below w.heap.size w w' := by
  obtain ⟨sad, sc, rfl⟩ := hT.form
  obtain ⟨g, rfl, hg, -, y0, y1, sy, y2, hTy⟩ := hT.first
  obtain ⟨z0, z1, sz, z2, hTz⟩ := hT.second
  have hKL : (.cons y ky (.cons z kz .nil) : F).len = 2 := rfl
  rw [hKL] at hT ⊢
  obtain ⟨w0, hw0⟩ : ∃ w0, w0 = (w.alloc (.cells #[.int .i64 5, .int .i64 xn, .slice (some ⟨g, 0, none⟩) 2 sc] 50)).alloc (.cells #[.int .i64 0, .int .i64 0, .slice none 0 0] 50) := ⟨_, rfl⟩
  have hB0 : Below w.heap.size w w0 := by rw [hw0]; exact bel2 _ _ _
  have hsz0 : w0.heap.size = w.heap.size + 1 + 1 := by rw [hw0]; simp
  have hbT : w0.heap[w.heap.size]? = some (.cells #[.int .i64 5, .int .i64 xn, .slice (some ⟨g, 0, none⟩) 2 sc] 50) := by rw [hw0, heap_alloc_old _ _ (by simp)]; exact heap_alloc_new _ _
  have hbR : w0.heap[w.heap.size + 1]? = some (.cells #[.int .i64 0, .int .i64 0, .slice none 0 0] 50) := by
    rw [hw0]
    have := heap_alloc_new (w.alloc (.cells #[.int .i64 5, .int .i64 xn, .slice (some ⟨g, 0, none⟩) 2 sc] 50)) (.cells #[.int .i64 0, .int .i64 0, .slice none 0 0] 50)
    simpa using this
  have HbR := hide hbR
  have HB := hide hB0
  have HT0 := hide (hT.below hB0)
  have hlR : w.heap.size + 1 < w0.heap.size := by omega
  have HFit : Hid (lamT (appT (sh 1 0 ay) (lamT (appT (sh 2 0 az) (lamT (appT (varT 2) (addT (varT 1) (varT 0)))))))).fit := hide (lamT_fit rfl (appT_fit (by rw [sh_len]; exact ny) rfl (sh_fit 1 0 (V.F.okw_fit oy)) (lamT_fit rfl (appT_fit (by rw [sh_len]; exact nz) rfl (sh_fit 2 0 (V.F.okw_fit oz)) (lamT_fit rfl (appT_fit rfl rfl (varT_fit _) (addT_fit rfl rfl (varT_fit _) (varT_fit _))))))))
  have HHy := hide hy
  have HGy := hide hy
  have HOy := hide oy
  have HLy := hide ly
  have HNy := hide ny
  have HKy := hide (hTy.below hB0)
  obtain ⟨yad, yc, rfl⟩ := hTy.form
  obtain ⟨yn, hyn⟩ : ∃ yn, yn = ky.len := ⟨_, rfl⟩
  rw [← hyn] at y2 HKy
  have HHz := hide hz
  have HGz := hide hz
  have HOz := hide oz
  have HLz := hide lz
  have HNz := hide nz
  have HKz := hide (hTz.below hB0)
  obtain ⟨zad, zc, rfl⟩ := hTz.form
  obtain ⟨zn, hzn⟩ : ∃ zn, zn = kz.len := ⟨_, rfl⟩
  rw [← hzn] at z2 HKz
  unfold HHd at HHy HHz
  have HEv : Hid (∀ w', Below w0.heap.size w0 w' → w'.cell? ⟨w.heap.size, 0, none⟩ = some (.int .i64 5) ∧ w'.cell? ⟨w.heap.size, 1, none⟩ = some (.int .i64 xn) ∧ w'.cell? ⟨w.heap.size, 2, none⟩ = some (.slice (some ⟨g, 0, none⟩) 2 sc) ∧ w'.cell? ⟨g, 0, none⟩ = some (.int .i64 y.k) ∧ w'.cell? ⟨g, 1, none⟩ = some (.int .i64 y.n) ∧ w'.cell? ⟨g, 2, none⟩ = some (.slice yad yn yc) ∧ w'.cell? ⟨g, 3, none⟩ = some (.int .i64 z.k) ∧ w'.cell? ⟨g, 4, none⟩ = some (.int .i64 z.n) ∧ w'.cell? ⟨g, 5, none⟩ = some (.slice zad zn zc)) := hide (fun w' hb => ⟨(hb.cell (p := ⟨w.heap.size, 0, none⟩) (show w.heap.size < w0.heap.size by omega)).trans ((cell_of_blk hbT 0).trans rfl), (hb.cell (p := ⟨w.heap.size, 1, none⟩) (show w.heap.size < w0.heap.size by omega)).trans ((cell_of_blk hbT 1).trans rfl), (hb.cell (p := ⟨w.heap.size, 2, none⟩) (show w.heap.size < w0.heap.size by omega)).trans ((cell_of_blk hbT 2).trans rfl), (hb.cell (p := ⟨g, 0, none⟩) (show g < w0.heap.size by omega)).trans ((hB0.cell (p := ⟨g, 0, none⟩) hg).trans y0), (hb.cell (p := ⟨g, 1, none⟩) (show g < w0.heap.size by omega)).trans ((hB0.cell (p := ⟨g, 1, none⟩) hg).trans y1), (hb.cell (p := ⟨g, 2, none⟩) (show g < w0.heap.size by omega)).trans ((hB0.cell (p := ⟨g, 2, none⟩) hg).trans y2), (hb.cell (p := ⟨g, 3, none⟩) (show g < w0.heap.size by omega)).trans ((hB0.cell (p := ⟨g, 3, none⟩) hg).trans z0), (hb.cell (p := ⟨g, 4, none⟩) (show g < w0.heap.size by omega)).trans ((hB0.cell (p := ⟨g, 4, none⟩) hg).trans z1), (hb.cell (p := ⟨g, 5, none⟩) (show g < w0.heap.size by omega)).trans ((hB0.cell (p := ⟨g, 5, none⟩) hg).trans z2)⟩)
  have HSz := hide hsz0
  have HW0 := hide hw0
  clear hsz0 hw0 hB0 hbT hbR hT hTy hy oy ly ny hyn y0 y1 y2 hTz hz oz lz nz hzn z0 z1 z2 hKL
  go_enter Tryz.func39, Tryz.ntmps39
  go_wp2_with fail
  rw [← HW0.out]
  clear HW0
  refine Calls.mono (l7Var_any 1 _) ?_
  rintro e w1 ⟨rfl, hb1⟩
  have HB1 := hide hb1
  clear hb1
  go_wp2_with fail
  refine Calls.mono (l7Var_any 0 _) ?_
  rintro e w2 ⟨rfl, hb2⟩
  have HB2 := hide (HB1.out.trans (hb2.mono HB1.out.size))
  clear hb2 HB1
  go_wp2_with fail
  obtain ⟨wc, hwc⟩ : ∃ wc, wc = (w2.alloc (.cells #[.int .i64 1, .int .i64 1, .slice none 0 0, .int .i64 1, .int .i64 0, .slice none 0 0] 50)).alloc (.cells #[.int .i64 5, .int .i64 0, .slice (some ⟨w2.heap.size, 0, none⟩) 2 2] 50) := ⟨_, rfl⟩
  rw [← hwc]
  have hBc : Below w0.heap.size w0 wc := by rw [hwc]; exact (HB2.out.alloc HB2.out.size _).alloc (by have := HB2.out.size; simp; omega) _
  have hrow : wc.heap[w2.heap.size]? = some (.cells #[.int .i64 1, .int .i64 1, .slice none 0 0, .int .i64 1, .int .i64 0, .slice none 0 0] 50) := by rw [hwc, heap_alloc_old _ _ (by simp)]; exact heap_alloc_new _ _
  have hsum : wc.heap[w2.heap.size + 1]? = some (.cells #[.int .i64 5, .int .i64 0, .slice (some ⟨w2.heap.size, 0, none⟩) 2 2] 50) := by
    rw [hwc]
    have := heap_alloc_new (w2.alloc (.cells #[.int .i64 1, .int .i64 1, .slice none 0 0, .int .i64 1, .int .i64 0, .slice none 0 0] 50)) (.cells #[.int .i64 5, .int .i64 0, .slice (some ⟨w2.heap.size, 0, none⟩) 2 2] 50)
    simpa using this
  have hlS : w2.heap.size + 1 < wc.heap.size := by rw [hwc]; simp
  have HVs : Hid (TV wc AnyQ (addT (varT 1) (varT 0)) (.agg #[.int .i64 5, .int .i64 0, .slice (some ⟨w2.heap.size, 0, none⟩) 2 2])) := hide ⟨⟨5, 0⟩, (varT 1).app (varT 0), _, rfl, rfl, KidT.row (cap := 2) (KidsAt.app (TV.var wc AnyQ 1).one (TV.var wc AnyQ 0).one) (by decide) hrow trivial⟩
  have HBc := hide hBc
  have h2s := HB2.out.size
  have hsz0 := HSz.out
  have HRc : Hid (wc.heap[w.heap.size + 1]? = some (.cells #[.int .i64 0, .int .i64 0, .slice none 0 0] 50)) := hide ((hBc.block (w.heap.size + 1) (by omega)).trans HbR.out)
  have hlRc : w.heap.size + 1 < wc.heap.size := by omega
  have HTc := hide (HT0.out.below hBc)
  have HAll : Hid (∀ w', Below wc.heap.size wc w' → w'.cell? ⟨w.heap.size, 0, none⟩ = some (.int .i64 5) ∧ w'.cell? ⟨w.heap.size, 1, none⟩ = some (.int .i64 xn) ∧ w'.cell? ⟨w.heap.size, 2, none⟩ = some (.slice (some ⟨g, 0, none⟩) 2 sc) ∧ w'.cell? ⟨w2.heap.size + 1, 0, none⟩ = some (.int .i64 5) ∧ w'.cell? ⟨w2.heap.size + 1, 1, none⟩ = some (.int .i64 0) ∧ w'.cell? ⟨w2.heap.size + 1, 2, none⟩ = some (.slice (some ⟨w2.heap.size, 0, none⟩) 2 2)) := hide (fun w' hb => by
    obtain ⟨j0, j1, j2, j3, j4, j5, j6, j7, j8⟩ := HEv.out w' (HBc.out.trans (hb.mono HBc.out.size))
    exact ⟨j0, j1, j2, (hb.cell (p := ⟨w2.heap.size + 1, 0, none⟩) (hlS)).trans ((cell_of_blk hsum 0).trans rfl), (hb.cell (p := ⟨w2.heap.size + 1, 1, none⟩) (hlS)).trans ((cell_of_blk hsum 1).trans rfl), (hb.cell (p := ⟨w2.heap.size + 1, 2, none⟩) (hlS)).trans ((cell_of_blk hsum 2).trans rfl)⟩)
  have HSet : Hid (∀ w' (x y' z' : Value), (w'.cell? ⟨w.heap.size, 0, none⟩ = some (.int .i64 5) ∧ w'.cell? ⟨w.heap.size, 1, none⟩ = some (.int .i64 xn) ∧ w'.cell? ⟨w.heap.size, 2, none⟩ = some (.slice (some ⟨g, 0, none⟩) 2 sc) ∧ w'.cell? ⟨w2.heap.size + 1, 0, none⟩ = some (.int .i64 5) ∧ w'.cell? ⟨w2.heap.size + 1, 1, none⟩ = some (.int .i64 0) ∧ w'.cell? ⟨w2.heap.size + 1, 2, none⟩ = some (.slice (some ⟨w2.heap.size, 0, none⟩) 2 2)) → (set3 w' (w.heap.size + 1) x y' z').cell? ⟨w.heap.size, 0, none⟩ = some (.int .i64 5) ∧ (set3 w' (w.heap.size + 1) x y' z').cell? ⟨w.heap.size, 1, none⟩ = some (.int .i64 xn) ∧ (set3 w' (w.heap.size + 1) x y' z').cell? ⟨w.heap.size, 2, none⟩ = some (.slice (some ⟨g, 0, none⟩) 2 sc) ∧ (set3 w' (w.heap.size + 1) x y' z').cell? ⟨w2.heap.size + 1, 0, none⟩ = some (.int .i64 5) ∧ (set3 w' (w.heap.size + 1) x y' z').cell? ⟨w2.heap.size + 1, 1, none⟩ = some (.int .i64 0) ∧ (set3 w' (w.heap.size + 1) x y' z').cell? ⟨w2.heap.size + 1, 2, none⟩ = some (.slice (some ⟨w2.heap.size, 0, none⟩) 2 2)) := hide (fun w' x y' z' ⟨j0, j1, j2, j3, j4, j5⟩ => ⟨set3_cell (show w.heap.size ≠ w.heap.size + 1 by omega) _ _ _ j0, set3_cell (show w.heap.size ≠ w.heap.size + 1 by omega) _ _ _ j1, set3_cell (show w.heap.size ≠ w.heap.size + 1 by omega) _ _ _ j2, set3_cell (show w2.heap.size + 1 ≠ w.heap.size + 1 by omega) _ _ _ j3, set3_cell (show w2.heap.size + 1 ≠ w.heap.size + 1 by omega) _ _ _ j4, set3_cell (show w2.heap.size + 1 ≠ w.heap.size + 1 by omega) _ _ _ j5⟩)
  have HBw : Hid (Below w.heap.size w wc) := hide (HB.out.trans (hBc.mono (by omega)))
  clear hwc hBc hrow hsum hsz0 h2s
  have HWB0d : Hid (Below wc.heap.size wc wc.drew) := hide (belowDrew (Below.refl _ _))
  obtain ⟨Wu0, Wu1, Wu2, Wu3, Wu4, Wu5⟩ := HAll.out wc.drew HWB0d.out
  go_region_held3 (fun w' => w'.cell? ⟨w.heap.size, 0, none⟩ = some (.int .i64 5) ∧ w'.cell? ⟨w.heap.size, 1, none⟩ = some (.int .i64 xn) ∧ w'.cell? ⟨w.heap.size, 2, none⟩ = some (.slice (some ⟨g, 0, none⟩) 2 sc) ∧ w'.cell? ⟨w2.heap.size + 1, 0, none⟩ = some (.int .i64 5) ∧ w'.cell? ⟨w2.heap.size + 1, 1, none⟩ = some (.int .i64 0) ∧ w'.cell? ⟨w2.heap.size + 1, 2, none⟩ = some (.slice (some ⟨w2.heap.size, 0, none⟩) 2 2)) (first | (with_reducible exact HAll.out _ HWB0d.out) | (with_reducible exact HAll.out _ HWB1.out) | (with_reducible exact HAll.out _ HWB2.out) | (with_reducible exact HAll.out _ HWB3.out) | (with_reducible exact HSet.out _ _ _ _ (HAll.out _ HWB3.out)))
    (first
      | ((with_reducible refine Calls.mono (var_tv 2 _) ?_); rintro e W1 ⟨Wv1, rfl, hv, hx⟩; have HWB1 : Hid (Below wc.heap.size wc W1) := hide (by first | exact HWB0d.out.trans (hx.mono HWB0d.out.size)); have HWV1_1 := hide hv; obtain ⟨Wk1, Wn1, Wa1, Wl1, Wc1, rfl⟩ := hv.form; clear hv hx)
      | ((with_reducible refine Calls.mono (app_tv (varT 2) (addT (varT 1) (varT 0)) _ (.agg #[.int .i64 5, .int .i64 0, .slice (some ⟨w2.heap.size, 0, none⟩) 2 2]) _ (by first | exact HWV1_1.out) (by first | exact HVs.out.below HWB1.out)) ?_); rintro e W2 ⟨Wv2, rfl, hv, hx⟩; have HWB2 : Hid (Below wc.heap.size wc W2) := hide (by first | exact HWB1.out.trans (hx.mono HWB1.out.size)); have HWV1_2 := hide (show TV W2 AnyQ _ _ from (by first | exact HWV1_1.out.below hx)); have HWV2_2 := hide hv; obtain ⟨Wk2, Wn2, Wa2, Wl2, Wc2, rfl⟩ := hv.form; clear hv hx)
      | ((with_reducible refine Calls.mono (l7Two_any ⟨5, xn⟩ y z ky kz ay az (appT (varT 2) (addT (varT 1) (varT 0))) _ _ P _ HGy.out HGz.out HOy.out HOz.out (appT_fit rfl rfl (varT_fit _) (addT_fit rfl rfl (varT_fit _) (varT_fit _))) HLy.out HLz.out HNy.out HNz.out (by first | exact HTc.out.below HWB2.out) (by first | exact HWV2_2.out)) ?_); rintro e W3 ⟨Wv3, rfl, hv, hx⟩; have HWB3 : Hid (Below wc.heap.size wc W3) := hide (by first | exact HWB2.out.trans (hx.mono HWB2.out.size)); have HWV1_3 := hide (show TV W3 AnyQ _ _ from (by first | exact HWV1_2.out.below hx)); have HWV2_3 := hide (show TV W3 AnyQ _ _ from (by first | exact HWV2_2.out.below hx)); have HWV3_3 := hide hv; obtain ⟨Wk3, Wn3, Wa3, Wl3, Wc3, rfl⟩ := hv.form; clear hv hx; have hzr : W3.heap[w.heap.size + 1]? = some (.cells #[.int .i64 0, .int .i64 0, .slice none 0 0] 50) := (HWB3.out.block (w.heap.size + 1) hlRc).trans HRc.out; have zr0 : W3.cell? ⟨w.heap.size + 1, 0, none⟩ = some (.int .i64 0) := (cell_of_blk hzr 0).trans rfl; have zr1 : W3.cell? ⟨w.heap.size + 1, 1, none⟩ = some (.int .i64 0) := (cell_of_blk hzr 1).trans rfl; have zr2 : W3.cell? ⟨w.heap.size + 1, 2, none⟩ = some (.slice none 0 0) := (cell_of_blk hzr 2).trans rfl; have zrf := unfrozen_of_blk hzr; have HZr := hide hzr; clear hzr))
  go_wp2_with fail
  have hre := set3_at HZr.out (.int .i64 Wk3) (.int .i64 Wn3) (.slice Wa3 Wl3 Wc3)
  have r0 := (cell_of_blk hre 0).trans rfl
  have r1 := (cell_of_blk hre 1).trans rfl
  have r2 := (cell_of_blk hre 2).trans rfl
  exact bodyPost_ret (v := .agg #[.int .i64 Wk3, .int .i64 Wn3, .slice Wa3 Wl3 Wc3]) (by simp [results, Tryz.results39, go_sem, r0, r1, r2]) rfl ⟨_, rfl, HWV3_3.out.set3 HFit.out HZr.out _ _ _, below_set3 (HBw.out.trans (HWB3.out.mono HBw.out.size)) (by omega) _ _ _⟩
end Go.Proofs.YtnmkbpflbfhpnaaGreat.W
