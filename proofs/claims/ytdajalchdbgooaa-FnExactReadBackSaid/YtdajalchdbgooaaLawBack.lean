/-
  Proved: whatever the row of cells and the machine, the memory and the schedule, the law FnExactReadBack returns true, and both read afterwards as they read before: ReadBack of the program tells what the specification's tells, in memory of its own. No conditions. Written by wip/build/mk_lawback.py.
-/
import Derived.Test.YtdajalchdbgooaaJ17
import Derived.Test.YtdajalchdbgooaaJ18
import Derived.Test.YtdajalchdbgooaaJ07
import Derived.Test.YtdajalchdbgooaaJ19
import Derived.Deep.RegionHeld3
import Derived.Deep.RegionLaw
import Derived.Deep.AppendLies
import Derived.Deep.CutRange
import Derived.Lib.SmallJoins
import Derived.ChangeOld
import Derived.Below
namespace Go.Proofs.Ytdajalchdbgooaa.fnExactReadBack
open Go.ChangeShapes Go.WideShapes Go.ChangeAt Go.RowKit
open Go.Proofs.Ytdajalchdbgooaa.W Go.Joins
set_option linter.unusedVariables false
set_option linter.unusedSimpArgs false

theorem own : ownKnob Try.prog.godebug = none := by kernel_rfl
theorem laidOut : laidOutB Try.prog = true := by kernel_rfl

theorem eqOwn (v1 v2 : Value) (b1 b2 : Nat) (L : List Cc) (w : World) (hl : L.length ≤ 1048576) (h1 : w.ownsRow b1 59 2 v1 L.length (cv L)) (h2 : w.ownsRow b2 59 2 v2 L.length (cv L)) :
    Calls Try.prog 13 #[v1, v2] w fun e w' => e = .returned (.bool true) ∧ Below w.heap.size w w' := by
  obtain ⟨a1, c1, rfl, -, r1⟩ := cOwn_row h1
  obtain ⟨a2, c2, rfl, -, r2⟩ := cOwn_row h2
  exact eqCellS_row a1 a2 c1 c2 L w hl r1 r2

set_option maxRecDepth 20000 in
set_option maxHeartbeats 8000000 in
theorem walk (ad : Option Addr) (c : Nat) (l : List Cc) (d : Bool) (p e x : Int) (af av ab : Option Addr) (cf cv cb : Nat) (fs : List Fm) (vs : List Vl) (bs : List Bd) (w : World) (hl : l.length ≤ maxLen) (h : CRow w ad l) (h1 : FmRow w af fs) (h2 : VlRow w av vs) (h3 : BdRow w ab bs) (m1 : fs.length ≤ maxLen) (m2 : vs.length ≤ maxLen) (m3 : bs.length ≤ maxLen) (k1 : fs.length ≤ cf) (k2 : vs.length ≤ cv) (k3 : bs.length ≤ cb) :
    Calls Try.prog 7 #[.slice ad l.length c, .agg #[.bool d, .int .i64 p, .int .i64 e, .int .i64 x, .slice af fs.length cf, .slice av vs.length cv, .slice ab bs.length cb]] w fun r w' => r = .returned (.bool true) ∧ Below w.heap.size w w' := by
  have HR := hide h
  have HM : Hid (fs.length ≤ 1048576 → vs.length ≤ 1048576 → bs.length ≤ 1048576 → MRow w (.agg #[.bool d, .int .i64 p, .int .i64 e, .int .i64 x, .slice af fs.length cf, .slice av vs.length cv, .slice ab bs.length cb]) ⟨d, p, e, x, fs, vs, bs⟩) := hide (fun a1 a2 a3 => ⟨af, cf, av, cv, ab, cb, rfl, h1, h2, h3, a1, a2, a3, k1, k2, k3⟩)
  clear h h1 h2 h3 k1 k2 k3
  go_enter Try.func7, Try.ntmps7
  go_upto_region 2 with fail
  have HX0 := hide (Bx.new w #[.bool d, .int .i64 p, .int .i64 e, .int .i64 x, .slice af fs.length cf, .slice av vs.length cv, .slice ab bs.length cb] 45)
  have hB0 : Below w.heap.size w (w.alloc (.cells #[.bool d, .int .i64 p, .int .i64 e, .int .i64 x, .slice af fs.length cf, .slice av vs.length cv, .slice ab bs.length cb] 45)) := (Below.refl _ _).alloc (Nat.le_refl _) _
  obtain ⟨w0, hw0⟩ : ∃ w0, w0 = w.alloc (.cells #[.bool d, .int .i64 p, .int .i64 e, .int .i64 x, .slice af fs.length cf, .slice av vs.length cv, .slice ab bs.length cb] 45) := ⟨_, rfl⟩
  obtain ⟨XB, hXB⟩ : ∃ XB, XB = w.heap.size := ⟨_, rfl⟩
  rw [← hw0] at HX0 hB0 ⊢
  rw [← hXB] at HX0 ⊢
  have xl0 : XB < w0.heap.size := HX0.out.lt
  clear hw0 hXB
  go_wp2_with fail
  refine (szCellS_any _ _ _ _ hl).mono ?_
  rintro r w1 ⟨r, rfl, hr, hw⟩
  obtain rfl := hw.symm
  clear hl
  by_cases hneg : r < 0
  · clear hr
    go_wp2_with fail
    go_ret
    exact ⟨rfl, hB0⟩
  · obtain ⟨r0, r1, hl⟩ := hr.resolve_left hneg
    clear hr
    have cx := HX0.out.c
    go_wp2_with fail
    refine (szMachine_any _ _ _ _ _ _ _ _ _ _ _ _ _ _ _ m1 m2 m3 r0 (by omega)).mono ?_
    rintro r w2 ⟨r', rfl, hr, hb2⟩
    have hB2 : Below w.heap.size w w2 := hB0.trans (hb2.mono hB0.size)
    have HX2 := hide (HX0.out.below hb2 xl0)
    have xl2 : XB < w2.heap.size := HX2.out.lt
    clear hb2 cx HX0 m1 m2 m3
    by_cases hneg' : r' < 0
    · clear hr
      go_wp2_with fail
      go_ret
      exact ⟨rfl, hB2⟩
    · obtain ⟨-, -, a1, a2, a3⟩ := hr.resolve_left hneg'
      have HMr := hide (HM.out a1 a2 a3)
      have HTc := hide (fun (w' : World) (hb : Below w.heap.size w w') => toCellS_any ad c l w' hl (HR.out.below hb))
      have HTm := hide (fun (w' : World) (hb : Below w.heap.size w w') => toMachine_any _ _ w' (HMr.out.below hb))
      have HSp := hide (fun (ad : Option Addr) (c : Nat) (v : Value) (w : World) (h : CRow w ad l) (hm : MRow w v ⟨d, p, e, x, fs, vs, bs⟩) => specBack_any ad c l v ⟨d, p, e, x, fs, vs, bs⟩ w hl h hm)
      have HIm := hide (fun (ad : Option Addr) (c : Nat) (v : Value) (w : World) (hc : l.length ≤ c) (h : CRow w ad l) (hm : MRow w v ⟨d, p, e, x, fs, vs, bs⟩) => implBack_any ad c l v ⟨d, p, e, x, fs, vs, bs⟩ w hl hc h hm)
      have hfl0 := bkL_len l ⟨d, p, e, x, fs, vs, bs⟩
      obtain ⟨FL, hFL⟩ : ∃ FL, FL = bkL l ⟨d, p, e, x, fs, vs, bs⟩ := ⟨_, rfl⟩
      obtain ⟨OK, hOK⟩ : ∃ OK, OK = bkB l ⟨d, p, e, x, fs, vs, bs⟩ := ⟨_, rfl⟩
      simp only [← hFL, ← hOK] at HSp HIm
      rw [← hFL] at hfl0
      have hfl : FL.length ≤ 1048576 := by omega
      have HB2 := hide hB2
      have HC : Hid (Below w2.heap.size w2 w2.drew) := hide (belowDrew (Below.refl _ _))
      clear hr HM hFL hOK hfl0 hB0 hB2
      go_wp2_with fail
      have b0 : w2.cell? ⟨XB, 0, none⟩ = some (.bool d) := HX2.out.c 0
      have b1 : w2.cell? ⟨XB, 1, none⟩ = some (.int .i64 p) := HX2.out.c 1
      have b2 : w2.cell? ⟨XB, 2, none⟩ = some (.int .i64 e) := HX2.out.c 2
      have b3 : w2.cell? ⟨XB, 3, none⟩ = some (.int .i64 x) := HX2.out.c 3
      have b4 : w2.cell? ⟨XB, 4, none⟩ = some (.slice af fs.length cf) := HX2.out.c 4
      have b5 : w2.cell? ⟨XB, 5, none⟩ = some (.slice av vs.length cv) := HX2.out.c 5
      have b6 : w2.cell? ⟨XB, 6, none⟩ = some (.slice ab bs.length cb) := HX2.out.c 6
      refine wp_region_noPanic ?_
      refine wp_region_held_drew (S := fun w' => w'.cell? ⟨XB, 0, none⟩ = some (.bool d) ∧ w'.cell? ⟨XB, 1, none⟩ = some (.int .i64 p) ∧ w'.cell? ⟨XB, 2, none⟩ = some (.int .i64 e) ∧ w'.cell? ⟨XB, 3, none⟩ = some (.int .i64 x) ∧ w'.cell? ⟨XB, 4, none⟩ = some (.slice af fs.length cf) ∧ w'.cell? ⟨XB, 5, none⟩ = some (.slice av vs.length cv) ∧ w'.cell? ⟨XB, 6, none⟩ = some (.slice ab bs.length cb)) (by kernel_rfl) ⟨b0, b1, b2, b3, b4, b5, b6⟩ (fun hHeld => ?_)
      refine wpAnyH_take (i := 0) (oi := _) (v := ?_) rfl (by kernel_rfl) (by kernel_rfl) (by kernel_rfl) (fun _ _ _ h => h) (Or.inl ⟨by rfl, ?_⟩) (by assumption) ?_
      rotate_left 1
      · (intro w hSw; (try dsimp only at hSw); (first | (go_simp; done) | (go_simp; with_reducible rfl)))
      try simp only [Act.put, List.getElem_toArray, List.getElem_cons_zero, List.getElem_cons_succ, List.setIfInBounds_toArray, List.set_cons_zero, List.set_cons_succ]
      refine wpAnyH_take (i := 2) (oi := _) (v := ?_) rfl (by kernel_rfl) (by kernel_rfl) (by kernel_rfl) (fun _ _ _ h => h) (Or.inl ⟨by rfl, ?_⟩) (by assumption) ?_
      rotate_left 1
      · (intro w hSw; (try dsimp only at hSw); (first | (go_simp; done) | (go_simp; with_reducible rfl)))
      try simp only [Act.put, List.getElem_toArray, List.getElem_cons_zero, List.getElem_cons_succ, List.setIfInBounds_toArray, List.set_cons_zero, List.set_cons_succ]
      refine wpAnyH_ready (rs := [1]) (by kernel_rfl) (by simp) ?_
      refine AllReadyH.cons (o := _) rfl (fun K hK => ?_) AllReadyH.nil
      go_simp
      (with_reducible refine Calls.mono (HTc.out _ (HB2.out.trans (HC.out.mono HB2.out.size))) ?_)
      rintro r wa ⟨rfl, hra, hba⟩
      replace HC := hide (HC.out.trans (hba.mono HC.out.size))
      have HRa : Hid (CBlk wa w2.heap.size l) := hide hra
      have hza : w2.heap.size ≤ wa.heap.size := hba.size
      have fa0 := (hba.cell (p := ⟨XB, 0, none⟩) (show XB < w2.heap.size by omega)).trans b0
      have fa1 := (hba.cell (p := ⟨XB, 1, none⟩) (show XB < w2.heap.size by omega)).trans b1
      have fa2 := (hba.cell (p := ⟨XB, 2, none⟩) (show XB < w2.heap.size by omega)).trans b2
      have fa3 := (hba.cell (p := ⟨XB, 3, none⟩) (show XB < w2.heap.size by omega)).trans b3
      have fa4 := (hba.cell (p := ⟨XB, 4, none⟩) (show XB < w2.heap.size by omega)).trans b4
      have fa5 := (hba.cell (p := ⟨XB, 5, none⟩) (show XB < w2.heap.size by omega)).trans b5
      have fa6 := (hba.cell (p := ⟨XB, 6, none⟩) (show XB < w2.heap.size by omega)).trans b6
      clear hba hra
      (try go_wp2_with fail)
      refine hK.out _ _ ⟨fa0, fa1, fa2, fa3, fa4, fa5, fa6⟩ (fun hHeld => ?_)
      clear hK K
      try simp only [Act.put, List.getElem_toArray, List.getElem_cons_zero, List.getElem_cons_succ, List.setIfInBounds_toArray, List.set_cons_zero, List.set_cons_succ]
      refine wpAnyH_ready (rs := [3]) (by kernel_rfl) (by simp) ?_
      refine AllReadyH.cons (o := _) rfl (fun K hK => ?_) AllReadyH.nil
      go_simp
      (with_reducible refine Calls.mono (HTm.out _ (HB2.out.trans (HC.out.mono HB2.out.size))) ?_)
      rintro r wb ⟨vb, rfl, hob, hbb⟩
      replace HC := hide (HC.out.trans (hbb.mono HC.out.size))
      have HRb := hide (HRa.out.below hbb)
      have HOb := hide hob.row
      have hzb : wa.heap.size ≤ wb.heap.size := hbb.size
      have fb0 := (hbb.cell (p := ⟨XB, 0, none⟩) (show XB < wa.heap.size by omega)).trans fa0
      have fb1 := (hbb.cell (p := ⟨XB, 1, none⟩) (show XB < wa.heap.size by omega)).trans fa1
      have fb2 := (hbb.cell (p := ⟨XB, 2, none⟩) (show XB < wa.heap.size by omega)).trans fa2
      have fb3 := (hbb.cell (p := ⟨XB, 3, none⟩) (show XB < wa.heap.size by omega)).trans fa3
      have fb4 := (hbb.cell (p := ⟨XB, 4, none⟩) (show XB < wa.heap.size by omega)).trans fa4
      have fb5 := (hbb.cell (p := ⟨XB, 5, none⟩) (show XB < wa.heap.size by omega)).trans fa5
      have fb6 := (hbb.cell (p := ⟨XB, 6, none⟩) (show XB < wa.heap.size by omega)).trans fa6
      clear hbb hob
      (try go_wp2_with fail)
      refine hK.out _ _ ⟨fb0, fb1, fb2, fb3, fb4, fb5, fb6⟩ (fun hHeld => ?_)
      clear hK K
      try simp only [Act.put, List.getElem_toArray, List.getElem_cons_zero, List.getElem_cons_succ, List.setIfInBounds_toArray, List.set_cons_zero, List.set_cons_succ]
      refine wpAnyH_ready (rs := [4]) (by kernel_rfl) (by simp) ?_
      refine AllReadyH.cons (o := _) rfl (fun K hK => ?_) AllReadyH.nil
      go_simp
      (with_reducible refine Calls.mono (HSp.out _ _ _ _ HRb.out.row HOb.out) ?_)
      rintro r wd ⟨s1, rfl, hs1, hbd⟩
      replace HC := hide (HC.out.trans (hbd.mono HC.out.size))
      have HS := hide hs1
      have hzd : wb.heap.size ≤ wd.heap.size := hbd.size
      have hs1x : ∀ k, s1.ownBlock = some k → k < wd.heap.size := fun k hk => (HS.out.lt k hk).2
      obtain ⟨sa, sc, rfl⟩ := iOwn_form hs1
      have fd0 := (hbd.cell (p := ⟨XB, 0, none⟩) (show XB < wb.heap.size by omega)).trans fb0
      have fd1 := (hbd.cell (p := ⟨XB, 1, none⟩) (show XB < wb.heap.size by omega)).trans fb1
      have fd2 := (hbd.cell (p := ⟨XB, 2, none⟩) (show XB < wb.heap.size by omega)).trans fb2
      have fd3 := (hbd.cell (p := ⟨XB, 3, none⟩) (show XB < wb.heap.size by omega)).trans fb3
      have fd4 := (hbd.cell (p := ⟨XB, 4, none⟩) (show XB < wb.heap.size by omega)).trans fb4
      have fd5 := (hbd.cell (p := ⟨XB, 5, none⟩) (show XB < wb.heap.size by omega)).trans fb5
      have fd6 := (hbd.cell (p := ⟨XB, 6, none⟩) (show XB < wb.heap.size by omega)).trans fb6
      clear hbd hs1
      (try go_wp2_with fail)
      refine hK.out _ _ ⟨fd0, fd1, fd2, fd3, fd4, fd5, fd6⟩ (fun hHeld => ?_)
      clear hK K
      try simp only [Act.put, List.getElem_toArray, List.getElem_cons_zero, List.getElem_cons_succ, List.setIfInBounds_toArray, List.set_cons_zero, List.set_cons_succ]
      refine wpAnyH_take (i := 5) (oi := _) (v := ?_) rfl (by kernel_rfl) (by kernel_rfl) (by kernel_rfl) (fun _ _ _ h => h) (Or.inl ⟨by rfl, ?_⟩) (by assumption) ?_
      rotate_left 1
      · (intro w hSw; (try dsimp only at hSw); (first | (go_simp; done) | (go_simp; with_reducible rfl)))
      try simp only [Act.put, List.getElem_toArray, List.getElem_cons_zero, List.getElem_cons_succ, List.setIfInBounds_toArray, List.set_cons_zero, List.set_cons_succ]
      refine wpAnyH_take (i := 6) (oi := _) (v := ?_) rfl (by kernel_rfl) (by kernel_rfl) (by kernel_rfl) (fun _ _ _ h => h) (Or.inl ⟨by rfl, ?_⟩) (by assumption) ?_
      rotate_left 1
      · (intro w hSw; (try dsimp only at hSw); (first | (go_simp; done) | (go_simp; with_reducible rfl)))
      try simp only [Act.put, List.getElem_toArray, List.getElem_cons_zero, List.getElem_cons_succ, List.setIfInBounds_toArray, List.set_cons_zero, List.set_cons_succ]
      refine wpAnyH_take (i := 7) (oi := _) (v := ?_) rfl (by kernel_rfl) (by kernel_rfl) (by kernel_rfl) (fun _ _ _ h => h) (Or.inl ⟨by rfl, ?_⟩) (by assumption) ?_
      rotate_left 1
      · (intro w hSw; (try dsimp only at hSw); (first | (go_simp; done) | (go_simp; with_reducible rfl)))
      try simp only [Act.put, List.getElem_toArray, List.getElem_cons_zero, List.getElem_cons_succ, List.setIfInBounds_toArray, List.set_cons_zero, List.set_cons_succ]
      refine wpAnyH_take (i := 8) (oi := _) (v := ?_) rfl (by kernel_rfl) (by kernel_rfl) (by kernel_rfl) (fun _ _ _ h => h) (Or.inl ⟨by rfl, ?_⟩) (by assumption) ?_
      rotate_left 1
      · (intro w hSw; (try dsimp only at hSw); (first | (go_simp; done) | (go_simp; with_reducible rfl)))
      try simp only [Act.put, List.getElem_toArray, List.getElem_cons_zero, List.getElem_cons_succ, List.setIfInBounds_toArray, List.set_cons_zero, List.set_cons_succ]
      refine wpAnyH_take (i := 9) (oi := _) (v := ?_) rfl (by kernel_rfl) (by kernel_rfl) (by kernel_rfl) (fun _ _ _ h => h) (Or.inl ⟨by rfl, ?_⟩) (by assumption) ?_
      rotate_left 1
      · (intro w hSw; (try dsimp only at hSw); (first | (go_simp; done) | (go_simp; with_reducible rfl)))
      try simp only [Act.put, List.getElem_toArray, List.getElem_cons_zero, List.getElem_cons_succ, List.setIfInBounds_toArray, List.set_cons_zero, List.set_cons_succ]
      refine wpAnyH_done (by kernel_rfl) ?_ _
      refine NoPanic.normal ?_
      clear b0 b1 b2 b3 b4 b5 b6
      clear fa0 fa1 fa2 fa3 fa4 fa5 fa6
      clear fb0 fb1 fb2 fb3 fb4 fb5 fb6
      clear fd0 fd1 fd2 fd3 fd4 fd5 fd6
      clear HRa HRb HOb
      go_wp2_with fail
      refine (HTc.out _ (HB2.out.trans (HC.out.mono HB2.out.size))).mono ?_
      rintro r we ⟨rfl, hre, hbe⟩
      replace HC := hide (HC.out.trans (hbe.mono HC.out.size))
      replace HS := hide (tOwn_keep HS.out (fun k _ hk => hbe.block k hk))
      have HT := hide hre
      have hze : wd.heap.size ≤ we.heap.size := hbe.size
      have hzt : wd.heap.size < we.heap.size := by obtain ⟨cur, hh, -⟩ := hre; exact (Array.getElem?_eq_some_iff.1 hh).1
      have cxe := (HX2.out.below HC.out xl2).c
      clear hbe hre
      go_wp2_with fail
      refine (HTm.out _ (HB2.out.trans (HC.out.mono HB2.out.size))).mono ?_
      rintro r wf ⟨vf, rfl, hof, hbf⟩
      replace HC := hide (HC.out.trans (hbf.mono HC.out.size))
      replace HS := hide (tOwn_keep HS.out (fun k _ hk => hbf.block k hk))
      replace HT := hide (HT.out.below hbf)
      have HMo := hide hof
      have hzf : we.heap.size ≤ wf.heap.size := hbf.size
      obtain ⟨sf, sv, sb, rfl, o1, o2, o3, -⟩ := hof
      obtain ⟨gf, kf, rfl⟩ := own_form o1.1
      obtain ⟨gv, kv, rfl⟩ := own_form o2.1
      obtain ⟨gb, kb, rfl⟩ := own_form o3.1
      clear o1 o2 o3 hbf cxe
      simp only at HMo
      have hbg : Below wf.heap.size wf (wf.alloc (.cells #[.bool d, .int .i64 p, .int .i64 e, .int .i64 x, .slice gf fs.length kf, .slice gv vs.length kv, .slice gb bs.length kb] 28)) := (Below.refl _ _).alloc (Nat.le_refl _) _
      have HY : Hid (Bx (wf.alloc (.cells #[.bool d, .int .i64 p, .int .i64 e, .int .i64 x, .slice gf fs.length kf, .slice gv vs.length kv, .slice gb bs.length kb] 28)) wf.heap.size #[.bool d, .int .i64 p, .int .i64 e, .int .i64 x, .slice gf fs.length kf, .slice gv vs.length kv, .slice gb bs.length kb] 28) := hide (Bx.new wf #[.bool d, .int .i64 p, .int .i64 e, .int .i64 x, .slice gf fs.length kf, .slice gv vs.length kv, .slice gb bs.length kb] 28)
      replace HC := hide (HC.out.trans (hbg.mono HC.out.size))
      replace HS := hide (tOwn_keep HS.out (fun k _ hk => hbg.block k hk))
      replace HT := hide (HT.out.below hbg)
      replace HMo := hide (HMo.out.below (Nat.le_refl _) hbg)
      have HIc := hide (HIm.out _ _ _ _ (Nat.le_refl _) HT.out.row HMo.out.row)
      obtain ⟨wg, hwg⟩ : ∃ wg, wg = wf.alloc (.cells #[.bool d, .int .i64 p, .int .i64 e, .int .i64 x, .slice gf fs.length kf, .slice gv vs.length kv, .slice gb bs.length kb] 28) := ⟨_, rfl⟩
      obtain ⟨YB, hYB⟩ : ∃ YB, YB = wf.heap.size := ⟨_, rfl⟩
      have hzg : wg.heap.size = wf.heap.size + 1 := by rw [hwg]; simp
      have HWg := hide hwg
      rw [← hwg] at HC HS HT HMo HY HIc
      rw [← hYB] at HY
      have cy := HY.out.c
      clear hbg hwg
      go_wp2_with fail
      rw [← HWg.out]
      rw [← hYB]
      have HYB := hide hYB
      have HZg := hide hzg
      have hzg1 : wf.heap.size ≤ wg.heap.size := by omega
      clear hzg HWg
      clear hYB
      go_wp2_with fail
      refine HIc.out.mono ?_
      rintro r wi ⟨g0, rfl, hg0, hbi⟩
      replace HC := hide (HC.out.trans (hbi.mono HC.out.size))
      replace HS := hide (tOwn_keep HS.out (fun k _ hk => hbi.block k hk))
      replace HT := hide (HT.out.below hbi)
      replace HMo := hide (HMo.out.below (by omega) hbi)
      replace HY := hide (HY.out.below hbi HY.out.lt)
      have HGr := hide hg0
      have hg0x : ∀ k, g0.ownBlock = some k → wg.heap.size ≤ k := fun k hk => (HGr.out.lt k hk).1
      obtain ⟨ga, gc, rfl⟩ := iOwn_form hg0
      have hzi : wg.heap.size ≤ wi.heap.size := hbi.size
      clear hbi hg0 cy HIc
      go_wp2_with fail
      refine (eqOwn _ _ _ _ FL _ hfl HGr.out HS.out).mono ?_
      rintro r wk ⟨rfl, hbk⟩
      replace HC := hide (HC.out.trans (hbk.mono HC.out.size))
      replace HS := hide (tOwn_keep HS.out (fun k _ hk => hbk.block k hk))
      replace HT := hide (HT.out.below hbk)
      replace HMo := hide (HMo.out.below (by omega) hbk)
      replace HY := hide (HY.out.below hbk HY.out.lt)
      replace HGr := hide (tOwn_keep HGr.out (fun k _ hk => hbk.block k hk))
      have hzk : wi.heap.size ≤ wk.heap.size := hbk.size
      clear hbk
      go_wp2_with fail
      refine (HTc.out _ (HB2.out.trans (HC.out.mono HB2.out.size))).mono ?_
      rintro r wl ⟨rfl, hrl, hbl⟩
      replace HC := hide (HC.out.trans (hbl.mono HC.out.size))
      replace HS := hide (tOwn_keep HS.out (fun k _ hk => hbl.block k hk))
      replace HT := hide (HT.out.below hbl)
      replace HMo := hide (HMo.out.below (by omega) hbl)
      replace HY := hide (HY.out.below hbl HY.out.lt)
      replace HGr := hide (tOwn_keep HGr.out (fun k _ hk => hbl.block k hk))
      have HRl := hide hrl
      have hzl : wk.heap.size ≤ wl.heap.size := hbl.size
      clear hbl hrl
      go_wp2_with fail
      refine (eqCellS_row _ _ _ _ _ _ hl HT.out.row HRl.out.row).mono ?_
      rintro r wn ⟨rfl, hbn⟩
      replace HC := hide (HC.out.trans (hbn.mono HC.out.size))
      replace HS := hide (tOwn_keep HS.out (fun k _ hk => hbn.block k hk))
      replace HT := hide (HT.out.below hbn)
      replace HMo := hide (HMo.out.below (by omega) hbn)
      replace HY := hide (HY.out.below hbn HY.out.lt)
      replace HGr := hide (tOwn_keep HGr.out (fun k _ hk => hbn.block k hk))
      have hzn : wl.heap.size ≤ wn.heap.size := hbn.size
      clear hbn HRl
      go_wp2_with fail
      have hyn : YB < wn.heap.size := HY.out.lt
      have hxn : XB < wn.heap.size := by omega
      have b0 : wn.cell? ⟨XB, 0, none⟩ = some (.bool d) := (HX2.out.below HC.out xl2).c 0
      have b1 : wn.cell? ⟨XB, 1, none⟩ = some (.int .i64 p) := (HX2.out.below HC.out xl2).c 1
      have b2 : wn.cell? ⟨XB, 2, none⟩ = some (.int .i64 e) := (HX2.out.below HC.out xl2).c 2
      have b3 : wn.cell? ⟨XB, 3, none⟩ = some (.int .i64 x) := (HX2.out.below HC.out xl2).c 3
      have b4 : wn.cell? ⟨XB, 4, none⟩ = some (.slice af fs.length cf) := (HX2.out.below HC.out xl2).c 4
      have b5 : wn.cell? ⟨XB, 5, none⟩ = some (.slice av vs.length cv) := (HX2.out.below HC.out xl2).c 5
      have b6 : wn.cell? ⟨XB, 6, none⟩ = some (.slice ab bs.length cb) := (HX2.out.below HC.out xl2).c 6
      have b7 : wn.cell? ⟨YB, 0, none⟩ = some (.bool d) := HY.out.c 0
      have b8 : wn.cell? ⟨YB, 1, none⟩ = some (.int .i64 p) := HY.out.c 1
      have b9 : wn.cell? ⟨YB, 2, none⟩ = some (.int .i64 e) := HY.out.c 2
      have b10 : wn.cell? ⟨YB, 3, none⟩ = some (.int .i64 x) := HY.out.c 3
      have b11 : wn.cell? ⟨YB, 4, none⟩ = some (.slice gf fs.length kf) := HY.out.c 4
      have b12 : wn.cell? ⟨YB, 5, none⟩ = some (.slice gv vs.length kv) := HY.out.c 5
      have b13 : wn.cell? ⟨YB, 6, none⟩ = some (.slice gb bs.length kb) := HY.out.c 6
      have HN : Hid (Below wn.heap.size wn wn.drew) := hide (belowDrew (Below.refl _ _))
      replace HC := hide (HC.out.trans (HN.out.mono HC.out.size))
      replace HS := hide (tOwn_keep HS.out (fun k _ hk => HN.out.block k hk))
      replace HT := hide (HT.out.below HN.out)
      replace HMo := hide (HMo.out.below (by omega) HN.out)
      replace HY := hide (HY.out.below HN.out HY.out.lt)
      replace HGr := hide (tOwn_keep HGr.out (fun k _ hk => HN.out.block k hk))
      refine wp_region_noPanic ?_
      refine wp_region_held_drew (S := fun w' => w'.cell? ⟨XB, 0, none⟩ = some (.bool d) ∧ w'.cell? ⟨XB, 1, none⟩ = some (.int .i64 p) ∧ w'.cell? ⟨XB, 2, none⟩ = some (.int .i64 e) ∧ w'.cell? ⟨XB, 3, none⟩ = some (.int .i64 x) ∧ w'.cell? ⟨XB, 4, none⟩ = some (.slice af fs.length cf) ∧ w'.cell? ⟨XB, 5, none⟩ = some (.slice av vs.length cv) ∧ w'.cell? ⟨XB, 6, none⟩ = some (.slice ab bs.length cb) ∧ w'.cell? ⟨YB, 0, none⟩ = some (.bool d) ∧ w'.cell? ⟨YB, 1, none⟩ = some (.int .i64 p) ∧ w'.cell? ⟨YB, 2, none⟩ = some (.int .i64 e) ∧ w'.cell? ⟨YB, 3, none⟩ = some (.int .i64 x) ∧ w'.cell? ⟨YB, 4, none⟩ = some (.slice gf fs.length kf) ∧ w'.cell? ⟨YB, 5, none⟩ = some (.slice gv vs.length kv) ∧ w'.cell? ⟨YB, 6, none⟩ = some (.slice gb bs.length kb)) (by kernel_rfl) ⟨b0, b1, b2, b3, b4, b5, b6, b7, b8, b9, b10, b11, b12, b13⟩ (fun hHeld => ?_)
      refine wpAnyH_take (i := 0) (oi := _) (v := ?_) rfl (by kernel_rfl) (by kernel_rfl) (by kernel_rfl) (fun _ _ _ h => h) (Or.inl ⟨by rfl, ?_⟩) (by assumption) ?_
      rotate_left 1
      · (intro w hSw; (try dsimp only at hSw); (first | (go_simp; done) | (go_simp; with_reducible rfl)))
      try simp only [Act.put, List.getElem_toArray, List.getElem_cons_zero, List.getElem_cons_succ, List.setIfInBounds_toArray, List.set_cons_zero, List.set_cons_succ]
      refine wpAnyH_take (i := 1) (oi := _) (v := ?_) rfl (by kernel_rfl) (by kernel_rfl) (by kernel_rfl) (fun _ _ _ h => h) (Or.inl ⟨by rfl, ?_⟩) (by assumption) ?_
      rotate_left 1
      · (intro w hSw; (try dsimp only at hSw); (first | (go_simp; done) | (go_simp; with_reducible rfl)))
      try simp only [Act.put, List.getElem_toArray, List.getElem_cons_zero, List.getElem_cons_succ, List.setIfInBounds_toArray, List.set_cons_zero, List.set_cons_succ]
      refine wpAnyH_ready (rs := [2]) (by kernel_rfl) (by simp) ?_
      refine AllReadyH.cons (o := _) rfl (fun K hK => ?_) AllReadyH.nil
      go_simp
      (with_reducible refine Calls.mono (HTm.out _ (HB2.out.trans (HC.out.mono HB2.out.size))) ?_)
      rintro r wh ⟨vh, rfl, hoh, hbh⟩
      replace HC := hide (HC.out.trans (hbh.mono HC.out.size))
      replace HS := hide (tOwn_keep HS.out (fun k _ hk => hbh.block k hk))
      replace HT := hide (HT.out.below hbh)
      replace HMo := hide (HMo.out.below (show wf.heap.size ≤ wn.heap.size by omega) hbh)
      replace HY := hide (HY.out.below hbh HY.out.lt)
      replace HGr := hide (tOwn_keep HGr.out (fun k _ hk => hbh.block k hk))
      replace HN := hide (HN.out.trans (hbh.mono HN.out.size))
      have HOh := hide hoh.row
      have hzh : wn.heap.size ≤ wh.heap.size := hbh.size
      have fh0 := (hbh.cell (p := ⟨XB, 0, none⟩) (show XB < wn.heap.size by omega)).trans b0
      have fh1 := (hbh.cell (p := ⟨XB, 1, none⟩) (show XB < wn.heap.size by omega)).trans b1
      have fh2 := (hbh.cell (p := ⟨XB, 2, none⟩) (show XB < wn.heap.size by omega)).trans b2
      have fh3 := (hbh.cell (p := ⟨XB, 3, none⟩) (show XB < wn.heap.size by omega)).trans b3
      have fh4 := (hbh.cell (p := ⟨XB, 4, none⟩) (show XB < wn.heap.size by omega)).trans b4
      have fh5 := (hbh.cell (p := ⟨XB, 5, none⟩) (show XB < wn.heap.size by omega)).trans b5
      have fh6 := (hbh.cell (p := ⟨XB, 6, none⟩) (show XB < wn.heap.size by omega)).trans b6
      have fh7 := (hbh.cell (p := ⟨YB, 0, none⟩) (show YB < wn.heap.size by omega)).trans b7
      have fh8 := (hbh.cell (p := ⟨YB, 1, none⟩) (show YB < wn.heap.size by omega)).trans b8
      have fh9 := (hbh.cell (p := ⟨YB, 2, none⟩) (show YB < wn.heap.size by omega)).trans b9
      have fh10 := (hbh.cell (p := ⟨YB, 3, none⟩) (show YB < wn.heap.size by omega)).trans b10
      have fh11 := (hbh.cell (p := ⟨YB, 4, none⟩) (show YB < wn.heap.size by omega)).trans b11
      have fh12 := (hbh.cell (p := ⟨YB, 5, none⟩) (show YB < wn.heap.size by omega)).trans b12
      have fh13 := (hbh.cell (p := ⟨YB, 6, none⟩) (show YB < wn.heap.size by omega)).trans b13
      clear hbh hoh
      (try go_wp2_with fail)
      refine hK.out _ _ ⟨fh0, fh1, fh2, fh3, fh4, fh5, fh6, fh7, fh8, fh9, fh10, fh11, fh12, fh13⟩ (fun hHeld => ?_)
      clear hK K
      try simp only [Act.put, List.getElem_toArray, List.getElem_cons_zero, List.getElem_cons_succ, List.setIfInBounds_toArray, List.set_cons_zero, List.set_cons_succ]
      refine wpAnyH_ready (rs := [3]) (by kernel_rfl) (by simp) ?_
      refine AllReadyH.cons (o := _) rfl (fun K hK => ?_) AllReadyH.nil
      go_simp
      (with_reducible refine Calls.mono (eqMachine_row _ _ ⟨d, p, e, x, fs, vs, bs⟩ _ HMo.out.row HOh.out) ?_)
      rintro r wo ⟨rfl, hbo⟩
      replace HC := hide (HC.out.trans (hbo.mono HC.out.size))
      replace HS := hide (tOwn_keep HS.out (fun k _ hk => hbo.block k hk))
      replace HT := hide (HT.out.below hbo)
      replace HMo := hide (HMo.out.below (by omega) hbo)
      replace HY := hide (HY.out.below hbo HY.out.lt)
      replace HGr := hide (tOwn_keep HGr.out (fun k _ hk => hbo.block k hk))
      replace HN := hide (HN.out.trans (hbo.mono HN.out.size))
      have hzo : wh.heap.size ≤ wo.heap.size := hbo.size
      have fk0 := (hbo.cell (p := ⟨XB, 0, none⟩) (show XB < wh.heap.size by omega)).trans fh0
      have fk1 := (hbo.cell (p := ⟨XB, 1, none⟩) (show XB < wh.heap.size by omega)).trans fh1
      have fk2 := (hbo.cell (p := ⟨XB, 2, none⟩) (show XB < wh.heap.size by omega)).trans fh2
      have fk3 := (hbo.cell (p := ⟨XB, 3, none⟩) (show XB < wh.heap.size by omega)).trans fh3
      have fk4 := (hbo.cell (p := ⟨XB, 4, none⟩) (show XB < wh.heap.size by omega)).trans fh4
      have fk5 := (hbo.cell (p := ⟨XB, 5, none⟩) (show XB < wh.heap.size by omega)).trans fh5
      have fk6 := (hbo.cell (p := ⟨XB, 6, none⟩) (show XB < wh.heap.size by omega)).trans fh6
      have fk7 := (hbo.cell (p := ⟨YB, 0, none⟩) (show YB < wh.heap.size by omega)).trans fh7
      have fk8 := (hbo.cell (p := ⟨YB, 1, none⟩) (show YB < wh.heap.size by omega)).trans fh8
      have fk9 := (hbo.cell (p := ⟨YB, 2, none⟩) (show YB < wh.heap.size by omega)).trans fh9
      have fk10 := (hbo.cell (p := ⟨YB, 3, none⟩) (show YB < wh.heap.size by omega)).trans fh10
      have fk11 := (hbo.cell (p := ⟨YB, 4, none⟩) (show YB < wh.heap.size by omega)).trans fh11
      have fk12 := (hbo.cell (p := ⟨YB, 5, none⟩) (show YB < wh.heap.size by omega)).trans fh12
      have fk13 := (hbo.cell (p := ⟨YB, 6, none⟩) (show YB < wh.heap.size by omega)).trans fh13
      clear hbo
      (try go_wp2_with fail)
      refine hK.out _ _ ⟨fk0, fk1, fk2, fk3, fk4, fk5, fk6, fk7, fk8, fk9, fk10, fk11, fk12, fk13⟩ (fun hHeld => ?_)
      clear hK K
      try simp only [Act.put, List.getElem_toArray, List.getElem_cons_zero, List.getElem_cons_succ, List.setIfInBounds_toArray, List.set_cons_zero, List.set_cons_succ]
      refine wpAnyH_take (i := 4) (oi := _) (v := ?_) rfl (by kernel_rfl) (by kernel_rfl) (by kernel_rfl) (fun _ _ _ h => h) (Or.inl ⟨by rfl, ?_⟩) (by assumption) ?_
      rotate_left 1
      · (intro w hSw; (try dsimp only at hSw); (first | (go_simp; done) | (go_simp; with_reducible rfl)))
      try simp only [Act.put, List.getElem_toArray, List.getElem_cons_zero, List.getElem_cons_succ, List.setIfInBounds_toArray, List.set_cons_zero, List.set_cons_succ]
      refine wpAnyH_done (by kernel_rfl) ?_ _
      refine NoPanic.normal ?_
      clear b0 b1 b2 b3 b4 b5 b6 b7 b8 b9 b10 b11 b12 b13
      clear fh0 fh1 fh2 fh3 fh4 fh5 fh6 fh7 fh8 fh9 fh10 fh11 fh12 fh13
      clear fk0 fk1 fk2 fk3 fk4 fk5 fk6 fk7 fk8 fk9 fk10 fk11 fk12 fk13
      clear HN HOh
      go_wp2_with fail
      obtain ⟨xs, hx8⟩ := HT.out.own (base := wd.heap.size) (Nat.le_refl _) hl
      refine (markCellS_any _ _ _ _ _ hl hx8).mono ?_
      rintro r wp ⟨rfl, -, hg9⟩
      have hT9 : Btw wd.heap.size we.heap.size wo wp := Btw.ofGrown hg9 (fun k hk => by simp only [Value.ownBlock, Option.some.injEq] at hk; omega)
      have hYB1 := HYB.out
      have hZg1 := HZg.out
      replace HGr := hide (iOwn_grown HGr.out hg9 (fun k hk e => by have h1 := hg0x k hk; simp only [Value.ownBlock, Option.some.injEq] at e; omega))
      replace HS := hide (iOwn_grown HS.out hg9 (fun k hk e => by have h1 := hs1x k hk; simp only [Value.ownBlock, Option.some.injEq] at e; omega))
      replace HY : Hid (Bx wp YB _ _) := hide ((hT9.block _ (by omega) (.inr (by omega))).trans HY.out)
      replace HMo := hide (HMo.out.keep (w' := wp) (by omega) (fun k h1 h2 => hT9.block k (by omega) (.inr h1)))
      replace HC := hide (HC.out.trans ((hT9.below (by omega)).mono (by omega)))
      have hzp := hT9.size
      clear hg9 hT9 hx8 HT hYB1 hZg1
      obtain ⟨K9, hK9⟩ : ∃ K9, K9 = 1 + l.length * 2 := ⟨_, rfl⟩
      rw [← hK9]
      have hk9 : K9 ≤ 1 + 1048576 * 2 := by omega
      clear hK9
      have cyp := HY.out.c
      go_wp2_with fail
      refine (markMachine_any _ ⟨d, p, e, x, fs, vs, bs⟩ we.heap.size wf.heap.size K9 _ (by omega) (by omega) HMo.out).mono ?_
      rintro r wq ⟨rfl, -, hTq⟩
      have HSk : Hid (∀ (w' : World), wp.ownsRow wb.heap.size 59 2 (.slice sa FL.length sc) FL.length (W.cv FL) → (∀ k, k < wd.heap.size → k < wp.heap.size → w'.heap[k]? = wp.heap[k]?) → w'.ownsRow wb.heap.size 59 2 (.slice sa FL.length sc) FL.length (W.cv FL)) := hide (fun w' ho hk => own_same ho (fun k h1 h2 h3 => hk k (hs1x k h1) h3))
      have hZg1 := HZg.out
      replace HGr := hide (tOwn_keep HGr.out (fun k h1 h2 => hTq.block k h2 (.inr (by omega))))
      replace HS := hide (HSk.out wq HS.out (fun k hk hl => hTq.block k hl (.inl (by omega))))
      replace HC := hide (HC.out.trans ((hTq.below (by omega)).mono (by omega)))
      have hzq := hTq.size
      clear hTq HMo HY cyp hZg1 HSk
      obtain ⟨K2, hK2⟩ : ∃ K2, K2 = K9 + mN ⟨d, p, e, x, fs, vs, bs⟩ := ⟨_, rfl⟩
      rw [← hK2]
      have hk2 : ¬ ((K2 : Nat) : Int) < 0 := by omega
      clear hK2
      go_wp2_with fail
      refine (eqOwn _ _ _ _ FL _ hfl HGr.out HS.out).mono ?_
      rintro r ws ⟨rfl, hbs⟩
      replace HC := hide (HC.out.trans (hbs.mono HC.out.size))
      replace HS := hide (tOwn_keep HS.out (fun k _ hk => hbs.block k hk))
      replace HGr := hide (tOwn_keep HGr.out (fun k _ hk => hbs.block k hk))
      have hzs := hbs.size
      clear hbs
      go_wp2_with fail
      refine (markCellS_any _ _ _ _ _ hfl HGr.out).mono ?_
      rintro r wt ⟨rfl, hmt, hg11⟩
      have hZg1 := HZg.out
      replace HS := hide (iOwn_grown HS.out hg11 (fun k hk e => by have h1 := hs1x k hk; have h2 := hg0x k e; omega))
      replace HC := hide (HC.out.grown hg11 HC.out.size (fun k hk => by have h2 := hg0x k hk; omega))
      have HK := hide hmt
      have hzt2 := hg11.size
      clear hmt hg11 HGr hZg1
      obtain ⟨KM, hKM⟩ : ∃ KM, KM = 1 + FL.length * 2 := ⟨_, rfl⟩
      have HH := hide (fun (w : World) (h : IMk w (.slice ga FL.length gc) 59 2 1 FL.length) => heldCellS_any _ FL.length w hfl h)
      rw [← hKM] at HH ⊢
      clear hKM
      go_wp2_with fail
      refine (HH.out _ HK.out).mono ?_
      rintro r wu ⟨rfl, hbu⟩
      replace HC := hide (HC.out.trans (hbu.mono HC.out.size))
      replace HS := hide (tOwn_keep HS.out (fun k _ hk => hbu.block k hk))
      replace HK := hide (HK.out.below hbu)
      have hzu := hbu.size
      clear hbu
      go_wp2_with fail
      have hxu : XB < wu.heap.size := Nat.lt_of_lt_of_le xl2 HC.out.size
      have b0 : wu.cell? ⟨XB, 0, none⟩ = some (.bool d) := (HX2.out.below HC.out xl2).c 0
      have b1 : wu.cell? ⟨XB, 1, none⟩ = some (.int .i64 p) := (HX2.out.below HC.out xl2).c 1
      have b2 : wu.cell? ⟨XB, 2, none⟩ = some (.int .i64 e) := (HX2.out.below HC.out xl2).c 2
      have b3 : wu.cell? ⟨XB, 3, none⟩ = some (.int .i64 x) := (HX2.out.below HC.out xl2).c 3
      have b4 : wu.cell? ⟨XB, 4, none⟩ = some (.slice af fs.length cf) := (HX2.out.below HC.out xl2).c 4
      have b5 : wu.cell? ⟨XB, 5, none⟩ = some (.slice av vs.length cv) := (HX2.out.below HC.out xl2).c 5
      have b6 : wu.cell? ⟨XB, 6, none⟩ = some (.slice ab bs.length cb) := (HX2.out.below HC.out xl2).c 6
      have HN : Hid (Below wu.heap.size wu wu.drew) := hide (belowDrew (Below.refl _ _))
      replace HC := hide (HC.out.trans (HN.out.mono HC.out.size))
      replace HS := hide (tOwn_keep HS.out (fun k _ hk => HN.out.block k hk))
      replace HK := hide (HK.out.below HN.out)
      refine wp_region_noPanic ?_
      refine wp_region_held_drew (S := fun w' => w'.cell? ⟨XB, 0, none⟩ = some (.bool d) ∧ w'.cell? ⟨XB, 1, none⟩ = some (.int .i64 p) ∧ w'.cell? ⟨XB, 2, none⟩ = some (.int .i64 e) ∧ w'.cell? ⟨XB, 3, none⟩ = some (.int .i64 x) ∧ w'.cell? ⟨XB, 4, none⟩ = some (.slice af fs.length cf) ∧ w'.cell? ⟨XB, 5, none⟩ = some (.slice av vs.length cv) ∧ w'.cell? ⟨XB, 6, none⟩ = some (.slice ab bs.length cb)) (by kernel_rfl) ⟨b0, b1, b2, b3, b4, b5, b6⟩ (fun hHeld => ?_)
      refine wpAnyH_take (i := 0) (oi := _) (v := ?_) rfl (by kernel_rfl) (by kernel_rfl) (by kernel_rfl) (fun _ _ _ h => h) (Or.inl ⟨by rfl, ?_⟩) (by assumption) ?_
      rotate_left 1
      · (intro w hSw; (try dsimp only at hSw); (first | (go_simp; done) | (go_simp; with_reducible rfl)))
      try simp only [Act.put, List.getElem_toArray, List.getElem_cons_zero, List.getElem_cons_succ, List.setIfInBounds_toArray, List.set_cons_zero, List.set_cons_succ]
      refine wpAnyH_take (i := 2) (oi := _) (v := ?_) rfl (by kernel_rfl) (by kernel_rfl) (by kernel_rfl) (fun _ _ _ h => h) (Or.inl ⟨by rfl, ?_⟩) (by assumption) ?_
      rotate_left 1
      · (intro w hSw; (try dsimp only at hSw); (first | (go_simp; done) | (go_simp; with_reducible rfl)))
      try simp only [Act.put, List.getElem_toArray, List.getElem_cons_zero, List.getElem_cons_succ, List.setIfInBounds_toArray, List.set_cons_zero, List.set_cons_succ]
      refine wpAnyH_ready (rs := [1]) (by kernel_rfl) (by simp) ?_
      refine AllReadyH.cons (o := _) rfl (fun K hK => ?_) AllReadyH.nil
      go_simp
      (with_reducible refine Calls.mono (HTc.out _ (HB2.out.trans (HC.out.mono HB2.out.size))) ?_)
      rintro r xa ⟨rfl, hra, hba⟩
      replace HC := hide (HC.out.trans (hba.mono HC.out.size))
      replace HS := hide (tOwn_keep HS.out (fun k _ hk => hba.block k hk))
      replace HK := hide (HK.out.below hba)
      have HRa : Hid (CBlk xa wu.heap.size l) := hide hra
      have hya : wu.heap.size ≤ xa.heap.size := hba.size
      have fa0 := (hba.cell (p := ⟨XB, 0, none⟩) (show XB < wu.heap.size by omega)).trans b0
      have fa1 := (hba.cell (p := ⟨XB, 1, none⟩) (show XB < wu.heap.size by omega)).trans b1
      have fa2 := (hba.cell (p := ⟨XB, 2, none⟩) (show XB < wu.heap.size by omega)).trans b2
      have fa3 := (hba.cell (p := ⟨XB, 3, none⟩) (show XB < wu.heap.size by omega)).trans b3
      have fa4 := (hba.cell (p := ⟨XB, 4, none⟩) (show XB < wu.heap.size by omega)).trans b4
      have fa5 := (hba.cell (p := ⟨XB, 5, none⟩) (show XB < wu.heap.size by omega)).trans b5
      have fa6 := (hba.cell (p := ⟨XB, 6, none⟩) (show XB < wu.heap.size by omega)).trans b6
      clear hba hra
      (try go_wp2_with fail)
      refine hK.out _ _ ⟨fa0, fa1, fa2, fa3, fa4, fa5, fa6⟩ (fun hHeld => ?_)
      clear hK K
      try simp only [Act.put, List.getElem_toArray, List.getElem_cons_zero, List.getElem_cons_succ, List.setIfInBounds_toArray, List.set_cons_zero, List.set_cons_succ]
      refine wpAnyH_ready (rs := [3]) (by kernel_rfl) (by simp) ?_
      refine AllReadyH.cons (o := _) rfl (fun K hK => ?_) AllReadyH.nil
      go_simp
      (with_reducible refine Calls.mono (HTm.out _ (HB2.out.trans (HC.out.mono HB2.out.size))) ?_)
      rintro r xb ⟨vb, rfl, hob, hbb⟩
      replace HC := hide (HC.out.trans (hbb.mono HC.out.size))
      replace HS := hide (tOwn_keep HS.out (fun k _ hk => hbb.block k hk))
      replace HK := hide (HK.out.below hbb)
      have HRb := hide (HRa.out.below hbb)
      have HOb := hide hob.row
      have hyb : xa.heap.size ≤ xb.heap.size := hbb.size
      have fb0 := (hbb.cell (p := ⟨XB, 0, none⟩) (show XB < xa.heap.size by omega)).trans fa0
      have fb1 := (hbb.cell (p := ⟨XB, 1, none⟩) (show XB < xa.heap.size by omega)).trans fa1
      have fb2 := (hbb.cell (p := ⟨XB, 2, none⟩) (show XB < xa.heap.size by omega)).trans fa2
      have fb3 := (hbb.cell (p := ⟨XB, 3, none⟩) (show XB < xa.heap.size by omega)).trans fa3
      have fb4 := (hbb.cell (p := ⟨XB, 4, none⟩) (show XB < xa.heap.size by omega)).trans fa4
      have fb5 := (hbb.cell (p := ⟨XB, 5, none⟩) (show XB < xa.heap.size by omega)).trans fa5
      have fb6 := (hbb.cell (p := ⟨XB, 6, none⟩) (show XB < xa.heap.size by omega)).trans fa6
      clear hbb hob
      (try go_wp2_with fail)
      refine hK.out _ _ ⟨fb0, fb1, fb2, fb3, fb4, fb5, fb6⟩ (fun hHeld => ?_)
      clear hK K
      try simp only [Act.put, List.getElem_toArray, List.getElem_cons_zero, List.getElem_cons_succ, List.setIfInBounds_toArray, List.set_cons_zero, List.set_cons_succ]
      refine wpAnyH_ready (rs := [4]) (by kernel_rfl) (by simp) ?_
      refine AllReadyH.cons (o := _) rfl (fun K hK => ?_) AllReadyH.nil
      go_simp
      (with_reducible refine Calls.mono (HIm.out _ _ _ _ (Nat.le_refl _) HRb.out.row HOb.out) ?_)
      rintro r xd ⟨s2, rfl, hs2, hbd⟩
      replace HC := hide (HC.out.trans (hbd.mono HC.out.size))
      replace HS := hide (tOwn_keep HS.out (fun k _ hk => hbd.block k hk))
      replace HK := hide (HK.out.below hbd)
      have HU := hide hs2
      have hyd : xb.heap.size ≤ xd.heap.size := hbd.size
      obtain ⟨ua, uc, rfl⟩ := iOwn_form hs2
      have fd0 := (hbd.cell (p := ⟨XB, 0, none⟩) (show XB < xb.heap.size by omega)).trans fb0
      have fd1 := (hbd.cell (p := ⟨XB, 1, none⟩) (show XB < xb.heap.size by omega)).trans fb1
      have fd2 := (hbd.cell (p := ⟨XB, 2, none⟩) (show XB < xb.heap.size by omega)).trans fb2
      have fd3 := (hbd.cell (p := ⟨XB, 3, none⟩) (show XB < xb.heap.size by omega)).trans fb3
      have fd4 := (hbd.cell (p := ⟨XB, 4, none⟩) (show XB < xb.heap.size by omega)).trans fb4
      have fd5 := (hbd.cell (p := ⟨XB, 5, none⟩) (show XB < xb.heap.size by omega)).trans fb5
      have fd6 := (hbd.cell (p := ⟨XB, 6, none⟩) (show XB < xb.heap.size by omega)).trans fb6
      clear hbd hs2
      (try go_wp2_with fail)
      refine hK.out _ _ ⟨fd0, fd1, fd2, fd3, fd4, fd5, fd6⟩ (fun hHeld => ?_)
      clear hK K
      try simp only [Act.put, List.getElem_toArray, List.getElem_cons_zero, List.getElem_cons_succ, List.setIfInBounds_toArray, List.set_cons_zero, List.set_cons_succ]
      refine wpAnyH_take (i := 5) (oi := _) (v := ?_) rfl (by kernel_rfl) (by kernel_rfl) (by kernel_rfl) (fun _ _ _ h => h) (Or.inl ⟨by rfl, ?_⟩) (by assumption) ?_
      rotate_left 1
      · (intro w hSw; (try dsimp only at hSw); (first | (go_simp; done) | (go_simp; with_reducible rfl)))
      try simp only [Act.put, List.getElem_toArray, List.getElem_cons_zero, List.getElem_cons_succ, List.setIfInBounds_toArray, List.set_cons_zero, List.set_cons_succ]
      refine wpAnyH_take (i := 6) (oi := _) (v := ?_) rfl (by kernel_rfl) (by kernel_rfl) (by kernel_rfl) (fun _ _ _ h => h) (Or.inl ⟨by rfl, ?_⟩) (by assumption) ?_
      rotate_left 1
      · (intro w hSw; (try dsimp only at hSw); (first | (go_simp; done) | (go_simp; with_reducible rfl)))
      try simp only [Act.put, List.getElem_toArray, List.getElem_cons_zero, List.getElem_cons_succ, List.setIfInBounds_toArray, List.set_cons_zero, List.set_cons_succ]
      refine wpAnyH_take (i := 7) (oi := _) (v := ?_) rfl (by kernel_rfl) (by kernel_rfl) (by kernel_rfl) (fun _ _ _ h => h) (Or.inl ⟨by rfl, ?_⟩) (by assumption) ?_
      rotate_left 1
      · (intro w hSw; (try dsimp only at hSw); (first | (go_simp; done) | (go_simp; with_reducible rfl)))
      try simp only [Act.put, List.getElem_toArray, List.getElem_cons_zero, List.getElem_cons_succ, List.setIfInBounds_toArray, List.set_cons_zero, List.set_cons_succ]
      refine wpAnyH_take (i := 8) (oi := _) (v := ?_) rfl (by kernel_rfl) (by kernel_rfl) (by kernel_rfl) (fun _ _ _ h => h) (Or.inl ⟨by rfl, ?_⟩) (by assumption) ?_
      rotate_left 1
      · (intro w hSw; (try dsimp only at hSw); (first | (go_simp; done) | (go_simp; with_reducible rfl)))
      try simp only [Act.put, List.getElem_toArray, List.getElem_cons_zero, List.getElem_cons_succ, List.setIfInBounds_toArray, List.set_cons_zero, List.set_cons_succ]
      refine wpAnyH_take (i := 9) (oi := _) (v := ?_) rfl (by kernel_rfl) (by kernel_rfl) (by kernel_rfl) (fun _ _ _ h => h) (Or.inl ⟨by rfl, ?_⟩) (by assumption) ?_
      rotate_left 1
      · (intro w hSw; (try dsimp only at hSw); (first | (go_simp; done) | (go_simp; with_reducible rfl)))
      try simp only [Act.put, List.getElem_toArray, List.getElem_cons_zero, List.getElem_cons_succ, List.setIfInBounds_toArray, List.set_cons_zero, List.set_cons_succ]
      refine wpAnyH_done (by kernel_rfl) ?_ _
      refine NoPanic.normal ?_
      clear b0 b1 b2 b3 b4 b5 b6
      clear fa0 fa1 fa2 fa3 fa4 fa5 fa6
      clear fb0 fb1 fb2 fb3 fb4 fb5 fb6
      clear fd0 fd1 fd2 fd3 fd4 fd5 fd6
      clear HRa HRb HOb HN
      go_wp2_with fail
      refine (eqOwn _ _ _ _ FL _ hfl HU.out HS.out).mono ?_
      rintro r xe ⟨rfl, hbe⟩
      replace HC := hide (HC.out.trans (hbe.mono HC.out.size))
      replace HK := hide (HK.out.below hbe)
      clear hbe
      go_wp2_with fail
      refine (HH.out _ HK.out).mono ?_
      rintro r xf ⟨rfl, hbf⟩
      have hBF : Below w.heap.size w xf := HB2.out.trans ((HC.out.trans (hbf.mono HC.out.size)).mono HB2.out.size)
      clear hbf
      go_wp2_with fail
      go_ret
      exact ⟨rfl, hBF⟩

set_option maxRecDepth 100000 in
theorem lifted (os : Os) (started : os.Started) (H : Type) (enc : TypeId × Value → H) :
    ReturnsInHanded {} Try.checked os 7 .any (Rows.fnExactReadBackSpec.pre6 enc Try.prog Try.f7 Rows.fnExactReadBackRow.domain false) (Rows.fnExactReadBackSpec.post enc Try.prog Try.f7 false true false false) := by
  refine returnsInHanded_of_change (C := Try.checked) own started (by kernel_rfl) Try.func7
    (ChangeSpec.witness6 (enc := enc) (C := Try.checked) false ⟨#[], #[.slice none 0 0, .agg #[.bool false, .int .i64 0, .int .i64 0, .int .i64 0, .slice none 0 0, .slice none 0 0, .slice none 0 0]], []⟩ 8 (by kernel_rfl) (by kernel_rfl) (by kernel_rfl) (by kernel_rfl)) ?_
  intro W base args ds gs before hval0 hW hcnd _
  have hval : ∀ (j : Nat) t v, Try.f7.params[j]? = some t → args[j]? = some v → Value.okWide Try.prog W .any base t v := hval0
  have hW' := hW
  obtain ⟨p, q, hA0, hV, rfl, hfz, hnd⟩ := hW
  have hA : DataW.TrodAll enc Try.prog W 0 (fun _ => true) true Try.f7.params.toList args.toList ds p := hA0
  rw [Try.params7] at hA hval
  obtain ⟨v0, vs0, d0, ds0, p0, q0, hargs, rfl, rfl, h0, r0⟩ := trodAll_cons hA
  obtain ⟨v1, vs1, d1, ds1, p1, q1, rfl, rfl, rfl, h1, r1⟩ := trodAll_cons r0
  obtain ⟨rfl, rfl, rfl⟩ := trodAll_nil r1
  obtain rfl : args = #[v0, v1] := by cases args; simp_all
  obtain ⟨rfl, rfl⟩ := trodVars_none hV
  have k0 := h0
  have k1' := h1
  have lt0 : ∀ x ∈ p0, x.block < W.heap.size := by obtain ⟨m, hm⟩ := k0; exact DataW.trod_lt m _ _ _ hm
  have lt1 : ∀ x ∈ p1, x.block < W.heap.size := by obtain ⟨m, hm⟩ := k1'; exact DataW.trod_lt m _ _ _ hm
  obtain ⟨m, af, cf, av, cv, ab, cb, rfl, g1, g2, g3, n1, n2, n3, e1, e2, e3⟩ := open_machine (hval 1 45 v1 rfl rfl) h1
  obtain ⟨ad, len, cap, rfl⟩ := okWide_slice Try.underlying22 (hval 0 22 v0 rfl rfl)
  obtain ⟨fuel, hf⟩ := h0
  obtain ⟨l, rfl, hl, hR⟩ := open_cells hf
  clear hA0 hval0
  refine (walk ad cap l m.done m.pl m.env m.val af av ab cf cv cb m.fs m.vs m.bs W hl hR g1 g2 g3 n1 n2 n3 e1 e2 e3).mono fun e W' ⟨he, bel⟩ => ?_
  subst he
  exact ⟨_, rfl, _, _, _, [], _, [], hW', trodAll_mk1 (shut_bool Try.underlying4 _), (trodAll_cons_mk (Below.trod laidOut (by kernel_rfl) (of_decide_eq_true (by kernel_rfl)) k0 bel lt0) (trodAll_cons_mk (Below.trod laidOut (by kernel_rfl) (of_decide_eq_true (by kernel_rfl)) k1' bel lt1) trodAll_mk0)), rfl, bel.frame _, fun h => by cases h⟩

theorem over : Rows.fnExactReadBackRow.holds Try.pinned (OpenSpec.ofChange Rows.fnExactReadBackSpec) :=
  OpenClaim.holds_of_wide 7 Try.f7 rfl rfl rfl rfl rfl rfl rfl ⟨rfl, rfl, rfl, rfl, rfl⟩ rfl rfl rfl rfl rfl (by kernel_rfl) Try.func7 (by kernel_rfl)
    (of_decide_eq_true (by kernel_rfl)) (by unfold Func.isWrapper; first | (rw [if_pos (by decide +kernel)]; kernel_rfl) | (rw [if_neg (by decide +kernel)]; exact ⟨rfl, rfl⟩))
    (fun os started H enc _ => lifted os started H enc)
end Go.Proofs.Ytdajalchdbgooaa.fnExactReadBack

namespace Go.Proofs.Ytdajalchdbgooaa
theorem fnExactReadBack_holds : Rows.FnExactReadBackSaid := fnExactReadBack.over
#print axioms fnExactReadBack_holds
end Go.Proofs.Ytdajalchdbgooaa
