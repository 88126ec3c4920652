/-
  Proved: whatever the row of cells and the machine, the memory and the schedule, the law FnExactGoodMachine returns true, and both read afterwards as they read before: GoodMachine of the program tells what the specification's tells. No conditions. Written by wip/build/mk_lawgood.py.
-/
import Derived.Test.YtdajalchdbgooaaGmL
import Derived.Test.YtdajalchdbgooaaGmM
import Derived.Test.YtdajalchdbgooaaCeO
import Derived.Deep.RegionHeld3
import Derived.Deep.RegionLaw
import Derived.Deep.AppendLies
import Derived.Deep.CutRange
import Derived.Lib.SmallJoins
import Derived.ChangeOld
import Derived.Below
namespace Go.Proofs.Ytdajalchdbgooaa.fnExactGoodMachine
open Go.ChangeShapes Go.WideShapes Go.ChangeAt Go.RowKit
open Go.Proofs.Ytdajalchdbgooaa.W Go.Joins
set_option linter.unusedVariables false
set_option linter.unusedSimpArgs false

theorem own : ownKnob Try.prog.godebug = none := by kernel_rfl
theorem laidOut : laidOutB Try.prog = true := by kernel_rfl

set_option maxRecDepth 20000 in
set_option maxHeartbeats 4000000 in
theorem walk (ad : Option Addr) (c : Nat) (l : List Cc) (d : Bool) (p e x : Int) (af av ab : Option Addr) (cf cv cb : Nat) (fs : List Fm) (vs : List Vl) (bs : List Bd) (w : World) (hl : l.length ≤ maxLen) (h : CRow w ad l) (h1 : FmRow w af fs) (h2 : VlRow w av vs) (h3 : BdRow w ab bs) (m1 : fs.length ≤ maxLen) (m2 : vs.length ≤ maxLen) (m3 : bs.length ≤ maxLen) (k1 : fs.length ≤ cf) (k2 : vs.length ≤ cv) (k3 : bs.length ≤ cb) :
    Calls Try.prog 5 #[.slice ad l.length c, .agg #[.bool d, .int .i64 p, .int .i64 e, .int .i64 x, .slice af fs.length cf, .slice av vs.length cv, .slice ab bs.length cb]] w fun r w' => r = .returned (.bool true) ∧ Below w.heap.size w w' := by
  have HR := hide h
  have HM : Hid (fs.length ≤ 1048576 → vs.length ≤ 1048576 → bs.length ≤ 1048576 → MRow w (.agg #[.bool d, .int .i64 p, .int .i64 e, .int .i64 x, .slice af fs.length cf, .slice av vs.length cv, .slice ab bs.length cb]) ⟨d, p, e, x, fs, vs, bs⟩) := hide (fun a1 a2 a3 => ⟨af, cf, av, cv, ab, cb, rfl, h1, h2, h3, a1, a2, a3, k1, k2, k3⟩)
  clear h h1 h2 h3 k1 k2 k3
  go_enter Try.func5, Try.ntmps5
  go_upto_region 2 with fail
  have HX0 := hide (Bx.new w #[.bool d, .int .i64 p, .int .i64 e, .int .i64 x, .slice af fs.length cf, .slice av vs.length cv, .slice ab bs.length cb] 45)
  have hB0 : Below w.heap.size w (w.alloc (.cells #[.bool d, .int .i64 p, .int .i64 e, .int .i64 x, .slice af fs.length cf, .slice av vs.length cv, .slice ab bs.length cb] 45)) := (Below.refl _ _).alloc (Nat.le_refl _) _
  obtain ⟨w0, hw0⟩ : ∃ w0, w0 = w.alloc (.cells #[.bool d, .int .i64 p, .int .i64 e, .int .i64 x, .slice af fs.length cf, .slice av vs.length cv, .slice ab bs.length cb] 45) := ⟨_, rfl⟩
  obtain ⟨XB, hXB⟩ : ∃ XB, XB = w.heap.size := ⟨_, rfl⟩
  rw [← hw0] at HX0 hB0 ⊢
  rw [← hXB] at HX0 ⊢
  have xl0 : XB < w0.heap.size := HX0.out.lt
  clear hw0 hXB
  go_wp2_with fail
  refine (szCellS_any _ _ _ _ hl).mono ?_
  rintro r w1 ⟨r, rfl, hr, hw⟩
  obtain rfl := hw.symm
  clear hl
  by_cases hneg : r < 0
  · clear hr
    go_wp2_with fail
    go_ret
    exact ⟨rfl, hB0⟩
  · obtain ⟨r0, r1, hl⟩ := hr.resolve_left hneg
    clear hr
    have cx := HX0.out.c
    go_wp2_with fail
    refine (szMachine_any _ _ _ _ _ _ _ _ _ _ _ _ _ _ _ m1 m2 m3 r0 (by omega)).mono ?_
    rintro r w2 ⟨r', rfl, hr, hb2⟩
    have hB2 : Below w.heap.size w w2 := hB0.trans (hb2.mono hB0.size)
    have HX2 := hide (HX0.out.below hb2 xl0)
    have xl2 : XB < w2.heap.size := HX2.out.lt
    clear hb2 cx HX0 m1 m2 m3
    by_cases hneg' : r' < 0
    · clear hr
      go_wp2_with fail
      go_ret
      exact ⟨rfl, hB2⟩
    · obtain ⟨-, -, a1, a2, a3⟩ := hr.resolve_left hneg'
      have HMr := hide (HM.out a1 a2 a3)
      have HTc := hide (fun (w' : World) (hb : Below w.heap.size w w') => toCellS_any ad c l w' hl (HR.out.below hb))
      have HTm := hide (fun (w' : World) (hb : Below w.heap.size w w') => toMachine_any _ _ w' (HMr.out.below hb))
      have HSp := hide (fun (ad : Option Addr) (c : Nat) (v : Value) (w : World) (h : CRow w ad l) (hm : MRow w v ⟨d, p, e, x, fs, vs, bs⟩) => specGoodM_any ad c l v ⟨d, p, e, x, fs, vs, bs⟩ w hl h hm)
      have HIm := hide (fun (ad : Option Addr) (c : Nat) (v : Value) (w : World) (hc : l.length ≤ c) (h : CRow w ad l) (hm : MRow w v ⟨d, p, e, x, fs, vs, bs⟩) => implGoodM_any ad c l v ⟨d, p, e, x, fs, vs, bs⟩ w hl hc h hm)
      obtain ⟨G, hG⟩ : ∃ G, G = goodM l ⟨d, p, e, x, fs, vs, bs⟩ := ⟨_, rfl⟩
      simp only [← hG] at HSp HIm
      clear hr HM hG
      go_wp2_with fail
      have b0 : w2.cell? ⟨XB, 0, none⟩ = some (.bool d) := HX2.out.c 0
      have b1 : w2.cell? ⟨XB, 1, none⟩ = some (.int .i64 p) := HX2.out.c 1
      have b2 : w2.cell? ⟨XB, 2, none⟩ = some (.int .i64 e) := HX2.out.c 2
      have b3 : w2.cell? ⟨XB, 3, none⟩ = some (.int .i64 x) := HX2.out.c 3
      have b4 : w2.cell? ⟨XB, 4, none⟩ = some (.slice af fs.length cf) := HX2.out.c 4
      have b5 : w2.cell? ⟨XB, 5, none⟩ = some (.slice av vs.length cv) := HX2.out.c 5
      have b6 : w2.cell? ⟨XB, 6, none⟩ = some (.slice ab bs.length cb) := HX2.out.c 6
      have HB2d : Hid (Below w.heap.size w w2.drew) := hide (belowDrew hB2)
      refine wp_region_noPanic ?_
      refine wp_region_held_drew (S := fun w' => w'.cell? ⟨XB, 0, none⟩ = some (.bool d) ∧ w'.cell? ⟨XB, 1, none⟩ = some (.int .i64 p) ∧ w'.cell? ⟨XB, 2, none⟩ = some (.int .i64 e) ∧ w'.cell? ⟨XB, 3, none⟩ = some (.int .i64 x) ∧ w'.cell? ⟨XB, 4, none⟩ = some (.slice af fs.length cf) ∧ w'.cell? ⟨XB, 5, none⟩ = some (.slice av vs.length cv) ∧ w'.cell? ⟨XB, 6, none⟩ = some (.slice ab bs.length cb)) (by kernel_rfl) ⟨b0, b1, b2, b3, b4, b5, b6⟩ (fun hHeld => ?_)
      refine wpAnyH_take (i := 0) (oi := _) (v := ?_) rfl (by kernel_rfl) (by kernel_rfl) (by kernel_rfl) (fun _ _ _ h => h) (Or.inl ⟨by rfl, ?_⟩) (by assumption) ?_
      rotate_left 1
      · (intro w hSw; (try dsimp only at hSw); (first | (go_simp; done) | (go_simp; with_reducible rfl)))
      try simp only [Act.put, List.getElem_toArray, List.getElem_cons_zero, List.getElem_cons_succ, List.setIfInBounds_toArray, List.set_cons_zero, List.set_cons_succ]
      refine wpAnyH_take (i := 2) (oi := _) (v := ?_) rfl (by kernel_rfl) (by kernel_rfl) (by kernel_rfl) (fun _ _ _ h => h) (Or.inl ⟨by rfl, ?_⟩) (by assumption) ?_
      rotate_left 1
      · (intro w hSw; (try dsimp only at hSw); (first | (go_simp; done) | (go_simp; with_reducible rfl)))
      try simp only [Act.put, List.getElem_toArray, List.getElem_cons_zero, List.getElem_cons_succ, List.setIfInBounds_toArray, List.set_cons_zero, List.set_cons_succ]
      refine wpAnyH_ready (rs := [1]) (by kernel_rfl) (by simp) ?_
      refine AllReadyH.cons (o := _) rfl (fun K hK => ?_) AllReadyH.nil
      go_simp
      (with_reducible refine Calls.mono (HTc.out _ HB2d.out) ?_)
      rintro r wa ⟨rfl, hra, hba⟩
      have HBa := hide (HB2d.out.trans (hba.mono HB2d.out.size))
      have HRa : Hid (CBlk wa w2.heap.size l) := hide hra
      have hza : w2.heap.size ≤ wa.heap.size := hba.size
      have fa0 := (hba.cell (p := ⟨XB, 0, none⟩) (show XB < w2.heap.size by omega)).trans b0
      have fa1 := (hba.cell (p := ⟨XB, 1, none⟩) (show XB < w2.heap.size by omega)).trans b1
      have fa2 := (hba.cell (p := ⟨XB, 2, none⟩) (show XB < w2.heap.size by omega)).trans b2
      have fa3 := (hba.cell (p := ⟨XB, 3, none⟩) (show XB < w2.heap.size by omega)).trans b3
      have fa4 := (hba.cell (p := ⟨XB, 4, none⟩) (show XB < w2.heap.size by omega)).trans b4
      have fa5 := (hba.cell (p := ⟨XB, 5, none⟩) (show XB < w2.heap.size by omega)).trans b5
      have fa6 := (hba.cell (p := ⟨XB, 6, none⟩) (show XB < w2.heap.size by omega)).trans b6
      clear hba hra
      (try go_wp2_with fail)
      refine hK.out _ _ ⟨fa0, fa1, fa2, fa3, fa4, fa5, fa6⟩ (fun hHeld => ?_)
      clear hK K
      try simp only [Act.put, List.getElem_toArray, List.getElem_cons_zero, List.getElem_cons_succ, List.setIfInBounds_toArray, List.set_cons_zero, List.set_cons_succ]
      refine wpAnyH_ready (rs := [3]) (by kernel_rfl) (by simp) ?_
      refine AllReadyH.cons (o := _) rfl (fun K hK => ?_) AllReadyH.nil
      go_simp
      (with_reducible refine Calls.mono (HTm.out _ HBa.out) ?_)
      rintro r wb ⟨vb, rfl, hob, hbb⟩
      have HBb := hide (HBa.out.trans (hbb.mono HBa.out.size))
      have HRb := hide (HRa.out.below hbb)
      have HOb := hide hob.row
      have hzb : wa.heap.size ≤ wb.heap.size := hbb.size
      have fb0 := (hbb.cell (p := ⟨XB, 0, none⟩) (show XB < wa.heap.size by omega)).trans fa0
      have fb1 := (hbb.cell (p := ⟨XB, 1, none⟩) (show XB < wa.heap.size by omega)).trans fa1
      have fb2 := (hbb.cell (p := ⟨XB, 2, none⟩) (show XB < wa.heap.size by omega)).trans fa2
      have fb3 := (hbb.cell (p := ⟨XB, 3, none⟩) (show XB < wa.heap.size by omega)).trans fa3
      have fb4 := (hbb.cell (p := ⟨XB, 4, none⟩) (show XB < wa.heap.size by omega)).trans fa4
      have fb5 := (hbb.cell (p := ⟨XB, 5, none⟩) (show XB < wa.heap.size by omega)).trans fa5
      have fb6 := (hbb.cell (p := ⟨XB, 6, none⟩) (show XB < wa.heap.size by omega)).trans fa6
      clear hbb hob
      (try go_wp2_with fail)
      refine hK.out _ _ ⟨fb0, fb1, fb2, fb3, fb4, fb5, fb6⟩ (fun hHeld => ?_)
      clear hK K
      try simp only [Act.put, List.getElem_toArray, List.getElem_cons_zero, List.getElem_cons_succ, List.setIfInBounds_toArray, List.set_cons_zero, List.set_cons_succ]
      refine wpAnyH_ready (rs := [4]) (by kernel_rfl) (by simp) ?_
      refine AllReadyH.cons (o := _) rfl (fun K hK => ?_) AllReadyH.nil
      go_simp
      (with_reducible refine Calls.mono (HSp.out _ _ _ _ HRb.out.row HOb.out) ?_)
      rintro r wd ⟨rfl, hbd⟩
      have HBd := hide (HBb.out.trans (hbd.mono HBb.out.size))
      have hzd : wb.heap.size ≤ wd.heap.size := hbd.size
      have fd0 := (hbd.cell (p := ⟨XB, 0, none⟩) (show XB < wb.heap.size by omega)).trans fb0
      have fd1 := (hbd.cell (p := ⟨XB, 1, none⟩) (show XB < wb.heap.size by omega)).trans fb1
      have fd2 := (hbd.cell (p := ⟨XB, 2, none⟩) (show XB < wb.heap.size by omega)).trans fb2
      have fd3 := (hbd.cell (p := ⟨XB, 3, none⟩) (show XB < wb.heap.size by omega)).trans fb3
      have fd4 := (hbd.cell (p := ⟨XB, 4, none⟩) (show XB < wb.heap.size by omega)).trans fb4
      have fd5 := (hbd.cell (p := ⟨XB, 5, none⟩) (show XB < wb.heap.size by omega)).trans fb5
      have fd6 := (hbd.cell (p := ⟨XB, 6, none⟩) (show XB < wb.heap.size by omega)).trans fb6
      clear hbd
      (try go_wp2_with fail)
      refine hK.out _ _ ⟨fd0, fd1, fd2, fd3, fd4, fd5, fd6⟩ (fun hHeld => ?_)
      clear hK K
      try simp only [Act.put, List.getElem_toArray, List.getElem_cons_zero, List.getElem_cons_succ, List.setIfInBounds_toArray, List.set_cons_zero, List.set_cons_succ]
      refine wpAnyH_take (i := 5) (oi := _) (v := ?_) rfl (by kernel_rfl) (by kernel_rfl) (by kernel_rfl) (fun _ _ _ h => h) (Or.inl ⟨by rfl, ?_⟩) (by assumption) ?_
      rotate_left 1
      · (intro w hSw; (try dsimp only at hSw); (first | (go_simp; done) | (go_simp; with_reducible rfl)))
      try simp only [Act.put, List.getElem_toArray, List.getElem_cons_zero, List.getElem_cons_succ, List.setIfInBounds_toArray, List.set_cons_zero, List.set_cons_succ]
      refine wpAnyH_done (by kernel_rfl) ?_ _
      refine NoPanic.normal ?_
      have HXd : Hid (∀ i v, #[.bool d, .int .i64 p, .int .i64 e, .int .i64 x, .slice af fs.length cf, .slice av vs.length cv, .slice ab bs.length cb][i]? = some v → wd.cell? ⟨XB, i, none⟩ = some v) := hide (by
        intro i v hv
        match i, hv with
        | 0, hv => simpa using hv ▸ fd0
        | 1, hv => simpa using hv ▸ fd1
        | 2, hv => simpa using hv ▸ fd2
        | 3, hv => simpa using hv ▸ fd3
        | 4, hv => simpa using hv ▸ fd4
        | 5, hv => simpa using hv ▸ fd5
        | 6, hv => simpa using hv ▸ fd6
        | n + 7, hv => simp at hv)
      have hxd : XB < wd.heap.size := by omega
      clear b0 b1 b2 b3 b4 b5 b6 fa0 fa1 fa2 fa3 fa4 fa5 fa6 fb0 fb1 fb2 fb3 fb4 fb5 fb6
      go_wp2_with fail
      refine (HTc.out _ HBd.out).mono ?_
      rintro r we ⟨rfl, hre, hbe⟩
      have HBe := hide (HBd.out.trans (hbe.mono HBd.out.size))
      have HRe := hide hre
      have hze : wd.heap.size ≤ we.heap.size := hbe.size
      have fe0 := (hbe.cell (p := ⟨XB, 0, none⟩) (show XB < wd.heap.size by omega)).trans fd0
      have fe1 := (hbe.cell (p := ⟨XB, 1, none⟩) (show XB < wd.heap.size by omega)).trans fd1
      have fe2 := (hbe.cell (p := ⟨XB, 2, none⟩) (show XB < wd.heap.size by omega)).trans fd2
      have fe3 := (hbe.cell (p := ⟨XB, 3, none⟩) (show XB < wd.heap.size by omega)).trans fd3
      have fe4 := (hbe.cell (p := ⟨XB, 4, none⟩) (show XB < wd.heap.size by omega)).trans fd4
      have fe5 := (hbe.cell (p := ⟨XB, 5, none⟩) (show XB < wd.heap.size by omega)).trans fd5
      have fe6 := (hbe.cell (p := ⟨XB, 6, none⟩) (show XB < wd.heap.size by omega)).trans fd6
      clear hbe hre fd0 fd1 fd2 fd3 fd4 fd5 fd6 HXd
      go_wp2_with fail
      refine (HTm.out _ HBe.out).mono ?_
      rintro r wf ⟨vf, rfl, hof, hbf⟩
      have HBf := hide (HBe.out.trans (hbf.mono HBe.out.size))
      have HRf := hide (HRe.out.below hbf)
      have HOf := hide hof.row
      obtain ⟨sf, sv, sb, rfl, o1, o2, o3, -⟩ := hof
      obtain ⟨gf, kf, rfl⟩ := own_form o1.1
      obtain ⟨gv, kv, rfl⟩ := own_form o2.1
      obtain ⟨gb, kb, rfl⟩ := own_form o3.1
      clear o1 o2 o3
      have hzf : we.heap.size ≤ wf.heap.size := hbf.size
      simp only at HOf
      have ff0 := (hbf.cell (p := ⟨XB, 0, none⟩) (show XB < we.heap.size by omega)).trans fe0
      have ff1 := (hbf.cell (p := ⟨XB, 1, none⟩) (show XB < we.heap.size by omega)).trans fe1
      have ff2 := (hbf.cell (p := ⟨XB, 2, none⟩) (show XB < we.heap.size by omega)).trans fe2
      have ff3 := (hbf.cell (p := ⟨XB, 3, none⟩) (show XB < we.heap.size by omega)).trans fe3
      have ff4 := (hbf.cell (p := ⟨XB, 4, none⟩) (show XB < we.heap.size by omega)).trans fe4
      have ff5 := (hbf.cell (p := ⟨XB, 5, none⟩) (show XB < we.heap.size by omega)).trans fe5
      have ff6 := (hbf.cell (p := ⟨XB, 6, none⟩) (show XB < we.heap.size by omega)).trans fe6
      clear hbf fe0 fe1 fe2 fe3 fe4 fe5 fe6
      have hbg : Below wf.heap.size wf (wf.alloc (.cells #[.bool d, .int .i64 p, .int .i64 e, .int .i64 x, .slice gf fs.length kf, .slice gv vs.length kv, .slice gb bs.length kb] 28)) := (Below.refl _ _).alloc (Nat.le_refl _) _
      have HYg := hide (Bx.new wf #[.bool d, .int .i64 p, .int .i64 e, .int .i64 x, .slice gf fs.length kf, .slice gv vs.length kv, .slice gb bs.length kb] 28)
      have HBg' := hide (HBf.out.trans (hbg.mono HBf.out.size))
      have HRg := hide (HRf.out.below hbg)
      have HOg' := hide (HOf.out.below hbg)
      have HIc := hide (HIm.out _ _ _ _ (Nat.le_refl _) HRg.out.row HOg'.out)
      have cyg := HYg.out.c
      have fg0 := (hbg.cell (p := ⟨XB, 0, none⟩) (show XB < wf.heap.size by omega)).trans ff0
      have fg1 := (hbg.cell (p := ⟨XB, 1, none⟩) (show XB < wf.heap.size by omega)).trans ff1
      have fg2 := (hbg.cell (p := ⟨XB, 2, none⟩) (show XB < wf.heap.size by omega)).trans ff2
      have fg3 := (hbg.cell (p := ⟨XB, 3, none⟩) (show XB < wf.heap.size by omega)).trans ff3
      have fg4 := (hbg.cell (p := ⟨XB, 4, none⟩) (show XB < wf.heap.size by omega)).trans ff4
      have fg5 := (hbg.cell (p := ⟨XB, 5, none⟩) (show XB < wf.heap.size by omega)).trans ff5
      have fg6 := (hbg.cell (p := ⟨XB, 6, none⟩) (show XB < wf.heap.size by omega)).trans ff6
      clear hbg
      go_wp2_with fail
      refine HIc.out.mono ?_
      rintro r wi ⟨rfl, hbi⟩
      have hgi : Below wf.heap.size wf wi := ((Below.refl wf.heap.size wf).alloc (Nat.le_refl _) _).trans (hbi.mono (by simp))
      have HBi := hide (HBf.out.trans (hgi.mono HBf.out.size))
      have HRi := hide (HRf.out.below hgi)
      have HOi := hide (HOf.out.below hgi)
      have HYi := hide (HYg.out.below hbi (by simp))
      have hzi : wf.heap.size ≤ wi.heap.size := hgi.size
      have hyi : wf.heap.size < wi.heap.size := HYi.out.lt
      have fi0 := (hgi.cell (p := ⟨XB, 0, none⟩) (show XB < wf.heap.size by omega)).trans ff0
      have fi1 := (hgi.cell (p := ⟨XB, 1, none⟩) (show XB < wf.heap.size by omega)).trans ff1
      have fi2 := (hgi.cell (p := ⟨XB, 2, none⟩) (show XB < wf.heap.size by omega)).trans ff2
      have fi3 := (hgi.cell (p := ⟨XB, 3, none⟩) (show XB < wf.heap.size by omega)).trans ff3
      have fi4 := (hgi.cell (p := ⟨XB, 4, none⟩) (show XB < wf.heap.size by omega)).trans ff4
      have fi5 := (hgi.cell (p := ⟨XB, 5, none⟩) (show XB < wf.heap.size by omega)).trans ff5
      have fi6 := (hgi.cell (p := ⟨XB, 6, none⟩) (show XB < wf.heap.size by omega)).trans ff6
      clear hbi hgi cyg ff0 ff1 ff2 ff3 ff4 ff5 ff6 fg0 fg1 fg2 fg3 fg4 fg5 fg6 HRg HOg' HIc HBg' HYg
      go_wp2_with fail
      refine (HTc.out _ HBi.out).mono ?_
      rintro r wj ⟨rfl, hrj, hbj⟩
      have HBj := hide (HBi.out.trans (hbj.mono HBi.out.size))
      have HRj := hide (HRi.out.below hbj)
      have HRk := hide hrj
      have HOj := hide (HOi.out.below hbj)
      have HYj := hide (HYi.out.below hbj hyi)
      have hzj : wi.heap.size ≤ wj.heap.size := hbj.size
      have fj0 := (hbj.cell (p := ⟨XB, 0, none⟩) (show XB < wi.heap.size by omega)).trans fi0
      have fj1 := (hbj.cell (p := ⟨XB, 1, none⟩) (show XB < wi.heap.size by omega)).trans fi1
      have fj2 := (hbj.cell (p := ⟨XB, 2, none⟩) (show XB < wi.heap.size by omega)).trans fi2
      have fj3 := (hbj.cell (p := ⟨XB, 3, none⟩) (show XB < wi.heap.size by omega)).trans fi3
      have fj4 := (hbj.cell (p := ⟨XB, 4, none⟩) (show XB < wi.heap.size by omega)).trans fi4
      have fj5 := (hbj.cell (p := ⟨XB, 5, none⟩) (show XB < wi.heap.size by omega)).trans fi5
      have fj6 := (hbj.cell (p := ⟨XB, 6, none⟩) (show XB < wi.heap.size by omega)).trans fi6
      clear hbj hrj fi0 fi1 fi2 fi3 fi4 fi5 fi6
      go_wp2_with fail
      refine (eqCellS_row _ _ _ _ _ _ hl HRj.out.row HRk.out.row).mono ?_
      rintro r wl ⟨rfl, hbl⟩
      have HBl := hide (HBj.out.trans (hbl.mono HBj.out.size))
      have HOg : Hid (MRow wl.drew (.agg #[.bool d, .int .i64 p, .int .i64 e, .int .i64 x, .slice gf fs.length kf, .slice gv vs.length kv, .slice gb bs.length kb]) ⟨d, p, e, x, fs, vs, bs⟩) := hide ((HOj.out.below hbl).below (belowDrew (Below.refl _ _)))
      have hzl : wj.heap.size ≤ wl.heap.size := hbl.size
      obtain ⟨YB, hYB⟩ : ∃ YB, YB = wf.heap.size := ⟨_, rfl⟩
      rw [← hYB] at HYj hyi ⊢
      have hyl : YB < wl.heap.size := by omega
      have HYl := hide (HYj.out.below hbl (by omega))
      have fl0 := (hbl.cell (p := ⟨XB, 0, none⟩) (show XB < wj.heap.size by omega)).trans fj0
      have fl1 := (hbl.cell (p := ⟨XB, 1, none⟩) (show XB < wj.heap.size by omega)).trans fj1
      have fl2 := (hbl.cell (p := ⟨XB, 2, none⟩) (show XB < wj.heap.size by omega)).trans fj2
      have fl3 := (hbl.cell (p := ⟨XB, 3, none⟩) (show XB < wj.heap.size by omega)).trans fj3
      have fl4 := (hbl.cell (p := ⟨XB, 4, none⟩) (show XB < wj.heap.size by omega)).trans fj4
      have fl5 := (hbl.cell (p := ⟨XB, 5, none⟩) (show XB < wj.heap.size by omega)).trans fj5
      have fl6 := (hbl.cell (p := ⟨XB, 6, none⟩) (show XB < wj.heap.size by omega)).trans fj6
      clear hbl fj0 fj1 fj2 fj3 fj4 fj5 fj6 hYB
      go_wp2_with fail
      have b0 : wl.cell? ⟨XB, 0, none⟩ = some (.bool d) := fl0
      have b1 : wl.cell? ⟨XB, 1, none⟩ = some (.int .i64 p) := fl1
      have b2 : wl.cell? ⟨XB, 2, none⟩ = some (.int .i64 e) := fl2
      have b3 : wl.cell? ⟨XB, 3, none⟩ = some (.int .i64 x) := fl3
      have b4 : wl.cell? ⟨XB, 4, none⟩ = some (.slice af fs.length cf) := fl4
      have b5 : wl.cell? ⟨XB, 5, none⟩ = some (.slice av vs.length cv) := fl5
      have b6 : wl.cell? ⟨XB, 6, none⟩ = some (.slice ab bs.length cb) := fl6
      have b7 : wl.cell? ⟨YB, 0, none⟩ = some (.bool d) := HYl.out.c 0
      have b8 : wl.cell? ⟨YB, 1, none⟩ = some (.int .i64 p) := HYl.out.c 1
      have b9 : wl.cell? ⟨YB, 2, none⟩ = some (.int .i64 e) := HYl.out.c 2
      have b10 : wl.cell? ⟨YB, 3, none⟩ = some (.int .i64 x) := HYl.out.c 3
      have b11 : wl.cell? ⟨YB, 4, none⟩ = some (.slice gf fs.length kf) := HYl.out.c 4
      have b12 : wl.cell? ⟨YB, 5, none⟩ = some (.slice gv vs.length kv) := HYl.out.c 5
      have b13 : wl.cell? ⟨YB, 6, none⟩ = some (.slice gb bs.length kb) := HYl.out.c 6
      have HBg : Hid (Below w.heap.size w wl.drew) := hide (belowDrew HBl.out)
      clear fl0 fl1 fl2 fl3 fl4 fl5 fl6
      refine wp_region_noPanic ?_
      refine wp_region_held_drew (S := fun w' => w'.cell? ⟨XB, 0, none⟩ = some (.bool d) ∧ w'.cell? ⟨XB, 1, none⟩ = some (.int .i64 p) ∧ w'.cell? ⟨XB, 2, none⟩ = some (.int .i64 e) ∧ w'.cell? ⟨XB, 3, none⟩ = some (.int .i64 x) ∧ w'.cell? ⟨XB, 4, none⟩ = some (.slice af fs.length cf) ∧ w'.cell? ⟨XB, 5, none⟩ = some (.slice av vs.length cv) ∧ w'.cell? ⟨XB, 6, none⟩ = some (.slice ab bs.length cb) ∧ w'.cell? ⟨YB, 0, none⟩ = some (.bool d) ∧ w'.cell? ⟨YB, 1, none⟩ = some (.int .i64 p) ∧ w'.cell? ⟨YB, 2, none⟩ = some (.int .i64 e) ∧ w'.cell? ⟨YB, 3, none⟩ = some (.int .i64 x) ∧ w'.cell? ⟨YB, 4, none⟩ = some (.slice gf fs.length kf) ∧ w'.cell? ⟨YB, 5, none⟩ = some (.slice gv vs.length kv) ∧ w'.cell? ⟨YB, 6, none⟩ = some (.slice gb bs.length kb)) (by kernel_rfl) ⟨b0, b1, b2, b3, b4, b5, b6, b7, b8, b9, b10, b11, b12, b13⟩ (fun hHeld => ?_)
      refine wpAnyH_take (i := 0) (oi := _) (v := ?_) rfl (by kernel_rfl) (by kernel_rfl) (by kernel_rfl) (fun _ _ _ h => h) (Or.inl ⟨by rfl, ?_⟩) (by assumption) ?_
      rotate_left 1
      · (intro w hSw; (try dsimp only at hSw); (first | (go_simp; done) | (go_simp; with_reducible rfl)))
      try simp only [Act.put, List.getElem_toArray, List.getElem_cons_zero, List.getElem_cons_succ, List.setIfInBounds_toArray, List.set_cons_zero, List.set_cons_succ]
      refine wpAnyH_take (i := 1) (oi := _) (v := ?_) rfl (by kernel_rfl) (by kernel_rfl) (by kernel_rfl) (fun _ _ _ h => h) (Or.inl ⟨by rfl, ?_⟩) (by assumption) ?_
      rotate_left 1
      · (intro w hSw; (try dsimp only at hSw); (first | (go_simp; done) | (go_simp; with_reducible rfl)))
      try simp only [Act.put, List.getElem_toArray, List.getElem_cons_zero, List.getElem_cons_succ, List.setIfInBounds_toArray, List.set_cons_zero, List.set_cons_succ]
      refine wpAnyH_ready (rs := [2]) (by kernel_rfl) (by simp) ?_
      refine AllReadyH.cons (o := _) rfl (fun K hK => ?_) AllReadyH.nil
      go_simp
      (with_reducible refine Calls.mono (HTm.out _ HBg.out) ?_)
      rintro r wh ⟨vh, rfl, hoh, hbh⟩
      have HBh := hide (HBg.out.trans (hbh.mono HBg.out.size))
      have HOh := hide hoh.row
      have HOg2 := hide (HOg.out.below hbh)
      have hzh : wl.heap.size ≤ wh.heap.size := hbh.size
      have fh0 := (hbh.cell (p := ⟨XB, 0, none⟩) (show XB < wl.heap.size by omega)).trans b0
      have fh1 := (hbh.cell (p := ⟨XB, 1, none⟩) (show XB < wl.heap.size by omega)).trans b1
      have fh2 := (hbh.cell (p := ⟨XB, 2, none⟩) (show XB < wl.heap.size by omega)).trans b2
      have fh3 := (hbh.cell (p := ⟨XB, 3, none⟩) (show XB < wl.heap.size by omega)).trans b3
      have fh4 := (hbh.cell (p := ⟨XB, 4, none⟩) (show XB < wl.heap.size by omega)).trans b4
      have fh5 := (hbh.cell (p := ⟨XB, 5, none⟩) (show XB < wl.heap.size by omega)).trans b5
      have fh6 := (hbh.cell (p := ⟨XB, 6, none⟩) (show XB < wl.heap.size by omega)).trans b6
      have fh7 := (hbh.cell (p := ⟨YB, 0, none⟩) (show YB < wl.heap.size by omega)).trans b7
      have fh8 := (hbh.cell (p := ⟨YB, 1, none⟩) (show YB < wl.heap.size by omega)).trans b8
      have fh9 := (hbh.cell (p := ⟨YB, 2, none⟩) (show YB < wl.heap.size by omega)).trans b9
      have fh10 := (hbh.cell (p := ⟨YB, 3, none⟩) (show YB < wl.heap.size by omega)).trans b10
      have fh11 := (hbh.cell (p := ⟨YB, 4, none⟩) (show YB < wl.heap.size by omega)).trans b11
      have fh12 := (hbh.cell (p := ⟨YB, 5, none⟩) (show YB < wl.heap.size by omega)).trans b12
      have fh13 := (hbh.cell (p := ⟨YB, 6, none⟩) (show YB < wl.heap.size by omega)).trans b13
      clear hbh hoh
      (try go_wp2_with fail)
      refine hK.out _ _ ⟨fh0, fh1, fh2, fh3, fh4, fh5, fh6, fh7, fh8, fh9, fh10, fh11, fh12, fh13⟩ (fun hHeld => ?_)
      clear hK K
      try simp only [Act.put, List.getElem_toArray, List.getElem_cons_zero, List.getElem_cons_succ, List.setIfInBounds_toArray, List.set_cons_zero, List.set_cons_succ]
      refine wpAnyH_ready (rs := [3]) (by kernel_rfl) (by simp) ?_
      refine AllReadyH.cons (o := _) rfl (fun K hK => ?_) AllReadyH.nil
      go_simp
      (with_reducible refine Calls.mono (eqMachine_row _ _ ⟨d, p, e, x, fs, vs, bs⟩ _ HOg2.out HOh.out) ?_)
      rintro r wk ⟨rfl, hbk⟩
      have HBk := hide (HBh.out.trans (hbk.mono HBh.out.size))
      have fk0 := (hbk.cell (p := ⟨XB, 0, none⟩) (show XB < wh.heap.size by omega)).trans fh0
      have fk1 := (hbk.cell (p := ⟨XB, 1, none⟩) (show XB < wh.heap.size by omega)).trans fh1
      have fk2 := (hbk.cell (p := ⟨XB, 2, none⟩) (show XB < wh.heap.size by omega)).trans fh2
      have fk3 := (hbk.cell (p := ⟨XB, 3, none⟩) (show XB < wh.heap.size by omega)).trans fh3
      have fk4 := (hbk.cell (p := ⟨XB, 4, none⟩) (show XB < wh.heap.size by omega)).trans fh4
      have fk5 := (hbk.cell (p := ⟨XB, 5, none⟩) (show XB < wh.heap.size by omega)).trans fh5
      have fk6 := (hbk.cell (p := ⟨XB, 6, none⟩) (show XB < wh.heap.size by omega)).trans fh6
      have fk7 := (hbk.cell (p := ⟨YB, 0, none⟩) (show YB < wh.heap.size by omega)).trans fh7
      have fk8 := (hbk.cell (p := ⟨YB, 1, none⟩) (show YB < wh.heap.size by omega)).trans fh8
      have fk9 := (hbk.cell (p := ⟨YB, 2, none⟩) (show YB < wh.heap.size by omega)).trans fh9
      have fk10 := (hbk.cell (p := ⟨YB, 3, none⟩) (show YB < wh.heap.size by omega)).trans fh10
      have fk11 := (hbk.cell (p := ⟨YB, 4, none⟩) (show YB < wh.heap.size by omega)).trans fh11
      have fk12 := (hbk.cell (p := ⟨YB, 5, none⟩) (show YB < wh.heap.size by omega)).trans fh12
      have fk13 := (hbk.cell (p := ⟨YB, 6, none⟩) (show YB < wh.heap.size by omega)).trans fh13
      clear hbk
      (try go_wp2_with fail)
      refine hK.out _ _ ⟨fk0, fk1, fk2, fk3, fk4, fk5, fk6, fk7, fk8, fk9, fk10, fk11, fk12, fk13⟩ (fun hHeld => ?_)
      clear hK K
      try simp only [Act.put, List.getElem_toArray, List.getElem_cons_zero, List.getElem_cons_succ, List.setIfInBounds_toArray, List.set_cons_zero, List.set_cons_succ]
      refine wpAnyH_take (i := 4) (oi := _) (v := ?_) rfl (by kernel_rfl) (by kernel_rfl) (by kernel_rfl) (fun _ _ _ h => h) (Or.inl ⟨by rfl, ?_⟩) (by assumption) ?_
      rotate_left 1
      · (intro w hSw; (try dsimp only at hSw); (first | (go_simp; done) | (go_simp; with_reducible rfl)))
      try simp only [Act.put, List.getElem_toArray, List.getElem_cons_zero, List.getElem_cons_succ, List.setIfInBounds_toArray, List.set_cons_zero, List.set_cons_succ]
      refine wpAnyH_done (by kernel_rfl) ?_ _
      refine NoPanic.normal ?_
      have hBK := HBk.out
      clear b0 b1 b2 b3 b4 b5 b6 b7 b8 b9 b10 b11 b12 b13 fh0 fh1 fh2 fh3 fh4 fh5 fh6 fh7 fh8 fh9 fh10 fh11 fh12 fh13 fk0 fk1 fk2 fk3 fk4 fk5 fk6 fk7 fk8 fk9 fk10 fk11 fk12 fk13
      go_wp2_with fail
      go_ret
      exact ⟨rfl, hBK⟩

set_option maxRecDepth 100000 in
theorem lifted (os : Os) (started : os.Started) (H : Type) (enc : TypeId × Value → H) :
    ReturnsInHanded {} Try.checked os 5 .any (Rows.fnExactGoodMachineSpec.pre6 enc Try.prog Try.f5 Rows.fnExactGoodMachineRow.domain false) (Rows.fnExactGoodMachineSpec.post enc Try.prog Try.f5 false true false false) := by
  refine returnsInHanded_of_change (C := Try.checked) own started (by kernel_rfl) Try.func5
    (ChangeSpec.witness6 (enc := enc) (C := Try.checked) false ⟨#[], #[.slice none 0 0, .agg #[.bool false, .int .i64 0, .int .i64 0, .int .i64 0, .slice none 0 0, .slice none 0 0, .slice none 0 0]], []⟩ 8 (by kernel_rfl) (by kernel_rfl) (by kernel_rfl) (by kernel_rfl)) ?_
  intro W base args ds gs before hval0 hW hcnd _
  have hval : ∀ (j : Nat) t v, Try.f5.params[j]? = some t → args[j]? = some v → Value.okWide Try.prog W .any base t v := hval0
  have hW' := hW
  obtain ⟨p, q, hA0, hV, rfl, hfz, hnd⟩ := hW
  have hA : DataW.TrodAll enc Try.prog W 0 (fun _ => true) true Try.f5.params.toList args.toList ds p := hA0
  rw [Try.params5] at hA hval
  obtain ⟨v0, vs0, d0, ds0, p0, q0, hargs, rfl, rfl, h0, r0⟩ := trodAll_cons hA
  obtain ⟨v1, vs1, d1, ds1, p1, q1, rfl, rfl, rfl, h1, r1⟩ := trodAll_cons r0
  obtain ⟨rfl, rfl, rfl⟩ := trodAll_nil r1
  obtain rfl : args = #[v0, v1] := by cases args; simp_all
  obtain ⟨rfl, rfl⟩ := trodVars_none hV
  have k0 := h0
  have k1' := h1
  have lt0 : ∀ x ∈ p0, x.block < W.heap.size := by obtain ⟨m, hm⟩ := k0; exact DataW.trod_lt m _ _ _ hm
  have lt1 : ∀ x ∈ p1, x.block < W.heap.size := by obtain ⟨m, hm⟩ := k1'; exact DataW.trod_lt m _ _ _ hm
  obtain ⟨m, af, cf, av, cv, ab, cb, rfl, g1, g2, g3, n1, n2, n3, e1, e2, e3⟩ := open_machine (hval 1 45 v1 rfl rfl) h1
  obtain ⟨ad, len, cap, rfl⟩ := okWide_slice Try.underlying22 (hval 0 22 v0 rfl rfl)
  obtain ⟨fuel, hf⟩ := h0
  obtain ⟨l, rfl, hl, hR⟩ := open_cells hf
  clear hA0 hval0
  refine (walk ad cap l m.done m.pl m.env m.val af av ab cf cv cb m.fs m.vs m.bs W hl hR g1 g2 g3 n1 n2 n3 e1 e2 e3).mono fun e W' ⟨he, bel⟩ => ?_
  subst he
  exact ⟨_, rfl, _, _, _, [], _, [], hW', trodAll_mk1 (shut_bool Try.underlying4 _), (trodAll_cons_mk (Below.trod laidOut (by kernel_rfl) (of_decide_eq_true (by kernel_rfl)) k0 bel lt0) (trodAll_cons_mk (Below.trod laidOut (by kernel_rfl) (of_decide_eq_true (by kernel_rfl)) k1' bel lt1) trodAll_mk0)), rfl, bel.frame _, fun h => by cases h⟩

theorem over : Rows.fnExactGoodMachineRow.holds Try.pinned (OpenSpec.ofChange Rows.fnExactGoodMachineSpec) :=
  OpenClaim.holds_of_wide 5 Try.f5 rfl rfl rfl rfl rfl rfl rfl ⟨rfl, rfl, rfl, rfl, rfl⟩ rfl rfl rfl rfl rfl (by kernel_rfl) Try.func5 (by kernel_rfl)
    (of_decide_eq_true (by kernel_rfl)) (by unfold Func.isWrapper; first | (rw [if_pos (by decide +kernel)]; kernel_rfl) | (rw [if_neg (by decide +kernel)]; exact ⟨rfl, rfl⟩))
    (fun os started H enc _ => lifted os started H enc)
end Go.Proofs.Ytdajalchdbgooaa.fnExactGoodMachine

namespace Go.Proofs.Ytdajalchdbgooaa
theorem fnExactGoodMachine_holds : Rows.FnExactGoodMachineSaid := fnExactGoodMachine.over
#print axioms fnExactGoodMachine_holds
end Go.Proofs.Ytdajalchdbgooaa
