/-
  Proved: whatever the row of cells and the machine, the memory and the schedule, the law FnExactStepMachine returns true, and both read afterwards as they read before: StepMachine of the program tells what the specification's tells, in memory of its own. No conditions. Written by wip/build/mk_lawstep.py.
-/
import Derived.Test.YtdajalchdbgooaaGreatGu
import Derived.Test.YtdajalchdbgooaaGreatGmM
import Derived.Test.YtdajalchdbgooaaGreatGc
import Derived.Deep.RegionHeld3
import Derived.Deep.RegionLaw
import Derived.Deep.AppendLies
import Derived.Deep.CutRange
import Derived.Lib.SmallJoins
import Derived.ChangeOld
import Derived.Below
namespace Go.Proofs.YtdajalchdbgooaaGreat.fnExactStepMachine
open Go.ChangeShapes Go.WideShapes Go.ChangeAt Go.RowKit
open Go.Proofs.YtdajalchdbgooaaGreat.W Go.Joins
set_option linter.unusedVariables false
set_option linter.unusedSimpArgs false

theorem own : ownKnob Tryz.prog.godebug = none := by kernel_rfl
theorem laidOut : laidOutB Tryz.prog = true := by kernel_rfl

set_option maxRecDepth 20000 in
set_option maxHeartbeats 8000000 in
theorem walk (ad : Option Addr) (c : Nat) (l : List Cc) (d : Bool) (p e x : Int) (af av ab : Option Addr) (cf cv cb : Nat) (fs : List Fm) (vs : List Vl) (bs : List Bd) (w : World) (hl : l.length ≤ maxLen) (h : CRow w ad l) (h1 : FmRow w af fs) (h2 : VlRow w av vs) (h3 : BdRow w ab bs) (m1 : fs.length ≤ maxLen) (m2 : vs.length ≤ maxLen) (m3 : bs.length ≤ maxLen) (k1 : fs.length ≤ cf) (k2 : vs.length ≤ cv) (k3 : bs.length ≤ cb) :
    Calls Tryz.prog 3 #[.slice ad l.length c, .agg #[.bool d, .int .i64 p, .int .i64 e, .int .i64 x, .slice af fs.length cf, .slice av vs.length cv, .slice ab bs.length cb]] w fun r w' => r = .returned (.bool true) ∧ Below w.heap.size w w' := by
  have HR := hide h
  have HM : Hid (fs.length ≤ 1048576 → vs.length ≤ 1048576 → bs.length ≤ 1048576 → MRow w (.agg #[.bool d, .int .i64 p, .int .i64 e, .int .i64 x, .slice af fs.length cf, .slice av vs.length cv, .slice ab bs.length cb]) ⟨d, p, e, x, fs, vs, bs⟩) := hide (fun a1 a2 a3 => ⟨af, cf, av, cv, ab, cb, rfl, h1, h2, h3, a1, a2, a3, k1, k2, k3⟩)
  clear h h1 h2 h3 k1 k2 k3
  go_enter Tryz.func3, Tryz.ntmps3
  go_upto_region 2 with fail
  have HX0 := hide (Bx.new w #[.bool d, .int .i64 p, .int .i64 e, .int .i64 x, .slice af fs.length cf, .slice av vs.length cv, .slice ab bs.length cb] 27)
  have hB0 : Below w.heap.size w (w.alloc (.cells #[.bool d, .int .i64 p, .int .i64 e, .int .i64 x, .slice af fs.length cf, .slice av vs.length cv, .slice ab bs.length cb] 27)) := (Below.refl _ _).alloc (Nat.le_refl _) _
  obtain ⟨w0, hw0⟩ : ∃ w0, w0 = w.alloc (.cells #[.bool d, .int .i64 p, .int .i64 e, .int .i64 x, .slice af fs.length cf, .slice av vs.length cv, .slice ab bs.length cb] 27) := ⟨_, rfl⟩
  obtain ⟨XB, hXB⟩ : ∃ XB, XB = w.heap.size := ⟨_, rfl⟩
  rw [← hw0] at HX0 hB0 ⊢
  rw [← hXB] at HX0 ⊢
  have xl0 : XB < w0.heap.size := HX0.out.lt
  clear hw0 hXB
  go_wp2_with fail
  refine (szCellS_any _ _ _ _ hl).mono ?_
  rintro r w1 ⟨r, rfl, hr, hw⟩
  obtain rfl := hw.symm
  clear hl
  by_cases hneg : r < 0
  · clear hr
    go_wp2_with fail
    go_ret
    exact ⟨rfl, hB0⟩
  · obtain ⟨r0, r1, hl⟩ := hr.resolve_left hneg
    clear hr
    have cx := HX0.out.c
    go_wp2_with fail
    refine (szMachine_any _ _ _ _ _ _ _ _ _ _ _ _ _ _ _ m1 m2 m3 r0 (by omega)).mono ?_
    rintro r w2 ⟨r', rfl, hr, hb2⟩
    have hB2 : Below w.heap.size w w2 := hB0.trans (hb2.mono hB0.size)
    have HX2 := hide (HX0.out.below hb2 xl0)
    have xl2 : XB < w2.heap.size := HX2.out.lt
    clear hb2 cx HX0 m1 m2 m3
    by_cases hneg' : r' < 0
    · clear hr
      go_wp2_with fail
      go_ret
      exact ⟨rfl, hB2⟩
    · obtain ⟨-, -, a1, a2, a3⟩ := hr.resolve_left hneg'
      have HMr := hide (HM.out a1 a2 a3)
      have HTc := hide (fun (w' : World) (hb : Below w.heap.size w w') => toCellS_any ad c l w' hl (HR.out.below hb))
      have HTm := hide (fun (w' : World) (hb : Below w.heap.size w w') => toMachine_any _ _ w' (HMr.out.below hb))
      have HSp := hide (fun (ad : Option Addr) (c : Nat) (v : Value) (w : World) (h : CRow w ad l) (hm : MRow w v ⟨d, p, e, x, fs, vs, bs⟩) => specStepM_any ad c l v ⟨d, p, e, x, fs, vs, bs⟩ w hl h hm)
      have HIm := hide (fun (ad : Option Addr) (c : Nat) (v : Value) (w : World) (hc : c = l.length) (h : CRow w ad l) (hm : MRow w v ⟨d, p, e, x, fs, vs, bs⟩) => implStepM_any ad c l v ⟨d, p, e, x, fs, vs, bs⟩ w hl hc h hm)
      obtain ⟨OK, hOK⟩ : ∃ OK, OK = (smR l ⟨d, p, e, x, fs, vs, bs⟩).isSome := ⟨_, rfl⟩
      obtain ⟨RM, hRM⟩ : ∃ RM, RM = (smR l ⟨d, p, e, x, fs, vs, bs⟩).getD zeroM := ⟨_, rfl⟩
      simp only [← hOK, ← hRM] at HSp HIm
      obtain ⟨D, P, E, XX, FS, VS, BS⟩ := RM
      clear hr HM hOK hRM
      go_wp2_with fail
      have b0 : w2.cell? ⟨XB, 0, none⟩ = some (.bool d) := HX2.out.c 0
      have b1 : w2.cell? ⟨XB, 1, none⟩ = some (.int .i64 p) := HX2.out.c 1
      have b2 : w2.cell? ⟨XB, 2, none⟩ = some (.int .i64 e) := HX2.out.c 2
      have b3 : w2.cell? ⟨XB, 3, none⟩ = some (.int .i64 x) := HX2.out.c 3
      have b4 : w2.cell? ⟨XB, 4, none⟩ = some (.slice af fs.length cf) := HX2.out.c 4
      have b5 : w2.cell? ⟨XB, 5, none⟩ = some (.slice av vs.length cv) := HX2.out.c 5
      have b6 : w2.cell? ⟨XB, 6, none⟩ = some (.slice ab bs.length cb) := HX2.out.c 6
      have HD0 : Hid (Below w2.heap.size w2 w2.drew) := hide (belowDrew (Below.refl _ _))
      have HBw : Hid (Below w.heap.size w w2) := hide hB2
      have HXs : Hid (∀ w', Below w2.heap.size w2 w' → w'.cell? ⟨XB, 0, none⟩ = some (.bool d) ∧ w'.cell? ⟨XB, 1, none⟩ = some (.int .i64 p) ∧ w'.cell? ⟨XB, 2, none⟩ = some (.int .i64 e) ∧ w'.cell? ⟨XB, 3, none⟩ = some (.int .i64 x) ∧ w'.cell? ⟨XB, 4, none⟩ = some (.slice af fs.length cf) ∧ w'.cell? ⟨XB, 5, none⟩ = some (.slice av vs.length cv) ∧ w'.cell? ⟨XB, 6, none⟩ = some (.slice ab bs.length cb)) := hide (fun w' hb => ⟨(hb.cell (p := ⟨XB, 0, none⟩) xl2).trans b0, (hb.cell (p := ⟨XB, 1, none⟩) xl2).trans b1, (hb.cell (p := ⟨XB, 2, none⟩) xl2).trans b2, (hb.cell (p := ⟨XB, 3, none⟩) xl2).trans b3, (hb.cell (p := ⟨XB, 4, none⟩) xl2).trans b4, (hb.cell (p := ⟨XB, 5, none⟩) xl2).trans b5, (hb.cell (p := ⟨XB, 6, none⟩) xl2).trans b6⟩)
      go_cut [6, 7] from 27 to 118 (fun v6 v7 wx => ∃ (WB : Nat) (qf : Option Addr) (qcf : Nat) (qv : Option Addr) (qcv : Nat) (qb : Option Addr) (qcb : Nat), v6 = .pointer (some ⟨WB, 0, none⟩) ∧ v7 = .bool OK ∧ Bx wx WB #[.bool D, .int .i64 P, .int .i64 E, .int .i64 XX, .slice qf FS.length qcf, .slice qv VS.length qcv, .slice qb BS.length qcb] 34 ∧ MRow wx (.agg #[.bool D, .int .i64 P, .int .i64 E, .int .i64 XX, .slice qf FS.length qcf, .slice qv VS.length qcv, .slice qb BS.length qcb]) ⟨D, P, E, XX, FS, VS, BS⟩ ∧ Below w2.heap.size w2 wx)
      case first =>
        rename_i JJ KK hJJ hKK
        refine wp_region_noPanic ?_
        refine wp_region_held_drew (S := fun w' => w'.cell? ⟨XB, 0, none⟩ = some (.bool d) ∧ w'.cell? ⟨XB, 1, none⟩ = some (.int .i64 p) ∧ w'.cell? ⟨XB, 2, none⟩ = some (.int .i64 e) ∧ w'.cell? ⟨XB, 3, none⟩ = some (.int .i64 x) ∧ w'.cell? ⟨XB, 4, none⟩ = some (.slice af fs.length cf) ∧ w'.cell? ⟨XB, 5, none⟩ = some (.slice av vs.length cv) ∧ w'.cell? ⟨XB, 6, none⟩ = some (.slice ab bs.length cb)) (by kernel_rfl) ⟨b0, b1, b2, b3, b4, b5, b6⟩ (fun hHeld => ?_)
        refine wpAnyH_take (i := 0) (oi := _) (v := ?_) rfl (by kernel_rfl) (by kernel_rfl) (by kernel_rfl) (fun _ _ _ h => h) (Or.inl ⟨by rfl, ?_⟩) (by assumption) ?_
        rotate_left 1
        · (intro w hSw; (try dsimp only at hSw); (first | (go_simp; done) | (go_simp; with_reducible rfl)))
        try simp only [Act.put, List.getElem_toArray, List.getElem_cons_zero, List.getElem_cons_succ, List.setIfInBounds_toArray, List.set_cons_zero, List.set_cons_succ]
        refine wpAnyH_take (i := 2) (oi := _) (v := ?_) rfl (by kernel_rfl) (by kernel_rfl) (by kernel_rfl) (fun _ _ _ h => h) (Or.inl ⟨by rfl, ?_⟩) (by assumption) ?_
        rotate_left 1
        · (intro w hSw; (try dsimp only at hSw); (first | (go_simp; done) | (go_simp; with_reducible rfl)))
        try simp only [Act.put, List.getElem_toArray, List.getElem_cons_zero, List.getElem_cons_succ, List.setIfInBounds_toArray, List.set_cons_zero, List.set_cons_succ]
        have HBx := HD0
        refine wpAnyH_ready (rs := [1, 8]) (by kernel_rfl) (by simp) ?_
        refine AllReadyH.cons (o := _) rfl (fun K hK => ?_) (AllReadyH.cons (o := _) rfl (fun K hK => ?_) AllReadyH.nil)
        · go_simp
          (with_reducible refine Calls.mono (HTc.out _ (HBw.out.trans (HBx.out.mono HBw.out.size))) ?_)
          rintro r wa ⟨rfl, hra, hba⟩
          have HBy := hide (HBx.out.trans (hba.mono HBx.out.size))
          have HRa : Hid (CBlk wa _ l) := hide (by simpa using hra)
          clear hba hra
          (try go_wp2_with fail)
          refine hK.out _ _ (HXs.out _ HBy.out) (fun hHeld => ?_)
          clear hK K
          try simp only [Act.put, List.getElem_toArray, List.getElem_cons_zero, List.getElem_cons_succ, List.setIfInBounds_toArray, List.set_cons_zero, List.set_cons_succ]
          clear HBx
          have HBx := HBy
          clear HBy
          refine wpAnyH_ready (rs := [3, 8]) (by kernel_rfl) (by simp) ?_
          refine AllReadyH.cons (o := _) rfl (fun K hK => ?_) (AllReadyH.cons (o := _) rfl (fun K hK => ?_) AllReadyH.nil)
          · go_simp
            (with_reducible refine Calls.mono (HTm.out _ (HBw.out.trans (HBx.out.mono HBw.out.size))) ?_)
            rintro r wb ⟨vb, rfl, hob, hbb⟩
            have HBy := hide (HBx.out.trans (hbb.mono HBx.out.size))
            have HRb := hide (HRa.out.below hbb)
            have HOb := hide hob.row
            clear hbb hob
            (try go_wp2_with fail)
            refine hK.out _ _ (HXs.out _ HBy.out) (fun hHeld => ?_)
            clear hK K
            try simp only [Act.put, List.getElem_toArray, List.getElem_cons_zero, List.getElem_cons_succ, List.setIfInBounds_toArray, List.set_cons_zero, List.set_cons_succ]
            clear HBx
            have HBx := HBy
            clear HBy
            refine wpAnyH_ready (rs := [4, 8]) (by kernel_rfl) (by simp) ?_
            refine AllReadyH.cons (o := _) rfl (fun K hK => ?_) (AllReadyH.cons (o := _) rfl (fun K hK => ?_) AllReadyH.nil)
            · go_simp
              (with_reducible refine Calls.mono (HSp.out _ _ _ _ HRb.out.row HOb.out) ?_)
              rintro r wd ⟨vd, rfl, hmd, hbd⟩
              have HBy := hide (HBx.out.trans (hbd.mono HBx.out.size))
              have HMd := hide hmd
              have HMr := hide hmd.row
              obtain ⟨qf, qcf, qv, qcv, qb, qcb, hvd, -, -, -, -, -, -, -, -, -⟩ := HMr.out
              simp only at hvd
              subst hvd
              clear hbd hmd
              (try go_wp2_with fail)
              refine hK.out _ _ (HXs.out _ HBy.out) (fun hHeld => ?_)
              clear hK K
              try simp only [Act.put, List.getElem_toArray, List.getElem_cons_zero, List.getElem_cons_succ, List.setIfInBounds_toArray, List.set_cons_zero, List.set_cons_succ]
              clear HBx
              have HBx := HBy
              clear HBy
              refine wpAnyH_take (i := 5) (oi := _) (v := ?_) rfl (by kernel_rfl) (by kernel_rfl) (by kernel_rfl) (fun _ _ _ h => h) (Or.inl ⟨by rfl, ?_⟩) (by assumption) ?_
              rotate_left 1
              · (intro w hSw; (try dsimp only at hSw); (first | (go_simp; done) | (go_simp; with_reducible rfl)))
              try simp only [Act.put, List.getElem_toArray, List.getElem_cons_zero, List.getElem_cons_succ, List.setIfInBounds_toArray, List.set_cons_zero, List.set_cons_succ]
              refine wpAnyH_take (i := 6) (oi := _) (v := ?_) rfl (by kernel_rfl) (by kernel_rfl) (by kernel_rfl) (fun _ _ _ h => h) (Or.inl ⟨by rfl, ?_⟩) (by assumption) ?_
              rotate_left 1
              · (intro w hSw; (try dsimp only at hSw); (first | (go_simp; done) | (go_simp; with_reducible rfl)))
              try simp only [Act.put, List.getElem_toArray, List.getElem_cons_zero, List.getElem_cons_succ, List.setIfInBounds_toArray, List.set_cons_zero, List.set_cons_succ]
              refine wpAnyH_take (i := 7) (oi := _) (v := ?_) rfl (by kernel_rfl) (by kernel_rfl) (by kernel_rfl) (fun _ _ _ h => h) (Or.inl ⟨by rfl, ?_⟩) (by assumption) ?_
              rotate_left 1
              · (intro w hSw; (try dsimp only at hSw); (first | (go_simp; done) | (go_simp; with_reducible rfl)))
              try simp only [Act.put, List.getElem_toArray, List.getElem_cons_zero, List.getElem_cons_succ, List.setIfInBounds_toArray, List.set_cons_zero, List.set_cons_succ]
              have hal : Below wd.heap.size wd (wd.alloc (.cells #[.bool false, .int .i64 0, .int .i64 0, .int .i64 0, .slice none 0 0, .slice none 0 0, .slice none 0 0] 34)) := (Below.refl _ _).alloc (Nat.le_refl _) _
              have HBy := hide (HBx.out.trans (hal.mono HBx.out.size))
              have hal2 : Below wd.heap.size wd (wd.alloc (.cells #[.bool D, .int .i64 P, .int .i64 E, .int .i64 XX, .slice qf FS.length qcf, .slice qv VS.length qcv, .slice qb BS.length qcb] 34)) := (Below.refl _ _).alloc (Nat.le_refl _) _
              have HBz := hide (HBx.out.trans (hal2.mono HBx.out.size))
              have HMz := hide (HMr.out.below hal2)
              clear hal hal2
              refine wpAnyH_ready (rs := [8]) (by kernel_rfl) (by simp) ?_
              refine AllReadyH.cons (o := _) rfl (fun K hK => ?_) AllReadyH.nil
              go_simp
              refine hK.out _ _ (HXs.out _ HBy.out) (fun hHeld => ?_)
              clear hK K
              try simp only [Act.put, List.getElem_toArray, List.getElem_cons_zero, List.getElem_cons_succ, List.setIfInBounds_toArray, List.set_cons_zero, List.set_cons_succ]
              refine wpAnyH_ready (rs := [9]) (by kernel_rfl) (by simp) ?_
              refine AllReadyH.cons (o := _) rfl (fun K hK => ?_) AllReadyH.nil
              have cl := (Bx.new wd #[.bool false, .int .i64 0, .int .i64 0, .int .i64 0, .slice none 0 0, .slice none 0 0, .slice none 0 0] 34).c
              have fl := (Bx.new wd #[.bool false, .int .i64 0, .int .i64 0, .int .i64 0, .slice none 0 0, .slice none 0 0, .slice none 0 0] 34).f
              go_simp
              refine hK.out _ _ (HXs.out _ HBz.out) (fun hHeld => ?_)
              clear hK K
              try simp only [Act.put, List.getElem_toArray, List.getElem_cons_zero, List.getElem_cons_succ, List.setIfInBounds_toArray, List.set_cons_zero, List.set_cons_succ]
              clear cl fl
              refine wpAnyH_take (i := 10) (oi := _) (v := ?_) rfl (by kernel_rfl) (by kernel_rfl) (by kernel_rfl) (fun _ _ _ h => h) (Or.inl ⟨by rfl, ?_⟩) (by assumption) ?_
              rotate_left 1
              · (intro w hSw; (try dsimp only at hSw); (first | (go_simp; done) | (go_simp; with_reducible rfl)))
              try simp only [Act.put, List.getElem_toArray, List.getElem_cons_zero, List.getElem_cons_succ, List.setIfInBounds_toArray, List.set_cons_zero, List.set_cons_succ]
              refine wpAnyH_done (by kernel_rfl) ?_ _
              refine NoPanic.normal ?_
              clear b0 b1 b2 b3 b4 b5 b6 hHeld
              show KK _ _
              refine hKK _ _ (Met.intro (hJJ _ _ ?_))
              (repeat apply Exists.intro)
              refine ⟨?_, rfl⟩
              exact ⟨wd.heap.size, qf, qcf, qv, qcv, qb, qcb, rfl, rfl, Bx.new wd #[.bool D, .int .i64 P, .int .i64 E, .int .i64 XX, .slice qf FS.length qcf, .slice qv VS.length qcv, .slice qb BS.length qcb] 34, HMz.out, HBz.out⟩
            · have hzlo : w2.heap.size ≤ wb.heap.size := HBx.out.size
              have hal : Below wb.heap.size wb (wb.alloc (.cells #[.bool false, .int .i64 0, .int .i64 0, .int .i64 0, .slice none 0 0, .slice none 0 0, .slice none 0 0] 34)) := (Below.refl _ _).alloc (Nat.le_refl _) _
              have HBy := hide (HBx.out.trans (hal.mono HBx.out.size))
              have HZ := hide (Bx.new wb #[.bool false, .int .i64 0, .int .i64 0, .int .i64 0, .slice none 0 0, .slice none 0 0, .slice none 0 0] 34)
              have HRb2 := hide (HRb.out.below hal)
              have HOb2 := hide (HOb.out.below hal)
              clear HRb HOb
              have HRb := HRb2
              have HOb := HOb2
              clear HRb2 HOb2
              clear hal
              go_simp
              refine hK.out _ _ (HXs.out _ HBy.out) (fun hHeld => ?_)
              clear hK K
              try simp only [Act.put, List.getElem_toArray, List.getElem_cons_zero, List.getElem_cons_succ, List.setIfInBounds_toArray, List.set_cons_zero, List.set_cons_succ]
              clear HBx
              have HBx := HBy
              clear HBy
              refine wpAnyH_ready (rs := [4]) (by kernel_rfl) (by simp) ?_
              refine AllReadyH.cons (o := _) rfl (fun K hK => ?_) AllReadyH.nil
              go_simp
              have hzl := HZ.out.lt
              (with_reducible refine Calls.mono (HSp.out _ _ _ _ HRb.out.row HOb.out) ?_)
              rintro r wd ⟨vd, rfl, hmd, hbd⟩
              have HBy := hide (HBx.out.trans (hbd.mono HBx.out.size))
              have HMd := hide hmd
              have HMr := hide hmd.row
              obtain ⟨qf, qcf, qv, qcv, qb, qcb, hvd, -, -, -, -, -, -, -, -, -⟩ := HMr.out
              simp only at hvd
              subst hvd
              have HZy := hide (HZ.out.below hbd HZ.out.lt)
              clear hbd hmd
              (try go_wp2_with fail)
              refine hK.out _ _ (HXs.out _ HBy.out) (fun hHeld => ?_)
              clear hK K
              try simp only [Act.put, List.getElem_toArray, List.getElem_cons_zero, List.getElem_cons_succ, List.setIfInBounds_toArray, List.set_cons_zero, List.set_cons_succ]
              clear HBx
              have HBx := HBy
              clear HBy
              clear HZ
              have HZ := HZy
              clear HZy
              refine wpAnyH_take (i := 5) (oi := _) (v := ?_) rfl (by kernel_rfl) (by kernel_rfl) (by kernel_rfl) (fun _ _ _ h => h) (Or.inl ⟨by rfl, ?_⟩) (by assumption) ?_
              rotate_left 1
              · (intro w hSw; (try dsimp only at hSw); (first | (go_simp; done) | (go_simp; with_reducible rfl)))
              try simp only [Act.put, List.getElem_toArray, List.getElem_cons_zero, List.getElem_cons_succ, List.setIfInBounds_toArray, List.set_cons_zero, List.set_cons_succ]
              refine wpAnyH_take (i := 6) (oi := _) (v := ?_) rfl (by kernel_rfl) (by kernel_rfl) (by kernel_rfl) (fun _ _ _ h => h) (Or.inl ⟨by rfl, ?_⟩) (by assumption) ?_
              rotate_left 1
              · (intro w hSw; (try dsimp only at hSw); (first | (go_simp; done) | (go_simp; with_reducible rfl)))
              try simp only [Act.put, List.getElem_toArray, List.getElem_cons_zero, List.getElem_cons_succ, List.setIfInBounds_toArray, List.set_cons_zero, List.set_cons_succ]
              refine wpAnyH_take (i := 7) (oi := _) (v := ?_) rfl (by kernel_rfl) (by kernel_rfl) (by kernel_rfl) (fun _ _ _ h => h) (Or.inl ⟨by rfl, ?_⟩) (by assumption) ?_
              rotate_left 1
              · (intro w hSw; (try dsimp only at hSw); (first | (go_simp; done) | (go_simp; with_reducible rfl)))
              try simp only [Act.put, List.getElem_toArray, List.getElem_cons_zero, List.getElem_cons_succ, List.setIfInBounds_toArray, List.set_cons_zero, List.set_cons_succ]
              have hzf := (((((((HZ.out.set 0 (.bool D)).set 1 (.int .i64 P)).set 2 (.int .i64 E)).set 3 (.int .i64 XX)).set 4 (.slice qf FS.length qcf)).set 5 (.slice qv VS.length qcv)).set 6 (.slice qb BS.length qcb))
              simp only [List.setIfInBounds_toArray, List.set_cons_zero, List.set_cons_succ] at hzf
              have HZf := hide hzf
              have HOt := hide (oth_set (oth_set (oth_set (oth_set (oth_set (oth_set (oth_set (Oth.refl (wb.heap.size) wd) 0 (.bool D)) 1 (.int .i64 P)) 2 (.int .i64 E)) 3 (.int .i64 XX)) 4 (.slice qf FS.length qcf)) 5 (.slice qv VS.length qcv)) 6 (.slice qb BS.length qcb))
              have HBz : Hid (Below w2.heap.size w2 _) := hide (HBx.out.trans (HOt.out.below HBx.out.size (by omega)))
              have HMz := hide ((HMd.out.keep (Nat.le_refl _) (fun k h1 h2 => HOt.out.block k h2 (by omega))).row)
              clear hzf
              refine wpAnyH_ready (rs := [9]) (by kernel_rfl) (by simp) ?_
              refine AllReadyH.cons (o := _) rfl (fun K hK => ?_) AllReadyH.nil
              have cl := HZ.out.c
              have fl := HZ.out.f
              go_simp
              refine hK.out _ _ (HXs.out _ HBz.out) (fun hHeld => ?_)
              clear hK K
              try simp only [Act.put, List.getElem_toArray, List.getElem_cons_zero, List.getElem_cons_succ, List.setIfInBounds_toArray, List.set_cons_zero, List.set_cons_succ]
              clear cl fl
              refine wpAnyH_take (i := 10) (oi := _) (v := ?_) rfl (by kernel_rfl) (by kernel_rfl) (by kernel_rfl) (fun _ _ _ h => h) (Or.inl ⟨by rfl, ?_⟩) (by assumption) ?_
              rotate_left 1
              · (intro w hSw; (try dsimp only at hSw); (first | (go_simp; done) | (go_simp; with_reducible rfl)))
              try simp only [Act.put, List.getElem_toArray, List.getElem_cons_zero, List.getElem_cons_succ, List.setIfInBounds_toArray, List.set_cons_zero, List.set_cons_succ]
              refine wpAnyH_done (by kernel_rfl) ?_ _
              refine NoPanic.normal ?_
              clear b0 b1 b2 b3 b4 b5 b6 hHeld
              show KK _ _
              refine hKK _ _ (Met.intro (hJJ _ _ ?_))
              (repeat apply Exists.intro)
              refine ⟨?_, rfl⟩
              exact ⟨wb.heap.size, qf, qcf, qv, qcv, qb, qcb, rfl, rfl, HZf.out, HMz.out, HBz.out⟩
          · have hzlo : w2.heap.size ≤ wa.heap.size := HBx.out.size
            have hal : Below wa.heap.size wa (wa.alloc (.cells #[.bool false, .int .i64 0, .int .i64 0, .int .i64 0, .slice none 0 0, .slice none 0 0, .slice none 0 0] 34)) := (Below.refl _ _).alloc (Nat.le_refl _) _
            have HBy := hide (HBx.out.trans (hal.mono HBx.out.size))
            have HZ := hide (Bx.new wa #[.bool false, .int .i64 0, .int .i64 0, .int .i64 0, .slice none 0 0, .slice none 0 0, .slice none 0 0] 34)
            have HRa2 := hide (HRa.out.below hal)
            clear HRa
            have HRa := HRa2
            clear HRa2
            clear hal
            go_simp
            refine hK.out _ _ (HXs.out _ HBy.out) (fun hHeld => ?_)
            clear hK K
            try simp only [Act.put, List.getElem_toArray, List.getElem_cons_zero, List.getElem_cons_succ, List.setIfInBounds_toArray, List.set_cons_zero, List.set_cons_succ]
            clear HBx
            have HBx := HBy
            clear HBy
            refine wpAnyH_ready (rs := [3]) (by kernel_rfl) (by simp) ?_
            refine AllReadyH.cons (o := _) rfl (fun K hK => ?_) AllReadyH.nil
            go_simp
            (with_reducible refine Calls.mono (HTm.out _ (HBw.out.trans (HBx.out.mono HBw.out.size))) ?_)
            rintro r wb ⟨vb, rfl, hob, hbb⟩
            have HBy := hide (HBx.out.trans (hbb.mono HBx.out.size))
            have HRb := hide (HRa.out.below hbb)
            have HOb := hide hob.row
            have HZy := hide (HZ.out.below hbb HZ.out.lt)
            clear hbb hob
            (try go_wp2_with fail)
            refine hK.out _ _ (HXs.out _ HBy.out) (fun hHeld => ?_)
            clear hK K
            try simp only [Act.put, List.getElem_toArray, List.getElem_cons_zero, List.getElem_cons_succ, List.setIfInBounds_toArray, List.set_cons_zero, List.set_cons_succ]
            clear HBx
            have HBx := HBy
            clear HBy
            clear HZ
            have HZ := HZy
            clear HZy
            refine wpAnyH_ready (rs := [4]) (by kernel_rfl) (by simp) ?_
            refine AllReadyH.cons (o := _) rfl (fun K hK => ?_) AllReadyH.nil
            go_simp
            have hzl := HZ.out.lt
            (with_reducible refine Calls.mono (HSp.out _ _ _ _ HRb.out.row HOb.out) ?_)
            rintro r wd ⟨vd, rfl, hmd, hbd⟩
            have HBy := hide (HBx.out.trans (hbd.mono HBx.out.size))
            have HMd := hide hmd
            have HMr := hide hmd.row
            obtain ⟨qf, qcf, qv, qcv, qb, qcb, hvd, -, -, -, -, -, -, -, -, -⟩ := HMr.out
            simp only at hvd
            subst hvd
            have HZy := hide (HZ.out.below hbd HZ.out.lt)
            clear hbd hmd
            (try go_wp2_with fail)
            refine hK.out _ _ (HXs.out _ HBy.out) (fun hHeld => ?_)
            clear hK K
            try simp only [Act.put, List.getElem_toArray, List.getElem_cons_zero, List.getElem_cons_succ, List.setIfInBounds_toArray, List.set_cons_zero, List.set_cons_succ]
            clear HBx
            have HBx := HBy
            clear HBy
            clear HZ
            have HZ := HZy
            clear HZy
            refine wpAnyH_take (i := 5) (oi := _) (v := ?_) rfl (by kernel_rfl) (by kernel_rfl) (by kernel_rfl) (fun _ _ _ h => h) (Or.inl ⟨by rfl, ?_⟩) (by assumption) ?_
            rotate_left 1
            · (intro w hSw; (try dsimp only at hSw); (first | (go_simp; done) | (go_simp; with_reducible rfl)))
            try simp only [Act.put, List.getElem_toArray, List.getElem_cons_zero, List.getElem_cons_succ, List.setIfInBounds_toArray, List.set_cons_zero, List.set_cons_succ]
            refine wpAnyH_take (i := 6) (oi := _) (v := ?_) rfl (by kernel_rfl) (by kernel_rfl) (by kernel_rfl) (fun _ _ _ h => h) (Or.inl ⟨by rfl, ?_⟩) (by assumption) ?_
            rotate_left 1
            · (intro w hSw; (try dsimp only at hSw); (first | (go_simp; done) | (go_simp; with_reducible rfl)))
            try simp only [Act.put, List.getElem_toArray, List.getElem_cons_zero, List.getElem_cons_succ, List.setIfInBounds_toArray, List.set_cons_zero, List.set_cons_succ]
            refine wpAnyH_take (i := 7) (oi := _) (v := ?_) rfl (by kernel_rfl) (by kernel_rfl) (by kernel_rfl) (fun _ _ _ h => h) (Or.inl ⟨by rfl, ?_⟩) (by assumption) ?_
            rotate_left 1
            · (intro w hSw; (try dsimp only at hSw); (first | (go_simp; done) | (go_simp; with_reducible rfl)))
            try simp only [Act.put, List.getElem_toArray, List.getElem_cons_zero, List.getElem_cons_succ, List.setIfInBounds_toArray, List.set_cons_zero, List.set_cons_succ]
            have hzf := (((((((HZ.out.set 0 (.bool D)).set 1 (.int .i64 P)).set 2 (.int .i64 E)).set 3 (.int .i64 XX)).set 4 (.slice qf FS.length qcf)).set 5 (.slice qv VS.length qcv)).set 6 (.slice qb BS.length qcb))
            simp only [List.setIfInBounds_toArray, List.set_cons_zero, List.set_cons_succ] at hzf
            have HZf := hide hzf
            have HOt := hide (oth_set (oth_set (oth_set (oth_set (oth_set (oth_set (oth_set (Oth.refl (wa.heap.size) wd) 0 (.bool D)) 1 (.int .i64 P)) 2 (.int .i64 E)) 3 (.int .i64 XX)) 4 (.slice qf FS.length qcf)) 5 (.slice qv VS.length qcv)) 6 (.slice qb BS.length qcb))
            have HBz : Hid (Below w2.heap.size w2 _) := hide (HBx.out.trans (HOt.out.below HBx.out.size (by omega)))
            have HMz := hide ((HMd.out.keep (Nat.le_refl _) (fun k h1 h2 => HOt.out.block k h2 (by omega))).row)
            clear hzf
            refine wpAnyH_ready (rs := [9]) (by kernel_rfl) (by simp) ?_
            refine AllReadyH.cons (o := _) rfl (fun K hK => ?_) AllReadyH.nil
            have cl := HZ.out.c
            have fl := HZ.out.f
            go_simp
            refine hK.out _ _ (HXs.out _ HBz.out) (fun hHeld => ?_)
            clear hK K
            try simp only [Act.put, List.getElem_toArray, List.getElem_cons_zero, List.getElem_cons_succ, List.setIfInBounds_toArray, List.set_cons_zero, List.set_cons_succ]
            clear cl fl
            refine wpAnyH_take (i := 10) (oi := _) (v := ?_) rfl (by kernel_rfl) (by kernel_rfl) (by kernel_rfl) (fun _ _ _ h => h) (Or.inl ⟨by rfl, ?_⟩) (by assumption) ?_
            rotate_left 1
            · (intro w hSw; (try dsimp only at hSw); (first | (go_simp; done) | (go_simp; with_reducible rfl)))
            try simp only [Act.put, List.getElem_toArray, List.getElem_cons_zero, List.getElem_cons_succ, List.setIfInBounds_toArray, List.set_cons_zero, List.set_cons_succ]
            refine wpAnyH_done (by kernel_rfl) ?_ _
            refine NoPanic.normal ?_
            clear b0 b1 b2 b3 b4 b5 b6 hHeld
            show KK _ _
            refine hKK _ _ (Met.intro (hJJ _ _ ?_))
            (repeat apply Exists.intro)
            refine ⟨?_, rfl⟩
            exact ⟨wa.heap.size, qf, qcf, qv, qcv, qb, qcb, rfl, rfl, HZf.out, HMz.out, HBz.out⟩
        · have hzlo : w2.heap.size ≤ w2.heap.size := Nat.le_refl _
          have HBy : Hid (Below w2.heap.size w2 (w2.alloc (.cells #[.bool false, .int .i64 0, .int .i64 0, .int .i64 0, .slice none 0 0, .slice none 0 0, .slice none 0 0] 34)).drew) := hide (belowDrew ((Below.refl w2.heap.size w2).alloc (Nat.le_refl _) (.cells #[.bool false, .int .i64 0, .int .i64 0, .int .i64 0, .slice none 0 0, .slice none 0 0, .slice none 0 0] 34)))
          have HZ := hide ((Bx.new w2 #[.bool false, .int .i64 0, .int .i64 0, .int .i64 0, .slice none 0 0, .slice none 0 0, .slice none 0 0] 34).drew)
          go_simp
          refine hK.out _ _ (HXs.out _ HBy.out) (fun hHeld => ?_)
          clear hK K
          try simp only [Act.put, List.getElem_toArray, List.getElem_cons_zero, List.getElem_cons_succ, List.setIfInBounds_toArray, List.set_cons_zero, List.set_cons_succ]
          clear HBx
          have HBx := HBy
          clear HBy
          refine wpAnyH_ready (rs := [1]) (by kernel_rfl) (by simp) ?_
          refine AllReadyH.cons (o := _) rfl (fun K hK => ?_) AllReadyH.nil
          go_simp
          (with_reducible refine Calls.mono (HTc.out _ (HBw.out.trans (HBx.out.mono HBw.out.size))) ?_)
          rintro r wa ⟨rfl, hra, hba⟩
          have HBy := hide (HBx.out.trans (hba.mono HBx.out.size))
          have HRa : Hid (CBlk wa _ l) := hide (by simpa using hra)
          have HZy := hide (HZ.out.below hba HZ.out.lt)
          clear hba hra
          (try go_wp2_with fail)
          refine hK.out _ _ (HXs.out _ HBy.out) (fun hHeld => ?_)
          clear hK K
          try simp only [Act.put, List.getElem_toArray, List.getElem_cons_zero, List.getElem_cons_succ, List.setIfInBounds_toArray, List.set_cons_zero, List.set_cons_succ]
          clear HBx
          have HBx := HBy
          clear HBy
          clear HZ
          have HZ := HZy
          clear HZy
          refine wpAnyH_ready (rs := [3]) (by kernel_rfl) (by simp) ?_
          refine AllReadyH.cons (o := _) rfl (fun K hK => ?_) AllReadyH.nil
          go_simp
          (with_reducible refine Calls.mono (HTm.out _ (HBw.out.trans (HBx.out.mono HBw.out.size))) ?_)
          rintro r wb ⟨vb, rfl, hob, hbb⟩
          have HBy := hide (HBx.out.trans (hbb.mono HBx.out.size))
          have HRb := hide (HRa.out.below hbb)
          have HOb := hide hob.row
          have HZy := hide (HZ.out.below hbb HZ.out.lt)
          clear hbb hob
          (try go_wp2_with fail)
          refine hK.out _ _ (HXs.out _ HBy.out) (fun hHeld => ?_)
          clear hK K
          try simp only [Act.put, List.getElem_toArray, List.getElem_cons_zero, List.getElem_cons_succ, List.setIfInBounds_toArray, List.set_cons_zero, List.set_cons_succ]
          clear HBx
          have HBx := HBy
          clear HBy
          clear HZ
          have HZ := HZy
          clear HZy
          refine wpAnyH_ready (rs := [4]) (by kernel_rfl) (by simp) ?_
          refine AllReadyH.cons (o := _) rfl (fun K hK => ?_) AllReadyH.nil
          go_simp
          have hzl := HZ.out.lt
          (with_reducible refine Calls.mono (HSp.out _ _ _ _ HRb.out.row HOb.out) ?_)
          rintro r wd ⟨vd, rfl, hmd, hbd⟩
          have HBy := hide (HBx.out.trans (hbd.mono HBx.out.size))
          have HMd := hide hmd
          have HMr := hide hmd.row
          obtain ⟨qf, qcf, qv, qcv, qb, qcb, hvd, -, -, -, -, -, -, -, -, -⟩ := HMr.out
          simp only at hvd
          subst hvd
          have HZy := hide (HZ.out.below hbd HZ.out.lt)
          clear hbd hmd
          (try go_wp2_with fail)
          refine hK.out _ _ (HXs.out _ HBy.out) (fun hHeld => ?_)
          clear hK K
          try simp only [Act.put, List.getElem_toArray, List.getElem_cons_zero, List.getElem_cons_succ, List.setIfInBounds_toArray, List.set_cons_zero, List.set_cons_succ]
          clear HBx
          have HBx := HBy
          clear HBy
          clear HZ
          have HZ := HZy
          clear HZy
          refine wpAnyH_take (i := 5) (oi := _) (v := ?_) rfl (by kernel_rfl) (by kernel_rfl) (by kernel_rfl) (fun _ _ _ h => h) (Or.inl ⟨by rfl, ?_⟩) (by assumption) ?_
          rotate_left 1
          · (intro w hSw; (try dsimp only at hSw); (first | (go_simp; done) | (go_simp; with_reducible rfl)))
          try simp only [Act.put, List.getElem_toArray, List.getElem_cons_zero, List.getElem_cons_succ, List.setIfInBounds_toArray, List.set_cons_zero, List.set_cons_succ]
          refine wpAnyH_take (i := 6) (oi := _) (v := ?_) rfl (by kernel_rfl) (by kernel_rfl) (by kernel_rfl) (fun _ _ _ h => h) (Or.inl ⟨by rfl, ?_⟩) (by assumption) ?_
          rotate_left 1
          · (intro w hSw; (try dsimp only at hSw); (first | (go_simp; done) | (go_simp; with_reducible rfl)))
          try simp only [Act.put, List.getElem_toArray, List.getElem_cons_zero, List.getElem_cons_succ, List.setIfInBounds_toArray, List.set_cons_zero, List.set_cons_succ]
          refine wpAnyH_take (i := 7) (oi := _) (v := ?_) rfl (by kernel_rfl) (by kernel_rfl) (by kernel_rfl) (fun _ _ _ h => h) (Or.inl ⟨by rfl, ?_⟩) (by assumption) ?_
          rotate_left 1
          · (intro w hSw; (try dsimp only at hSw); (first | (go_simp; done) | (go_simp; with_reducible rfl)))
          try simp only [Act.put, List.getElem_toArray, List.getElem_cons_zero, List.getElem_cons_succ, List.setIfInBounds_toArray, List.set_cons_zero, List.set_cons_succ]
          have hzf := (((((((HZ.out.set 0 (.bool D)).set 1 (.int .i64 P)).set 2 (.int .i64 E)).set 3 (.int .i64 XX)).set 4 (.slice qf FS.length qcf)).set 5 (.slice qv VS.length qcv)).set 6 (.slice qb BS.length qcb))
          simp only [List.setIfInBounds_toArray, List.set_cons_zero, List.set_cons_succ] at hzf
          have HZf := hide hzf
          have HOt := hide (oth_set (oth_set (oth_set (oth_set (oth_set (oth_set (oth_set (Oth.refl (w2.heap.size) wd) 0 (.bool D)) 1 (.int .i64 P)) 2 (.int .i64 E)) 3 (.int .i64 XX)) 4 (.slice qf FS.length qcf)) 5 (.slice qv VS.length qcv)) 6 (.slice qb BS.length qcb))
          have HBz : Hid (Below w2.heap.size w2 _) := hide (HBx.out.trans (HOt.out.below HBx.out.size (by omega)))
          have HMz := hide ((HMd.out.keep (Nat.le_refl _) (fun k h1 h2 => HOt.out.block k h2 (by omega))).row)
          clear hzf
          refine wpAnyH_ready (rs := [9]) (by kernel_rfl) (by simp) ?_
          refine AllReadyH.cons (o := _) rfl (fun K hK => ?_) AllReadyH.nil
          have cl := HZ.out.c
          have fl := HZ.out.f
          go_simp
          refine hK.out _ _ (HXs.out _ HBz.out) (fun hHeld => ?_)
          clear hK K
          try simp only [Act.put, List.getElem_toArray, List.getElem_cons_zero, List.getElem_cons_succ, List.setIfInBounds_toArray, List.set_cons_zero, List.set_cons_succ]
          clear cl fl
          refine wpAnyH_take (i := 10) (oi := _) (v := ?_) rfl (by kernel_rfl) (by kernel_rfl) (by kernel_rfl) (fun _ _ _ h => h) (Or.inl ⟨by rfl, ?_⟩) (by assumption) ?_
          rotate_left 1
          · (intro w hSw; (try dsimp only at hSw); (first | (go_simp; done) | (go_simp; with_reducible rfl)))
          try simp only [Act.put, List.getElem_toArray, List.getElem_cons_zero, List.getElem_cons_succ, List.setIfInBounds_toArray, List.set_cons_zero, List.set_cons_succ]
          refine wpAnyH_done (by kernel_rfl) ?_ _
          refine NoPanic.normal ?_
          clear b0 b1 b2 b3 b4 b5 b6 hHeld
          show KK _ _
          refine hKK _ _ (Met.intro (hJJ _ _ ?_))
          (repeat apply Exists.intro)
          refine ⟨?_, rfl⟩
          exact ⟨w2.heap.size, qf, qcf, qv, qcv, qb, qcb, rfl, rfl, HZf.out, HMz.out, HBz.out⟩
      case rest =>
        obtain ⟨WB, qf, qcf, qv, qcv, qb, qcb, rfl, rfl, hWx, hWm, hBc⟩ := hcut
        have hBwc : Below w.heap.size w wc := hB2.trans (hBc.mono hB2.size)
        have HBc := hide hBwc
        have HW := hide hWx
        have HWm := hide hWm
        have wlc : WB < wc.heap.size := hWx.lt
        have HXc := hide (HX2.out.below hBc xl2)
        have xlc : XB < wc.heap.size := HXc.out.lt
        clear hBwc hWx hWm hBc hB2 HX2 b0 b1 b2 b3 b4 b5 b6 HXs HBw HD0
        go_wp2_with fail
        refine (HTc.out _ HBc.out).mono ?_
        rintro r we ⟨rfl, hre, hbe⟩
        have HCe : Hid (Below wc.heap.size wc we) := hide hbe
        have HRe := hide hre
        have hze : wc.heap.size < we.heap.size := by obtain ⟨cur, hh, -⟩ := hre; exact (Array.getElem?_eq_some_iff.1 hh).1
        have cxe := (HXc.out.below hbe xlc).c
        clear hbe hre
        go_wp2_with fail
        refine (HTm.out _ (HBc.out.trans (HCe.out.mono HBc.out.size))).mono ?_
        rintro r wf ⟨vf, rfl, hof, hbf⟩
        have HCf := hide (HCe.out.trans (hbf.mono HCe.out.size))
        have HRf := hide (HRe.out.below hbf)
        have HOf := hide hof
        obtain ⟨sf, sv, sb, rfl, o1, o2, o3, -⟩ := hof
        obtain ⟨gf, kf, rfl⟩ := own_form o1.1
        obtain ⟨gv, kv, rfl⟩ := own_form o2.1
        obtain ⟨gb, kb, rfl⟩ := own_form o3.1
        simp only at HOf
        have hzf : we.heap.size ≤ wf.heap.size := hbf.size
        clear o1 o2 o3 hbf cxe HRe
        have hbg : Below wf.heap.size wf (wf.alloc (.cells #[.bool d, .int .i64 p, .int .i64 e, .int .i64 x, .slice gf fs.length kf, .slice gv vs.length kv, .slice gb bs.length kb] 34)) := (Below.refl _ _).alloc (Nat.le_refl _) _
        have HYg := hide (Bx.new wf #[.bool d, .int .i64 p, .int .i64 e, .int .i64 x, .slice gf fs.length kf, .slice gv vs.length kv, .slice gb bs.length kb] 34)
        have HCg0 := hide (HCf.out.trans (hbg.mono HCf.out.size))
        have HRg := hide (HRf.out.below hbg)
        have HOg0 := hide (HOf.out.below (Nat.le_refl _) hbg)
        have HIc := hide (HIm.out _ _ _ _ rfl HRg.out.row HOg0.out.row)
        have cyg := HYg.out.c
        clear hbg
        go_wp2_with fail
        refine HIc.out.mono ?_
        rintro r wi ⟨vi, rfl, hoi, hbi⟩
        have hzi : wf.heap.size < wi.heap.size := by have := hbi.size; simp at this; omega
        have HCi := hide (HCg0.out.trans (hbi.mono HCg0.out.size))
        have HRi := hide (HRg.out.below hbi)
        have HOi := hide (HOg0.out.below (by simp) hbi)
        have HYi := hide (HYg.out.below hbi HYg.out.lt)
        have HGi : Hid (MOwn (wf.heap.size + 1) wi.heap.size wi vi ⟨D, P, E, XX, FS, VS, BS⟩) := hide (by simpa using hoi)
        obtain ⟨tsf, tsv, tsb, rfl, o1, o2, o3, n4, n5, n6⟩ := hoi
        obtain ⟨tf, tcf, rfl⟩ := own_form o1.1
        obtain ⟨tv, tcv, rfl⟩ := own_form o2.1
        obtain ⟨tb, tcb, rfl⟩ := own_form o3.1
        simp only at HGi n4 n5 n6
        clear o1 o2 o3 hbi cyg HRg HOg0 HYg HIc HCg0
        have hbj : Below wi.heap.size wi (wi.alloc (.cells #[.bool D, .int .i64 P, .int .i64 E, .int .i64 XX, .slice tf FS.length tcf, .slice tv VS.length tcv, .slice tb BS.length tcb] 34)) := (Below.refl _ _).alloc (Nat.le_refl _) _
        have HCj := hide (HCi.out.trans (hbj.mono HCi.out.size))
        have HGr := hide (HGi.out.row.below hbj)
        have HWr := hide (HWm.out.below HCj.out)
        have HGx := hide (Bx.new wi #[.bool D, .int .i64 P, .int .i64 E, .int .i64 XX, .slice tf FS.length tcf, .slice tv VS.length tcv, .slice tb BS.length tcb] 34)
        have cwj := (HW.out.below HCj.out wlc).c
        have cgj := HGx.out.c
        have HYj := hide (HYi.out.below hbj HYi.out.lt)
        have HRj := hide (HRi.out.below hbj)
        have HOj := hide (HOi.out.below (by omega) hbj)
        have HGj := hide (HGi.out.below (Nat.le_refl _) hbj)
        clear hbj
        go_wp2_with fail
        refine (eqMachine_row _ _ ⟨D, P, E, XX, FS, VS, BS⟩ _ HGr.out HWr.out).mono ?_
        rintro r wk ⟨rfl, hbk⟩
        have hzk : wi.heap.size < wk.heap.size := by have := hbk.size; simp at this; omega
        have HCk := hide (HCj.out.trans (hbk.mono HCj.out.size))
        have HYk := hide (HYj.out.below hbk HYj.out.lt)
        have HRk := hide (HRj.out.below hbk)
        have HOk := hide (HOj.out.below (by simp; omega) hbk)
        have HGk := hide (HGj.out.below (by simp) hbk)
        have HGXk := hide (HGx.out.below hbk HGx.out.lt)
        clear hbk cwj cgj HGr HWr HYj HRj HOj HGj HGx HCj HYi HRi HOi HGi HCi
        go_wp2_with fail
        refine (HTc.out _ (HBc.out.trans (HCk.out.mono HBc.out.size))).mono ?_
        rintro r wl ⟨rfl, hrl, hbl⟩
        have HCl := hide (HCk.out.trans (hbl.mono HCk.out.size))
        have HYl := hide (HYk.out.below hbl HYk.out.lt)
        have HRl := hide (HRk.out.below hbl)
        have HOl := hide (HOk.out.below (by omega) hbl)
        have HGl := hide (HGk.out.below (by omega) hbl)
        have HGXl := hide (HGXk.out.below hbl HGXk.out.lt)
        have HRl2 := hide hrl
        have hzl : wk.heap.size ≤ wl.heap.size := hbl.size
        clear hbl hrl HYk HRk HOk HGk HGXk HCk
        go_wp2_with fail
        refine (eqCellS_row _ _ _ _ _ _ hl HRl.out.row HRl2.out.row).mono ?_
        rintro r wn ⟨rfl, hbn⟩
        have HCn := hide (HCl.out.trans (hbn.mono HCl.out.size))
        have HYn := hide (HYl.out.below hbn HYl.out.lt)
        have HRn := hide (HRl.out.below hbn)
        have HOn := hide (HOl.out.below (by omega) hbn)
        have HGn := hide (HGl.out.below (by omega) hbn)
        have HGXn := hide (HGXl.out.below hbn HGXl.out.lt)
        have hzn : wl.heap.size ≤ wn.heap.size := hbn.size
        clear hbn HYl HRl HRl2 HOl HGl HGXl HCl
        go_wp2_with fail
        obtain ⟨YB, hYB⟩ : ∃ YB, YB = wf.heap.size := ⟨_, rfl⟩
        have HYBe := hide hYB
        rw [← hYB] at HYn ⊢
        have hyn : YB < wn.heap.size := HYn.out.lt
        clear hYB
        have b0 : wn.cell? ⟨XB, 0, none⟩ = some (.bool d) := (HXc.out.below HCn.out xlc).c 0
        have b1 : wn.cell? ⟨XB, 1, none⟩ = some (.int .i64 p) := (HXc.out.below HCn.out xlc).c 1
        have b2 : wn.cell? ⟨XB, 2, none⟩ = some (.int .i64 e) := (HXc.out.below HCn.out xlc).c 2
        have b3 : wn.cell? ⟨XB, 3, none⟩ = some (.int .i64 x) := (HXc.out.below HCn.out xlc).c 3
        have b4 : wn.cell? ⟨XB, 4, none⟩ = some (.slice af fs.length cf) := (HXc.out.below HCn.out xlc).c 4
        have b5 : wn.cell? ⟨XB, 5, none⟩ = some (.slice av vs.length cv) := (HXc.out.below HCn.out xlc).c 5
        have b6 : wn.cell? ⟨XB, 6, none⟩ = some (.slice ab bs.length cb) := (HXc.out.below HCn.out xlc).c 6
        have b7 : wn.cell? ⟨YB, 0, none⟩ = some (.bool d) := HYn.out.c 0
        have b8 : wn.cell? ⟨YB, 1, none⟩ = some (.int .i64 p) := HYn.out.c 1
        have b9 : wn.cell? ⟨YB, 2, none⟩ = some (.int .i64 e) := HYn.out.c 2
        have b10 : wn.cell? ⟨YB, 3, none⟩ = some (.int .i64 x) := HYn.out.c 3
        have b11 : wn.cell? ⟨YB, 4, none⟩ = some (.slice gf fs.length kf) := HYn.out.c 4
        have b12 : wn.cell? ⟨YB, 5, none⟩ = some (.slice gv vs.length kv) := HYn.out.c 5
        have b13 : wn.cell? ⟨YB, 6, none⟩ = some (.slice gb bs.length kb) := HYn.out.c 6
        have hxn : XB < wn.heap.size := Nat.lt_of_lt_of_le xlc HCn.out.size
        have HN0 : Hid (Below wn.heap.size wn wn.drew) := hide (belowDrew (Below.refl _ _))
        have HCg : Hid (Below wc.heap.size wc wn.drew) := hide (belowDrew HCn.out)
        have HBg : Hid (Below w.heap.size w wn.drew) := hide (HBc.out.trans (HCg.out.mono HBc.out.size))
        have HOg : Hid (MOwn we.heap.size wf.heap.size wn.drew (.agg #[.bool d, .int .i64 p, .int .i64 e, .int .i64 x, .slice gf fs.length kf, .slice gv vs.length kv, .slice gb bs.length kb]) ⟨d, p, e, x, fs, vs, bs⟩) := hide (HOn.out.below (by omega) (belowDrew (Below.refl _ _)))
        refine wp_region_noPanic ?_
        refine wp_region_held_drew (S := fun w' => w'.cell? ⟨XB, 0, none⟩ = some (.bool d) ∧ w'.cell? ⟨XB, 1, none⟩ = some (.int .i64 p) ∧ w'.cell? ⟨XB, 2, none⟩ = some (.int .i64 e) ∧ w'.cell? ⟨XB, 3, none⟩ = some (.int .i64 x) ∧ w'.cell? ⟨XB, 4, none⟩ = some (.slice af fs.length cf) ∧ w'.cell? ⟨XB, 5, none⟩ = some (.slice av vs.length cv) ∧ w'.cell? ⟨XB, 6, none⟩ = some (.slice ab bs.length cb) ∧ w'.cell? ⟨YB, 0, none⟩ = some (.bool d) ∧ w'.cell? ⟨YB, 1, none⟩ = some (.int .i64 p) ∧ w'.cell? ⟨YB, 2, none⟩ = some (.int .i64 e) ∧ w'.cell? ⟨YB, 3, none⟩ = some (.int .i64 x) ∧ w'.cell? ⟨YB, 4, none⟩ = some (.slice gf fs.length kf) ∧ w'.cell? ⟨YB, 5, none⟩ = some (.slice gv vs.length kv) ∧ w'.cell? ⟨YB, 6, none⟩ = some (.slice gb bs.length kb)) (by kernel_rfl) ⟨b0, b1, b2, b3, b4, b5, b6, b7, b8, b9, b10, b11, b12, b13⟩ (fun hHeld => ?_)
        refine wpAnyH_take (i := 0) (oi := _) (v := ?_) rfl (by kernel_rfl) (by kernel_rfl) (by kernel_rfl) (fun _ _ _ h => h) (Or.inl ⟨by rfl, ?_⟩) (by assumption) ?_
        rotate_left 1
        · (intro w hSw; (try dsimp only at hSw); (first | (go_simp; done) | (go_simp; with_reducible rfl)))
        try simp only [Act.put, List.getElem_toArray, List.getElem_cons_zero, List.getElem_cons_succ, List.setIfInBounds_toArray, List.set_cons_zero, List.set_cons_succ]
        refine wpAnyH_take (i := 1) (oi := _) (v := ?_) rfl (by kernel_rfl) (by kernel_rfl) (by kernel_rfl) (fun _ _ _ h => h) (Or.inl ⟨by rfl, ?_⟩) (by assumption) ?_
        rotate_left 1
        · (intro w hSw; (try dsimp only at hSw); (first | (go_simp; done) | (go_simp; with_reducible rfl)))
        try simp only [Act.put, List.getElem_toArray, List.getElem_cons_zero, List.getElem_cons_succ, List.setIfInBounds_toArray, List.set_cons_zero, List.set_cons_succ]
        refine wpAnyH_ready (rs := [2]) (by kernel_rfl) (by simp) ?_
        refine AllReadyH.cons (o := _) rfl (fun K hK => ?_) AllReadyH.nil
        go_simp
        (with_reducible refine Calls.mono (HTm.out _ HBg.out) ?_)
        rintro r wh ⟨vh, rfl, hoh, hbh⟩
        have HCh := hide (HCg.out.trans (hbh.mono HCg.out.size))
        have HOh := hide hoh.row
        have HOy := hide (HOg.out.row.below hbh)
        have HNh := hide (HN0.out.trans (hbh.mono HN0.out.size))
        have hzh : wn.heap.size ≤ wh.heap.size := hbh.size
        have fh0 := (hbh.cell (p := ⟨XB, 0, none⟩) (show XB < wn.heap.size by omega)).trans b0
        have fh1 := (hbh.cell (p := ⟨XB, 1, none⟩) (show XB < wn.heap.size by omega)).trans b1
        have fh2 := (hbh.cell (p := ⟨XB, 2, none⟩) (show XB < wn.heap.size by omega)).trans b2
        have fh3 := (hbh.cell (p := ⟨XB, 3, none⟩) (show XB < wn.heap.size by omega)).trans b3
        have fh4 := (hbh.cell (p := ⟨XB, 4, none⟩) (show XB < wn.heap.size by omega)).trans b4
        have fh5 := (hbh.cell (p := ⟨XB, 5, none⟩) (show XB < wn.heap.size by omega)).trans b5
        have fh6 := (hbh.cell (p := ⟨XB, 6, none⟩) (show XB < wn.heap.size by omega)).trans b6
        have fh7 := (hbh.cell (p := ⟨YB, 0, none⟩) (show YB < wn.heap.size by omega)).trans b7
        have fh8 := (hbh.cell (p := ⟨YB, 1, none⟩) (show YB < wn.heap.size by omega)).trans b8
        have fh9 := (hbh.cell (p := ⟨YB, 2, none⟩) (show YB < wn.heap.size by omega)).trans b9
        have fh10 := (hbh.cell (p := ⟨YB, 3, none⟩) (show YB < wn.heap.size by omega)).trans b10
        have fh11 := (hbh.cell (p := ⟨YB, 4, none⟩) (show YB < wn.heap.size by omega)).trans b11
        have fh12 := (hbh.cell (p := ⟨YB, 5, none⟩) (show YB < wn.heap.size by omega)).trans b12
        have fh13 := (hbh.cell (p := ⟨YB, 6, none⟩) (show YB < wn.heap.size by omega)).trans b13
        clear hbh hoh
        (try go_wp2_with fail)
        refine hK.out _ _ ⟨fh0, fh1, fh2, fh3, fh4, fh5, fh6, fh7, fh8, fh9, fh10, fh11, fh12, fh13⟩ (fun hHeld => ?_)
        clear hK K
        try simp only [Act.put, List.getElem_toArray, List.getElem_cons_zero, List.getElem_cons_succ, List.setIfInBounds_toArray, List.set_cons_zero, List.set_cons_succ]
        refine wpAnyH_ready (rs := [3]) (by kernel_rfl) (by simp) ?_
        refine AllReadyH.cons (o := _) rfl (fun K hK => ?_) AllReadyH.nil
        go_simp
        (with_reducible refine Calls.mono (eqMachine_row _ _ ⟨d, p, e, x, fs, vs, bs⟩ _ HOy.out HOh.out) ?_)
        rintro r wo ⟨rfl, hbo⟩
        have HCo := hide (HCh.out.trans (hbo.mono HCh.out.size))
        have HNo := hide (HNh.out.trans (hbo.mono HNh.out.size))
        have hzo : wh.heap.size ≤ wo.heap.size := hbo.size
        have fk0 := (hbo.cell (p := ⟨XB, 0, none⟩) (show XB < wh.heap.size by omega)).trans fh0
        have fk1 := (hbo.cell (p := ⟨XB, 1, none⟩) (show XB < wh.heap.size by omega)).trans fh1
        have fk2 := (hbo.cell (p := ⟨XB, 2, none⟩) (show XB < wh.heap.size by omega)).trans fh2
        have fk3 := (hbo.cell (p := ⟨XB, 3, none⟩) (show XB < wh.heap.size by omega)).trans fh3
        have fk4 := (hbo.cell (p := ⟨XB, 4, none⟩) (show XB < wh.heap.size by omega)).trans fh4
        have fk5 := (hbo.cell (p := ⟨XB, 5, none⟩) (show XB < wh.heap.size by omega)).trans fh5
        have fk6 := (hbo.cell (p := ⟨XB, 6, none⟩) (show XB < wh.heap.size by omega)).trans fh6
        have fk7 := (hbo.cell (p := ⟨YB, 0, none⟩) (show YB < wh.heap.size by omega)).trans fh7
        have fk8 := (hbo.cell (p := ⟨YB, 1, none⟩) (show YB < wh.heap.size by omega)).trans fh8
        have fk9 := (hbo.cell (p := ⟨YB, 2, none⟩) (show YB < wh.heap.size by omega)).trans fh9
        have fk10 := (hbo.cell (p := ⟨YB, 3, none⟩) (show YB < wh.heap.size by omega)).trans fh10
        have fk11 := (hbo.cell (p := ⟨YB, 4, none⟩) (show YB < wh.heap.size by omega)).trans fh11
        have fk12 := (hbo.cell (p := ⟨YB, 5, none⟩) (show YB < wh.heap.size by omega)).trans fh12
        have fk13 := (hbo.cell (p := ⟨YB, 6, none⟩) (show YB < wh.heap.size by omega)).trans fh13
        clear hbo
        (try go_wp2_with fail)
        refine hK.out _ _ ⟨fk0, fk1, fk2, fk3, fk4, fk5, fk6, fk7, fk8, fk9, fk10, fk11, fk12, fk13⟩ (fun hHeld => ?_)
        clear hK K
        try simp only [Act.put, List.getElem_toArray, List.getElem_cons_zero, List.getElem_cons_succ, List.setIfInBounds_toArray, List.set_cons_zero, List.set_cons_succ]
        refine wpAnyH_take (i := 4) (oi := _) (v := ?_) rfl (by kernel_rfl) (by kernel_rfl) (by kernel_rfl) (fun _ _ _ h => h) (Or.inl ⟨by rfl, ?_⟩) (by assumption) ?_
        rotate_left 1
        · (intro w hSw; (try dsimp only at hSw); (first | (go_simp; done) | (go_simp; with_reducible rfl)))
        try simp only [Act.put, List.getElem_toArray, List.getElem_cons_zero, List.getElem_cons_succ, List.setIfInBounds_toArray, List.set_cons_zero, List.set_cons_succ]
        refine wpAnyH_done (by kernel_rfl) ?_ _
        refine NoPanic.normal ?_
        have HYo := hide (HYn.out.below HNo.out hyn)
        have HRo := hide (HRn.out.below HNo.out)
        have HOo := hide (HOn.out.below (by omega) HNo.out)
        have HGo := hide (HGn.out.below (by omega) HNo.out)
        have HGXo := hide (HGXn.out.below HNo.out HGXn.out.lt)
        have hy1 : we.heap.size ≤ YB := by have := HYBe.out; omega
        have hy2 : YB < wo.heap.size := HYo.out.lt
        have hzo2 : wn.heap.size ≤ wo.heap.size := HNo.out.size
        clear b0 b1 b2 b3 b4 b5 b6 b7 b8 b9 b10 b11 b12 b13 fh0 fh1 fh2 fh3 fh4 fh5 fh6 fh7 fh8 fh9 fh10 fh11 fh12 fh13 fk0 fk1 fk2 fk3 fk4 fk5 fk6 fk7 fk8 fk9 fk10 fk11 fk12 fk13
        clear HYn HRn HOn HGn HGXn HCn HCg HBg HOg HN0 HNh HNo HCh HOh HOy
        go_wp2_with fail
        obtain ⟨xs, hx8⟩ := HRo.out.own (base := wc.heap.size) (Nat.le_refl _) hl
        refine (markCellS_any _ _ _ _ _ hl hx8).mono ?_
        rintro r wp ⟨rfl, -, hg9⟩
        have hT9 : Btw wc.heap.size we.heap.size wo wp := Btw.ofGrown hg9 (fun k hk => by simp only [Value.ownBlock, Option.some.injEq] at hk; omega)
        have HYp : Hid (Bx wp YB _ _) := hide ((hT9.block _ (by omega) (.inr (by omega))).trans HYo.out)
        have HGXp : Hid (Bx wp wi.heap.size _ _) := hide ((hT9.block _ (by omega) (.inr (by omega))).trans HGXo.out)
        have HOp := hide (HOo.out.keep (w' := wp) (by omega) (fun k h1 h2 => hT9.block k (by omega) (.inr h1)))
        have HGp := hide (HGo.out.keep (w' := wp) (by omega) (fun k h1 h2 => hT9.block k (by omega) (.inr (by omega))))
        have HCp := hide (HCo.out.trans (hT9.below (by omega)))
        have hzp := hT9.size
        clear hg9 hT9 hx8 HYo HGXo HOo HGo HCo HRo
        obtain ⟨K9, hK9⟩ : ∃ K9, K9 = 1 + l.length * 2 := ⟨_, rfl⟩
        rw [← hK9]
        have hk9 : K9 ≤ 1 + 1048576 * 2 := by omega
        clear hK9
        have cyp := HYp.out.c
        go_wp2_with fail
        refine (markMachine_any _ ⟨d, p, e, x, fs, vs, bs⟩ we.heap.size wf.heap.size K9 _ (by omega) (by omega) HOp.out).mono ?_
        rintro r wq ⟨rfl, -, hTq⟩
        have HGXq : Hid (Bx wq wi.heap.size _ _) := hide ((hTq.block _ (by omega) (.inr (by omega))).trans HGXp.out)
        have HGq := hide (HGp.out.keep (w' := wq) (by omega) (fun k h1 h2 => hTq.block k (by omega) (.inr (by omega))))
        have HCq := hide (HCp.out.trans ((hTq.below (by omega)).mono (by omega)))
        have hzq := hTq.size
        clear hTq HGXp HGp HOp HYp HCp cyp
        obtain ⟨K2, hK2⟩ : ∃ K2, K2 = K9 + mN ⟨d, p, e, x, fs, vs, bs⟩ := ⟨_, rfl⟩
        rw [← hK2]
        have hk2 : ¬ ((K2 : Nat) : Int) < 0 := by omega
        clear hK2
        have cwq := (HW.out.below HCq.out wlc).c
        have cgq := HGXq.out.c
        go_wp2_with fail
        refine (eqMachine_row _ _ ⟨D, P, E, XX, FS, VS, BS⟩ _ HGq.out.row (HWm.out.below HCq.out)).mono ?_
        rintro r ws ⟨rfl, hbs⟩
        have HGXs := hide (HGXq.out.below hbs HGXq.out.lt)
        have HGs := hide (HGq.out.below (by omega) hbs)
        have HCs := hide (HCq.out.trans (hbs.mono HCq.out.size))
        have hzs := hbs.size
        clear hbs cwq cgq HGXq HGq HCq
        have cgs := HGXs.out.c
        go_wp2_with fail
        refine (markMachine_any _ ⟨D, P, E, XX, FS, VS, BS⟩ (wf.heap.size + 1) wi.heap.size 1 _ (by omega) (by omega) HGs.out).mono ?_
        rintro r wt ⟨rfl, hmt, hTt⟩
        have HMt := hide hmt
        have HGXt : Hid (Bx wt wi.heap.size _ _) := hide ((hTt.block _ (by omega) (.inr (by omega))).trans HGXs.out)
        have HCt := hide (HCs.out.trans ((hTt.below (by omega)).mono (by omega)))
        have hzt := hTt.size
        clear hmt hTt HGXs HGs HCs cgs
        have HH := hide (fun (w : World) (h : MMk w (.agg #[.bool D, .int .i64 P, .int .i64 E, .int .i64 XX, .slice tf FS.length tcf, .slice tv VS.length tcv, .slice tb BS.length tcb]) 1 ⟨D, P, E, XX, FS, VS, BS⟩) => heldMachine_any _ ⟨D, P, E, XX, FS, VS, BS⟩ 1 w (by omega) n4 n5 n6 h)
        obtain ⟨KM, hKM⟩ : ∃ KM, KM = 1 + mN ⟨D, P, E, XX, FS, VS, BS⟩ := ⟨_, rfl⟩
        simp only [← hKM] at HH ⊢
        clear hKM
        have hkm : ¬ ((KM : Nat) : Int) < 0 := by omega
        have cgt := HGXt.out.c
        go_wp2_with fail
        refine (HH.out _ HMt.out).mono ?_
        rintro r wu ⟨rfl, hbu⟩
        have HMu := hide (HMt.out.below hbu)
        have HGXu := hide (HGXt.out.below hbu HGXt.out.lt)
        have HCu := hide (HCt.out.trans (hbu.mono HCt.out.size))
        have hzu := hbu.size
        clear hbu cgt HMt HGXt HCt
        go_wp2_with fail
        have b0 : wu.cell? ⟨XB, 0, none⟩ = some (.bool d) := (HXc.out.below HCu.out xlc).c 0
        have b1 : wu.cell? ⟨XB, 1, none⟩ = some (.int .i64 p) := (HXc.out.below HCu.out xlc).c 1
        have b2 : wu.cell? ⟨XB, 2, none⟩ = some (.int .i64 e) := (HXc.out.below HCu.out xlc).c 2
        have b3 : wu.cell? ⟨XB, 3, none⟩ = some (.int .i64 x) := (HXc.out.below HCu.out xlc).c 3
        have b4 : wu.cell? ⟨XB, 4, none⟩ = some (.slice af fs.length cf) := (HXc.out.below HCu.out xlc).c 4
        have b5 : wu.cell? ⟨XB, 5, none⟩ = some (.slice av vs.length cv) := (HXc.out.below HCu.out xlc).c 5
        have b6 : wu.cell? ⟨XB, 6, none⟩ = some (.slice ab bs.length cb) := (HXc.out.below HCu.out xlc).c 6
        have xlu : XB < wu.heap.size := Nat.lt_of_lt_of_le xlc HCu.out.size
        have HD0 : Hid (Below wu.heap.size wu wu.drew) := hide (belowDrew (Below.refl _ _))
        have HBw : Hid (Below w.heap.size w wu) := hide (HBc.out.trans (HCu.out.mono HBc.out.size))
        have HXs : Hid (∀ w', Below wu.heap.size wu w' → w'.cell? ⟨XB, 0, none⟩ = some (.bool d) ∧ w'.cell? ⟨XB, 1, none⟩ = some (.int .i64 p) ∧ w'.cell? ⟨XB, 2, none⟩ = some (.int .i64 e) ∧ w'.cell? ⟨XB, 3, none⟩ = some (.int .i64 x) ∧ w'.cell? ⟨XB, 4, none⟩ = some (.slice af fs.length cf) ∧ w'.cell? ⟨XB, 5, none⟩ = some (.slice av vs.length cv) ∧ w'.cell? ⟨XB, 6, none⟩ = some (.slice ab bs.length cb)) := hide (fun w' hb => ⟨(hb.cell (p := ⟨XB, 0, none⟩) xlu).trans b0, (hb.cell (p := ⟨XB, 1, none⟩) xlu).trans b1, (hb.cell (p := ⟨XB, 2, none⟩) xlu).trans b2, (hb.cell (p := ⟨XB, 3, none⟩) xlu).trans b3, (hb.cell (p := ⟨XB, 4, none⟩) xlu).trans b4, (hb.cell (p := ⟨XB, 5, none⟩) xlu).trans b5, (hb.cell (p := ⟨XB, 6, none⟩) xlu).trans b6⟩)
        go_cut [15, 16] from 94 to 118 (fun v6 v7 wx => ∃ (WB : Nat) (uf : Option Addr) (ucf : Nat) (uv : Option Addr) (ucv : Nat) (ub : Option Addr) (ucb : Nat), v6 = .pointer (some ⟨WB, 0, none⟩) ∧ v7 = .bool OK ∧ Bx wx WB #[.bool D, .int .i64 P, .int .i64 E, .int .i64 XX, .slice uf FS.length ucf, .slice uv VS.length ucv, .slice ub BS.length ucb] 34 ∧ MRow wx (.agg #[.bool D, .int .i64 P, .int .i64 E, .int .i64 XX, .slice uf FS.length ucf, .slice uv VS.length ucv, .slice ub BS.length ucb]) ⟨D, P, E, XX, FS, VS, BS⟩ ∧ Below wu.heap.size wu wx)
        case first =>
          rename_i JJ KK hJJ hKK
          refine wp_region_noPanic ?_
          refine wp_region_held_drew (S := fun w' => w'.cell? ⟨XB, 0, none⟩ = some (.bool d) ∧ w'.cell? ⟨XB, 1, none⟩ = some (.int .i64 p) ∧ w'.cell? ⟨XB, 2, none⟩ = some (.int .i64 e) ∧ w'.cell? ⟨XB, 3, none⟩ = some (.int .i64 x) ∧ w'.cell? ⟨XB, 4, none⟩ = some (.slice af fs.length cf) ∧ w'.cell? ⟨XB, 5, none⟩ = some (.slice av vs.length cv) ∧ w'.cell? ⟨XB, 6, none⟩ = some (.slice ab bs.length cb)) (by kernel_rfl) ⟨b0, b1, b2, b3, b4, b5, b6⟩ (fun hHeld => ?_)
          refine wpAnyH_take (i := 0) (oi := _) (v := ?_) rfl (by kernel_rfl) (by kernel_rfl) (by kernel_rfl) (fun _ _ _ h => h) (Or.inl ⟨by rfl, ?_⟩) (by assumption) ?_
          rotate_left 1
          · (intro w hSw; (try dsimp only at hSw); (first | (go_simp; done) | (go_simp; with_reducible rfl)))
          try simp only [Act.put, List.getElem_toArray, List.getElem_cons_zero, List.getElem_cons_succ, List.setIfInBounds_toArray, List.set_cons_zero, List.set_cons_succ]
          refine wpAnyH_take (i := 2) (oi := _) (v := ?_) rfl (by kernel_rfl) (by kernel_rfl) (by kernel_rfl) (fun _ _ _ h => h) (Or.inl ⟨by rfl, ?_⟩) (by assumption) ?_
          rotate_left 1
          · (intro w hSw; (try dsimp only at hSw); (first | (go_simp; done) | (go_simp; with_reducible rfl)))
          try simp only [Act.put, List.getElem_toArray, List.getElem_cons_zero, List.getElem_cons_succ, List.setIfInBounds_toArray, List.set_cons_zero, List.set_cons_succ]
          have HBx := HD0
          refine wpAnyH_ready (rs := [1, 8]) (by kernel_rfl) (by simp) ?_
          refine AllReadyH.cons (o := _) rfl (fun K hK => ?_) (AllReadyH.cons (o := _) rfl (fun K hK => ?_) AllReadyH.nil)
          · go_simp
            (with_reducible refine Calls.mono (HTc.out _ (HBw.out.trans (HBx.out.mono HBw.out.size))) ?_)
            rintro r wa ⟨rfl, hra, hba⟩
            have HBy := hide (HBx.out.trans (hba.mono HBx.out.size))
            have HRa : Hid (CBlk wa _ l) := hide (by simpa using hra)
            clear hba hra
            (try go_wp2_with fail)
            refine hK.out _ _ (HXs.out _ HBy.out) (fun hHeld => ?_)
            clear hK K
            try simp only [Act.put, List.getElem_toArray, List.getElem_cons_zero, List.getElem_cons_succ, List.setIfInBounds_toArray, List.set_cons_zero, List.set_cons_succ]
            clear HBx
            have HBx := HBy
            clear HBy
            refine wpAnyH_ready (rs := [3, 8]) (by kernel_rfl) (by simp) ?_
            refine AllReadyH.cons (o := _) rfl (fun K hK => ?_) (AllReadyH.cons (o := _) rfl (fun K hK => ?_) AllReadyH.nil)
            · go_simp
              (with_reducible refine Calls.mono (HTm.out _ (HBw.out.trans (HBx.out.mono HBw.out.size))) ?_)
              rintro r wb ⟨vb, rfl, hob, hbb⟩
              have HBy := hide (HBx.out.trans (hbb.mono HBx.out.size))
              have HRb := hide (HRa.out.below hbb)
              have HOb := hide hob.row
              clear hbb hob
              (try go_wp2_with fail)
              refine hK.out _ _ (HXs.out _ HBy.out) (fun hHeld => ?_)
              clear hK K
              try simp only [Act.put, List.getElem_toArray, List.getElem_cons_zero, List.getElem_cons_succ, List.setIfInBounds_toArray, List.set_cons_zero, List.set_cons_succ]
              clear HBx
              have HBx := HBy
              clear HBy
              refine wpAnyH_ready (rs := [4, 8]) (by kernel_rfl) (by simp) ?_
              refine AllReadyH.cons (o := _) rfl (fun K hK => ?_) (AllReadyH.cons (o := _) rfl (fun K hK => ?_) AllReadyH.nil)
              · go_simp
                (with_reducible refine Calls.mono (HIm.out _ _ _ _ rfl HRb.out.row HOb.out) ?_)
                rintro r wd ⟨vd, rfl, hmd, hbd⟩
                have HBy := hide (HBx.out.trans (hbd.mono HBx.out.size))
                have HMd := hide hmd
                have HMr := hide hmd.row
                obtain ⟨uf, ucf, uv, ucv, ub, ucb, hvd, -, -, -, -, -, -, -, -, -⟩ := HMr.out
                simp only at hvd
                subst hvd
                clear hbd hmd
                (try go_wp2_with fail)
                refine hK.out _ _ (HXs.out _ HBy.out) (fun hHeld => ?_)
                clear hK K
                try simp only [Act.put, List.getElem_toArray, List.getElem_cons_zero, List.getElem_cons_succ, List.setIfInBounds_toArray, List.set_cons_zero, List.set_cons_succ]
                clear HBx
                have HBx := HBy
                clear HBy
                refine wpAnyH_take (i := 5) (oi := _) (v := ?_) rfl (by kernel_rfl) (by kernel_rfl) (by kernel_rfl) (fun _ _ _ h => h) (Or.inl ⟨by rfl, ?_⟩) (by assumption) ?_
                rotate_left 1
                · (intro w hSw; (try dsimp only at hSw); (first | (go_simp; done) | (go_simp; with_reducible rfl)))
                try simp only [Act.put, List.getElem_toArray, List.getElem_cons_zero, List.getElem_cons_succ, List.setIfInBounds_toArray, List.set_cons_zero, List.set_cons_succ]
                refine wpAnyH_take (i := 6) (oi := _) (v := ?_) rfl (by kernel_rfl) (by kernel_rfl) (by kernel_rfl) (fun _ _ _ h => h) (Or.inl ⟨by rfl, ?_⟩) (by assumption) ?_
                rotate_left 1
                · (intro w hSw; (try dsimp only at hSw); (first | (go_simp; done) | (go_simp; with_reducible rfl)))
                try simp only [Act.put, List.getElem_toArray, List.getElem_cons_zero, List.getElem_cons_succ, List.setIfInBounds_toArray, List.set_cons_zero, List.set_cons_succ]
                refine wpAnyH_take (i := 7) (oi := _) (v := ?_) rfl (by kernel_rfl) (by kernel_rfl) (by kernel_rfl) (fun _ _ _ h => h) (Or.inl ⟨by rfl, ?_⟩) (by assumption) ?_
                rotate_left 1
                · (intro w hSw; (try dsimp only at hSw); (first | (go_simp; done) | (go_simp; with_reducible rfl)))
                try simp only [Act.put, List.getElem_toArray, List.getElem_cons_zero, List.getElem_cons_succ, List.setIfInBounds_toArray, List.set_cons_zero, List.set_cons_succ]
                have hal : Below wd.heap.size wd (wd.alloc (.cells #[.bool false, .int .i64 0, .int .i64 0, .int .i64 0, .slice none 0 0, .slice none 0 0, .slice none 0 0] 34)) := (Below.refl _ _).alloc (Nat.le_refl _) _
                have HBy := hide (HBx.out.trans (hal.mono HBx.out.size))
                have hal2 : Below wd.heap.size wd (wd.alloc (.cells #[.bool D, .int .i64 P, .int .i64 E, .int .i64 XX, .slice uf FS.length ucf, .slice uv VS.length ucv, .slice ub BS.length ucb] 34)) := (Below.refl _ _).alloc (Nat.le_refl _) _
                have HBz := hide (HBx.out.trans (hal2.mono HBx.out.size))
                have HMz := hide (HMr.out.below hal2)
                clear hal hal2
                refine wpAnyH_ready (rs := [8]) (by kernel_rfl) (by simp) ?_
                refine AllReadyH.cons (o := _) rfl (fun K hK => ?_) AllReadyH.nil
                go_simp
                refine hK.out _ _ (HXs.out _ HBy.out) (fun hHeld => ?_)
                clear hK K
                try simp only [Act.put, List.getElem_toArray, List.getElem_cons_zero, List.getElem_cons_succ, List.setIfInBounds_toArray, List.set_cons_zero, List.set_cons_succ]
                refine wpAnyH_ready (rs := [9]) (by kernel_rfl) (by simp) ?_
                refine AllReadyH.cons (o := _) rfl (fun K hK => ?_) AllReadyH.nil
                have cl := (Bx.new wd #[.bool false, .int .i64 0, .int .i64 0, .int .i64 0, .slice none 0 0, .slice none 0 0, .slice none 0 0] 34).c
                have fl := (Bx.new wd #[.bool false, .int .i64 0, .int .i64 0, .int .i64 0, .slice none 0 0, .slice none 0 0, .slice none 0 0] 34).f
                go_simp
                refine hK.out _ _ (HXs.out _ HBz.out) (fun hHeld => ?_)
                clear hK K
                try simp only [Act.put, List.getElem_toArray, List.getElem_cons_zero, List.getElem_cons_succ, List.setIfInBounds_toArray, List.set_cons_zero, List.set_cons_succ]
                clear cl fl
                refine wpAnyH_take (i := 10) (oi := _) (v := ?_) rfl (by kernel_rfl) (by kernel_rfl) (by kernel_rfl) (fun _ _ _ h => h) (Or.inl ⟨by rfl, ?_⟩) (by assumption) ?_
                rotate_left 1
                · (intro w hSw; (try dsimp only at hSw); (first | (go_simp; done) | (go_simp; with_reducible rfl)))
                try simp only [Act.put, List.getElem_toArray, List.getElem_cons_zero, List.getElem_cons_succ, List.setIfInBounds_toArray, List.set_cons_zero, List.set_cons_succ]
                refine wpAnyH_done (by kernel_rfl) ?_ _
                refine NoPanic.normal ?_
                clear b0 b1 b2 b3 b4 b5 b6 hHeld
                show KK _ _
                refine hKK _ _ (Met.intro (hJJ _ _ ?_))
                (repeat apply Exists.intro)
                refine ⟨?_, rfl⟩
                exact ⟨wd.heap.size, uf, ucf, uv, ucv, ub, ucb, rfl, rfl, Bx.new wd #[.bool D, .int .i64 P, .int .i64 E, .int .i64 XX, .slice uf FS.length ucf, .slice uv VS.length ucv, .slice ub BS.length ucb] 34, HMz.out, HBz.out⟩
              · have hzlo : wu.heap.size ≤ wb.heap.size := HBx.out.size
                have hal : Below wb.heap.size wb (wb.alloc (.cells #[.bool false, .int .i64 0, .int .i64 0, .int .i64 0, .slice none 0 0, .slice none 0 0, .slice none 0 0] 34)) := (Below.refl _ _).alloc (Nat.le_refl _) _
                have HBy := hide (HBx.out.trans (hal.mono HBx.out.size))
                have HZ := hide (Bx.new wb #[.bool false, .int .i64 0, .int .i64 0, .int .i64 0, .slice none 0 0, .slice none 0 0, .slice none 0 0] 34)
                have HRb2 := hide (HRb.out.below hal)
                have HOb2 := hide (HOb.out.below hal)
                clear HRb HOb
                have HRb := HRb2
                have HOb := HOb2
                clear HRb2 HOb2
                clear hal
                go_simp
                refine hK.out _ _ (HXs.out _ HBy.out) (fun hHeld => ?_)
                clear hK K
                try simp only [Act.put, List.getElem_toArray, List.getElem_cons_zero, List.getElem_cons_succ, List.setIfInBounds_toArray, List.set_cons_zero, List.set_cons_succ]
                clear HBx
                have HBx := HBy
                clear HBy
                refine wpAnyH_ready (rs := [4]) (by kernel_rfl) (by simp) ?_
                refine AllReadyH.cons (o := _) rfl (fun K hK => ?_) AllReadyH.nil
                go_simp
                have hzl := HZ.out.lt
                (with_reducible refine Calls.mono (HIm.out _ _ _ _ rfl HRb.out.row HOb.out) ?_)
                rintro r wd ⟨vd, rfl, hmd, hbd⟩
                have HBy := hide (HBx.out.trans (hbd.mono HBx.out.size))
                have HMd := hide hmd
                have HMr := hide hmd.row
                obtain ⟨uf, ucf, uv, ucv, ub, ucb, hvd, -, -, -, -, -, -, -, -, -⟩ := HMr.out
                simp only at hvd
                subst hvd
                have HZy := hide (HZ.out.below hbd HZ.out.lt)
                clear hbd hmd
                (try go_wp2_with fail)
                refine hK.out _ _ (HXs.out _ HBy.out) (fun hHeld => ?_)
                clear hK K
                try simp only [Act.put, List.getElem_toArray, List.getElem_cons_zero, List.getElem_cons_succ, List.setIfInBounds_toArray, List.set_cons_zero, List.set_cons_succ]
                clear HBx
                have HBx := HBy
                clear HBy
                clear HZ
                have HZ := HZy
                clear HZy
                refine wpAnyH_take (i := 5) (oi := _) (v := ?_) rfl (by kernel_rfl) (by kernel_rfl) (by kernel_rfl) (fun _ _ _ h => h) (Or.inl ⟨by rfl, ?_⟩) (by assumption) ?_
                rotate_left 1
                · (intro w hSw; (try dsimp only at hSw); (first | (go_simp; done) | (go_simp; with_reducible rfl)))
                try simp only [Act.put, List.getElem_toArray, List.getElem_cons_zero, List.getElem_cons_succ, List.setIfInBounds_toArray, List.set_cons_zero, List.set_cons_succ]
                refine wpAnyH_take (i := 6) (oi := _) (v := ?_) rfl (by kernel_rfl) (by kernel_rfl) (by kernel_rfl) (fun _ _ _ h => h) (Or.inl ⟨by rfl, ?_⟩) (by assumption) ?_
                rotate_left 1
                · (intro w hSw; (try dsimp only at hSw); (first | (go_simp; done) | (go_simp; with_reducible rfl)))
                try simp only [Act.put, List.getElem_toArray, List.getElem_cons_zero, List.getElem_cons_succ, List.setIfInBounds_toArray, List.set_cons_zero, List.set_cons_succ]
                refine wpAnyH_take (i := 7) (oi := _) (v := ?_) rfl (by kernel_rfl) (by kernel_rfl) (by kernel_rfl) (fun _ _ _ h => h) (Or.inl ⟨by rfl, ?_⟩) (by assumption) ?_
                rotate_left 1
                · (intro w hSw; (try dsimp only at hSw); (first | (go_simp; done) | (go_simp; with_reducible rfl)))
                try simp only [Act.put, List.getElem_toArray, List.getElem_cons_zero, List.getElem_cons_succ, List.setIfInBounds_toArray, List.set_cons_zero, List.set_cons_succ]
                have hzf := (((((((HZ.out.set 0 (.bool D)).set 1 (.int .i64 P)).set 2 (.int .i64 E)).set 3 (.int .i64 XX)).set 4 (.slice uf FS.length ucf)).set 5 (.slice uv VS.length ucv)).set 6 (.slice ub BS.length ucb))
                simp only [List.setIfInBounds_toArray, List.set_cons_zero, List.set_cons_succ] at hzf
                have HZf := hide hzf
                have HOt := hide (oth_set (oth_set (oth_set (oth_set (oth_set (oth_set (oth_set (Oth.refl (wb.heap.size) wd) 0 (.bool D)) 1 (.int .i64 P)) 2 (.int .i64 E)) 3 (.int .i64 XX)) 4 (.slice uf FS.length ucf)) 5 (.slice uv VS.length ucv)) 6 (.slice ub BS.length ucb))
                have HBz : Hid (Below wu.heap.size wu _) := hide (HBx.out.trans (HOt.out.below HBx.out.size (by omega)))
                have HMz := hide ((HMd.out.keep (Nat.le_refl _) (fun k h1 h2 => HOt.out.block k h2 (by omega))).row)
                clear hzf
                refine wpAnyH_ready (rs := [9]) (by kernel_rfl) (by simp) ?_
                refine AllReadyH.cons (o := _) rfl (fun K hK => ?_) AllReadyH.nil
                have cl := HZ.out.c
                have fl := HZ.out.f
                go_simp
                refine hK.out _ _ (HXs.out _ HBz.out) (fun hHeld => ?_)
                clear hK K
                try simp only [Act.put, List.getElem_toArray, List.getElem_cons_zero, List.getElem_cons_succ, List.setIfInBounds_toArray, List.set_cons_zero, List.set_cons_succ]
                clear cl fl
                refine wpAnyH_take (i := 10) (oi := _) (v := ?_) rfl (by kernel_rfl) (by kernel_rfl) (by kernel_rfl) (fun _ _ _ h => h) (Or.inl ⟨by rfl, ?_⟩) (by assumption) ?_
                rotate_left 1
                · (intro w hSw; (try dsimp only at hSw); (first | (go_simp; done) | (go_simp; with_reducible rfl)))
                try simp only [Act.put, List.getElem_toArray, List.getElem_cons_zero, List.getElem_cons_succ, List.setIfInBounds_toArray, List.set_cons_zero, List.set_cons_succ]
                refine wpAnyH_done (by kernel_rfl) ?_ _
                refine NoPanic.normal ?_
                clear b0 b1 b2 b3 b4 b5 b6 hHeld
                show KK _ _
                refine hKK _ _ (Met.intro (hJJ _ _ ?_))
                (repeat apply Exists.intro)
                refine ⟨?_, rfl⟩
                exact ⟨wb.heap.size, uf, ucf, uv, ucv, ub, ucb, rfl, rfl, HZf.out, HMz.out, HBz.out⟩
            · have hzlo : wu.heap.size ≤ wa.heap.size := HBx.out.size
              have hal : Below wa.heap.size wa (wa.alloc (.cells #[.bool false, .int .i64 0, .int .i64 0, .int .i64 0, .slice none 0 0, .slice none 0 0, .slice none 0 0] 34)) := (Below.refl _ _).alloc (Nat.le_refl _) _
              have HBy := hide (HBx.out.trans (hal.mono HBx.out.size))
              have HZ := hide (Bx.new wa #[.bool false, .int .i64 0, .int .i64 0, .int .i64 0, .slice none 0 0, .slice none 0 0, .slice none 0 0] 34)
              have HRa2 := hide (HRa.out.below hal)
              clear HRa
              have HRa := HRa2
              clear HRa2
              clear hal
              go_simp
              refine hK.out _ _ (HXs.out _ HBy.out) (fun hHeld => ?_)
              clear hK K
              try simp only [Act.put, List.getElem_toArray, List.getElem_cons_zero, List.getElem_cons_succ, List.setIfInBounds_toArray, List.set_cons_zero, List.set_cons_succ]
              clear HBx
              have HBx := HBy
              clear HBy
              refine wpAnyH_ready (rs := [3]) (by kernel_rfl) (by simp) ?_
              refine AllReadyH.cons (o := _) rfl (fun K hK => ?_) AllReadyH.nil
              go_simp
              (with_reducible refine Calls.mono (HTm.out _ (HBw.out.trans (HBx.out.mono HBw.out.size))) ?_)
              rintro r wb ⟨vb, rfl, hob, hbb⟩
              have HBy := hide (HBx.out.trans (hbb.mono HBx.out.size))
              have HRb := hide (HRa.out.below hbb)
              have HOb := hide hob.row
              have HZy := hide (HZ.out.below hbb HZ.out.lt)
              clear hbb hob
              (try go_wp2_with fail)
              refine hK.out _ _ (HXs.out _ HBy.out) (fun hHeld => ?_)
              clear hK K
              try simp only [Act.put, List.getElem_toArray, List.getElem_cons_zero, List.getElem_cons_succ, List.setIfInBounds_toArray, List.set_cons_zero, List.set_cons_succ]
              clear HBx
              have HBx := HBy
              clear HBy
              clear HZ
              have HZ := HZy
              clear HZy
              refine wpAnyH_ready (rs := [4]) (by kernel_rfl) (by simp) ?_
              refine AllReadyH.cons (o := _) rfl (fun K hK => ?_) AllReadyH.nil
              go_simp
              have hzl := HZ.out.lt
              (with_reducible refine Calls.mono (HIm.out _ _ _ _ rfl HRb.out.row HOb.out) ?_)
              rintro r wd ⟨vd, rfl, hmd, hbd⟩
              have HBy := hide (HBx.out.trans (hbd.mono HBx.out.size))
              have HMd := hide hmd
              have HMr := hide hmd.row
              obtain ⟨uf, ucf, uv, ucv, ub, ucb, hvd, -, -, -, -, -, -, -, -, -⟩ := HMr.out
              simp only at hvd
              subst hvd
              have HZy := hide (HZ.out.below hbd HZ.out.lt)
              clear hbd hmd
              (try go_wp2_with fail)
              refine hK.out _ _ (HXs.out _ HBy.out) (fun hHeld => ?_)
              clear hK K
              try simp only [Act.put, List.getElem_toArray, List.getElem_cons_zero, List.getElem_cons_succ, List.setIfInBounds_toArray, List.set_cons_zero, List.set_cons_succ]
              clear HBx
              have HBx := HBy
              clear HBy
              clear HZ
              have HZ := HZy
              clear HZy
              refine wpAnyH_take (i := 5) (oi := _) (v := ?_) rfl (by kernel_rfl) (by kernel_rfl) (by kernel_rfl) (fun _ _ _ h => h) (Or.inl ⟨by rfl, ?_⟩) (by assumption) ?_
              rotate_left 1
              · (intro w hSw; (try dsimp only at hSw); (first | (go_simp; done) | (go_simp; with_reducible rfl)))
              try simp only [Act.put, List.getElem_toArray, List.getElem_cons_zero, List.getElem_cons_succ, List.setIfInBounds_toArray, List.set_cons_zero, List.set_cons_succ]
              refine wpAnyH_take (i := 6) (oi := _) (v := ?_) rfl (by kernel_rfl) (by kernel_rfl) (by kernel_rfl) (fun _ _ _ h => h) (Or.inl ⟨by rfl, ?_⟩) (by assumption) ?_
              rotate_left 1
              · (intro w hSw; (try dsimp only at hSw); (first | (go_simp; done) | (go_simp; with_reducible rfl)))
              try simp only [Act.put, List.getElem_toArray, List.getElem_cons_zero, List.getElem_cons_succ, List.setIfInBounds_toArray, List.set_cons_zero, List.set_cons_succ]
              refine wpAnyH_take (i := 7) (oi := _) (v := ?_) rfl (by kernel_rfl) (by kernel_rfl) (by kernel_rfl) (fun _ _ _ h => h) (Or.inl ⟨by rfl, ?_⟩) (by assumption) ?_
              rotate_left 1
              · (intro w hSw; (try dsimp only at hSw); (first | (go_simp; done) | (go_simp; with_reducible rfl)))
              try simp only [Act.put, List.getElem_toArray, List.getElem_cons_zero, List.getElem_cons_succ, List.setIfInBounds_toArray, List.set_cons_zero, List.set_cons_succ]
              have hzf := (((((((HZ.out.set 0 (.bool D)).set 1 (.int .i64 P)).set 2 (.int .i64 E)).set 3 (.int .i64 XX)).set 4 (.slice uf FS.length ucf)).set 5 (.slice uv VS.length ucv)).set 6 (.slice ub BS.length ucb))
              simp only [List.setIfInBounds_toArray, List.set_cons_zero, List.set_cons_succ] at hzf
              have HZf := hide hzf
              have HOt := hide (oth_set (oth_set (oth_set (oth_set (oth_set (oth_set (oth_set (Oth.refl (wa.heap.size) wd) 0 (.bool D)) 1 (.int .i64 P)) 2 (.int .i64 E)) 3 (.int .i64 XX)) 4 (.slice uf FS.length ucf)) 5 (.slice uv VS.length ucv)) 6 (.slice ub BS.length ucb))
              have HBz : Hid (Below wu.heap.size wu _) := hide (HBx.out.trans (HOt.out.below HBx.out.size (by omega)))
              have HMz := hide ((HMd.out.keep (Nat.le_refl _) (fun k h1 h2 => HOt.out.block k h2 (by omega))).row)
              clear hzf
              refine wpAnyH_ready (rs := [9]) (by kernel_rfl) (by simp) ?_
              refine AllReadyH.cons (o := _) rfl (fun K hK => ?_) AllReadyH.nil
              have cl := HZ.out.c
              have fl := HZ.out.f
              go_simp
              refine hK.out _ _ (HXs.out _ HBz.out) (fun hHeld => ?_)
              clear hK K
              try simp only [Act.put, List.getElem_toArray, List.getElem_cons_zero, List.getElem_cons_succ, List.setIfInBounds_toArray, List.set_cons_zero, List.set_cons_succ]
              clear cl fl
              refine wpAnyH_take (i := 10) (oi := _) (v := ?_) rfl (by kernel_rfl) (by kernel_rfl) (by kernel_rfl) (fun _ _ _ h => h) (Or.inl ⟨by rfl, ?_⟩) (by assumption) ?_
              rotate_left 1
              · (intro w hSw; (try dsimp only at hSw); (first | (go_simp; done) | (go_simp; with_reducible rfl)))
              try simp only [Act.put, List.getElem_toArray, List.getElem_cons_zero, List.getElem_cons_succ, List.setIfInBounds_toArray, List.set_cons_zero, List.set_cons_succ]
              refine wpAnyH_done (by kernel_rfl) ?_ _
              refine NoPanic.normal ?_
              clear b0 b1 b2 b3 b4 b5 b6 hHeld
              show KK _ _
              refine hKK _ _ (Met.intro (hJJ _ _ ?_))
              (repeat apply Exists.intro)
              refine ⟨?_, rfl⟩
              exact ⟨wa.heap.size, uf, ucf, uv, ucv, ub, ucb, rfl, rfl, HZf.out, HMz.out, HBz.out⟩
          · have hzlo : wu.heap.size ≤ wu.heap.size := Nat.le_refl _
            have HBy : Hid (Below wu.heap.size wu (wu.alloc (.cells #[.bool false, .int .i64 0, .int .i64 0, .int .i64 0, .slice none 0 0, .slice none 0 0, .slice none 0 0] 34)).drew) := hide (belowDrew ((Below.refl wu.heap.size wu).alloc (Nat.le_refl _) (.cells #[.bool false, .int .i64 0, .int .i64 0, .int .i64 0, .slice none 0 0, .slice none 0 0, .slice none 0 0] 34)))
            have HZ := hide ((Bx.new wu #[.bool false, .int .i64 0, .int .i64 0, .int .i64 0, .slice none 0 0, .slice none 0 0, .slice none 0 0] 34).drew)
            go_simp
            refine hK.out _ _ (HXs.out _ HBy.out) (fun hHeld => ?_)
            clear hK K
            try simp only [Act.put, List.getElem_toArray, List.getElem_cons_zero, List.getElem_cons_succ, List.setIfInBounds_toArray, List.set_cons_zero, List.set_cons_succ]
            clear HBx
            have HBx := HBy
            clear HBy
            refine wpAnyH_ready (rs := [1]) (by kernel_rfl) (by simp) ?_
            refine AllReadyH.cons (o := _) rfl (fun K hK => ?_) AllReadyH.nil
            go_simp
            (with_reducible refine Calls.mono (HTc.out _ (HBw.out.trans (HBx.out.mono HBw.out.size))) ?_)
            rintro r wa ⟨rfl, hra, hba⟩
            have HBy := hide (HBx.out.trans (hba.mono HBx.out.size))
            have HRa : Hid (CBlk wa _ l) := hide (by simpa using hra)
            have HZy := hide (HZ.out.below hba HZ.out.lt)
            clear hba hra
            (try go_wp2_with fail)
            refine hK.out _ _ (HXs.out _ HBy.out) (fun hHeld => ?_)
            clear hK K
            try simp only [Act.put, List.getElem_toArray, List.getElem_cons_zero, List.getElem_cons_succ, List.setIfInBounds_toArray, List.set_cons_zero, List.set_cons_succ]
            clear HBx
            have HBx := HBy
            clear HBy
            clear HZ
            have HZ := HZy
            clear HZy
            refine wpAnyH_ready (rs := [3]) (by kernel_rfl) (by simp) ?_
            refine AllReadyH.cons (o := _) rfl (fun K hK => ?_) AllReadyH.nil
            go_simp
            (with_reducible refine Calls.mono (HTm.out _ (HBw.out.trans (HBx.out.mono HBw.out.size))) ?_)
            rintro r wb ⟨vb, rfl, hob, hbb⟩
            have HBy := hide (HBx.out.trans (hbb.mono HBx.out.size))
            have HRb := hide (HRa.out.below hbb)
            have HOb := hide hob.row
            have HZy := hide (HZ.out.below hbb HZ.out.lt)
            clear hbb hob
            (try go_wp2_with fail)
            refine hK.out _ _ (HXs.out _ HBy.out) (fun hHeld => ?_)
            clear hK K
            try simp only [Act.put, List.getElem_toArray, List.getElem_cons_zero, List.getElem_cons_succ, List.setIfInBounds_toArray, List.set_cons_zero, List.set_cons_succ]
            clear HBx
            have HBx := HBy
            clear HBy
            clear HZ
            have HZ := HZy
            clear HZy
            refine wpAnyH_ready (rs := [4]) (by kernel_rfl) (by simp) ?_
            refine AllReadyH.cons (o := _) rfl (fun K hK => ?_) AllReadyH.nil
            go_simp
            have hzl := HZ.out.lt
            (with_reducible refine Calls.mono (HIm.out _ _ _ _ rfl HRb.out.row HOb.out) ?_)
            rintro r wd ⟨vd, rfl, hmd, hbd⟩
            have HBy := hide (HBx.out.trans (hbd.mono HBx.out.size))
            have HMd := hide hmd
            have HMr := hide hmd.row
            obtain ⟨uf, ucf, uv, ucv, ub, ucb, hvd, -, -, -, -, -, -, -, -, -⟩ := HMr.out
            simp only at hvd
            subst hvd
            have HZy := hide (HZ.out.below hbd HZ.out.lt)
            clear hbd hmd
            (try go_wp2_with fail)
            refine hK.out _ _ (HXs.out _ HBy.out) (fun hHeld => ?_)
            clear hK K
            try simp only [Act.put, List.getElem_toArray, List.getElem_cons_zero, List.getElem_cons_succ, List.setIfInBounds_toArray, List.set_cons_zero, List.set_cons_succ]
            clear HBx
            have HBx := HBy
            clear HBy
            clear HZ
            have HZ := HZy
            clear HZy
            refine wpAnyH_take (i := 5) (oi := _) (v := ?_) rfl (by kernel_rfl) (by kernel_rfl) (by kernel_rfl) (fun _ _ _ h => h) (Or.inl ⟨by rfl, ?_⟩) (by assumption) ?_
            rotate_left 1
            · (intro w hSw; (try dsimp only at hSw); (first | (go_simp; done) | (go_simp; with_reducible rfl)))
            try simp only [Act.put, List.getElem_toArray, List.getElem_cons_zero, List.getElem_cons_succ, List.setIfInBounds_toArray, List.set_cons_zero, List.set_cons_succ]
            refine wpAnyH_take (i := 6) (oi := _) (v := ?_) rfl (by kernel_rfl) (by kernel_rfl) (by kernel_rfl) (fun _ _ _ h => h) (Or.inl ⟨by rfl, ?_⟩) (by assumption) ?_
            rotate_left 1
            · (intro w hSw; (try dsimp only at hSw); (first | (go_simp; done) | (go_simp; with_reducible rfl)))
            try simp only [Act.put, List.getElem_toArray, List.getElem_cons_zero, List.getElem_cons_succ, List.setIfInBounds_toArray, List.set_cons_zero, List.set_cons_succ]
            refine wpAnyH_take (i := 7) (oi := _) (v := ?_) rfl (by kernel_rfl) (by kernel_rfl) (by kernel_rfl) (fun _ _ _ h => h) (Or.inl ⟨by rfl, ?_⟩) (by assumption) ?_
            rotate_left 1
            · (intro w hSw; (try dsimp only at hSw); (first | (go_simp; done) | (go_simp; with_reducible rfl)))
            try simp only [Act.put, List.getElem_toArray, List.getElem_cons_zero, List.getElem_cons_succ, List.setIfInBounds_toArray, List.set_cons_zero, List.set_cons_succ]
            have hzf := (((((((HZ.out.set 0 (.bool D)).set 1 (.int .i64 P)).set 2 (.int .i64 E)).set 3 (.int .i64 XX)).set 4 (.slice uf FS.length ucf)).set 5 (.slice uv VS.length ucv)).set 6 (.slice ub BS.length ucb))
            simp only [List.setIfInBounds_toArray, List.set_cons_zero, List.set_cons_succ] at hzf
            have HZf := hide hzf
            have HOt := hide (oth_set (oth_set (oth_set (oth_set (oth_set (oth_set (oth_set (Oth.refl (wu.heap.size) wd) 0 (.bool D)) 1 (.int .i64 P)) 2 (.int .i64 E)) 3 (.int .i64 XX)) 4 (.slice uf FS.length ucf)) 5 (.slice uv VS.length ucv)) 6 (.slice ub BS.length ucb))
            have HBz : Hid (Below wu.heap.size wu _) := hide (HBx.out.trans (HOt.out.below HBx.out.size (by omega)))
            have HMz := hide ((HMd.out.keep (Nat.le_refl _) (fun k h1 h2 => HOt.out.block k h2 (by omega))).row)
            clear hzf
            refine wpAnyH_ready (rs := [9]) (by kernel_rfl) (by simp) ?_
            refine AllReadyH.cons (o := _) rfl (fun K hK => ?_) AllReadyH.nil
            have cl := HZ.out.c
            have fl := HZ.out.f
            go_simp
            refine hK.out _ _ (HXs.out _ HBz.out) (fun hHeld => ?_)
            clear hK K
            try simp only [Act.put, List.getElem_toArray, List.getElem_cons_zero, List.getElem_cons_succ, List.setIfInBounds_toArray, List.set_cons_zero, List.set_cons_succ]
            clear cl fl
            refine wpAnyH_take (i := 10) (oi := _) (v := ?_) rfl (by kernel_rfl) (by kernel_rfl) (by kernel_rfl) (fun _ _ _ h => h) (Or.inl ⟨by rfl, ?_⟩) (by assumption) ?_
            rotate_left 1
            · (intro w hSw; (try dsimp only at hSw); (first | (go_simp; done) | (go_simp; with_reducible rfl)))
            try simp only [Act.put, List.getElem_toArray, List.getElem_cons_zero, List.getElem_cons_succ, List.setIfInBounds_toArray, List.set_cons_zero, List.set_cons_succ]
            refine wpAnyH_done (by kernel_rfl) ?_ _
            refine NoPanic.normal ?_
            clear b0 b1 b2 b3 b4 b5 b6 hHeld
            show KK _ _
            refine hKK _ _ (Met.intro (hJJ _ _ ?_))
            (repeat apply Exists.intro)
            refine ⟨?_, rfl⟩
            exact ⟨wu.heap.size, uf, ucf, uv, ucv, ub, ucb, rfl, rfl, HZf.out, HMz.out, HBz.out⟩
        case rest =>
          obtain ⟨VB, uf, ucf, uv, ucv, ub, ucb, rfl, rfl, hVx, hVm, hBv⟩ := hcut
          have HCv := hide (HCu.out.trans (hBv.mono HCu.out.size))
          have HMv := hide (HMu.out.below hBv)
          have HGXv := hide (HGXu.out.below hBv HGXu.out.lt)
          have HVm := hide hVm
          have cvv := hVx.c
          have cwv := (HW.out.below HCv.out wlc).c
          clear hVx hVm hBv b0 b1 b2 b3 b4 b5 b6 HXs HD0 HBw
          go_wp2_with fail
          refine (eqMachine_row _ _ ⟨D, P, E, XX, FS, VS, BS⟩ _ HVm.out (HWm.out.below HCv.out)).mono ?_
          rintro r wy ⟨rfl, hby⟩
          have HMy := hide (HMv.out.below hby)
          have HGXy := hide (HGXv.out.below hby HGXv.out.lt)
          have HCy := hide (HCv.out.trans (hby.mono HCv.out.size))
          clear hby cvv cwv
          have cgy := HGXy.out.c
          go_wp2_with fail
          refine (HH.out _ HMy.out).mono ?_
          rintro r wz ⟨rfl, hbz⟩
          have hBz : Below w.heap.size w wz := HBc.out.trans ((HCy.out.trans (hbz.mono HCy.out.size)).mono HBc.out.size)
          clear hbz cgy
          go_wp2_with fail
          go_ret
          exact ⟨rfl, hBz⟩

set_option maxRecDepth 100000 in
theorem lifted (os : Os) (started : os.Started) (H : Type) (enc : TypeId × Value → H) :
    ReturnsInHanded {} Tryz.checked os 3 .any (Rows.fnExactStepMachineSpec.pre6 enc Tryz.prog Tryz.f3 Rows.fnExactStepMachineRow.domain false) (Rows.fnExactStepMachineSpec.post enc Tryz.prog Tryz.f3 false true false false) := by
  refine returnsInHanded_of_change (C := Tryz.checked) own started (by kernel_rfl) Tryz.func3
    (ChangeSpec.witness6 (enc := enc) (C := Tryz.checked) false ⟨#[], #[.slice none 0 0, .agg #[.bool false, .int .i64 0, .int .i64 0, .int .i64 0, .slice none 0 0, .slice none 0 0, .slice none 0 0]], []⟩ 8 (by kernel_rfl) (by kernel_rfl) (by kernel_rfl) (by kernel_rfl)) ?_
  intro W base args ds gs before hval0 hW hcnd _
  have hval : ∀ (j : Nat) t v, Tryz.f3.params[j]? = some t → args[j]? = some v → Value.okWide Tryz.prog W .any base t v := hval0
  have hW' := hW
  obtain ⟨p, q, hA0, hV, rfl, hfz, hnd⟩ := hW
  have hA : DataW.TrodAll enc Tryz.prog W 0 (fun _ => true) true Tryz.f3.params.toList args.toList ds p := hA0
  rw [Tryz.params3] at hA hval
  obtain ⟨v0, vs0, d0, ds0, p0, q0, hargs, rfl, rfl, h0, r0⟩ := trodAll_cons hA
  obtain ⟨v1, vs1, d1, ds1, p1, q1, rfl, rfl, rfl, h1, r1⟩ := trodAll_cons r0
  obtain ⟨rfl, rfl, rfl⟩ := trodAll_nil r1
  obtain rfl : args = #[v0, v1] := by cases args; simp_all
  obtain ⟨rfl, rfl⟩ := trodVars_none hV
  have k0 := h0
  have k1' := h1
  have lt0 : ∀ x ∈ p0, x.block < W.heap.size := by obtain ⟨m, hm⟩ := k0; exact DataW.trod_lt m _ _ _ hm
  have lt1 : ∀ x ∈ p1, x.block < W.heap.size := by obtain ⟨m, hm⟩ := k1'; exact DataW.trod_lt m _ _ _ hm
  obtain ⟨m, af, cf, av, cv, ab, cb, rfl, g1, g2, g3, n1, n2, n3, e1, e2, e3⟩ := open_machine (hval 1 27 v1 rfl rfl) h1
  obtain ⟨ad, len, cap, rfl⟩ := okWide_slice Tryz.underlying22 (hval 0 22 v0 rfl rfl)
  obtain ⟨fuel, hf⟩ := h0
  obtain ⟨l, rfl, hl, hR⟩ := open_cells hf
  clear hA0 hval0
  refine (walk ad cap l m.done m.pl m.env m.val af av ab cf cv cb m.fs m.vs m.bs W hl hR g1 g2 g3 n1 n2 n3 e1 e2 e3).mono fun e W' ⟨he, bel⟩ => ?_
  subst he
  exact ⟨_, rfl, _, _, _, [], _, [], hW', trodAll_mk1 (shut_bool Tryz.underlying4 _), (trodAll_cons_mk (Below.trod laidOut (by kernel_rfl) (of_decide_eq_true (by kernel_rfl)) k0 bel lt0) (trodAll_cons_mk (Below.trod laidOut (by kernel_rfl) (of_decide_eq_true (by kernel_rfl)) k1' bel lt1) trodAll_mk0)), rfl, bel.frame _, fun h => by cases h⟩

theorem over : Rows.fnExactStepMachineRow.holds Tryz.pinned (OpenSpec.ofChange Rows.fnExactStepMachineSpec) :=
  OpenClaim.holds_of_wide 3 Tryz.f3 rfl rfl rfl rfl rfl rfl rfl ⟨rfl, rfl, rfl, rfl, rfl⟩ rfl rfl rfl rfl rfl (by kernel_rfl) Tryz.func3 (by kernel_rfl)
    (of_decide_eq_true (by kernel_rfl)) (by unfold Func.isWrapper; first | (rw [if_pos (by decide +kernel)]; kernel_rfl) | (rw [if_neg (by decide +kernel)]; exact ⟨rfl, rfl⟩))
    (fun os started H enc _ => lifted os started H enc)
end Go.Proofs.YtdajalchdbgooaaGreat.fnExactStepMachine

namespace Go.Proofs.YtdajalchdbgooaaGreat
theorem fnExactStepMachine_holds : Rows.FnExactStepMachineSaid := fnExactStepMachine.over
#print axioms fnExactStepMachine_holds
end Go.Proofs.YtdajalchdbgooaaGreat
