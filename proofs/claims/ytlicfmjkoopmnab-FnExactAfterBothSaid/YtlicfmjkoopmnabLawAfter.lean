/-
  Proved: whatever the two handlers, the memory and the schedule, the law FnExactAfterBoth returns true, and both read afterwards as they read before: AfterBoth of the program tells what the specification's tells, in memory of its own. No conditions. Written by wip/build/mk_lawafter.py.
-/
import Derived.Test.YtlicfmjkoopmnabHaC
import Derived.Test.YtlicfmjkoopmnabHaE
import Derived.Test.YtlicfmjkoopmnabHaH
import Derived.Deep.RegionHeld3
import Derived.Deep.RegionLaw
import Derived.Deep.AppendLies
import Derived.Deep.CutRange
import Derived.Lib.SmallJoins
import Derived.ChangeOld
import Derived.Below
namespace Go.Proofs.Ytlicfmjkoopmnab.fnExactAfterBoth
open Go.ChangeShapes Go.WideShapes Go.ChangeAt Go.RowKit
open Go.Proofs.Ytlicfmjkoopmnab.W Go.Proofs.Ytlicfmjkoopmnab.C Go.Joins
set_option linter.unusedVariables false
set_option linter.unusedSimpArgs false

theorem own : ownKnob Try.prog.godebug = none := by kernel_rfl
theorem laidOut : laidOutB Try.prog = true := by kernel_rfl
theorem abH_len (g h : Hd) (hh : h.rs.length ≤ 1048576) : (abH g h).rs.length ≤ 1048576 := by
  unfold abH
  split
  · simp only [afL_len]; exact hh
  · simp
theorem toOwn (v : Value) (D : Hd) (w : World) (h : HRow w v D) (hl : D.rs.length ≤ 1048576) :
    Calls Try.prog 14 #[v] w fun e w' => ∃ v', e = .returned v' ∧ HRow w' v' D ∧ Below w.heap.size w w' := toHandler_row v D w h

set_option maxRecDepth 20000 in
set_option maxHeartbeats 8000000 in
theorem walk (q : Int) (R : List Ru) (ga : Option Addr) (gc : Nat) (p : Int) (Q : List Ru) (ha : Option Addr) (hc : Nat) (w : World) (h1 : RuRow w ga R) (m1 : R.length ≤ maxLen) (h2 : RuRow w ha Q) (m2 : Q.length ≤ maxLen) :
    Calls Try.prog 4 #[.agg #[.int .i64 q, .slice ga R.length gc], .agg #[.int .i64 p, .slice ha Q.length hc]] w fun r w' => r = .returned (.bool true) ∧ Below w.heap.size w w' := by
  have H1 := hide h1
  have H2 := hide h2
  clear h1 h2
  go_enter Try.func4, Try.ntmps4
  go_upto_region 2 with fail
  have hB0 : Below w.heap.size w ((w.alloc (.cells #[.int .i64 q, .slice ga R.length gc] 35)).alloc (.cells #[.int .i64 p, .slice ha Q.length hc] 35)) := ((Below.refl _ _).alloc (Nat.le_refl _) _).alloc (by simp) _
  have HX0 := hide ((Bx.new w #[.int .i64 q, .slice ga R.length gc] 35).alloc (.cells #[.int .i64 p, .slice ha Q.length hc] 35))
  have hy0 : Bx ((w.alloc (.cells #[.int .i64 q, .slice ga R.length gc] 35)).alloc (.cells #[.int .i64 p, .slice ha Q.length hc] 35)) (w.heap.size + 1) #[.int .i64 p, .slice ha Q.length hc] 35 := by
    have := Bx.new (w.alloc (.cells #[.int .i64 q, .slice ga R.length gc] 35)) #[.int .i64 p, .slice ha Q.length hc] 35
    simpa using this
  have HY0 := hide hy0
  obtain ⟨w0, hw0⟩ : ∃ w0, w0 = (w.alloc (.cells #[.int .i64 q, .slice ga R.length gc] 35)).alloc (.cells #[.int .i64 p, .slice ha Q.length hc] 35) := ⟨_, rfl⟩
  rw [← hw0] at HX0 HY0 hB0 ⊢
  obtain ⟨XB, hXB⟩ : ∃ XB, XB = w.heap.size := ⟨_, rfl⟩
  obtain ⟨YB, hYB⟩ : ∃ YB, YB = w.heap.size + 1 := ⟨_, rfl⟩
  rw [← hYB] at HY0 ⊢
  rw [← hXB] at HX0 ⊢
  have hXY : XB < YB := by omega
  have hXw : w.heap.size ≤ XB := by omega
  have xl0 : XB < w0.heap.size := HX0.out.lt
  have yl0 : YB < w0.heap.size := HY0.out.lt
  clear hw0 hXB hYB hy0
  have cx := HX0.out.c
  go_wp2_with fail
  refine Calls.mono (szHandler_any ga gc R.length q 1048576 _ m1 (by omega) (by omega)) ?_
  rintro r w1 ⟨r, rfl, hr, hb1⟩
  have hB1 : Below w.heap.size w w1 := hB0.trans (hb1.mono hB0.size)
  have HX1 := hide (HX0.out.below hb1 xl0)
  have HY1 := hide (HY0.out.below hb1 yl0)
  have yl1 : YB < w1.heap.size := HY1.out.lt
  have xl1 : XB < w1.heap.size := HX1.out.lt
  clear hb1 cx HX0 HY0 m1 hB0 xl0 yl0
  by_cases hneg : r < 0
  · clear hr
    go_wp2_with fail
    go_ret
    exact ⟨rfl, hB1⟩
  · obtain ⟨r0, r1, hRl⟩ := hr.resolve_left hneg
    clear hr
    have cy := HY1.out.c
    go_wp2_with fail
    refine Calls.mono (szHandler_any ha hc Q.length p r _ m2 r0 r1) ?_
    rintro r' w3 ⟨r', rfl, hr', hb3⟩
    have hB3 : Below w.heap.size w w3 := hB1.trans (hb3.mono hB1.size)
    have HX3 := hide (HX1.out.below hb3 xl1)
    have HY3 := hide (HY1.out.below hb3 yl1)
    have xl3 : XB < w3.heap.size := HX3.out.lt
    have yl3 : YB < w3.heap.size := HY3.out.lt
    clear hb3 cy HX1 HY1 m2 hB1 xl1 yl1
    by_cases hneg' : r' < 0
    · clear hr'
      go_wp2_with fail
      go_ret
      exact ⟨rfl, hB3⟩
    · obtain ⟨-, -, hQl⟩ := hr'.resolve_left hneg'
      clear hr' r0 r1
      have HTg1 := hide (fun (w' : World) (hb : Below w.heap.size w w') => toHandler_any (.agg #[.int .i64 q, .slice ga R.length gc]) ⟨q, R⟩ w' ⟨ga, gc, rfl, RRow.below H1.out hb, hRl⟩)
      have HTh1 := hide (fun (w' : World) (hb : Below w.heap.size w w') => toHandler_any (.agg #[.int .i64 p, .slice ha Q.length hc]) ⟨p, Q⟩ w' ⟨ha, hc, rfl, RRow.below H2.out hb, hQl⟩)
      have HTg := hide (fun (w' : World) (hb : Below w.heap.size w w') => toHandler_row (.agg #[.int .i64 q, .slice ga R.length gc]) ⟨q, R⟩ w' ⟨ga, gc, rfl, RRow.below H1.out hb, hRl⟩)
      have HTh := hide (fun (w' : World) (hb : Below w.heap.size w w') => toHandler_row (.agg #[.int .i64 p, .slice ha Q.length hc]) ⟨p, Q⟩ w' ⟨ha, hc, rfl, RRow.below H2.out hb, hQl⟩)
      have HSp := hide (fun (v1 v2 : Value) (w : World) (h1 : HRow w v1 ⟨q, R⟩) (h2 : HRow w v2 ⟨p, Q⟩) => specAfter_any v1 v2 ⟨q, R⟩ ⟨p, Q⟩ w h1 h2)
      have HIm := hide (fun (v1 v2 : Value) (w : World) (h1 : HRow w v1 ⟨q, R⟩) (h2 : HRow w v2 ⟨p, Q⟩) => implAfter_any v1 v2 ⟨q, R⟩ ⟨p, Q⟩ w h1 h2)
      have hVl := abH_len ⟨q, R⟩ ⟨p, Q⟩ hQl
      unfold RH HOwn at HSp HIm
      obtain ⟨OK, hOK⟩ : ∃ OK, OK = abOK ⟨q, R⟩ ⟨p, Q⟩ := ⟨_, rfl⟩
      obtain ⟨AH, hAH⟩ : ∃ AH, AH = abH ⟨q, R⟩ ⟨p, Q⟩ := ⟨_, rfl⟩
      simp only [← hOK, ← hAH] at HSp HIm
      rw [← hAH] at hVl
      obtain ⟨U, VL⟩ := AH
      simp only at HSp HIm hVl HTg1 HTh1
      clear hOK hAH
      go_wp2_with fail
      have b0 : w3.cell? ⟨XB, 0, none⟩ = some (.int .i64 q) := HX3.out.c 0
      have b1 : w3.cell? ⟨XB, 1, none⟩ = some (.slice ga R.length gc) := HX3.out.c 1
      have b2 : w3.cell? ⟨YB, 0, none⟩ = some (.int .i64 p) := HY3.out.c 0
      have b3 : w3.cell? ⟨YB, 1, none⟩ = some (.slice ha Q.length hc) := HY3.out.c 1
      have HD0 : Hid (Below w3.heap.size w3 w3.drew) := hide (belowDrewH (Below.refl _ _))
      have HBw : Hid (Below w.heap.size w w3) := hide hB3
      have HXs : Hid (∀ w', Below w3.heap.size w3 w' → w'.cell? ⟨XB, 0, none⟩ = some (.int .i64 q) ∧ w'.cell? ⟨XB, 1, none⟩ = some (.slice ga R.length gc) ∧ w'.cell? ⟨YB, 0, none⟩ = some (.int .i64 p) ∧ w'.cell? ⟨YB, 1, none⟩ = some (.slice ha Q.length hc)) := hide (fun w' hb => ⟨(hb.cell (p := ⟨XB, 0, none⟩) xl3).trans b0, (hb.cell (p := ⟨XB, 1, none⟩) xl3).trans b1, (hb.cell (p := ⟨YB, 0, none⟩) yl3).trans b2, (hb.cell (p := ⟨YB, 1, none⟩) yl3).trans b3⟩)
      go_cut [6, 7] from 27 to 118 (fun v6 v7 wx => ∃ (WB : Nat) (qa : Option Addr) (qc : Nat), v6 = .pointer (some ⟨WB, 0, none⟩) ∧ v7 = .bool OK ∧ Bx wx WB #[.int .i64 U, .slice qa VL.length qc] 39 ∧ SOwn wx w3.heap.size (.slice qa VL.length qc) VL ∧ Below w3.heap.size w3 wx)
      case first =>
        rename_i JJ KK hJJ hKK
        refine wp_region_noPanic ?_
        refine wp_region_held_drew (S := fun w' => w'.cell? ⟨XB, 0, none⟩ = some (.int .i64 q) ∧ w'.cell? ⟨XB, 1, none⟩ = some (.slice ga R.length gc) ∧ w'.cell? ⟨YB, 0, none⟩ = some (.int .i64 p) ∧ w'.cell? ⟨YB, 1, none⟩ = some (.slice ha Q.length hc)) (by kernel_rfl) ⟨b0, b1, b2, b3⟩ (fun hHeld => ?_)
        refine wpAnyH_take (i := 0) (oi := _) (v := ?_) rfl (by kernel_rfl) (by kernel_rfl) (by kernel_rfl) (fun _ _ _ h => h) (Or.inl ⟨by rfl, ?_⟩) (by assumption) ?_
        rotate_left 1
        · (intro w hSw; (try dsimp only at hSw); (first | (go_simp; done) | (go_simp; with_reducible rfl)))
        try simp only [Act.put, List.getElem_toArray, List.getElem_cons_zero, List.getElem_cons_succ, List.setIfInBounds_toArray, List.set_cons_zero, List.set_cons_succ]
        refine wpAnyH_take (i := 2) (oi := _) (v := ?_) rfl (by kernel_rfl) (by kernel_rfl) (by kernel_rfl) (fun _ _ _ h => h) (Or.inl ⟨by rfl, ?_⟩) (by assumption) ?_
        rotate_left 1
        · (intro w hSw; (try dsimp only at hSw); (first | (go_simp; done) | (go_simp; with_reducible rfl)))
        try simp only [Act.put, List.getElem_toArray, List.getElem_cons_zero, List.getElem_cons_succ, List.setIfInBounds_toArray, List.set_cons_zero, List.set_cons_succ]
        have HBx := HD0
        refine wpAnyH_ready (rs := [1, 8]) (by kernel_rfl) (by simp) ?_
        refine AllReadyH.cons (o := _) rfl (fun K hK => ?_) (AllReadyH.cons (o := _) rfl (fun K hK => ?_) AllReadyH.nil)
        · go_simp
          (with_reducible refine Calls.mono (HTg.out _ (HBw.out.trans (HBx.out.mono HBw.out.size))) ?_)
          rintro r wa ⟨va, rfl, hra, hba⟩
          have HBy := hide (HBx.out.trans (hba.mono HBx.out.size))
          have HRa := hide hra
          obtain ⟨aad, aac, rfl⟩ := hra.form
          clear hba hra
          (try go_wp2_with fail)
          refine hK.out _ _ (HXs.out _ HBy.out) (fun hHeld => ?_)
          clear hK K
          try simp only [Act.put, List.getElem_toArray, List.getElem_cons_zero, List.getElem_cons_succ, List.setIfInBounds_toArray, List.set_cons_zero, List.set_cons_succ]
          clear HBx
          have HBx := HBy
          clear HBy
          refine wpAnyH_ready (rs := [3, 8]) (by kernel_rfl) (by simp) ?_
          refine AllReadyH.cons (o := _) rfl (fun K hK => ?_) (AllReadyH.cons (o := _) rfl (fun K hK => ?_) AllReadyH.nil)
          · go_simp
            (with_reducible refine Calls.mono (HTh.out _ (HBw.out.trans (HBx.out.mono HBw.out.size))) ?_)
            rintro r wb ⟨vb, rfl, hrb, hbb⟩
            have HBy := hide (HBx.out.trans (hbb.mono HBx.out.size))
            have HRb := hide (HRa.out.below hbb)
            have HSb := hide hrb
            obtain ⟨bad, bac, rfl⟩ := hrb.form
            clear hbb hrb
            (try go_wp2_with fail)
            refine hK.out _ _ (HXs.out _ HBy.out) (fun hHeld => ?_)
            clear hK K
            try simp only [Act.put, List.getElem_toArray, List.getElem_cons_zero, List.getElem_cons_succ, List.setIfInBounds_toArray, List.set_cons_zero, List.set_cons_succ]
            clear HBx
            have HBx := HBy
            clear HBy
            refine wpAnyH_ready (rs := [4, 8]) (by kernel_rfl) (by simp) ?_
            refine AllReadyH.cons (o := _) rfl (fun K hK => ?_) (AllReadyH.cons (o := _) rfl (fun K hK => ?_) AllReadyH.nil)
            · go_simp
              (with_reducible refine Calls.mono (HSp.out _ _ _ (HRb.out) (HSb.out)) ?_)
              rintro r wd ⟨vd, rfl, ⟨sd, rfl, hod⟩, hbd⟩
              have HBy := hide (HBx.out.trans (hbd.mono HBx.out.size))
              have HMd := hide (show SOwn _ _ sd VL from hod)
              obtain ⟨qa, qc, rfl⟩ := HMd.out.form
              have hBxs := HBx.out.size
              clear hbd hod
              (try go_wp2_with fail)
              refine hK.out _ _ (HXs.out _ HBy.out) (fun hHeld => ?_)
              clear hK K
              try simp only [Act.put, List.getElem_toArray, List.getElem_cons_zero, List.getElem_cons_succ, List.setIfInBounds_toArray, List.set_cons_zero, List.set_cons_succ]
              clear HBx
              have HBx := HBy
              clear HBy
              refine wpAnyH_take (i := 5) (oi := _) (v := ?_) rfl (by kernel_rfl) (by kernel_rfl) (by kernel_rfl) (fun _ _ _ h => h) (Or.inl ⟨by rfl, ?_⟩) (by assumption) ?_
              rotate_left 1
              · (intro w hSw; (try dsimp only at hSw); (first | (go_simp; done) | (go_simp; with_reducible rfl)))
              try simp only [Act.put, List.getElem_toArray, List.getElem_cons_zero, List.getElem_cons_succ, List.setIfInBounds_toArray, List.set_cons_zero, List.set_cons_succ]
              refine wpAnyH_take (i := 6) (oi := _) (v := ?_) rfl (by kernel_rfl) (by kernel_rfl) (by kernel_rfl) (fun _ _ _ h => h) (Or.inl ⟨by rfl, ?_⟩) (by assumption) ?_
              rotate_left 1
              · (intro w hSw; (try dsimp only at hSw); (first | (go_simp; done) | (go_simp; with_reducible rfl)))
              try simp only [Act.put, List.getElem_toArray, List.getElem_cons_zero, List.getElem_cons_succ, List.setIfInBounds_toArray, List.set_cons_zero, List.set_cons_succ]
              refine wpAnyH_take (i := 7) (oi := _) (v := ?_) rfl (by kernel_rfl) (by kernel_rfl) (by kernel_rfl) (fun _ _ _ h => h) (Or.inl ⟨by rfl, ?_⟩) (by assumption) ?_
              rotate_left 1
              · (intro w hSw; (try dsimp only at hSw); (first | (go_simp; done) | (go_simp; with_reducible rfl)))
              try simp only [Act.put, List.getElem_toArray, List.getElem_cons_zero, List.getElem_cons_succ, List.setIfInBounds_toArray, List.set_cons_zero, List.set_cons_succ]
              have hal : Below wd.heap.size wd (wd.alloc (.cells #[.int .i64 0, .slice none 0 0] 39)) := (Below.refl _ _).alloc (Nat.le_refl _) _
              have HBy := hide (HBx.out.trans (hal.mono HBx.out.size))
              have hal2 : Below wd.heap.size wd (wd.alloc (.cells #[.int .i64 U, .slice qa VL.length qc] 39)) := (Below.refl _ _).alloc (Nat.le_refl _) _
              have HBz := hide (HBx.out.trans (hal2.mono HBx.out.size))
              have HMz := hide ((HMd.out.below hal2).lower (base' := w3.heap.size) hBxs)
              clear hal hal2
              refine wpAnyH_ready (rs := [8]) (by kernel_rfl) (by simp) ?_
              refine AllReadyH.cons (o := _) rfl (fun K hK => ?_) AllReadyH.nil
              go_simp
              refine hK.out _ _ (HXs.out _ HBy.out) (fun hHeld => ?_)
              clear hK K
              try simp only [Act.put, List.getElem_toArray, List.getElem_cons_zero, List.getElem_cons_succ, List.setIfInBounds_toArray, List.set_cons_zero, List.set_cons_succ]
              refine wpAnyH_ready (rs := [9]) (by kernel_rfl) (by simp) ?_
              refine AllReadyH.cons (o := _) rfl (fun K hK => ?_) AllReadyH.nil
              have cl := (Bx.new wd #[.int .i64 0, .slice none 0 0] 39).c
              have fl := (Bx.new wd #[.int .i64 0, .slice none 0 0] 39).f
              go_simp
              refine hK.out _ _ (HXs.out _ HBz.out) (fun hHeld => ?_)
              clear hK K
              try simp only [Act.put, List.getElem_toArray, List.getElem_cons_zero, List.getElem_cons_succ, List.setIfInBounds_toArray, List.set_cons_zero, List.set_cons_succ]
              clear cl fl
              refine wpAnyH_take (i := 10) (oi := _) (v := ?_) rfl (by kernel_rfl) (by kernel_rfl) (by kernel_rfl) (fun _ _ _ h => h) (Or.inl ⟨by rfl, ?_⟩) (by assumption) ?_
              rotate_left 1
              · (intro w hSw; (try dsimp only at hSw); (first | (go_simp; done) | (go_simp; with_reducible rfl)))
              try simp only [Act.put, List.getElem_toArray, List.getElem_cons_zero, List.getElem_cons_succ, List.setIfInBounds_toArray, List.set_cons_zero, List.set_cons_succ]
              refine wpAnyH_done (by kernel_rfl) ?_ _
              refine NoPanic.normal ?_
              clear b0 b1 b2 b3 hHeld
              show KK _ _
              refine hKK _ _ (Met.intro (hJJ _ _ ?_))
              (repeat apply Exists.intro)
              refine ⟨?_, rfl⟩
              exact ⟨wd.heap.size, qa, qc, rfl, rfl, Bx.new wd #[.int .i64 U, .slice qa VL.length qc] 39, HMz.out, HBz.out⟩
            · have hzlo : w3.heap.size ≤ wb.heap.size := HBx.out.size
              have hal : Below wb.heap.size wb (wb.alloc (.cells #[.int .i64 0, .slice none 0 0] 39)) := (Below.refl _ _).alloc (Nat.le_refl _) _
              have HBy := hide (HBx.out.trans (hal.mono HBx.out.size))
              have HZ := hide (Bx.new wb #[.int .i64 0, .slice none 0 0] 39)
              have HRb2 := hide (HRb.out.below hal)
              have HSb2 := hide (HSb.out.below hal)
              clear HRb HSb
              have HRb := HRb2
              have HSb := HSb2
              clear HRb2 HSb2
              clear hal
              go_simp
              refine hK.out _ _ (HXs.out _ HBy.out) (fun hHeld => ?_)
              clear hK K
              try simp only [Act.put, List.getElem_toArray, List.getElem_cons_zero, List.getElem_cons_succ, List.setIfInBounds_toArray, List.set_cons_zero, List.set_cons_succ]
              clear HBx
              have HBx := HBy
              clear HBy
              refine wpAnyH_ready (rs := [4]) (by kernel_rfl) (by simp) ?_
              refine AllReadyH.cons (o := _) rfl (fun K hK => ?_) AllReadyH.nil
              go_simp
              have hzl := HZ.out.lt
              (with_reducible refine Calls.mono (HSp.out _ _ _ (HRb.out) (HSb.out)) ?_)
              rintro r wd ⟨vd, rfl, ⟨sd, rfl, hod⟩, hbd⟩
              have HBy := hide (HBx.out.trans (hbd.mono HBx.out.size))
              have HMd := hide (show SOwn _ _ sd VL from hod)
              obtain ⟨qa, qc, rfl⟩ := HMd.out.form
              have hBxs := HBx.out.size
              have HZy := hide (HZ.out.below hbd HZ.out.lt)
              clear hbd hod
              (try go_wp2_with fail)
              refine hK.out _ _ (HXs.out _ HBy.out) (fun hHeld => ?_)
              clear hK K
              try simp only [Act.put, List.getElem_toArray, List.getElem_cons_zero, List.getElem_cons_succ, List.setIfInBounds_toArray, List.set_cons_zero, List.set_cons_succ]
              clear HBx
              have HBx := HBy
              clear HBy
              clear HZ
              have HZ := HZy
              clear HZy
              refine wpAnyH_take (i := 5) (oi := _) (v := ?_) rfl (by kernel_rfl) (by kernel_rfl) (by kernel_rfl) (fun _ _ _ h => h) (Or.inl ⟨by rfl, ?_⟩) (by assumption) ?_
              rotate_left 1
              · (intro w hSw; (try dsimp only at hSw); (first | (go_simp; done) | (go_simp; with_reducible rfl)))
              try simp only [Act.put, List.getElem_toArray, List.getElem_cons_zero, List.getElem_cons_succ, List.setIfInBounds_toArray, List.set_cons_zero, List.set_cons_succ]
              refine wpAnyH_take (i := 6) (oi := _) (v := ?_) rfl (by kernel_rfl) (by kernel_rfl) (by kernel_rfl) (fun _ _ _ h => h) (Or.inl ⟨by rfl, ?_⟩) (by assumption) ?_
              rotate_left 1
              · (intro w hSw; (try dsimp only at hSw); (first | (go_simp; done) | (go_simp; with_reducible rfl)))
              try simp only [Act.put, List.getElem_toArray, List.getElem_cons_zero, List.getElem_cons_succ, List.setIfInBounds_toArray, List.set_cons_zero, List.set_cons_succ]
              refine wpAnyH_take (i := 7) (oi := _) (v := ?_) rfl (by kernel_rfl) (by kernel_rfl) (by kernel_rfl) (fun _ _ _ h => h) (Or.inl ⟨by rfl, ?_⟩) (by assumption) ?_
              rotate_left 1
              · (intro w hSw; (try dsimp only at hSw); (first | (go_simp; done) | (go_simp; with_reducible rfl)))
              try simp only [Act.put, List.getElem_toArray, List.getElem_cons_zero, List.getElem_cons_succ, List.setIfInBounds_toArray, List.set_cons_zero, List.set_cons_succ]
              have hzf := (HZ.out.set 0 (.int .i64 U)).set 1 (.slice qa VL.length qc)
              simp only [List.setIfInBounds_toArray, List.set_cons_zero, List.set_cons_succ] at hzf
              have HZf := hide hzf
              have HOt := hide (((Oth.refl (wb.heap.size) wd).setCell 0 (.int .i64 U)).setCell 1 (.slice qa VL.length qc))
              have HBz : Hid (Below w3.heap.size w3 _) := hide (HBx.out.trans (HOt.out.below HBx.out.size (by omega)))
              have HMz := hide ((HMd.out.same (fun k h1 h2 => HOt.out.block k h2 (by omega))).lower (base' := w3.heap.size) hBxs)
              clear hzf
              refine wpAnyH_ready (rs := [9]) (by kernel_rfl) (by simp) ?_
              refine AllReadyH.cons (o := _) rfl (fun K hK => ?_) AllReadyH.nil
              have cl := HZ.out.c
              have fl := HZ.out.f
              go_simp
              refine hK.out _ _ (HXs.out _ HBz.out) (fun hHeld => ?_)
              clear hK K
              try simp only [Act.put, List.getElem_toArray, List.getElem_cons_zero, List.getElem_cons_succ, List.setIfInBounds_toArray, List.set_cons_zero, List.set_cons_succ]
              clear cl fl
              refine wpAnyH_take (i := 10) (oi := _) (v := ?_) rfl (by kernel_rfl) (by kernel_rfl) (by kernel_rfl) (fun _ _ _ h => h) (Or.inl ⟨by rfl, ?_⟩) (by assumption) ?_
              rotate_left 1
              · (intro w hSw; (try dsimp only at hSw); (first | (go_simp; done) | (go_simp; with_reducible rfl)))
              try simp only [Act.put, List.getElem_toArray, List.getElem_cons_zero, List.getElem_cons_succ, List.setIfInBounds_toArray, List.set_cons_zero, List.set_cons_succ]
              refine wpAnyH_done (by kernel_rfl) ?_ _
              refine NoPanic.normal ?_
              clear b0 b1 b2 b3 hHeld
              show KK _ _
              refine hKK _ _ (Met.intro (hJJ _ _ ?_))
              (repeat apply Exists.intro)
              refine ⟨?_, rfl⟩
              exact ⟨wb.heap.size, qa, qc, rfl, rfl, HZf.out, HMz.out, HBz.out⟩
          · have hzlo : w3.heap.size ≤ wa.heap.size := HBx.out.size
            have hal : Below wa.heap.size wa (wa.alloc (.cells #[.int .i64 0, .slice none 0 0] 39)) := (Below.refl _ _).alloc (Nat.le_refl _) _
            have HBy := hide (HBx.out.trans (hal.mono HBx.out.size))
            have HZ := hide (Bx.new wa #[.int .i64 0, .slice none 0 0] 39)
            have HRa2 := hide (HRa.out.below hal)
            clear HRa
            have HRa := HRa2
            clear HRa2
            clear hal
            go_simp
            refine hK.out _ _ (HXs.out _ HBy.out) (fun hHeld => ?_)
            clear hK K
            try simp only [Act.put, List.getElem_toArray, List.getElem_cons_zero, List.getElem_cons_succ, List.setIfInBounds_toArray, List.set_cons_zero, List.set_cons_succ]
            clear HBx
            have HBx := HBy
            clear HBy
            refine wpAnyH_ready (rs := [3]) (by kernel_rfl) (by simp) ?_
            refine AllReadyH.cons (o := _) rfl (fun K hK => ?_) AllReadyH.nil
            go_simp
            (with_reducible refine Calls.mono (HTh.out _ (HBw.out.trans (HBx.out.mono HBw.out.size))) ?_)
            rintro r wb ⟨vb, rfl, hrb, hbb⟩
            have HBy := hide (HBx.out.trans (hbb.mono HBx.out.size))
            have HRb := hide (HRa.out.below hbb)
            have HSb := hide hrb
            have HZy := hide (HZ.out.below hbb HZ.out.lt)
            obtain ⟨bad, bac, rfl⟩ := hrb.form
            clear hbb hrb
            (try go_wp2_with fail)
            refine hK.out _ _ (HXs.out _ HBy.out) (fun hHeld => ?_)
            clear hK K
            try simp only [Act.put, List.getElem_toArray, List.getElem_cons_zero, List.getElem_cons_succ, List.setIfInBounds_toArray, List.set_cons_zero, List.set_cons_succ]
            clear HBx
            have HBx := HBy
            clear HBy
            clear HZ
            have HZ := HZy
            clear HZy
            refine wpAnyH_ready (rs := [4]) (by kernel_rfl) (by simp) ?_
            refine AllReadyH.cons (o := _) rfl (fun K hK => ?_) AllReadyH.nil
            go_simp
            have hzl := HZ.out.lt
            (with_reducible refine Calls.mono (HSp.out _ _ _ (HRb.out) (HSb.out)) ?_)
            rintro r wd ⟨vd, rfl, ⟨sd, rfl, hod⟩, hbd⟩
            have HBy := hide (HBx.out.trans (hbd.mono HBx.out.size))
            have HMd := hide (show SOwn _ _ sd VL from hod)
            obtain ⟨qa, qc, rfl⟩ := HMd.out.form
            have hBxs := HBx.out.size
            have HZy := hide (HZ.out.below hbd HZ.out.lt)
            clear hbd hod
            (try go_wp2_with fail)
            refine hK.out _ _ (HXs.out _ HBy.out) (fun hHeld => ?_)
            clear hK K
            try simp only [Act.put, List.getElem_toArray, List.getElem_cons_zero, List.getElem_cons_succ, List.setIfInBounds_toArray, List.set_cons_zero, List.set_cons_succ]
            clear HBx
            have HBx := HBy
            clear HBy
            clear HZ
            have HZ := HZy
            clear HZy
            refine wpAnyH_take (i := 5) (oi := _) (v := ?_) rfl (by kernel_rfl) (by kernel_rfl) (by kernel_rfl) (fun _ _ _ h => h) (Or.inl ⟨by rfl, ?_⟩) (by assumption) ?_
            rotate_left 1
            · (intro w hSw; (try dsimp only at hSw); (first | (go_simp; done) | (go_simp; with_reducible rfl)))
            try simp only [Act.put, List.getElem_toArray, List.getElem_cons_zero, List.getElem_cons_succ, List.setIfInBounds_toArray, List.set_cons_zero, List.set_cons_succ]
            refine wpAnyH_take (i := 6) (oi := _) (v := ?_) rfl (by kernel_rfl) (by kernel_rfl) (by kernel_rfl) (fun _ _ _ h => h) (Or.inl ⟨by rfl, ?_⟩) (by assumption) ?_
            rotate_left 1
            · (intro w hSw; (try dsimp only at hSw); (first | (go_simp; done) | (go_simp; with_reducible rfl)))
            try simp only [Act.put, List.getElem_toArray, List.getElem_cons_zero, List.getElem_cons_succ, List.setIfInBounds_toArray, List.set_cons_zero, List.set_cons_succ]
            refine wpAnyH_take (i := 7) (oi := _) (v := ?_) rfl (by kernel_rfl) (by kernel_rfl) (by kernel_rfl) (fun _ _ _ h => h) (Or.inl ⟨by rfl, ?_⟩) (by assumption) ?_
            rotate_left 1
            · (intro w hSw; (try dsimp only at hSw); (first | (go_simp; done) | (go_simp; with_reducible rfl)))
            try simp only [Act.put, List.getElem_toArray, List.getElem_cons_zero, List.getElem_cons_succ, List.setIfInBounds_toArray, List.set_cons_zero, List.set_cons_succ]
            have hzf := (HZ.out.set 0 (.int .i64 U)).set 1 (.slice qa VL.length qc)
            simp only [List.setIfInBounds_toArray, List.set_cons_zero, List.set_cons_succ] at hzf
            have HZf := hide hzf
            have HOt := hide (((Oth.refl (wa.heap.size) wd).setCell 0 (.int .i64 U)).setCell 1 (.slice qa VL.length qc))
            have HBz : Hid (Below w3.heap.size w3 _) := hide (HBx.out.trans (HOt.out.below HBx.out.size (by omega)))
            have HMz := hide ((HMd.out.same (fun k h1 h2 => HOt.out.block k h2 (by omega))).lower (base' := w3.heap.size) hBxs)
            clear hzf
            refine wpAnyH_ready (rs := [9]) (by kernel_rfl) (by simp) ?_
            refine AllReadyH.cons (o := _) rfl (fun K hK => ?_) AllReadyH.nil
            have cl := HZ.out.c
            have fl := HZ.out.f
            go_simp
            refine hK.out _ _ (HXs.out _ HBz.out) (fun hHeld => ?_)
            clear hK K
            try simp only [Act.put, List.getElem_toArray, List.getElem_cons_zero, List.getElem_cons_succ, List.setIfInBounds_toArray, List.set_cons_zero, List.set_cons_succ]
            clear cl fl
            refine wpAnyH_take (i := 10) (oi := _) (v := ?_) rfl (by kernel_rfl) (by kernel_rfl) (by kernel_rfl) (fun _ _ _ h => h) (Or.inl ⟨by rfl, ?_⟩) (by assumption) ?_
            rotate_left 1
            · (intro w hSw; (try dsimp only at hSw); (first | (go_simp; done) | (go_simp; with_reducible rfl)))
            try simp only [Act.put, List.getElem_toArray, List.getElem_cons_zero, List.getElem_cons_succ, List.setIfInBounds_toArray, List.set_cons_zero, List.set_cons_succ]
            refine wpAnyH_done (by kernel_rfl) ?_ _
            refine NoPanic.normal ?_
            clear b0 b1 b2 b3 hHeld
            show KK _ _
            refine hKK _ _ (Met.intro (hJJ _ _ ?_))
            (repeat apply Exists.intro)
            refine ⟨?_, rfl⟩
            exact ⟨wa.heap.size, qa, qc, rfl, rfl, HZf.out, HMz.out, HBz.out⟩
        · have hzlo : w3.heap.size ≤ w3.heap.size := Nat.le_refl _
          have HBy : Hid (Below w3.heap.size w3 (w3.alloc (.cells #[.int .i64 0, .slice none 0 0] 39)).drew) := hide (belowDrewH ((Below.refl w3.heap.size w3).alloc (Nat.le_refl _) (.cells #[.int .i64 0, .slice none 0 0] 39)))
          have HZ := hide ((Bx.new w3 #[.int .i64 0, .slice none 0 0] 39).drew)
          go_simp
          refine hK.out _ _ (HXs.out _ HBy.out) (fun hHeld => ?_)
          clear hK K
          try simp only [Act.put, List.getElem_toArray, List.getElem_cons_zero, List.getElem_cons_succ, List.setIfInBounds_toArray, List.set_cons_zero, List.set_cons_succ]
          clear HBx
          have HBx := HBy
          clear HBy
          refine wpAnyH_ready (rs := [1]) (by kernel_rfl) (by simp) ?_
          refine AllReadyH.cons (o := _) rfl (fun K hK => ?_) AllReadyH.nil
          go_simp
          (with_reducible refine Calls.mono (HTg.out _ (HBw.out.trans (HBx.out.mono HBw.out.size))) ?_)
          rintro r wa ⟨va, rfl, hra, hba⟩
          have HBy := hide (HBx.out.trans (hba.mono HBx.out.size))
          have HRa := hide hra
          have HZy := hide (HZ.out.below hba HZ.out.lt)
          obtain ⟨aad, aac, rfl⟩ := hra.form
          clear hba hra
          (try go_wp2_with fail)
          refine hK.out _ _ (HXs.out _ HBy.out) (fun hHeld => ?_)
          clear hK K
          try simp only [Act.put, List.getElem_toArray, List.getElem_cons_zero, List.getElem_cons_succ, List.setIfInBounds_toArray, List.set_cons_zero, List.set_cons_succ]
          clear HBx
          have HBx := HBy
          clear HBy
          clear HZ
          have HZ := HZy
          clear HZy
          refine wpAnyH_ready (rs := [3]) (by kernel_rfl) (by simp) ?_
          refine AllReadyH.cons (o := _) rfl (fun K hK => ?_) AllReadyH.nil
          go_simp
          (with_reducible refine Calls.mono (HTh.out _ (HBw.out.trans (HBx.out.mono HBw.out.size))) ?_)
          rintro r wb ⟨vb, rfl, hrb, hbb⟩
          have HBy := hide (HBx.out.trans (hbb.mono HBx.out.size))
          have HRb := hide (HRa.out.below hbb)
          have HSb := hide hrb
          have HZy := hide (HZ.out.below hbb HZ.out.lt)
          obtain ⟨bad, bac, rfl⟩ := hrb.form
          clear hbb hrb
          (try go_wp2_with fail)
          refine hK.out _ _ (HXs.out _ HBy.out) (fun hHeld => ?_)
          clear hK K
          try simp only [Act.put, List.getElem_toArray, List.getElem_cons_zero, List.getElem_cons_succ, List.setIfInBounds_toArray, List.set_cons_zero, List.set_cons_succ]
          clear HBx
          have HBx := HBy
          clear HBy
          clear HZ
          have HZ := HZy
          clear HZy
          refine wpAnyH_ready (rs := [4]) (by kernel_rfl) (by simp) ?_
          refine AllReadyH.cons (o := _) rfl (fun K hK => ?_) AllReadyH.nil
          go_simp
          have hzl := HZ.out.lt
          (with_reducible refine Calls.mono (HSp.out _ _ _ (HRb.out) (HSb.out)) ?_)
          rintro r wd ⟨vd, rfl, ⟨sd, rfl, hod⟩, hbd⟩
          have HBy := hide (HBx.out.trans (hbd.mono HBx.out.size))
          have HMd := hide (show SOwn _ _ sd VL from hod)
          obtain ⟨qa, qc, rfl⟩ := HMd.out.form
          have hBxs := HBx.out.size
          have HZy := hide (HZ.out.below hbd HZ.out.lt)
          clear hbd hod
          (try go_wp2_with fail)
          refine hK.out _ _ (HXs.out _ HBy.out) (fun hHeld => ?_)
          clear hK K
          try simp only [Act.put, List.getElem_toArray, List.getElem_cons_zero, List.getElem_cons_succ, List.setIfInBounds_toArray, List.set_cons_zero, List.set_cons_succ]
          clear HBx
          have HBx := HBy
          clear HBy
          clear HZ
          have HZ := HZy
          clear HZy
          refine wpAnyH_take (i := 5) (oi := _) (v := ?_) rfl (by kernel_rfl) (by kernel_rfl) (by kernel_rfl) (fun _ _ _ h => h) (Or.inl ⟨by rfl, ?_⟩) (by assumption) ?_
          rotate_left 1
          · (intro w hSw; (try dsimp only at hSw); (first | (go_simp; done) | (go_simp; with_reducible rfl)))
          try simp only [Act.put, List.getElem_toArray, List.getElem_cons_zero, List.getElem_cons_succ, List.setIfInBounds_toArray, List.set_cons_zero, List.set_cons_succ]
          refine wpAnyH_take (i := 6) (oi := _) (v := ?_) rfl (by kernel_rfl) (by kernel_rfl) (by kernel_rfl) (fun _ _ _ h => h) (Or.inl ⟨by rfl, ?_⟩) (by assumption) ?_
          rotate_left 1
          · (intro w hSw; (try dsimp only at hSw); (first | (go_simp; done) | (go_simp; with_reducible rfl)))
          try simp only [Act.put, List.getElem_toArray, List.getElem_cons_zero, List.getElem_cons_succ, List.setIfInBounds_toArray, List.set_cons_zero, List.set_cons_succ]
          refine wpAnyH_take (i := 7) (oi := _) (v := ?_) rfl (by kernel_rfl) (by kernel_rfl) (by kernel_rfl) (fun _ _ _ h => h) (Or.inl ⟨by rfl, ?_⟩) (by assumption) ?_
          rotate_left 1
          · (intro w hSw; (try dsimp only at hSw); (first | (go_simp; done) | (go_simp; with_reducible rfl)))
          try simp only [Act.put, List.getElem_toArray, List.getElem_cons_zero, List.getElem_cons_succ, List.setIfInBounds_toArray, List.set_cons_zero, List.set_cons_succ]
          have hzf := (HZ.out.set 0 (.int .i64 U)).set 1 (.slice qa VL.length qc)
          simp only [List.setIfInBounds_toArray, List.set_cons_zero, List.set_cons_succ] at hzf
          have HZf := hide hzf
          have HOt := hide (((Oth.refl (w3.heap.size) wd).setCell 0 (.int .i64 U)).setCell 1 (.slice qa VL.length qc))
          have HBz : Hid (Below w3.heap.size w3 _) := hide (HBx.out.trans (HOt.out.below HBx.out.size (by omega)))
          have HMz := hide ((HMd.out.same (fun k h1 h2 => HOt.out.block k h2 (by omega))).lower (base' := w3.heap.size) hBxs)
          clear hzf
          refine wpAnyH_ready (rs := [9]) (by kernel_rfl) (by simp) ?_
          refine AllReadyH.cons (o := _) rfl (fun K hK => ?_) AllReadyH.nil
          have cl := HZ.out.c
          have fl := HZ.out.f
          go_simp
          refine hK.out _ _ (HXs.out _ HBz.out) (fun hHeld => ?_)
          clear hK K
          try simp only [Act.put, List.getElem_toArray, List.getElem_cons_zero, List.getElem_cons_succ, List.setIfInBounds_toArray, List.set_cons_zero, List.set_cons_succ]
          clear cl fl
          refine wpAnyH_take (i := 10) (oi := _) (v := ?_) rfl (by kernel_rfl) (by kernel_rfl) (by kernel_rfl) (fun _ _ _ h => h) (Or.inl ⟨by rfl, ?_⟩) (by assumption) ?_
          rotate_left 1
          · (intro w hSw; (try dsimp only at hSw); (first | (go_simp; done) | (go_simp; with_reducible rfl)))
          try simp only [Act.put, List.getElem_toArray, List.getElem_cons_zero, List.getElem_cons_succ, List.setIfInBounds_toArray, List.set_cons_zero, List.set_cons_succ]
          refine wpAnyH_done (by kernel_rfl) ?_ _
          refine NoPanic.normal ?_
          clear b0 b1 b2 b3 hHeld
          show KK _ _
          refine hKK _ _ (Met.intro (hJJ _ _ ?_))
          (repeat apply Exists.intro)
          refine ⟨?_, rfl⟩
          exact ⟨w3.heap.size, qa, qc, rfl, rfl, HZf.out, HMz.out, HBz.out⟩
      case rest =>
        obtain ⟨WB, qa, qc, rfl, rfl, hWx, hWm, hBc⟩ := hcut
        have hBwc : Below w.heap.size w wc := hB3.trans (hBc.mono hB3.size)
        have HBc := hide hBwc
        have HW := hide hWx
        have HWm := hide hWm
        have wlc : WB < wc.heap.size := hWx.lt
        have hwq : ∀ k, (Value.slice qa VL.length qc).ownBlock = some k → k < wc.heap.size := fun k hk => (hWm.lt k hk).2
        have HXc := hide (HX3.out.below hBc xl3)
        have HYc := hide (HY3.out.below hBc yl3)
        have xlc : XB < wc.heap.size := HXc.out.lt
        have ylc : YB < wc.heap.size := HYc.out.lt
        clear hBwc hWx hWm hBc hB3 HX3 HY3 b0 b1 b2 b3 HXs HBw HD0 xl3 yl3
        have cxc := HXc.out.c
        go_wp2_with fail
        refine Calls.mono (HTg1.out _ HBc.out) ?_
        rintro r we ⟨xg, rfl, hxg, hre, hbe⟩
        have HCe : Hid (Below wc.heap.size wc we) := hide hbe
        have HRe := hide hre
        clear hbe hre cxc
        have hbe2 : Below we.heap.size we (we.alloc (.cells #[.int .i64 q, .slice (some ⟨xg, 0, none⟩) R.length R.length] 39)) := (Below.refl _ _).alloc (Nat.le_refl _) _
        have HP := hide (Bx.new we #[.int .i64 q, .slice (some ⟨xg, 0, none⟩) R.length R.length] 39)
        have HCe2 := hide (HCe.out.trans (hbe2.mono HCe.out.size))
        have HRe2 := hide (HRe.out.below hbe2)
        obtain ⟨we2, hwe2⟩ : ∃ we2, we2 = we.alloc (.cells #[.int .i64 q, .slice (some ⟨xg, 0, none⟩) R.length R.length] 39) := ⟨_, rfl⟩
        obtain ⟨PB, hPB⟩ : ∃ PB, PB = we.heap.size := ⟨_, rfl⟩
        rw [← hwe2] at HP HCe2 HRe2
        rw [← hPB] at HP
        have HWe := hide hwe2
        have HPB := hide hPB
        have pl2 : PB < we2.heap.size := HP.out.lt
        have xgl := HRe2.out.lt
        have hce := HCe.out.size
        have hpc : wc.heap.size ≤ PB := by omega
        have hxgP : xg < PB := by have := HRe.out.lt; omega
        clear hbe2 hwe2 hPB HCe HRe
        go_upto_region 10 with fail
        rw [← HWe.out, ← HPB.out]
        clear HWe HPB
        have cyc := (HYc.out.below HCe2.out ylc).c
        have hyl2 : YB < we2.heap.size := Nat.lt_of_lt_of_le ylc HCe2.out.size
        go_wp2_with fail
        refine Calls.mono (HTh1.out _ (HBc.out.trans (HCe2.out.mono HBc.out.size))) ?_
        rintro r wf ⟨yg, rfl, hyg, hrf, hbf⟩
        have HCf := hide (HCe2.out.trans (hbf.mono HCe2.out.size))
        have HRf := hide hrf
        have HPf := hide (HP.out.below hbf pl2)
        have HXRf := hide (HRe2.out.below hbf)
        have hsf := hbf.size
        clear hbf hrf cyc HP HRe2 HCe2
        have hbf2 : Below wf.heap.size wf (wf.alloc (.cells #[.int .i64 p, .slice (some ⟨yg, 0, none⟩) Q.length Q.length] 39)) := (Below.refl _ _).alloc (Nat.le_refl _) _
        have HQ := hide (Bx.new wf #[.int .i64 p, .slice (some ⟨yg, 0, none⟩) Q.length Q.length] 39)
        have HCg := hide (HCf.out.trans (hbf2.mono HCf.out.size))
        have HRg := hide (HRf.out.below hbf2)
        have HPg := hide (HPf.out.below hbf2 HPf.out.lt)
        have HXRg := hide (HXRf.out.below hbf2)
        obtain ⟨wg, hwg⟩ : ∃ wg, wg = wf.alloc (.cells #[.int .i64 p, .slice (some ⟨yg, 0, none⟩) Q.length Q.length] 39) := ⟨_, rfl⟩
        obtain ⟨QB, hQB⟩ : ∃ QB, QB = wf.heap.size := ⟨_, rfl⟩
        rw [← hwg] at HQ HCg HRg HPg HXRg
        rw [← hQB] at HQ
        have HWg := hide hwg
        have HQB := hide hQB
        have ql2 : QB < wg.heap.size := HQ.out.lt
        have hygl := HRf.out.lt
        have hygQ : yg < QB := by omega
        have hPQ : PB < QB := by omega
        have hPyg : PB < yg := by omega
        clear hbf2 hwg hQB HCf HRf HPf HXRf hygl
        go_upto_region 11 with fail
        rw [← HWg.out, ← HQB.out]
        clear HWg HQB
        have cpg := HPg.out.c
        have cqg := HQ.out.c
        have plg : PB < wg.heap.size := HPg.out.lt
        have HIc := hide (HIm.out _ _ wg (show HRow wg (.agg #[.int .i64 q, .slice (some ⟨xg, 0, none⟩) R.length R.length]) ⟨q, R⟩ from ⟨_, _, rfl, HXRg.out.row, hRl⟩) (show HRow wg (.agg #[.int .i64 p, .slice (some ⟨yg, 0, none⟩) Q.length Q.length]) ⟨p, Q⟩ from ⟨_, _, rfl, HRg.out.row, hQl⟩))
        go_wp2_with fail
        refine Calls.mono HIc.out ?_
        rintro r wi ⟨vi, rfl, ⟨si, rfl, hoi⟩, hbi⟩
        have HGi := hide (show SOwn wi wg.heap.size si VL from hoi)
        obtain ⟨ta, tc, rfl⟩ := HGi.out.form
        have HCi := hide (HCg.out.trans (hbi.mono HCg.out.size))
        have HRi := hide (HRg.out.below hbi)
        have HXRi := hide (HXRg.out.below hbi)
        have HPi := hide (HPg.out.below hbi plg)
        have HQi := hide (HQ.out.below hbi ql2)
        have hsi := hbi.size
        clear hbi hoi cpg cqg HIc HRg HXRg HPg HQ HCg
        have hbj : Below wi.heap.size wi (wi.alloc (.cells #[.int .i64 U, .slice ta VL.length tc] 39)) := (Below.refl _ _).alloc (Nat.le_refl _) _
        have HE := hide (Bx.new wi #[.int .i64 U, .slice ta VL.length tc] 39)
        have HCj := hide (HCi.out.trans (hbj.mono HCi.out.size))
        have HRj := hide (HRi.out.below hbj)
        have HXRj := hide (HXRi.out.below hbj)
        have HPj := hide (HPi.out.below hbj HPi.out.lt)
        have HQj := hide (HQi.out.below hbj HQi.out.lt)
        have HGj := hide (HGi.out.below hbj)
        obtain ⟨wj, hwj⟩ : ∃ wj, wj = wi.alloc (.cells #[.int .i64 U, .slice ta VL.length tc] 39) := ⟨_, rfl⟩
        obtain ⟨EB, hEB⟩ : ∃ EB, EB = wi.heap.size := ⟨_, rfl⟩
        rw [← hwj] at HE HCj HRj HXRj HPj HQj HGj
        rw [← hEB] at HE
        have HWj := hide hwj
        have HEB := hide hEB
        have elj : EB < wj.heap.size := HE.out.lt
        have hQE : QB < EB := by omega
        have hgE : ∀ k, (Value.slice ta VL.length tc).ownBlock = some k → wg.heap.size ≤ k ∧ k < EB := fun k hk => by have := HGi.out.lt k hk; omega
        clear hbj hwj hEB HCi HRi HXRi HPi HQi HGi
        go_upto_region 12 with fail
        rw [← HWj.out, ← HEB.out]
        clear HWj HEB
        have cej := HE.out.c
        have cwj := (HW.out.below HCj.out wlc).c
        have hwlj : WB < wj.heap.size := Nat.lt_of_lt_of_le wlc HCj.out.size
        go_wp2_with fail
        refine (eqHandler_row _ _ ⟨U, VL⟩ _ (HGj.out.row hVl) ((HWm.out.below HCj.out).row hVl)).mono ?_
        rintro r wk ⟨rfl, hbk⟩
        have HCk := hide (HCj.out.trans (hbk.mono HCj.out.size))
        have HRk := hide (HRj.out.below hbk)
        have HXRk := hide (HXRj.out.below hbk)
        have HPk := hide (HPj.out.below hbk HPj.out.lt)
        have HQk := hide (HQj.out.below hbk HQj.out.lt)
        have HGk := hide (HGj.out.below hbk)
        have HEk := hide (HE.out.below hbk elj)
        have hsk := hbk.size
        clear hbk cej cwj HRj HXRj HPj HQj HGj HE HCj
        go_wp2_with fail
        have b0 : wk.cell? ⟨XB, 0, none⟩ = some (.int .i64 q) := (HXc.out.below HCk.out xlc).c 0
        have b1 : wk.cell? ⟨XB, 1, none⟩ = some (.slice ga R.length gc) := (HXc.out.below HCk.out xlc).c 1
        have b2 : wk.cell? ⟨PB, 0, none⟩ = some (.int .i64 q) := HPk.out.c 0
        have b3 : wk.cell? ⟨PB, 1, none⟩ = some (.slice (some ⟨xg, 0, none⟩) R.length R.length) := HPk.out.c 1
        have hxk : XB < wk.heap.size := Nat.lt_of_lt_of_le xlc HCk.out.size
        have hpk : PB < wk.heap.size := HPk.out.lt
        have HN0 : Hid (Below wk.heap.size wk wk.drew) := hide (belowDrewH (Below.refl _ _))
        have HBg : Hid (Below w.heap.size w wk.drew) := hide (belowDrewH (HBc.out.trans (HCk.out.mono HBc.out.size)))
        have HOg : Hid (HRow wk.drew (.agg #[.int .i64 q, .slice (some ⟨xg, 0, none⟩) R.length R.length]) ⟨q, R⟩) := hide ⟨_, _, rfl, RRow.below HXRk.out.row HN0.out, hRl⟩
        refine wp_region_noPanic ?_
        refine wp_region_held_drew (S := fun w' => w'.cell? ⟨XB, 0, none⟩ = some (.int .i64 q) ∧ w'.cell? ⟨XB, 1, none⟩ = some (.slice ga R.length gc) ∧ w'.cell? ⟨PB, 0, none⟩ = some (.int .i64 q) ∧ w'.cell? ⟨PB, 1, none⟩ = some (.slice (some ⟨xg, 0, none⟩) R.length R.length)) (by kernel_rfl) ⟨b0, b1, b2, b3⟩ (fun hHeld => ?_)
        refine wpAnyH_take (i := 0) (oi := _) (v := ?_) rfl (by kernel_rfl) (by kernel_rfl) (by kernel_rfl) (fun _ _ _ h => h) (Or.inl ⟨by rfl, ?_⟩) (by assumption) ?_
        rotate_left 1
        · (intro w hSw; (try dsimp only at hSw); (first | (go_simp; done) | (go_simp; with_reducible rfl)))
        try simp only [Act.put, List.getElem_toArray, List.getElem_cons_zero, List.getElem_cons_succ, List.setIfInBounds_toArray, List.set_cons_zero, List.set_cons_succ]
        refine wpAnyH_take (i := 1) (oi := _) (v := ?_) rfl (by kernel_rfl) (by kernel_rfl) (by kernel_rfl) (fun _ _ _ h => h) (Or.inl ⟨by rfl, ?_⟩) (by assumption) ?_
        rotate_left 1
        · (intro w hSw; (try dsimp only at hSw); (first | (go_simp; done) | (go_simp; with_reducible rfl)))
        try simp only [Act.put, List.getElem_toArray, List.getElem_cons_zero, List.getElem_cons_succ, List.setIfInBounds_toArray, List.set_cons_zero, List.set_cons_succ]
        refine wpAnyH_ready (rs := [2]) (by kernel_rfl) (by simp) ?_
        refine AllReadyH.cons (o := _) rfl (fun K hK => ?_) AllReadyH.nil
        go_simp
        (with_reducible refine Calls.mono (HTg.out _ HBg.out) ?_)
        rintro r wmh ⟨vh, rfl, hoh, hbh⟩
        have HNh := hide (HN0.out.trans (hbh.mono HN0.out.size))
        have HOh := hide hoh
        have HOy := hide (HOg.out.below hbh)
        have hzh : wk.heap.size ≤ wmh.heap.size := hbh.size
        have fh0 := (hbh.cell (p := ⟨XB, 0, none⟩) (show XB < wk.heap.size by omega)).trans b0
        have fh1 := (hbh.cell (p := ⟨XB, 1, none⟩) (show XB < wk.heap.size by omega)).trans b1
        have fh2 := (hbh.cell (p := ⟨PB, 0, none⟩) (show PB < wk.heap.size by omega)).trans b2
        have fh3 := (hbh.cell (p := ⟨PB, 1, none⟩) (show PB < wk.heap.size by omega)).trans b3
        obtain ⟨had, hac, rfl⟩ := hoh.form
        clear hbh hoh
        (try go_wp2_with fail)
        refine hK.out _ _ ⟨fh0, fh1, fh2, fh3⟩ (fun hHeld => ?_)
        clear hK K
        try simp only [Act.put, List.getElem_toArray, List.getElem_cons_zero, List.getElem_cons_succ, List.setIfInBounds_toArray, List.set_cons_zero, List.set_cons_succ]
        refine wpAnyH_ready (rs := [3]) (by kernel_rfl) (by simp) ?_
        refine AllReadyH.cons (o := _) rfl (fun K hK => ?_) AllReadyH.nil
        go_simp
        (with_reducible refine Calls.mono (eqHandler_row _ _ ⟨q, R⟩ _ HOy.out HOh.out) ?_)
        rintro r wn ⟨rfl, hbo⟩
        have HNo := hide (HNh.out.trans (hbo.mono HNh.out.size))
        have hzo : wmh.heap.size ≤ wn.heap.size := hbo.size
        have fk0 := (hbo.cell (p := ⟨XB, 0, none⟩) (show XB < wmh.heap.size by omega)).trans fh0
        have fk1 := (hbo.cell (p := ⟨XB, 1, none⟩) (show XB < wmh.heap.size by omega)).trans fh1
        have fk2 := (hbo.cell (p := ⟨PB, 0, none⟩) (show PB < wmh.heap.size by omega)).trans fh2
        have fk3 := (hbo.cell (p := ⟨PB, 1, none⟩) (show PB < wmh.heap.size by omega)).trans fh3
        clear hbo
        (try go_wp2_with fail)
        refine hK.out _ _ ⟨fk0, fk1, fk2, fk3⟩ (fun hHeld => ?_)
        clear hK K
        try simp only [Act.put, List.getElem_toArray, List.getElem_cons_zero, List.getElem_cons_succ, List.setIfInBounds_toArray, List.set_cons_zero, List.set_cons_succ]
        refine wpAnyH_take (i := 4) (oi := _) (v := ?_) rfl (by kernel_rfl) (by kernel_rfl) (by kernel_rfl) (fun _ _ _ h => h) (Or.inl ⟨by rfl, ?_⟩) (by assumption) ?_
        rotate_left 1
        · (intro w hSw; (try dsimp only at hSw); (first | (go_simp; done) | (go_simp; with_reducible rfl)))
        try simp only [Act.put, List.getElem_toArray, List.getElem_cons_zero, List.getElem_cons_succ, List.setIfInBounds_toArray, List.set_cons_zero, List.set_cons_succ]
        refine wpAnyH_done (by kernel_rfl) ?_ _
        refine NoPanic.normal ?_
        have HCl := hide (HCk.out.trans (HNo.out.mono HCk.out.size))
        have HRl := hide (HRk.out.below HNo.out)
        have HXRl := hide (HXRk.out.below HNo.out)
        have HPl := hide (HPk.out.below HNo.out HPk.out.lt)
        have HQl := hide (HQk.out.below HNo.out HQk.out.lt)
        have HGl := hide (HGk.out.below HNo.out)
        have HEl := hide (HEk.out.below HNo.out HEk.out.lt)
        have hsl := HNo.out.size
        clear b0 b1 b2 b3 fh0 fh1 fh2 fh3 fk0 fk1 fk2 fk3 HNh HNo HOh HOy HN0 HBg HOg hzh hzo HRk HXRk HPk HQk HGk HEk HCk hpk hxk
        go_wp2_with fail
        have b0 : wn.cell? ⟨YB, 0, none⟩ = some (.int .i64 p) := (HYc.out.below HCl.out ylc).c 0
        have b1 : wn.cell? ⟨YB, 1, none⟩ = some (.slice ha Q.length hc) := (HYc.out.below HCl.out ylc).c 1
        have b2 : wn.cell? ⟨QB, 0, none⟩ = some (.int .i64 p) := HQl.out.c 0
        have b3 : wn.cell? ⟨QB, 1, none⟩ = some (.slice (some ⟨yg, 0, none⟩) Q.length Q.length) := HQl.out.c 1
        have hyn : YB < wn.heap.size := Nat.lt_of_lt_of_le ylc HCl.out.size
        have hqn : QB < wn.heap.size := HQl.out.lt
        have HN0 : Hid (Below wn.heap.size wn wn.drew) := hide (belowDrewH (Below.refl _ _))
        have HBg : Hid (Below w.heap.size w wn.drew) := hide (belowDrewH (HBc.out.trans (HCl.out.mono HBc.out.size)))
        have HOg : Hid (HRow wn.drew (.agg #[.int .i64 p, .slice (some ⟨yg, 0, none⟩) Q.length Q.length]) ⟨p, Q⟩) := hide ⟨_, _, rfl, RRow.below HRl.out.row HN0.out, hQl⟩
        refine wp_region_noPanic ?_
        refine wp_region_held_drew (S := fun w' => w'.cell? ⟨YB, 0, none⟩ = some (.int .i64 p) ∧ w'.cell? ⟨YB, 1, none⟩ = some (.slice ha Q.length hc) ∧ w'.cell? ⟨QB, 0, none⟩ = some (.int .i64 p) ∧ w'.cell? ⟨QB, 1, none⟩ = some (.slice (some ⟨yg, 0, none⟩) Q.length Q.length)) (by kernel_rfl) ⟨b0, b1, b2, b3⟩ (fun hHeld => ?_)
        refine wpAnyH_take (i := 0) (oi := _) (v := ?_) rfl (by kernel_rfl) (by kernel_rfl) (by kernel_rfl) (fun _ _ _ h => h) (Or.inl ⟨by rfl, ?_⟩) (by assumption) ?_
        rotate_left 1
        · (intro w hSw; (try dsimp only at hSw); (first | (go_simp; done) | (go_simp; with_reducible rfl)))
        try simp only [Act.put, List.getElem_toArray, List.getElem_cons_zero, List.getElem_cons_succ, List.setIfInBounds_toArray, List.set_cons_zero, List.set_cons_succ]
        refine wpAnyH_take (i := 1) (oi := _) (v := ?_) rfl (by kernel_rfl) (by kernel_rfl) (by kernel_rfl) (fun _ _ _ h => h) (Or.inl ⟨by rfl, ?_⟩) (by assumption) ?_
        rotate_left 1
        · (intro w hSw; (try dsimp only at hSw); (first | (go_simp; done) | (go_simp; with_reducible rfl)))
        try simp only [Act.put, List.getElem_toArray, List.getElem_cons_zero, List.getElem_cons_succ, List.setIfInBounds_toArray, List.set_cons_zero, List.set_cons_succ]
        refine wpAnyH_ready (rs := [2]) (by kernel_rfl) (by simp) ?_
        refine AllReadyH.cons (o := _) rfl (fun K hK => ?_) AllReadyH.nil
        go_simp
        (with_reducible refine Calls.mono (HTh.out _ HBg.out) ?_)
        rintro r wph ⟨vh, rfl, hoh, hbh⟩
        have HNh := hide (HN0.out.trans (hbh.mono HN0.out.size))
        have HOh := hide hoh
        have HOy := hide (HOg.out.below hbh)
        have hzh : wn.heap.size ≤ wph.heap.size := hbh.size
        have fh0 := (hbh.cell (p := ⟨YB, 0, none⟩) (show YB < wn.heap.size by omega)).trans b0
        have fh1 := (hbh.cell (p := ⟨YB, 1, none⟩) (show YB < wn.heap.size by omega)).trans b1
        have fh2 := (hbh.cell (p := ⟨QB, 0, none⟩) (show QB < wn.heap.size by omega)).trans b2
        have fh3 := (hbh.cell (p := ⟨QB, 1, none⟩) (show QB < wn.heap.size by omega)).trans b3
        obtain ⟨had, hac, rfl⟩ := hoh.form
        clear hbh hoh
        (try go_wp2_with fail)
        refine hK.out _ _ ⟨fh0, fh1, fh2, fh3⟩ (fun hHeld => ?_)
        clear hK K
        try simp only [Act.put, List.getElem_toArray, List.getElem_cons_zero, List.getElem_cons_succ, List.setIfInBounds_toArray, List.set_cons_zero, List.set_cons_succ]
        refine wpAnyH_ready (rs := [3]) (by kernel_rfl) (by simp) ?_
        refine AllReadyH.cons (o := _) rfl (fun K hK => ?_) AllReadyH.nil
        go_simp
        (with_reducible refine Calls.mono (eqHandler_row _ _ ⟨p, Q⟩ _ HOy.out HOh.out) ?_)
        rintro r wo ⟨rfl, hbo⟩
        have HNo := hide (HNh.out.trans (hbo.mono HNh.out.size))
        have hzo : wph.heap.size ≤ wo.heap.size := hbo.size
        have fk0 := (hbo.cell (p := ⟨YB, 0, none⟩) (show YB < wph.heap.size by omega)).trans fh0
        have fk1 := (hbo.cell (p := ⟨YB, 1, none⟩) (show YB < wph.heap.size by omega)).trans fh1
        have fk2 := (hbo.cell (p := ⟨QB, 0, none⟩) (show QB < wph.heap.size by omega)).trans fh2
        have fk3 := (hbo.cell (p := ⟨QB, 1, none⟩) (show QB < wph.heap.size by omega)).trans fh3
        clear hbo
        (try go_wp2_with fail)
        refine hK.out _ _ ⟨fk0, fk1, fk2, fk3⟩ (fun hHeld => ?_)
        clear hK K
        try simp only [Act.put, List.getElem_toArray, List.getElem_cons_zero, List.getElem_cons_succ, List.setIfInBounds_toArray, List.set_cons_zero, List.set_cons_succ]
        refine wpAnyH_take (i := 4) (oi := _) (v := ?_) rfl (by kernel_rfl) (by kernel_rfl) (by kernel_rfl) (fun _ _ _ h => h) (Or.inl ⟨by rfl, ?_⟩) (by assumption) ?_
        rotate_left 1
        · (intro w hSw; (try dsimp only at hSw); (first | (go_simp; done) | (go_simp; with_reducible rfl)))
        try simp only [Act.put, List.getElem_toArray, List.getElem_cons_zero, List.getElem_cons_succ, List.setIfInBounds_toArray, List.set_cons_zero, List.set_cons_succ]
        refine wpAnyH_done (by kernel_rfl) ?_ _
        refine NoPanic.normal ?_
        have HCo := hide (HCl.out.trans (HNo.out.mono HCl.out.size))
        have HRo := hide (HRl.out.below HNo.out)
        have HXRo := hide (HXRl.out.below HNo.out)
        have HPo := hide (HPl.out.below HNo.out HPl.out.lt)
        have HQo := hide (HQl.out.below HNo.out HQl.out.lt)
        have HGo := hide (HGl.out.below HNo.out)
        have HEo := hide (HEl.out.below HNo.out HEl.out.lt)
        have hso := HNo.out.size
        clear b0 b1 b2 b3 fh0 fh1 fh2 fh3 fk0 fk1 fk2 fk3 HNh HNo HOh HOy HN0 HBg HOg hzh hzo HRl HXRl HPl HQl HGl HEl HCl hqn hyn
        have elo : EB < wo.heap.size := HEo.out.lt
        have HXO := hide (SOwn.ofBlk HXRo.out (base := wc.heap.size) (by omega) hRl)
        have HYO := hide (SOwn.ofBlk HRo.out (base := wc.heap.size) (by omega) hQl)
        have cpo := HPo.out.c
        go_wp2_with fail
        refine (markHandler_any q _ _ wc.heap.size R.length 1 _ _ hRl (by omega) HXO.out).mono ?_
        rintro r wq ⟨rfl, -, hg1⟩
        have HQq : Hid (Bx wq QB _ _) := hide ((hg1.block QB (by omega) (fun e => by simp [Value.ownBlock] at e; omega)).trans HQo.out)
        have HEq : Hid (Bx wq EB _ _) := hide ((hg1.block EB (by omega) (fun e => by simp [Value.ownBlock] at e; omega)).trans HEo.out)
        have HGq := hide (HGo.out.grown hg1 (fun k hk e => by have := hgE k hk; simp [Value.ownBlock] at e; omega))
        have HYq := hide (HYO.out.grown hg1 (fun k hk e => by simp [Value.ownBlock] at e hk; omega))
        have HCq : Hid (Below wc.heap.size wc wq) := hide (HCo.out.grown hg1 HCo.out.size (fun k hk => by simp [Value.ownBlock] at hk; omega))
        have hsq := hg1.size
        clear hg1 cpo HPo HQo HEo HGo HYO HXO HCo HRo HXRo
        obtain ⟨K1, hK1⟩ : ∃ K1, K1 = 1 + R.length * 2 := ⟨_, rfl⟩
        rw [← hK1]
        have hk1 : K1 ≤ 1 + 1048576 * 2 := by omega
        clear hK1
        have cqq := HQq.out.c
        go_wp2_with fail
        refine (markHandler_any p _ _ wc.heap.size Q.length K1 _ _ hQl (by omega) HYq.out).mono ?_
        rintro r ws ⟨rfl, -, hg2⟩
        have HEs : Hid (Bx ws EB _ _) := hide ((hg2.block EB (by omega) (fun e => by simp [Value.ownBlock] at e; omega)).trans HEq.out)
        have HGs := hide (HGq.out.grown hg2 (fun k hk e => by have := hgE k hk; simp [Value.ownBlock] at e; omega))
        have HCs : Hid (Below wc.heap.size wc ws) := hide (HCq.out.grown hg2 HCq.out.size (fun k hk => by simp [Value.ownBlock] at hk; omega))
        have hss := hg2.size
        clear hg2 cqq HQq HEq HGq HYq HCq
        obtain ⟨K2, hK2⟩ : ∃ K2, K2 = K1 + Q.length * 2 := ⟨_, rfl⟩
        rw [← hK2]
        have hk2 : ¬ ((K2 : Nat) : Int) < 0 := by omega
        clear hK2
        have ces := HEs.out.c
        have cws := (HW.out.below HCs.out wlc).c
        go_wp2_with fail
        refine (eqHandler_row _ _ ⟨U, VL⟩ _ (HGs.out.row hVl) ((HWm.out.below HCs.out).row hVl)).mono ?_
        rintro r wt ⟨rfl, hbt⟩
        have HEt := hide (HEs.out.below hbt HEs.out.lt)
        have HGt := hide (HGs.out.below hbt)
        have HCt := hide (HCs.out.trans (hbt.mono HCs.out.size))
        have hst := hbt.size
        clear hbt ces cws HEs HGs HCs
        have cet := HEt.out.c
        go_wp2_with fail
        refine (markHandler_any U _ _ wg.heap.size VL.length 1 _ _ hVl (by omega) HGt.out).mono ?_
        rintro r wu ⟨rfl, hmu, hg3⟩
        have HMu := hide hmu
        have HEu : Hid (Bx wu EB _ _) := hide ((hg3.block EB (by omega) (fun e => by have := hgE EB e.symm; omega)).trans HEt.out)
        have HCu : Hid (Below wc.heap.size wc wu) := hide (HCt.out.grown hg3 HCt.out.size (fun k hk => by have := hgE k hk; omega))
        have hsu := hg3.size
        clear hmu hg3 cet HEt HGt HCt
        have HH := hide (fun (w : World) (h : RMk Ru.mv w (.slice ta VL.length tc) 61 2 1 VL.length) => heldHandler_any U ta tc VL.length 1 w hVl (by omega) h)
        obtain ⟨KM, hKM⟩ : ∃ KM, KM = 1 + VL.length * 2 := ⟨_, rfl⟩
        simp only [← hKM] at HH ⊢
        clear hKM
        have hkm : ¬ ((KM : Nat) : Int) < 0 := by omega
        have ceu := HEu.out.c
        go_wp2_with fail
        refine (HH.out _ HMu.out).mono ?_
        rintro r wv ⟨rfl, hbv⟩
        have HMv := hide (HMu.out.below hbv)
        have HEv := hide (HEu.out.below hbv HEu.out.lt)
        have HCv := hide (HCu.out.trans (hbv.mono HCu.out.size))
        clear hbv ceu HMu HEu HCu
        go_wp2_with fail
        have b0 : wv.cell? ⟨XB, 0, none⟩ = some (.int .i64 q) := (HXc.out.below HCv.out xlc).c 0
        have b1 : wv.cell? ⟨XB, 1, none⟩ = some (.slice ga R.length gc) := (HXc.out.below HCv.out xlc).c 1
        have b2 : wv.cell? ⟨YB, 0, none⟩ = some (.int .i64 p) := (HYc.out.below HCv.out ylc).c 0
        have b3 : wv.cell? ⟨YB, 1, none⟩ = some (.slice ha Q.length hc) := (HYc.out.below HCv.out ylc).c 1
        have xlv : XB < wv.heap.size := Nat.lt_of_lt_of_le xlc HCv.out.size
        have ylv : YB < wv.heap.size := Nat.lt_of_lt_of_le ylc HCv.out.size
        have HD0 : Hid (Below wv.heap.size wv wv.drew) := hide (belowDrewH (Below.refl _ _))
        have HBw : Hid (Below w.heap.size w wv) := hide (HBc.out.trans (HCv.out.mono HBc.out.size))
        have HXs : Hid (∀ w', Below wv.heap.size wv w' → w'.cell? ⟨XB, 0, none⟩ = some (.int .i64 q) ∧ w'.cell? ⟨XB, 1, none⟩ = some (.slice ga R.length gc) ∧ w'.cell? ⟨YB, 0, none⟩ = some (.int .i64 p) ∧ w'.cell? ⟨YB, 1, none⟩ = some (.slice ha Q.length hc)) := hide (fun w' hb => ⟨(hb.cell (p := ⟨XB, 0, none⟩) xlv).trans b0, (hb.cell (p := ⟨XB, 1, none⟩) xlv).trans b1, (hb.cell (p := ⟨YB, 0, none⟩) ylv).trans b2, (hb.cell (p := ⟨YB, 1, none⟩) ylv).trans b3⟩)
        go_cut [15, 16] from 94 to 118 (fun v6 v7 wx => ∃ (WB : Nat) (ua : Option Addr) (uc : Nat), v6 = .pointer (some ⟨WB, 0, none⟩) ∧ v7 = .bool OK ∧ Bx wx WB #[.int .i64 U, .slice ua VL.length uc] 39 ∧ SOwn wx wv.heap.size (.slice ua VL.length uc) VL ∧ Below wv.heap.size wv wx)
        case first =>
          rename_i JJ KK hJJ hKK
          refine wp_region_noPanic ?_
          refine wp_region_held_drew (S := fun w' => w'.cell? ⟨XB, 0, none⟩ = some (.int .i64 q) ∧ w'.cell? ⟨XB, 1, none⟩ = some (.slice ga R.length gc) ∧ w'.cell? ⟨YB, 0, none⟩ = some (.int .i64 p) ∧ w'.cell? ⟨YB, 1, none⟩ = some (.slice ha Q.length hc)) (by kernel_rfl) ⟨b0, b1, b2, b3⟩ (fun hHeld => ?_)
          refine wpAnyH_take (i := 0) (oi := _) (v := ?_) rfl (by kernel_rfl) (by kernel_rfl) (by kernel_rfl) (fun _ _ _ h => h) (Or.inl ⟨by rfl, ?_⟩) (by assumption) ?_
          rotate_left 1
          · (intro w hSw; (try dsimp only at hSw); (first | (go_simp; done) | (go_simp; with_reducible rfl)))
          try simp only [Act.put, List.getElem_toArray, List.getElem_cons_zero, List.getElem_cons_succ, List.setIfInBounds_toArray, List.set_cons_zero, List.set_cons_succ]
          refine wpAnyH_take (i := 2) (oi := _) (v := ?_) rfl (by kernel_rfl) (by kernel_rfl) (by kernel_rfl) (fun _ _ _ h => h) (Or.inl ⟨by rfl, ?_⟩) (by assumption) ?_
          rotate_left 1
          · (intro w hSw; (try dsimp only at hSw); (first | (go_simp; done) | (go_simp; with_reducible rfl)))
          try simp only [Act.put, List.getElem_toArray, List.getElem_cons_zero, List.getElem_cons_succ, List.setIfInBounds_toArray, List.set_cons_zero, List.set_cons_succ]
          have HBx := HD0
          refine wpAnyH_ready (rs := [1, 8]) (by kernel_rfl) (by simp) ?_
          refine AllReadyH.cons (o := _) rfl (fun K hK => ?_) (AllReadyH.cons (o := _) rfl (fun K hK => ?_) AllReadyH.nil)
          · go_simp
            (with_reducible refine Calls.mono (HTg.out _ (HBw.out.trans (HBx.out.mono HBw.out.size))) ?_)
            rintro r wa ⟨va, rfl, hra, hba⟩
            have HBy := hide (HBx.out.trans (hba.mono HBx.out.size))
            have HRa := hide hra
            obtain ⟨aad, aac, rfl⟩ := hra.form
            clear hba hra
            (try go_wp2_with fail)
            refine hK.out _ _ (HXs.out _ HBy.out) (fun hHeld => ?_)
            clear hK K
            try simp only [Act.put, List.getElem_toArray, List.getElem_cons_zero, List.getElem_cons_succ, List.setIfInBounds_toArray, List.set_cons_zero, List.set_cons_succ]
            clear HBx
            have HBx := HBy
            clear HBy
            refine wpAnyH_ready (rs := [3, 8]) (by kernel_rfl) (by simp) ?_
            refine AllReadyH.cons (o := _) rfl (fun K hK => ?_) (AllReadyH.cons (o := _) rfl (fun K hK => ?_) AllReadyH.nil)
            · go_simp
              (with_reducible refine Calls.mono (HTh.out _ (HBw.out.trans (HBx.out.mono HBw.out.size))) ?_)
              rintro r wb ⟨vb, rfl, hrb, hbb⟩
              have HBy := hide (HBx.out.trans (hbb.mono HBx.out.size))
              have HRb := hide (HRa.out.below hbb)
              have HSb := hide hrb
              obtain ⟨bad, bac, rfl⟩ := hrb.form
              clear hbb hrb
              (try go_wp2_with fail)
              refine hK.out _ _ (HXs.out _ HBy.out) (fun hHeld => ?_)
              clear hK K
              try simp only [Act.put, List.getElem_toArray, List.getElem_cons_zero, List.getElem_cons_succ, List.setIfInBounds_toArray, List.set_cons_zero, List.set_cons_succ]
              clear HBx
              have HBx := HBy
              clear HBy
              refine wpAnyH_ready (rs := [4, 8]) (by kernel_rfl) (by simp) ?_
              refine AllReadyH.cons (o := _) rfl (fun K hK => ?_) (AllReadyH.cons (o := _) rfl (fun K hK => ?_) AllReadyH.nil)
              · go_simp
                (with_reducible refine Calls.mono (HIm.out _ _ _ (HRb.out) (HSb.out)) ?_)
                rintro r wd ⟨vd, rfl, ⟨sd, rfl, hod⟩, hbd⟩
                have HBy := hide (HBx.out.trans (hbd.mono HBx.out.size))
                have HMd := hide (show SOwn _ _ sd VL from hod)
                obtain ⟨ua, uc, rfl⟩ := HMd.out.form
                have hBxs := HBx.out.size
                clear hbd hod
                (try go_wp2_with fail)
                refine hK.out _ _ (HXs.out _ HBy.out) (fun hHeld => ?_)
                clear hK K
                try simp only [Act.put, List.getElem_toArray, List.getElem_cons_zero, List.getElem_cons_succ, List.setIfInBounds_toArray, List.set_cons_zero, List.set_cons_succ]
                clear HBx
                have HBx := HBy
                clear HBy
                refine wpAnyH_take (i := 5) (oi := _) (v := ?_) rfl (by kernel_rfl) (by kernel_rfl) (by kernel_rfl) (fun _ _ _ h => h) (Or.inl ⟨by rfl, ?_⟩) (by assumption) ?_
                rotate_left 1
                · (intro w hSw; (try dsimp only at hSw); (first | (go_simp; done) | (go_simp; with_reducible rfl)))
                try simp only [Act.put, List.getElem_toArray, List.getElem_cons_zero, List.getElem_cons_succ, List.setIfInBounds_toArray, List.set_cons_zero, List.set_cons_succ]
                refine wpAnyH_take (i := 6) (oi := _) (v := ?_) rfl (by kernel_rfl) (by kernel_rfl) (by kernel_rfl) (fun _ _ _ h => h) (Or.inl ⟨by rfl, ?_⟩) (by assumption) ?_
                rotate_left 1
                · (intro w hSw; (try dsimp only at hSw); (first | (go_simp; done) | (go_simp; with_reducible rfl)))
                try simp only [Act.put, List.getElem_toArray, List.getElem_cons_zero, List.getElem_cons_succ, List.setIfInBounds_toArray, List.set_cons_zero, List.set_cons_succ]
                refine wpAnyH_take (i := 7) (oi := _) (v := ?_) rfl (by kernel_rfl) (by kernel_rfl) (by kernel_rfl) (fun _ _ _ h => h) (Or.inl ⟨by rfl, ?_⟩) (by assumption) ?_
                rotate_left 1
                · (intro w hSw; (try dsimp only at hSw); (first | (go_simp; done) | (go_simp; with_reducible rfl)))
                try simp only [Act.put, List.getElem_toArray, List.getElem_cons_zero, List.getElem_cons_succ, List.setIfInBounds_toArray, List.set_cons_zero, List.set_cons_succ]
                have hal : Below wd.heap.size wd (wd.alloc (.cells #[.int .i64 0, .slice none 0 0] 39)) := (Below.refl _ _).alloc (Nat.le_refl _) _
                have HBy := hide (HBx.out.trans (hal.mono HBx.out.size))
                have hal2 : Below wd.heap.size wd (wd.alloc (.cells #[.int .i64 U, .slice ua VL.length uc] 39)) := (Below.refl _ _).alloc (Nat.le_refl _) _
                have HBz := hide (HBx.out.trans (hal2.mono HBx.out.size))
                have HMz := hide ((HMd.out.below hal2).lower (base' := wv.heap.size) hBxs)
                clear hal hal2
                refine wpAnyH_ready (rs := [8]) (by kernel_rfl) (by simp) ?_
                refine AllReadyH.cons (o := _) rfl (fun K hK => ?_) AllReadyH.nil
                go_simp
                refine hK.out _ _ (HXs.out _ HBy.out) (fun hHeld => ?_)
                clear hK K
                try simp only [Act.put, List.getElem_toArray, List.getElem_cons_zero, List.getElem_cons_succ, List.setIfInBounds_toArray, List.set_cons_zero, List.set_cons_succ]
                refine wpAnyH_ready (rs := [9]) (by kernel_rfl) (by simp) ?_
                refine AllReadyH.cons (o := _) rfl (fun K hK => ?_) AllReadyH.nil
                have cl := (Bx.new wd #[.int .i64 0, .slice none 0 0] 39).c
                have fl := (Bx.new wd #[.int .i64 0, .slice none 0 0] 39).f
                go_simp
                refine hK.out _ _ (HXs.out _ HBz.out) (fun hHeld => ?_)
                clear hK K
                try simp only [Act.put, List.getElem_toArray, List.getElem_cons_zero, List.getElem_cons_succ, List.setIfInBounds_toArray, List.set_cons_zero, List.set_cons_succ]
                clear cl fl
                refine wpAnyH_take (i := 10) (oi := _) (v := ?_) rfl (by kernel_rfl) (by kernel_rfl) (by kernel_rfl) (fun _ _ _ h => h) (Or.inl ⟨by rfl, ?_⟩) (by assumption) ?_
                rotate_left 1
                · (intro w hSw; (try dsimp only at hSw); (first | (go_simp; done) | (go_simp; with_reducible rfl)))
                try simp only [Act.put, List.getElem_toArray, List.getElem_cons_zero, List.getElem_cons_succ, List.setIfInBounds_toArray, List.set_cons_zero, List.set_cons_succ]
                refine wpAnyH_done (by kernel_rfl) ?_ _
                refine NoPanic.normal ?_
                clear b0 b1 b2 b3 hHeld
                show KK _ _
                refine hKK _ _ (Met.intro (hJJ _ _ ?_))
                (repeat apply Exists.intro)
                refine ⟨?_, rfl⟩
                exact ⟨wd.heap.size, ua, uc, rfl, rfl, Bx.new wd #[.int .i64 U, .slice ua VL.length uc] 39, HMz.out, HBz.out⟩
              · have hzlo : wv.heap.size ≤ wb.heap.size := HBx.out.size
                have hal : Below wb.heap.size wb (wb.alloc (.cells #[.int .i64 0, .slice none 0 0] 39)) := (Below.refl _ _).alloc (Nat.le_refl _) _
                have HBy := hide (HBx.out.trans (hal.mono HBx.out.size))
                have HZ := hide (Bx.new wb #[.int .i64 0, .slice none 0 0] 39)
                have HRb2 := hide (HRb.out.below hal)
                have HSb2 := hide (HSb.out.below hal)
                clear HRb HSb
                have HRb := HRb2
                have HSb := HSb2
                clear HRb2 HSb2
                clear hal
                go_simp
                refine hK.out _ _ (HXs.out _ HBy.out) (fun hHeld => ?_)
                clear hK K
                try simp only [Act.put, List.getElem_toArray, List.getElem_cons_zero, List.getElem_cons_succ, List.setIfInBounds_toArray, List.set_cons_zero, List.set_cons_succ]
                clear HBx
                have HBx := HBy
                clear HBy
                refine wpAnyH_ready (rs := [4]) (by kernel_rfl) (by simp) ?_
                refine AllReadyH.cons (o := _) rfl (fun K hK => ?_) AllReadyH.nil
                go_simp
                have hzl := HZ.out.lt
                (with_reducible refine Calls.mono (HIm.out _ _ _ (HRb.out) (HSb.out)) ?_)
                rintro r wd ⟨vd, rfl, ⟨sd, rfl, hod⟩, hbd⟩
                have HBy := hide (HBx.out.trans (hbd.mono HBx.out.size))
                have HMd := hide (show SOwn _ _ sd VL from hod)
                obtain ⟨ua, uc, rfl⟩ := HMd.out.form
                have hBxs := HBx.out.size
                have HZy := hide (HZ.out.below hbd HZ.out.lt)
                clear hbd hod
                (try go_wp2_with fail)
                refine hK.out _ _ (HXs.out _ HBy.out) (fun hHeld => ?_)
                clear hK K
                try simp only [Act.put, List.getElem_toArray, List.getElem_cons_zero, List.getElem_cons_succ, List.setIfInBounds_toArray, List.set_cons_zero, List.set_cons_succ]
                clear HBx
                have HBx := HBy
                clear HBy
                clear HZ
                have HZ := HZy
                clear HZy
                refine wpAnyH_take (i := 5) (oi := _) (v := ?_) rfl (by kernel_rfl) (by kernel_rfl) (by kernel_rfl) (fun _ _ _ h => h) (Or.inl ⟨by rfl, ?_⟩) (by assumption) ?_
                rotate_left 1
                · (intro w hSw; (try dsimp only at hSw); (first | (go_simp; done) | (go_simp; with_reducible rfl)))
                try simp only [Act.put, List.getElem_toArray, List.getElem_cons_zero, List.getElem_cons_succ, List.setIfInBounds_toArray, List.set_cons_zero, List.set_cons_succ]
                refine wpAnyH_take (i := 6) (oi := _) (v := ?_) rfl (by kernel_rfl) (by kernel_rfl) (by kernel_rfl) (fun _ _ _ h => h) (Or.inl ⟨by rfl, ?_⟩) (by assumption) ?_
                rotate_left 1
                · (intro w hSw; (try dsimp only at hSw); (first | (go_simp; done) | (go_simp; with_reducible rfl)))
                try simp only [Act.put, List.getElem_toArray, List.getElem_cons_zero, List.getElem_cons_succ, List.setIfInBounds_toArray, List.set_cons_zero, List.set_cons_succ]
                refine wpAnyH_take (i := 7) (oi := _) (v := ?_) rfl (by kernel_rfl) (by kernel_rfl) (by kernel_rfl) (fun _ _ _ h => h) (Or.inl ⟨by rfl, ?_⟩) (by assumption) ?_
                rotate_left 1
                · (intro w hSw; (try dsimp only at hSw); (first | (go_simp; done) | (go_simp; with_reducible rfl)))
                try simp only [Act.put, List.getElem_toArray, List.getElem_cons_zero, List.getElem_cons_succ, List.setIfInBounds_toArray, List.set_cons_zero, List.set_cons_succ]
                have hzf := (HZ.out.set 0 (.int .i64 U)).set 1 (.slice ua VL.length uc)
                simp only [List.setIfInBounds_toArray, List.set_cons_zero, List.set_cons_succ] at hzf
                have HZf := hide hzf
                have HOt := hide (((Oth.refl (wb.heap.size) wd).setCell 0 (.int .i64 U)).setCell 1 (.slice ua VL.length uc))
                have HBz : Hid (Below wv.heap.size wv _) := hide (HBx.out.trans (HOt.out.below HBx.out.size (by omega)))
                have HMz := hide ((HMd.out.same (fun k h1 h2 => HOt.out.block k h2 (by omega))).lower (base' := wv.heap.size) hBxs)
                clear hzf
                refine wpAnyH_ready (rs := [9]) (by kernel_rfl) (by simp) ?_
                refine AllReadyH.cons (o := _) rfl (fun K hK => ?_) AllReadyH.nil
                have cl := HZ.out.c
                have fl := HZ.out.f
                go_simp
                refine hK.out _ _ (HXs.out _ HBz.out) (fun hHeld => ?_)
                clear hK K
                try simp only [Act.put, List.getElem_toArray, List.getElem_cons_zero, List.getElem_cons_succ, List.setIfInBounds_toArray, List.set_cons_zero, List.set_cons_succ]
                clear cl fl
                refine wpAnyH_take (i := 10) (oi := _) (v := ?_) rfl (by kernel_rfl) (by kernel_rfl) (by kernel_rfl) (fun _ _ _ h => h) (Or.inl ⟨by rfl, ?_⟩) (by assumption) ?_
                rotate_left 1
                · (intro w hSw; (try dsimp only at hSw); (first | (go_simp; done) | (go_simp; with_reducible rfl)))
                try simp only [Act.put, List.getElem_toArray, List.getElem_cons_zero, List.getElem_cons_succ, List.setIfInBounds_toArray, List.set_cons_zero, List.set_cons_succ]
                refine wpAnyH_done (by kernel_rfl) ?_ _
                refine NoPanic.normal ?_
                clear b0 b1 b2 b3 hHeld
                show KK _ _
                refine hKK _ _ (Met.intro (hJJ _ _ ?_))
                (repeat apply Exists.intro)
                refine ⟨?_, rfl⟩
                exact ⟨wb.heap.size, ua, uc, rfl, rfl, HZf.out, HMz.out, HBz.out⟩
            · have hzlo : wv.heap.size ≤ wa.heap.size := HBx.out.size
              have hal : Below wa.heap.size wa (wa.alloc (.cells #[.int .i64 0, .slice none 0 0] 39)) := (Below.refl _ _).alloc (Nat.le_refl _) _
              have HBy := hide (HBx.out.trans (hal.mono HBx.out.size))
              have HZ := hide (Bx.new wa #[.int .i64 0, .slice none 0 0] 39)
              have HRa2 := hide (HRa.out.below hal)
              clear HRa
              have HRa := HRa2
              clear HRa2
              clear hal
              go_simp
              refine hK.out _ _ (HXs.out _ HBy.out) (fun hHeld => ?_)
              clear hK K
              try simp only [Act.put, List.getElem_toArray, List.getElem_cons_zero, List.getElem_cons_succ, List.setIfInBounds_toArray, List.set_cons_zero, List.set_cons_succ]
              clear HBx
              have HBx := HBy
              clear HBy
              refine wpAnyH_ready (rs := [3]) (by kernel_rfl) (by simp) ?_
              refine AllReadyH.cons (o := _) rfl (fun K hK => ?_) AllReadyH.nil
              go_simp
              (with_reducible refine Calls.mono (HTh.out _ (HBw.out.trans (HBx.out.mono HBw.out.size))) ?_)
              rintro r wb ⟨vb, rfl, hrb, hbb⟩
              have HBy := hide (HBx.out.trans (hbb.mono HBx.out.size))
              have HRb := hide (HRa.out.below hbb)
              have HSb := hide hrb
              have HZy := hide (HZ.out.below hbb HZ.out.lt)
              obtain ⟨bad, bac, rfl⟩ := hrb.form
              clear hbb hrb
              (try go_wp2_with fail)
              refine hK.out _ _ (HXs.out _ HBy.out) (fun hHeld => ?_)
              clear hK K
              try simp only [Act.put, List.getElem_toArray, List.getElem_cons_zero, List.getElem_cons_succ, List.setIfInBounds_toArray, List.set_cons_zero, List.set_cons_succ]
              clear HBx
              have HBx := HBy
              clear HBy
              clear HZ
              have HZ := HZy
              clear HZy
              refine wpAnyH_ready (rs := [4]) (by kernel_rfl) (by simp) ?_
              refine AllReadyH.cons (o := _) rfl (fun K hK => ?_) AllReadyH.nil
              go_simp
              have hzl := HZ.out.lt
              (with_reducible refine Calls.mono (HIm.out _ _ _ (HRb.out) (HSb.out)) ?_)
              rintro r wd ⟨vd, rfl, ⟨sd, rfl, hod⟩, hbd⟩
              have HBy := hide (HBx.out.trans (hbd.mono HBx.out.size))
              have HMd := hide (show SOwn _ _ sd VL from hod)
              obtain ⟨ua, uc, rfl⟩ := HMd.out.form
              have hBxs := HBx.out.size
              have HZy := hide (HZ.out.below hbd HZ.out.lt)
              clear hbd hod
              (try go_wp2_with fail)
              refine hK.out _ _ (HXs.out _ HBy.out) (fun hHeld => ?_)
              clear hK K
              try simp only [Act.put, List.getElem_toArray, List.getElem_cons_zero, List.getElem_cons_succ, List.setIfInBounds_toArray, List.set_cons_zero, List.set_cons_succ]
              clear HBx
              have HBx := HBy
              clear HBy
              clear HZ
              have HZ := HZy
              clear HZy
              refine wpAnyH_take (i := 5) (oi := _) (v := ?_) rfl (by kernel_rfl) (by kernel_rfl) (by kernel_rfl) (fun _ _ _ h => h) (Or.inl ⟨by rfl, ?_⟩) (by assumption) ?_
              rotate_left 1
              · (intro w hSw; (try dsimp only at hSw); (first | (go_simp; done) | (go_simp; with_reducible rfl)))
              try simp only [Act.put, List.getElem_toArray, List.getElem_cons_zero, List.getElem_cons_succ, List.setIfInBounds_toArray, List.set_cons_zero, List.set_cons_succ]
              refine wpAnyH_take (i := 6) (oi := _) (v := ?_) rfl (by kernel_rfl) (by kernel_rfl) (by kernel_rfl) (fun _ _ _ h => h) (Or.inl ⟨by rfl, ?_⟩) (by assumption) ?_
              rotate_left 1
              · (intro w hSw; (try dsimp only at hSw); (first | (go_simp; done) | (go_simp; with_reducible rfl)))
              try simp only [Act.put, List.getElem_toArray, List.getElem_cons_zero, List.getElem_cons_succ, List.setIfInBounds_toArray, List.set_cons_zero, List.set_cons_succ]
              refine wpAnyH_take (i := 7) (oi := _) (v := ?_) rfl (by kernel_rfl) (by kernel_rfl) (by kernel_rfl) (fun _ _ _ h => h) (Or.inl ⟨by rfl, ?_⟩) (by assumption) ?_
              rotate_left 1
              · (intro w hSw; (try dsimp only at hSw); (first | (go_simp; done) | (go_simp; with_reducible rfl)))
              try simp only [Act.put, List.getElem_toArray, List.getElem_cons_zero, List.getElem_cons_succ, List.setIfInBounds_toArray, List.set_cons_zero, List.set_cons_succ]
              have hzf := (HZ.out.set 0 (.int .i64 U)).set 1 (.slice ua VL.length uc)
              simp only [List.setIfInBounds_toArray, List.set_cons_zero, List.set_cons_succ] at hzf
              have HZf := hide hzf
              have HOt := hide (((Oth.refl (wa.heap.size) wd).setCell 0 (.int .i64 U)).setCell 1 (.slice ua VL.length uc))
              have HBz : Hid (Below wv.heap.size wv _) := hide (HBx.out.trans (HOt.out.below HBx.out.size (by omega)))
              have HMz := hide ((HMd.out.same (fun k h1 h2 => HOt.out.block k h2 (by omega))).lower (base' := wv.heap.size) hBxs)
              clear hzf
              refine wpAnyH_ready (rs := [9]) (by kernel_rfl) (by simp) ?_
              refine AllReadyH.cons (o := _) rfl (fun K hK => ?_) AllReadyH.nil
              have cl := HZ.out.c
              have fl := HZ.out.f
              go_simp
              refine hK.out _ _ (HXs.out _ HBz.out) (fun hHeld => ?_)
              clear hK K
              try simp only [Act.put, List.getElem_toArray, List.getElem_cons_zero, List.getElem_cons_succ, List.setIfInBounds_toArray, List.set_cons_zero, List.set_cons_succ]
              clear cl fl
              refine wpAnyH_take (i := 10) (oi := _) (v := ?_) rfl (by kernel_rfl) (by kernel_rfl) (by kernel_rfl) (fun _ _ _ h => h) (Or.inl ⟨by rfl, ?_⟩) (by assumption) ?_
              rotate_left 1
              · (intro w hSw; (try dsimp only at hSw); (first | (go_simp; done) | (go_simp; with_reducible rfl)))
              try simp only [Act.put, List.getElem_toArray, List.getElem_cons_zero, List.getElem_cons_succ, List.setIfInBounds_toArray, List.set_cons_zero, List.set_cons_succ]
              refine wpAnyH_done (by kernel_rfl) ?_ _
              refine NoPanic.normal ?_
              clear b0 b1 b2 b3 hHeld
              show KK _ _
              refine hKK _ _ (Met.intro (hJJ _ _ ?_))
              (repeat apply Exists.intro)
              refine ⟨?_, rfl⟩
              exact ⟨wa.heap.size, ua, uc, rfl, rfl, HZf.out, HMz.out, HBz.out⟩
          · have hzlo : wv.heap.size ≤ wv.heap.size := Nat.le_refl _
            have HBy : Hid (Below wv.heap.size wv (wv.alloc (.cells #[.int .i64 0, .slice none 0 0] 39)).drew) := hide (belowDrewH ((Below.refl wv.heap.size wv).alloc (Nat.le_refl _) (.cells #[.int .i64 0, .slice none 0 0] 39)))
            have HZ := hide ((Bx.new wv #[.int .i64 0, .slice none 0 0] 39).drew)
            go_simp
            refine hK.out _ _ (HXs.out _ HBy.out) (fun hHeld => ?_)
            clear hK K
            try simp only [Act.put, List.getElem_toArray, List.getElem_cons_zero, List.getElem_cons_succ, List.setIfInBounds_toArray, List.set_cons_zero, List.set_cons_succ]
            clear HBx
            have HBx := HBy
            clear HBy
            refine wpAnyH_ready (rs := [1]) (by kernel_rfl) (by simp) ?_
            refine AllReadyH.cons (o := _) rfl (fun K hK => ?_) AllReadyH.nil
            go_simp
            (with_reducible refine Calls.mono (HTg.out _ (HBw.out.trans (HBx.out.mono HBw.out.size))) ?_)
            rintro r wa ⟨va, rfl, hra, hba⟩
            have HBy := hide (HBx.out.trans (hba.mono HBx.out.size))
            have HRa := hide hra
            have HZy := hide (HZ.out.below hba HZ.out.lt)
            obtain ⟨aad, aac, rfl⟩ := hra.form
            clear hba hra
            (try go_wp2_with fail)
            refine hK.out _ _ (HXs.out _ HBy.out) (fun hHeld => ?_)
            clear hK K
            try simp only [Act.put, List.getElem_toArray, List.getElem_cons_zero, List.getElem_cons_succ, List.setIfInBounds_toArray, List.set_cons_zero, List.set_cons_succ]
            clear HBx
            have HBx := HBy
            clear HBy
            clear HZ
            have HZ := HZy
            clear HZy
            refine wpAnyH_ready (rs := [3]) (by kernel_rfl) (by simp) ?_
            refine AllReadyH.cons (o := _) rfl (fun K hK => ?_) AllReadyH.nil
            go_simp
            (with_reducible refine Calls.mono (HTh.out _ (HBw.out.trans (HBx.out.mono HBw.out.size))) ?_)
            rintro r wb ⟨vb, rfl, hrb, hbb⟩
            have HBy := hide (HBx.out.trans (hbb.mono HBx.out.size))
            have HRb := hide (HRa.out.below hbb)
            have HSb := hide hrb
            have HZy := hide (HZ.out.below hbb HZ.out.lt)
            obtain ⟨bad, bac, rfl⟩ := hrb.form
            clear hbb hrb
            (try go_wp2_with fail)
            refine hK.out _ _ (HXs.out _ HBy.out) (fun hHeld => ?_)
            clear hK K
            try simp only [Act.put, List.getElem_toArray, List.getElem_cons_zero, List.getElem_cons_succ, List.setIfInBounds_toArray, List.set_cons_zero, List.set_cons_succ]
            clear HBx
            have HBx := HBy
            clear HBy
            clear HZ
            have HZ := HZy
            clear HZy
            refine wpAnyH_ready (rs := [4]) (by kernel_rfl) (by simp) ?_
            refine AllReadyH.cons (o := _) rfl (fun K hK => ?_) AllReadyH.nil
            go_simp
            have hzl := HZ.out.lt
            (with_reducible refine Calls.mono (HIm.out _ _ _ (HRb.out) (HSb.out)) ?_)
            rintro r wd ⟨vd, rfl, ⟨sd, rfl, hod⟩, hbd⟩
            have HBy := hide (HBx.out.trans (hbd.mono HBx.out.size))
            have HMd := hide (show SOwn _ _ sd VL from hod)
            obtain ⟨ua, uc, rfl⟩ := HMd.out.form
            have hBxs := HBx.out.size
            have HZy := hide (HZ.out.below hbd HZ.out.lt)
            clear hbd hod
            (try go_wp2_with fail)
            refine hK.out _ _ (HXs.out _ HBy.out) (fun hHeld => ?_)
            clear hK K
            try simp only [Act.put, List.getElem_toArray, List.getElem_cons_zero, List.getElem_cons_succ, List.setIfInBounds_toArray, List.set_cons_zero, List.set_cons_succ]
            clear HBx
            have HBx := HBy
            clear HBy
            clear HZ
            have HZ := HZy
            clear HZy
            refine wpAnyH_take (i := 5) (oi := _) (v := ?_) rfl (by kernel_rfl) (by kernel_rfl) (by kernel_rfl) (fun _ _ _ h => h) (Or.inl ⟨by rfl, ?_⟩) (by assumption) ?_
            rotate_left 1
            · (intro w hSw; (try dsimp only at hSw); (first | (go_simp; done) | (go_simp; with_reducible rfl)))
            try simp only [Act.put, List.getElem_toArray, List.getElem_cons_zero, List.getElem_cons_succ, List.setIfInBounds_toArray, List.set_cons_zero, List.set_cons_succ]
            refine wpAnyH_take (i := 6) (oi := _) (v := ?_) rfl (by kernel_rfl) (by kernel_rfl) (by kernel_rfl) (fun _ _ _ h => h) (Or.inl ⟨by rfl, ?_⟩) (by assumption) ?_
            rotate_left 1
            · (intro w hSw; (try dsimp only at hSw); (first | (go_simp; done) | (go_simp; with_reducible rfl)))
            try simp only [Act.put, List.getElem_toArray, List.getElem_cons_zero, List.getElem_cons_succ, List.setIfInBounds_toArray, List.set_cons_zero, List.set_cons_succ]
            refine wpAnyH_take (i := 7) (oi := _) (v := ?_) rfl (by kernel_rfl) (by kernel_rfl) (by kernel_rfl) (fun _ _ _ h => h) (Or.inl ⟨by rfl, ?_⟩) (by assumption) ?_
            rotate_left 1
            · (intro w hSw; (try dsimp only at hSw); (first | (go_simp; done) | (go_simp; with_reducible rfl)))
            try simp only [Act.put, List.getElem_toArray, List.getElem_cons_zero, List.getElem_cons_succ, List.setIfInBounds_toArray, List.set_cons_zero, List.set_cons_succ]
            have hzf := (HZ.out.set 0 (.int .i64 U)).set 1 (.slice ua VL.length uc)
            simp only [List.setIfInBounds_toArray, List.set_cons_zero, List.set_cons_succ] at hzf
            have HZf := hide hzf
            have HOt := hide (((Oth.refl (wv.heap.size) wd).setCell 0 (.int .i64 U)).setCell 1 (.slice ua VL.length uc))
            have HBz : Hid (Below wv.heap.size wv _) := hide (HBx.out.trans (HOt.out.below HBx.out.size (by omega)))
            have HMz := hide ((HMd.out.same (fun k h1 h2 => HOt.out.block k h2 (by omega))).lower (base' := wv.heap.size) hBxs)
            clear hzf
            refine wpAnyH_ready (rs := [9]) (by kernel_rfl) (by simp) ?_
            refine AllReadyH.cons (o := _) rfl (fun K hK => ?_) AllReadyH.nil
            have cl := HZ.out.c
            have fl := HZ.out.f
            go_simp
            refine hK.out _ _ (HXs.out _ HBz.out) (fun hHeld => ?_)
            clear hK K
            try simp only [Act.put, List.getElem_toArray, List.getElem_cons_zero, List.getElem_cons_succ, List.setIfInBounds_toArray, List.set_cons_zero, List.set_cons_succ]
            clear cl fl
            refine wpAnyH_take (i := 10) (oi := _) (v := ?_) rfl (by kernel_rfl) (by kernel_rfl) (by kernel_rfl) (fun _ _ _ h => h) (Or.inl ⟨by rfl, ?_⟩) (by assumption) ?_
            rotate_left 1
            · (intro w hSw; (try dsimp only at hSw); (first | (go_simp; done) | (go_simp; with_reducible rfl)))
            try simp only [Act.put, List.getElem_toArray, List.getElem_cons_zero, List.getElem_cons_succ, List.setIfInBounds_toArray, List.set_cons_zero, List.set_cons_succ]
            refine wpAnyH_done (by kernel_rfl) ?_ _
            refine NoPanic.normal ?_
            clear b0 b1 b2 b3 hHeld
            show KK _ _
            refine hKK _ _ (Met.intro (hJJ _ _ ?_))
            (repeat apply Exists.intro)
            refine ⟨?_, rfl⟩
            exact ⟨wv.heap.size, ua, uc, rfl, rfl, HZf.out, HMz.out, HBz.out⟩
        case rest =>
          obtain ⟨VB, ua, uc, rfl, rfl, hVx, hVm, hBv⟩ := hcut
          have HCy := hide (HCv.out.trans (hBv.mono HCv.out.size))
          have HMy := hide (HMv.out.below hBv)
          have HEy := hide (HEv.out.below hBv HEv.out.lt)
          have HVm := hide hVm
          have cvy := hVx.c
          have cwy := (HW.out.below HCy.out wlc).c
          clear hVx hVm hBv b0 b1 b2 b3 HXs HD0 HBw
          go_wp2_with fail
          refine (eqHandler_row _ _ ⟨U, VL⟩ _ (HVm.out.row hVl) ((HWm.out.below HCy.out).row hVl)).mono ?_
          rintro r wz ⟨rfl, hbz⟩
          have HMz := hide (HMy.out.below hbz)
          have HEz := hide (HEy.out.below hbz HEy.out.lt)
          have HCz := hide (HCy.out.trans (hbz.mono HCy.out.size))
          clear hbz cvy cwy
          have cez := HEz.out.c
          go_wp2_with fail
          refine (HH.out _ HMz.out).mono ?_
          rintro r wend ⟨rfl, hbend⟩
          have hBz : Below w.heap.size w wend := HBc.out.trans ((HCz.out.trans (hbend.mono HCz.out.size)).mono HBc.out.size)
          clear hbend cez
          go_wp2_with fail
          go_ret
          exact ⟨rfl, hBz⟩

set_option maxRecDepth 100000 in
theorem lifted (os : Os) (started : os.Started) (H : Type) (enc : TypeId × Value → H) :
    ReturnsInHanded {} Try.checked os 4 .any (Rows.fnExactAfterBothSpec.pre6 enc Try.prog Try.f4 Rows.fnExactAfterBothRow.domain false) (Rows.fnExactAfterBothSpec.post enc Try.prog Try.f4 false true false false) := by
  refine returnsInHanded_of_change (C := Try.checked) own started (by kernel_rfl) Try.func4
    (ChangeSpec.witness6 (enc := enc) (C := Try.checked) false ⟨#[], #[.agg #[.int .i64 0, .slice none 0 0], .agg #[.int .i64 0, .slice none 0 0]], []⟩ 8 (by kernel_rfl) (by kernel_rfl) (by kernel_rfl) (by kernel_rfl)) ?_
  intro W base args ds gs before hval0 hW hcnd _
  have hval : ∀ (j : Nat) t v, Try.f4.params[j]? = some t → args[j]? = some v → Value.okWide Try.prog W .any base t v := hval0
  have hW' := hW
  obtain ⟨p, q, hA0, hV, rfl, hfz, hnd⟩ := hW
  have hA : DataW.TrodAll enc Try.prog W 0 (fun _ => true) true Try.f4.params.toList args.toList ds p := hA0
  rw [Try.params4] at hA hval
  obtain ⟨v0, vs0, d0, ds0, p0, q0, hargs, rfl, rfl, h0, r0⟩ := trodAll_cons hA
  obtain ⟨v1, vs1, d1, ds1, p1, q1, rfl, rfl, rfl, h1, r1⟩ := trodAll_cons r0
  obtain ⟨rfl, rfl, rfl⟩ := trodAll_nil r1
  obtain rfl : args = #[v0, v1] := by cases args; simp_all
  obtain ⟨rfl, rfl⟩ := trodVars_none hV
  have k0 := h0
  have k1' := h1
  have lt0 : ∀ x ∈ p0, x.block < W.heap.size := by obtain ⟨m, hm⟩ := k0; exact DataW.trod_lt m _ _ _ hm
  have lt1 : ∀ x ∈ p1, x.block < W.heap.size := by obtain ⟨m, hm⟩ := k1'; exact DataW.trod_lt m _ _ _ hm
  obtain ⟨g, ga, gc, rfl, r1', n1'⟩ := open_handler (hval 0 35 v0 rfl rfl) h0
  obtain ⟨h, ha, hc, rfl, r2', n2'⟩ := open_handler (hval 1 35 v1 rfl rfl) h1
  clear hA0 hval0
  refine (walk g.ret g.rs ga gc h.ret h.rs ha hc W r1' n1' r2' n2').mono fun e W' ⟨he, bel⟩ => ?_
  subst he
  exact ⟨_, rfl, _, _, _, [], _, [], hW', trodAll_mk1 (shut_bool Try.underlying4 _), (trodAll_cons_mk (Below.trod laidOut (by kernel_rfl) (of_decide_eq_true (by kernel_rfl)) k0 bel lt0) (trodAll_cons_mk (Below.trod laidOut (by kernel_rfl) (of_decide_eq_true (by kernel_rfl)) k1' bel lt1) trodAll_mk0)), rfl, bel.frame _, fun h => by cases h⟩

theorem over : Rows.fnExactAfterBothRow.holds Try.pinned (OpenSpec.ofChange Rows.fnExactAfterBothSpec) :=
  OpenClaim.holds_of_wide 4 Try.f4 rfl rfl rfl rfl rfl rfl rfl ⟨rfl, rfl, rfl, rfl, rfl⟩ rfl rfl rfl rfl rfl (by kernel_rfl) Try.func4 (by kernel_rfl)
    (of_decide_eq_true (by kernel_rfl)) (by unfold Func.isWrapper; first | (rw [if_pos (by decide +kernel)]; kernel_rfl) | (rw [if_neg (by decide +kernel)]; exact ⟨rfl, rfl⟩))
    (fun os started H enc _ => lifted os started H enc)
end Go.Proofs.Ytlicfmjkoopmnab.fnExactAfterBoth

namespace Go.Proofs.Ytlicfmjkoopmnab
theorem fnExactAfterBoth_holds : Rows.FnExactAfterBothSaid := fnExactAfterBoth.over
#print axioms fnExactAfterBoth_holds
end Go.Proofs.Ytlicfmjkoopmnab
