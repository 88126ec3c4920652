/-
  The contract of l6Good. Conditions: closed terms, rows of at most 1048576. Written by wip/build/mk_specgood.py.
-/
import Derived.Test.YtdajalchdbgooaaJ15
import Derived.Test.YtdajalchdbgooaaGmH
import Derived.Deep.RegionHeld3
import Derived.Deep.RegionLaw
import Derived.Deep.AppendLies
import Derived.Deep.CutRange
namespace Go.Proofs.Ytdajalchdbgooaa.W
open Go.ChangeShapes Go.WideShapes Go.ChangeAt Go.RowKit
set_option linter.unusedVariables false
set_option linter.unusedSimpArgs false

set_option maxRecDepth 20000 in
set_option maxHeartbeats 4000000 in
theorem l6Good_few (cb0 : Nat) (d : Bool) (p e x : Int) (af av ab : Option Addr) (cf cv cb : Nat) (fs : List Fm) (vs : List Vl) (bs : List Bd) (w : World) (h4 : fs.length ≤ 1048576) (h5 : vs.length ≤ 1048576) (h6 : bs.length ≤ 1048576) (hno : ¬ (fs.length ≤ 500 ∧ vs.length ≤ 500 ∧ bs.length ≤ 500)) :
    Calls Try.prog 50 #[.pointer (some ⟨cb0, 0, none⟩), .agg #[.bool d, .int .i64 p, .int .i64 e, .int .i64 x, .slice af fs.length cf, .slice av vs.length cv, .slice ab bs.length cb]] w fun r w' => r = .returned (.bool false) ∧ Below w.heap.size w w' := by
  by_cases g2 : (500 : Int) < (vs.length : Int)
  · go_enter Try.func50, Try.ntmps50
    clear hno
    go_wp2_with fail
    go_ret
    exact ⟨rfl, (Below.refl _ _).alloc (Nat.le_refl _) _⟩
  · by_cases g3 : (500 : Int) < (bs.length : Int)
    · go_enter Try.func50, Try.ntmps50
      clear hno
      go_wp2_with fail
      go_ret
      exact ⟨rfl, (Below.refl _ _).alloc (Nat.le_refl _) _⟩
    · have g1 : (500 : Int) < (fs.length : Int) := by omega
      go_enter Try.func50, Try.ntmps50
      clear hno
      go_wp2_with fail
      go_ret
      exact ⟨rfl, (Below.refl _ _).alloc (Nat.le_refl _) _⟩

set_option maxRecDepth 20000 in
set_option maxHeartbeats 8000000 in
theorem l6Good_some (cb0 : Nat) (ad : Option Addr) (c : Nat) (l : List Cc) (a : F) (d : Bool) (p e x : Int) (af av ab : Option Addr) (cf cv cb : Nat) (fs : List Fm) (vs : List Vl) (bs : List Bd) (w : World) (hCl : Cl l a) (hC : CD w cb0 (.slice ad l.length c) l.length a) (ht : CRow w ad l) (h4 : fs.length ≤ 500) (h5 : vs.length ≤ 500) (h6 : bs.length ≤ 500) (hF : FmRow w af fs) (hV : VlRow w av vs) (hBd : BdRow w ab bs) :
    Calls Try.prog 50 #[.pointer (some ⟨cb0, 0, none⟩), .agg #[.bool d, .int .i64 p, .int .i64 e, .int .i64 x, .slice af fs.length cf, .slice av vs.length cv, .slice ab bs.length cb]] w fun r w' => r = .returned (.bool (bsOk vs.length bs && (allI (vOk a l bs) 0 vs && (allI (fun _ f => fOk a l bs vs.length f) 0 fs && nOk a l ⟨d, p, e, x, fs, vs, bs⟩)))) ∧ Below w.heap.size w w' := by
  have hll := hCl.le
  obtain ⟨RES, hRES⟩ : ∃ RES, RES = (bsOk vs.length bs && (allI (vOk a l bs) 0 vs && (allI (fun _ f => fOk a l bs vs.length f) 0 fs && nOk a l ⟨d, p, e, x, fs, vs, bs⟩))) := ⟨_, rfl⟩
  rw [← hRES]
  have HRES := hide hRES
  have HCl := hide hCl
  have HCd := hide hC
  have HT := hide ht
  have HF := hide hF
  have HV := hide hV
  have HBd := hide hBd
  have HVl := hide (fun (w' : World) (y : Int) => l6Val_any d p e x (.slice af fs.length cf) (.slice ab bs.length cb) av vs.length cv y w' (by omega))
  have HPa := hide (fun (w' : World) (pl env : Int) (hb : bsOk vs.length bs = true) (hb' : Below w.heap.size w w') => l6Part_any cb0 ad c l a d p e x (.slice af fs.length cf) (.slice av vs.length cv) ab cb vs.length bs pl env w' hCl (hC.below hb') (hBd.below hb') hb (by omega))
  have HEa := hide (fun (w' : World) (env t : Int) (hb : bsOk vs.length bs = true) (he : -1 ≤ env ∧ env < bs.length) (ht : 0 ≤ t) (hb' : Below w.heap.size w w') => l6Elder_any d p e x (.slice af fs.length cf) (.slice av vs.length cv) ab cb vs.length bs env t w' (hBd.below hb') hb he ht (by omega))
  have HFa := hide (fun (w' : World) (f : Fm) (hb : bsOk vs.length bs = true) (hb' : Below w.heap.size w w') => l6Frame_any cb0 ad c l a d p e x (.slice af fs.length cf) av ab vs.length cv cb bs f w' hCl (hC.below hb') (ht.below hb') (hBd.below hb') hb (by omega) (by omega))
  have g1 : ¬ (500 : Int) < (fs.length : Int) := by omega
  have g2 : ¬ (500 : Int) < (vs.length : Int) := by omega
  have g3 : ¬ (500 : Int) < (bs.length : Int) := by omega
  clear ht hCl hC hRES hF hV hBd
  go_enter Try.func50, Try.ntmps50
  go_wp2_with fail
  have HXc := hide (Bx.new w #[.bool d, .int .i64 p, .int .i64 e, .int .i64 x, .slice af fs.length cf, .slice av vs.length cv, .slice ab bs.length cb] 28)
  have HBwc : Hid (Below w.heap.size w (w.alloc (.cells #[.bool d, .int .i64 p, .int .i64 e, .int .i64 x, .slice af fs.length cf, .slice av vs.length cv, .slice ab bs.length cb] 28))) := hide ((Below.refl _ _).alloc (Nat.le_refl _) _)
  obtain ⟨wc, hwc⟩ : ∃ wc, wc = w.alloc (.cells #[.bool d, .int .i64 p, .int .i64 e, .int .i64 x, .slice af fs.length cf, .slice av vs.length cv, .slice ab bs.length cb] 28) := ⟨_, rfl⟩
  obtain ⟨XB, hXB⟩ : ∃ XB, XB = w.heap.size := ⟨_, rfl⟩
  rw [← hwc] at HXc HBwc ⊢
  rw [← hXB] at HXc ⊢
  have xlc : XB < wc.heap.size := HXc.out.lt
  clear hwc hXB
  go_loopw [30] (fun i w' => ∃ (j : Nat), j ≤ bs.length ∧ i = .int .i64 (j : Int) ∧ (∀ k (hk : k < bs.length), k < j → bOk vs.length k bs[k] = true) ∧ Below wc.heap.size wc w') (fun i _ => bs.length - (intOf i).toNat)
  case atStart => exact ⟨0, Nat.zero_le _, rfl, fun k _ hk => by omega, Below.refl _ _⟩
  case round =>
    obtain ⟨j, hj, rfl, hall, hB⟩ := hrel
    have hBwr : Below w.heap.size w wr := HBwc.out.trans (hB.mono HBwc.out.size)
    by_cases hlt : j < bs.length
    · have hlt' : (j : Int) < (bs.length : Int) := by omega
      have hj0 : (0 : Int) ≤ (j : Int) := by omega
      obtain ⟨b, o, rfl, -, q0, q1⟩ := BdRow.tok HBd.out hBwr hlt
      have HBad := hide (fun h => bsOk_bad (nv := vs.length) (bs := bs) hlt h)
      have HAt := hide (fun (h : bOk vs.length j bs[j] = true) k hk (hk' : k < j + 1) => (by
        by_cases hkj : k < j
        · exact hall k hk hkj
        · have hke : k = j := by omega
          subst hke
          exact h : bOk vs.length k bs[k] = true))
      obtain ⟨y, hy⟩ : ∃ y, y = bs[j] := ⟨_, rfl⟩
      rw [← hy] at q0 q1
      simp only [← hy] at HBad HAt
      clear hy hall
      obtain ⟨yv, yu⟩ := y
      simp only at q0 q1
      have cx := ((HXc.out.below hB xlc).alloc (.cells #[.int .i64 yv, .int .i64 yu] 124)).c
      have hBv : Below wc.heap.size wc (wr.alloc (.cells #[.int .i64 yv, .int .i64 yu] 124)) := hB.alloc hB.size _
      have HYb := hide (Bx.new wr #[.int .i64 yv, .int .i64 yu] 124)
      have HBr := hide hBv
      have HCall := hide (HVl.out (wr.alloc (.cells #[.int .i64 yv, .int .i64 yu] 124)) yv)
      obtain ⟨VB, hVB⟩ : ∃ VB, VB = blw yv vs.length := ⟨_, rfl⟩
      rw [← hVB] at HCall
      have HVB := hide hVB
      clear hVB hBv
      go_wp2_with fail
      refine HCall.out.mono ?_
      rintro r w5 ⟨rfl, hb5⟩
      have HB5 := hide (HBr.out.trans (hb5.mono HBr.out.size))
      have hB5 : Below w.heap.size w w5 := HBwc.out.trans (HB5.out.mono HBwc.out.size)
      have cy := (HYb.out.below hb5 HYb.out.lt).c
      clear hb5 cx q0 q1
      cases VB with
      | false =>
        have HR0 : Hid (RES = false) := hide (by rw [HRES.out, HBad.out (by unfold bOk; rw [← HVB.out]; rfl)]; rfl)
        go_wp2_with fail
        go_ret
        exact ⟨ret_bool HR0.out.symm, hB5⟩
      | true =>
        by_cases hu1 : yu < -1
        · have HR0 : Hid (RES = false) := hide (by
            rw [HRES.out, HBad.out (by rw [Bool.eq_false_iff]; intro hh; have := bOk_iff.1 hh; simp only at this; omega)]; rfl)
          go_wp2_with fail
          go_ret
          exact ⟨ret_bool HR0.out.symm, hB5⟩
        · by_cases hu2 : (j : Int) ≤ yu
          · have HR0 : Hid (RES = false) := hide (by
              rw [HRES.out, HBad.out (by rw [Bool.eq_false_iff]; intro hh; have := bOk_iff.1 hh; simp only at this; omega)]; rfl)
            go_wp2_with fail
            go_ret
            exact ⟨ret_bool HR0.out.symm, hB5⟩
          · have HOk : Hid (bOk vs.length j ⟨yv, yu⟩ = true) := hide (bOk_iff.2 (by have := blw_iff.1 HVB.out.symm; simp only; omega))
            go_wp2_with fail
            exact ⟨⟨j + 1, by omega, by go_num, HAt.out HOk.out, HB5.out⟩, by simp [intOf]; omega⟩
    · have hlt' : ¬ (j : Int) < (bs.length : Int) := by omega
      have hbo : bsOk vs.length bs = true := allI_all _ _ _ (fun k hk => by rw [Nat.zero_add]; exact hall k hk (by omega))
      rw [hbo, Bool.true_and] at HRES
      have HBO := hide hbo
      have cx := (HXc.out.below hB xlc).c
      have HB7' := hide hB
      clear hall hbo hB hBwr
      go_wp2_with fail
      obtain ⟨w7, hw7⟩ : ∃ w7, w7 = wr := ⟨_, rfl⟩
      have HB7 : Hid (Below wc.heap.size wc w7) := hide (by rw [hw7]; exact HB7'.out)
      rw [← hw7]
      clear cx HB7' hw7
      go_loopw [55] (fun i w' => ∃ (j : Nat), j ≤ vs.length ∧ i = .int .i64 (j : Int) ∧ (∀ k (hk : k < vs.length), k < j → vOk a l bs k vs[k] = true) ∧ Below wc.heap.size wc w') (fun i _ => vs.length - (intOf i).toNat)
      case atStart => exact ⟨0, Nat.zero_le _, rfl, fun k _ hk => by omega, HB7.out⟩
      case round =>
        obtain ⟨j, hj, rfl, hall, hB⟩ := hrel
        have hBwr : Below w.heap.size w wr := HBwc.out.trans (hB.mono HBwc.out.size)
        by_cases hlt : j < vs.length
        · have hlt' : (j : Int) < (vs.length : Int) := by omega
          have hj0 : (0 : Int) ≤ (j : Int) := by omega
          obtain ⟨b, o, rfl, -, q0, q1, q2, q3⟩ := VlRow.tok HV.out hBwr hlt
          have HBad := hide (fun (h : vOk a l bs j vs[j] = false) => allI_bad (vOk a l bs) vs 0 j hlt (by rw [Nat.zero_add]; exact h))
          have HAt := hide (fun (h : vOk a l bs j vs[j] = true) k hk (hk' : k < j + 1) => (by
            by_cases hkj : k < j
            · exact hall k hk hkj
            · have hke : k = j := by omega
              subst hke
              exact h : vOk a l bs k vs[k] = true))
          obtain ⟨y, hy⟩ : ∃ y, y = vs[j] := ⟨_, rfl⟩
          rw [← hy] at q0 q1 q2 q3
          simp only [← hy] at HBad HAt
          clear hy hall
          obtain ⟨yf, yn, yp, ye⟩ := y
          simp only at q0 q1 q2 q3
          cases yf with
          | false =>
            have HVo : Hid (vOk a l bs j ⟨false, yn, yp, ye⟩ = (inB yn (-1000000) 1000000 && decide (yp = 0) && decide (ye = 0))) := hide (by unfold vOk; simp)
            go_wp2_with fail
            have hBc0 : Below wc.heap.size wc (wr.alloc (.cells #[.bool false, .int .i64 yn, .int .i64 yp, .int .i64 ye] 74)) := hB.alloc hB.size _
            have hX0 := (HXc.out.below hB xlc).alloc (.cells #[.bool false, .int .i64 yn, .int .i64 yp, .int .i64 ye] 74)
            have hY0 := Bx.new wr #[.bool false, .int .i64 yn, .int .i64 yp, .int .i64 ye] 74
            obtain ⟨w0, hw0⟩ : ∃ w0, w0 = wr.alloc (.cells #[.bool false, .int .i64 yn, .int .i64 yp, .int .i64 ye] 74) := ⟨_, rfl⟩
            obtain ⟨YB, hYB⟩ : ∃ YB, YB = wr.heap.size := ⟨_, rfl⟩
            rw [← hw0] at hBc0 hX0 hY0 ⊢
            rw [← hYB] at hY0 ⊢
            have hBw0 : Below w.heap.size w w0 := HBwc.out.trans (hBc0.mono HBwc.out.size)
            have xl0 : XB < w0.heap.size := hX0.lt
            have yl0 : YB < w0.heap.size := hY0.lt
            have HX0 := hide hX0
            have HY0 := hide hY0
            have cx0 := hX0.c
            have cy0 := hY0.c
            obtain ⟨kb, vb, hcx, -, -, -, -⟩ := HCd.out.ex
            have hcc := hcx.below hBw0 hcx.lt
            have cl0 : cb0 < w0.heap.size := hcc.lt
            have cc0 := hcc.c
            clear hX0 hY0 hw0 hYB hcx hcc q0 q1 q2 q3
            clear cc0
            have HI := hide (l1In_any yn (-1000000) 1000000)
            obtain ⟨IB, hIB⟩ : ∃ IB, IB = inB yn (-1000000) 1000000 := ⟨_, rfl⟩
            rw [← hIB] at HI HVo
            clear hIB
            go_quiet (fail)
            have hBq : Below wc.heap.size wc (w0.drewN nq) := ⟨hBc0.os, hBc0.tape, hBc0.output, hBc0.size, hBc0.block⟩
            have hBqw : Below w.heap.size w (w0.drewN nq) := ⟨hBw0.os, hBw0.tape, hBw0.output, hBw0.size, hBw0.block⟩
            have HBq := hide hBq
            clear hBq
            by_cases h1 : yp = 0
            · by_cases h2 : ye = 0
              · subst h1 h2
                go_wp2_with fail
                refine (HI.out _).mono ?_
                rintro r w' ⟨rfl, hw'⟩
                obtain rfl := hw'.symm
                cases IB with
                | false =>
                  have HR0 : Hid (RES = false) := hide (by rw [HRES.out, HBad.out (by rw [HVo.out]; simp)]; rfl)
                  go_wp2_with fail
                  go_ret
                  exact ⟨ret_bool HR0.out.symm, hBqw⟩
                | true =>
                  have HOk : Hid (vOk a l bs j ⟨false, yn, 0, 0⟩ = true) := hide (by rw [HVo.out]; simp)
                  go_wp2_with fail
                  exact ⟨⟨j + 1, by omega, by go_num, HAt.out HOk.out, HBq.out⟩, by simp [intOf]; omega⟩
              · subst h1
                have HR0 : Hid (RES = false) := hide (by rw [HRES.out, HBad.out (by rw [HVo.out]; simp [h2])]; rfl)
                go_wp2_with fail
                go_ret
                exact ⟨ret_bool HR0.out.symm, hBqw⟩
            · have HR0 : Hid (RES = false) := hide (by rw [HRES.out, HBad.out (by rw [HVo.out]; simp [h1])]; rfl)
              go_wp2_with fail
              go_ret
              exact ⟨ret_bool HR0.out.symm, hBqw⟩
          | true =>
            by_cases hn : yn = 0
            · subst hn
              have HPt := hide (fun (w' : World) (hb' : Below w.heap.size w w') => HPa.out w' yp ye HBO.out hb')
              cases hp : pOk a l.length bs yp ye with
              | false =>
                rw [hp] at HPt
                have HR0 : Hid (RES = false) := hide (by rw [HRES.out, HBad.out (by unfold vOk; simp [hp])]; rfl)
                clear hp
                go_wp2_with fail
                have hBc0 : Below wc.heap.size wc (wr.alloc (.cells #[.bool true, .int .i64 0, .int .i64 yp, .int .i64 ye] 74)) := hB.alloc hB.size _
                have hX0 := (HXc.out.below hB xlc).alloc (.cells #[.bool true, .int .i64 0, .int .i64 yp, .int .i64 ye] 74)
                have hY0 := Bx.new wr #[.bool true, .int .i64 0, .int .i64 yp, .int .i64 ye] 74
                obtain ⟨w0, hw0⟩ : ∃ w0, w0 = wr.alloc (.cells #[.bool true, .int .i64 0, .int .i64 yp, .int .i64 ye] 74) := ⟨_, rfl⟩
                obtain ⟨YB, hYB⟩ : ∃ YB, YB = wr.heap.size := ⟨_, rfl⟩
                rw [← hw0] at hBc0 hX0 hY0 ⊢
                rw [← hYB] at hY0 ⊢
                have hBw0 : Below w.heap.size w w0 := HBwc.out.trans (hBc0.mono HBwc.out.size)
                have xl0 : XB < w0.heap.size := hX0.lt
                have yl0 : YB < w0.heap.size := hY0.lt
                have HX0 := hide hX0
                have HY0 := hide hY0
                have cx0 := hX0.c
                have cy0 := hY0.c
                obtain ⟨kb, vb, hcx, -, -, -, -⟩ := HCd.out.ex
                have hcc := hcx.below hBw0 hcx.lt
                have cl0 : cb0 < w0.heap.size := hcc.lt
                have cc0 := hcc.c
                clear hX0 hY0 hw0 hYB hcx hcc q0 q1 q2 q3
                have b0 : w0.cell? ⟨XB, 0, none⟩ = some (.bool d) := cx0 0
                have b1 : w0.cell? ⟨XB, 1, none⟩ = some (.int .i64 p) := cx0 1
                have b2 : w0.cell? ⟨XB, 2, none⟩ = some (.int .i64 e) := cx0 2
                have b3 : w0.cell? ⟨XB, 3, none⟩ = some (.int .i64 x) := cx0 3
                have b4 : w0.cell? ⟨XB, 4, none⟩ = some (.slice af fs.length cf) := cx0 4
                have b5 : w0.cell? ⟨XB, 5, none⟩ = some (.slice (some ⟨b, o, none⟩) vs.length cv) := cx0 5
                have b6 : w0.cell? ⟨XB, 6, none⟩ = some (.slice ab bs.length cb) := cx0 6
                have b7 : w0.cell? ⟨YB, 0, none⟩ = some (.bool true) := cy0 0
                have b8 : w0.cell? ⟨YB, 1, none⟩ = some (.int .i64 0) := cy0 1
                have b9 : w0.cell? ⟨YB, 2, none⟩ = some (.int .i64 yp) := cy0 2
                have b10 : w0.cell? ⟨YB, 3, none⟩ = some (.int .i64 ye) := cy0 3
                have HB0 : Hid (Below w.heap.size w w0.drew) := hide (belowDrew hBw0)
                have HB1 : Hid (Below wc.heap.size wc w0.drew) := hide (belowDrew hBc0)
                clear cx0 cy0 cc0
                refine wp_region_noPanic ?_
                refine wp_region_held_drew (S := fun w' => w'.cell? ⟨XB, 0, none⟩ = some (.bool d) ∧ w'.cell? ⟨XB, 1, none⟩ = some (.int .i64 p) ∧ w'.cell? ⟨XB, 2, none⟩ = some (.int .i64 e) ∧ w'.cell? ⟨XB, 3, none⟩ = some (.int .i64 x) ∧ w'.cell? ⟨XB, 4, none⟩ = some (.slice af fs.length cf) ∧ w'.cell? ⟨XB, 5, none⟩ = some (.slice (some ⟨b, o, none⟩) vs.length cv) ∧ w'.cell? ⟨XB, 6, none⟩ = some (.slice ab bs.length cb) ∧ w'.cell? ⟨YB, 0, none⟩ = some (.bool true) ∧ w'.cell? ⟨YB, 1, none⟩ = some (.int .i64 0) ∧ w'.cell? ⟨YB, 2, none⟩ = some (.int .i64 yp) ∧ w'.cell? ⟨YB, 3, none⟩ = some (.int .i64 ye)) (by kernel_rfl) ⟨b0, b1, b2, b3, b4, b5, b6, b7, b8, b9, b10⟩ (fun hHeld => ?_)
                refine wpAnyH_take (i := 0) (oi := _) (v := ?_) rfl (by kernel_rfl) (by kernel_rfl) (by kernel_rfl) (fun _ _ _ h => h) (Or.inl ⟨by rfl, ?_⟩) (by assumption) ?_
                rotate_left 1
                · (intro w hSw; (try dsimp only at hSw); (first | (go_simp; done) | (go_simp; with_reducible rfl)))
                try simp only [Act.put, List.getElem_toArray, List.getElem_cons_zero, List.getElem_cons_succ, List.setIfInBounds_toArray, List.set_cons_zero, List.set_cons_succ]
                refine wpAnyH_take (i := 1) (oi := _) (v := ?_) rfl (by kernel_rfl) (by kernel_rfl) (by kernel_rfl) (fun _ _ _ h => h) (Or.inl ⟨by rfl, ?_⟩) (by assumption) ?_
                rotate_left 1
                · (intro w hSw; (try dsimp only at hSw); (first | (go_simp; done) | (go_simp; with_reducible rfl)))
                try simp only [Act.put, List.getElem_toArray, List.getElem_cons_zero, List.getElem_cons_succ, List.setIfInBounds_toArray, List.set_cons_zero, List.set_cons_succ]
                refine wpAnyH_take (i := 2) (oi := _) (v := ?_) rfl (by kernel_rfl) (by kernel_rfl) (by kernel_rfl) (fun _ _ _ h => h) (Or.inl ⟨by rfl, ?_⟩) (by assumption) ?_
                rotate_left 1
                · (intro w hSw; (try dsimp only at hSw); (first | (go_simp; done) | (go_simp; with_reducible rfl)))
                try simp only [Act.put, List.getElem_toArray, List.getElem_cons_zero, List.getElem_cons_succ, List.setIfInBounds_toArray, List.set_cons_zero, List.set_cons_succ]
                refine wpAnyH_take (i := 3) (oi := _) (v := ?_) rfl (by kernel_rfl) (by kernel_rfl) (by kernel_rfl) (fun _ _ _ h => h) (Or.inl ⟨by rfl, ?_⟩) (by assumption) ?_
                rotate_left 1
                · (intro w hSw; (try dsimp only at hSw); (first | (go_simp; done) | (go_simp; with_reducible rfl)))
                try simp only [Act.put, List.getElem_toArray, List.getElem_cons_zero, List.getElem_cons_succ, List.setIfInBounds_toArray, List.set_cons_zero, List.set_cons_succ]
                refine wpAnyH_take (i := 4) (oi := _) (v := ?_) rfl (by kernel_rfl) (by kernel_rfl) (by kernel_rfl) (fun _ _ _ h => h) (Or.inl ⟨by rfl, ?_⟩) (by assumption) ?_
                rotate_left 1
                · (intro w hSw; (try dsimp only at hSw); (first | (go_simp; done) | (go_simp; with_reducible rfl)))
                try simp only [Act.put, List.getElem_toArray, List.getElem_cons_zero, List.getElem_cons_succ, List.setIfInBounds_toArray, List.set_cons_zero, List.set_cons_succ]
                refine wpAnyH_take (i := 5) (oi := _) (v := ?_) rfl (by kernel_rfl) (by kernel_rfl) (by kernel_rfl) (fun _ _ _ h => h) (Or.inl ⟨by rfl, ?_⟩) (by assumption) ?_
                rotate_left 1
                · (intro w hSw; (try dsimp only at hSw); (first | (go_simp; done) | (go_simp; with_reducible rfl)))
                try simp only [Act.put, List.getElem_toArray, List.getElem_cons_zero, List.getElem_cons_succ, List.setIfInBounds_toArray, List.set_cons_zero, List.set_cons_succ]
                refine wpAnyH_take (i := 6) (oi := _) (v := ?_) rfl (by kernel_rfl) (by kernel_rfl) (by kernel_rfl) (fun _ _ _ h => h) (Or.inl ⟨by rfl, ?_⟩) (by assumption) ?_
                rotate_left 1
                · (intro w hSw; (try dsimp only at hSw); (first | (go_simp; done) | (go_simp; with_reducible rfl)))
                try simp only [Act.put, List.getElem_toArray, List.getElem_cons_zero, List.getElem_cons_succ, List.setIfInBounds_toArray, List.set_cons_zero, List.set_cons_succ]
                refine wpAnyH_take (i := 7) (oi := _) (v := ?_) rfl (by kernel_rfl) (by kernel_rfl) (by kernel_rfl) (fun _ _ _ h => h) (Or.inl ⟨by rfl, ?_⟩) (by assumption) ?_
                rotate_left 1
                · (intro w hSw; (try dsimp only at hSw); (first | (go_simp; done) | (go_simp; with_reducible rfl)))
                try simp only [Act.put, List.getElem_toArray, List.getElem_cons_zero, List.getElem_cons_succ, List.setIfInBounds_toArray, List.set_cons_zero, List.set_cons_succ]
                refine wpAnyH_take (i := 8) (oi := _) (v := ?_) rfl (by kernel_rfl) (by kernel_rfl) (by kernel_rfl) (fun _ _ _ h => h) (Or.inl ⟨by rfl, ?_⟩) (by assumption) ?_
                rotate_left 1
                · (intro w hSw; (try dsimp only at hSw); (first | (go_simp; done) | (go_simp; with_reducible rfl)))
                try simp only [Act.put, List.getElem_toArray, List.getElem_cons_zero, List.getElem_cons_succ, List.setIfInBounds_toArray, List.set_cons_zero, List.set_cons_succ]
                refine wpAnyH_take (i := 9) (oi := _) (v := ?_) rfl (by kernel_rfl) (by kernel_rfl) (by kernel_rfl) (fun _ _ _ h => h) (Or.inl ⟨by rfl, ?_⟩) (by assumption) ?_
                rotate_left 1
                · (intro w hSw; (try dsimp only at hSw); (first | (go_simp; done) | (go_simp; with_reducible rfl)))
                try simp only [Act.put, List.getElem_toArray, List.getElem_cons_zero, List.getElem_cons_succ, List.setIfInBounds_toArray, List.set_cons_zero, List.set_cons_succ]
                refine wpAnyH_take (i := 10) (oi := _) (v := ?_) rfl (by kernel_rfl) (by kernel_rfl) (by kernel_rfl) (fun _ _ _ h => h) (Or.inl ⟨by rfl, ?_⟩) (by assumption) ?_
                rotate_left 1
                · (intro w hSw; (try dsimp only at hSw); (first | (go_simp; done) | (go_simp; with_reducible rfl)))
                try simp only [Act.put, List.getElem_toArray, List.getElem_cons_zero, List.getElem_cons_succ, List.setIfInBounds_toArray, List.set_cons_zero, List.set_cons_succ]
                refine wpAnyH_take (i := 11) (oi := _) (v := ?_) rfl (by kernel_rfl) (by kernel_rfl) (by kernel_rfl) (fun _ _ _ h => h) (Or.inl ⟨by rfl, ?_⟩) (by assumption) ?_
                rotate_left 1
                · (intro w hSw; (try dsimp only at hSw); (first | (go_simp; done) | (go_simp; with_reducible rfl)))
                try simp only [Act.put, List.getElem_toArray, List.getElem_cons_zero, List.getElem_cons_succ, List.setIfInBounds_toArray, List.set_cons_zero, List.set_cons_succ]
                refine wpAnyH_take (i := 12) (oi := _) (v := ?_) rfl (by kernel_rfl) (by kernel_rfl) (by kernel_rfl) (fun _ _ _ h => h) (Or.inl ⟨by rfl, ?_⟩) (by assumption) ?_
                rotate_left 1
                · (intro w hSw; (try dsimp only at hSw); (first | (go_simp; done) | (go_simp; with_reducible rfl)))
                try simp only [Act.put, List.getElem_toArray, List.getElem_cons_zero, List.getElem_cons_succ, List.setIfInBounds_toArray, List.set_cons_zero, List.set_cons_succ]
                refine wpAnyH_ready (rs := [13]) (by kernel_rfl) (by simp) ?_
                refine AllReadyH.cons (o := _) rfl (fun K hK => ?_) AllReadyH.nil
                go_simp
                (with_reducible refine Calls.mono (HPt.out _ HB0.out) ?_)
                rintro r wa ⟨rfl, hba⟩
                have hBa : Below w.heap.size w wa := HB0.out.trans (hba.mono HB0.out.size)
                have HBa := hide hBa
                have hBac : Below wc.heap.size wc wa := HB1.out.trans (hba.mono HB1.out.size)
                have HBac := hide hBac
                have hza : w0.heap.size ≤ wa.heap.size := hba.size
                have fa0 := (hba.cell (p := ⟨XB, 0, none⟩) (show XB < w0.heap.size by omega)).trans b0
                have fa1 := (hba.cell (p := ⟨XB, 1, none⟩) (show XB < w0.heap.size by omega)).trans b1
                have fa2 := (hba.cell (p := ⟨XB, 2, none⟩) (show XB < w0.heap.size by omega)).trans b2
                have fa3 := (hba.cell (p := ⟨XB, 3, none⟩) (show XB < w0.heap.size by omega)).trans b3
                have fa4 := (hba.cell (p := ⟨XB, 4, none⟩) (show XB < w0.heap.size by omega)).trans b4
                have fa5 := (hba.cell (p := ⟨XB, 5, none⟩) (show XB < w0.heap.size by omega)).trans b5
                have fa6 := (hba.cell (p := ⟨XB, 6, none⟩) (show XB < w0.heap.size by omega)).trans b6
                have fa7 := (hba.cell (p := ⟨YB, 0, none⟩) (show YB < w0.heap.size by omega)).trans b7
                have fa8 := (hba.cell (p := ⟨YB, 1, none⟩) (show YB < w0.heap.size by omega)).trans b8
                have fa9 := (hba.cell (p := ⟨YB, 2, none⟩) (show YB < w0.heap.size by omega)).trans b9
                have fa10 := (hba.cell (p := ⟨YB, 3, none⟩) (show YB < w0.heap.size by omega)).trans b10
                clear hba hBa hBac
                (try go_wp2_with fail)
                refine hK.out _ _ ⟨fa0, fa1, fa2, fa3, fa4, fa5, fa6, fa7, fa8, fa9, fa10⟩ (fun hHeld => ?_)
                clear hK K
                try simp only [Act.put, List.getElem_toArray, List.getElem_cons_zero, List.getElem_cons_succ, List.setIfInBounds_toArray, List.set_cons_zero, List.set_cons_succ]
                refine wpAnyH_take (i := 14) (oi := _) (v := ?_) rfl (by kernel_rfl) (by kernel_rfl) (by kernel_rfl) (fun _ _ _ h => h) (Or.inl ⟨by rfl, ?_⟩) (by assumption) ?_
                rotate_left 1
                · (intro w hSw; (try dsimp only at hSw); (first | (go_simp; done) | (go_simp; with_reducible rfl)))
                try simp only [Act.put, List.getElem_toArray, List.getElem_cons_zero, List.getElem_cons_succ, List.setIfInBounds_toArray, List.set_cons_zero, List.set_cons_succ]
                refine wpAnyH_take (i := 15) (oi := _) (v := ?_) rfl (by kernel_rfl) (by kernel_rfl) (by kernel_rfl) (fun _ _ _ h => h) (Or.inl ⟨by rfl, ?_⟩) (by assumption) ?_
                rotate_left 1
                · (intro w hSw; (try dsimp only at hSw); (first | (go_simp; done) | (go_simp; with_reducible rfl)))
                try simp only [Act.put, List.getElem_toArray, List.getElem_cons_zero, List.getElem_cons_succ, List.setIfInBounds_toArray, List.set_cons_zero, List.set_cons_succ]
                refine wpAnyH_take (i := 16) (oi := _) (v := ?_) rfl (by kernel_rfl) (by kernel_rfl) (by kernel_rfl) (fun _ _ _ h => h) (Or.inl ⟨by rfl, ?_⟩) (by assumption) ?_
                rotate_left 1
                · (intro w hSw; (try dsimp only at hSw); (first | (go_simp; done) | (go_simp; with_reducible rfl)))
                try simp only [Act.put, List.getElem_toArray, List.getElem_cons_zero, List.getElem_cons_succ, List.setIfInBounds_toArray, List.set_cons_zero, List.set_cons_succ]
                refine wpAnyH_take (i := 17) (oi := _) (v := undef) rfl (by kernel_rfl) (by kernel_rfl) (by kernel_rfl) (fun _ _ _ h => h) (Or.inr ⟨by rfl, rfl⟩) (by assumption) ?_
                try simp only [Act.put, List.getElem_toArray, List.getElem_cons_zero, List.getElem_cons_succ, List.setIfInBounds_toArray, List.set_cons_zero, List.set_cons_succ]
                refine wpAnyH_take (i := 18) (oi := _) (v := undef) rfl (by kernel_rfl) (by kernel_rfl) (by kernel_rfl) (fun _ _ _ h => h) (Or.inr ⟨by rfl, rfl⟩) (by assumption) ?_
                try simp only [Act.put, List.getElem_toArray, List.getElem_cons_zero, List.getElem_cons_succ, List.setIfInBounds_toArray, List.set_cons_zero, List.set_cons_succ]
                refine wpAnyH_take (i := 19) (oi := _) (v := undef) rfl (by kernel_rfl) (by kernel_rfl) (by kernel_rfl) (fun _ _ _ h => h) (Or.inr ⟨by rfl, rfl⟩) (by assumption) ?_
                try simp only [Act.put, List.getElem_toArray, List.getElem_cons_zero, List.getElem_cons_succ, List.setIfInBounds_toArray, List.set_cons_zero, List.set_cons_succ]
                refine wpAnyH_take (i := 20) (oi := _) (v := undef) rfl (by kernel_rfl) (by kernel_rfl) (by kernel_rfl) (fun _ _ _ h => h) (Or.inr ⟨by rfl, rfl⟩) (by assumption) ?_
                try simp only [Act.put, List.getElem_toArray, List.getElem_cons_zero, List.getElem_cons_succ, List.setIfInBounds_toArray, List.set_cons_zero, List.set_cons_succ]
                refine wpAnyH_take (i := 21) (oi := _) (v := undef) rfl (by kernel_rfl) (by kernel_rfl) (by kernel_rfl) (fun _ _ _ h => h) (Or.inr ⟨by rfl, rfl⟩) (by assumption) ?_
                try simp only [Act.put, List.getElem_toArray, List.getElem_cons_zero, List.getElem_cons_succ, List.setIfInBounds_toArray, List.set_cons_zero, List.set_cons_succ]
                refine wpAnyH_take (i := 22) (oi := _) (v := undef) rfl (by kernel_rfl) (by kernel_rfl) (by kernel_rfl) (fun _ _ _ h => h) (Or.inr ⟨by rfl, rfl⟩) (by assumption) ?_
                try simp only [Act.put, List.getElem_toArray, List.getElem_cons_zero, List.getElem_cons_succ, List.setIfInBounds_toArray, List.set_cons_zero, List.set_cons_succ]
                refine wpAnyH_take (i := 23) (oi := _) (v := undef) rfl (by kernel_rfl) (by kernel_rfl) (by kernel_rfl) (fun _ _ _ h => h) (Or.inr ⟨by rfl, rfl⟩) (by assumption) ?_
                try simp only [Act.put, List.getElem_toArray, List.getElem_cons_zero, List.getElem_cons_succ, List.setIfInBounds_toArray, List.set_cons_zero, List.set_cons_succ]
                refine wpAnyH_take (i := 24) (oi := _) (v := undef) rfl (by kernel_rfl) (by kernel_rfl) (by kernel_rfl) (fun _ _ _ h => h) (Or.inr ⟨by rfl, rfl⟩) (by assumption) ?_
                try simp only [Act.put, List.getElem_toArray, List.getElem_cons_zero, List.getElem_cons_succ, List.setIfInBounds_toArray, List.set_cons_zero, List.set_cons_succ]
                refine wpAnyH_take (i := 25) (oi := _) (v := undef) rfl (by kernel_rfl) (by kernel_rfl) (by kernel_rfl) (fun _ _ _ h => h) (Or.inr ⟨by rfl, rfl⟩) (by assumption) ?_
                try simp only [Act.put, List.getElem_toArray, List.getElem_cons_zero, List.getElem_cons_succ, List.setIfInBounds_toArray, List.set_cons_zero, List.set_cons_succ]
                refine wpAnyH_take (i := 26) (oi := _) (v := undef) rfl (by kernel_rfl) (by kernel_rfl) (by kernel_rfl) (fun _ _ _ h => h) (Or.inr ⟨by rfl, rfl⟩) (by assumption) ?_
                try simp only [Act.put, List.getElem_toArray, List.getElem_cons_zero, List.getElem_cons_succ, List.setIfInBounds_toArray, List.set_cons_zero, List.set_cons_succ]
                refine wpAnyH_take (i := 27) (oi := _) (v := ?_) rfl (by kernel_rfl) (by kernel_rfl) (by kernel_rfl) (fun _ _ _ h => h) (Or.inl ⟨by rfl, ?_⟩) (by assumption) ?_
                rotate_left 1
                · (intro w hSw; (try dsimp only at hSw); (first | (go_simp; done) | (go_simp; with_reducible rfl)))
                try simp only [Act.put, List.getElem_toArray, List.getElem_cons_zero, List.getElem_cons_succ, List.setIfInBounds_toArray, List.set_cons_zero, List.set_cons_succ]
                refine wpAnyH_take (i := 28) (oi := _) (v := ?_) rfl (by kernel_rfl) (by kernel_rfl) (by kernel_rfl) (fun _ _ _ h => h) (Or.inl ⟨by rfl, ?_⟩) (by assumption) ?_
                rotate_left 1
                · (intro w hSw; (try dsimp only at hSw); (first | (go_simp; done) | (go_simp; with_reducible rfl)))
                try simp only [Act.put, List.getElem_toArray, List.getElem_cons_zero, List.getElem_cons_succ, List.setIfInBounds_toArray, List.set_cons_zero, List.set_cons_succ]
                refine wpAnyH_take (i := 29) (oi := _) (v := undef) rfl (by kernel_rfl) (by kernel_rfl) (by kernel_rfl) (fun _ _ _ h => h) (Or.inr ⟨by rfl, rfl⟩) (by assumption) ?_
                try simp only [Act.put, List.getElem_toArray, List.getElem_cons_zero, List.getElem_cons_succ, List.setIfInBounds_toArray, List.set_cons_zero, List.set_cons_succ]
                refine wpAnyH_take (i := 30) (oi := _) (v := undef) rfl (by kernel_rfl) (by kernel_rfl) (by kernel_rfl) (fun _ _ _ h => h) (Or.inr ⟨by rfl, rfl⟩) (by assumption) ?_
                try simp only [Act.put, List.getElem_toArray, List.getElem_cons_zero, List.getElem_cons_succ, List.setIfInBounds_toArray, List.set_cons_zero, List.set_cons_succ]
                refine wpAnyH_take (i := 31) (oi := _) (v := undef) rfl (by kernel_rfl) (by kernel_rfl) (by kernel_rfl) (fun _ _ _ h => h) (Or.inr ⟨by rfl, rfl⟩) (by assumption) ?_
                try simp only [Act.put, List.getElem_toArray, List.getElem_cons_zero, List.getElem_cons_succ, List.setIfInBounds_toArray, List.set_cons_zero, List.set_cons_succ]
                refine wpAnyH_take (i := 32) (oi := _) (v := undef) rfl (by kernel_rfl) (by kernel_rfl) (by kernel_rfl) (fun _ _ _ h => h) (Or.inr ⟨by rfl, rfl⟩) (by assumption) ?_
                try simp only [Act.put, List.getElem_toArray, List.getElem_cons_zero, List.getElem_cons_succ, List.setIfInBounds_toArray, List.set_cons_zero, List.set_cons_succ]
                refine wpAnyH_take (i := 33) (oi := _) (v := undef) rfl (by kernel_rfl) (by kernel_rfl) (by kernel_rfl) (fun _ _ _ h => h) (Or.inr ⟨by rfl, rfl⟩) (by assumption) ?_
                try simp only [Act.put, List.getElem_toArray, List.getElem_cons_zero, List.getElem_cons_succ, List.setIfInBounds_toArray, List.set_cons_zero, List.set_cons_succ]
                refine wpAnyH_take (i := 34) (oi := _) (v := undef) rfl (by kernel_rfl) (by kernel_rfl) (by kernel_rfl) (fun _ _ _ h => h) (Or.inr ⟨by rfl, rfl⟩) (by assumption) ?_
                try simp only [Act.put, List.getElem_toArray, List.getElem_cons_zero, List.getElem_cons_succ, List.setIfInBounds_toArray, List.set_cons_zero, List.set_cons_succ]
                refine wpAnyH_take (i := 35) (oi := _) (v := ?_) rfl (by kernel_rfl) (by kernel_rfl) (by kernel_rfl) (fun _ _ _ h => h) (Or.inl ⟨by rfl, ?_⟩) (by assumption) ?_
                rotate_left 1
                · (intro w hSw; (try dsimp only at hSw); (first | (go_simp; done) | (go_simp; with_reducible rfl)))
                try simp only [Act.put, List.getElem_toArray, List.getElem_cons_zero, List.getElem_cons_succ, List.setIfInBounds_toArray, List.set_cons_zero, List.set_cons_succ]
                refine wpAnyH_take (i := 36) (oi := _) (v := ?_) rfl (by kernel_rfl) (by kernel_rfl) (by kernel_rfl) (fun _ _ _ h => h) (Or.inl ⟨by rfl, ?_⟩) (by assumption) ?_
                rotate_left 1
                · (intro w hSw; (try dsimp only at hSw); (first | (go_simp; done) | (go_simp; with_reducible rfl)))
                try simp only [Act.put, List.getElem_toArray, List.getElem_cons_zero, List.getElem_cons_succ, List.setIfInBounds_toArray, List.set_cons_zero, List.set_cons_succ]
                refine wpAnyH_done (by kernel_rfl) ?_ _
                refine NoPanic.normal ?_
                go_wp2_with fail
                go_ret
                exact ⟨ret_bool HR0.out.symm, HBa.out⟩
              | true =>
                rw [hp] at HPt
                obtain ⟨p1, p2, p3⟩ := pOk_iff.1 hp
                obtain ⟨q, rfl⟩ := Int.eq_ofNat_of_zero_le p1.1
                obtain ⟨k, hk⟩ : ∃ k : Nat, ye = (k : Int) - 1 := ⟨(ye + 1).toNat, by omega⟩
                subst hk
                have hql : q < l.length := by omega
                have hq' : (q : Int) < (l.length : Int) := p1.2
                have hq0 : (0 : Int) ≤ (q : Int) := p1.1
                have HEl := hide (fun (w' : World) (hb' : Below w.heap.size w w') => HEa.out w' ((k : Int) - 1) (j : Int) HBO.out p2 (by omega) hb')
                obtain ⟨KD, hKD⟩ : ∃ KD, KD = l[q].k := ⟨_, rfl⟩
                obtain ⟨EB, hEB⟩ : ∃ EB, EB = decide ((bw bs ((k : Int) - 1)).2 < (j : Int)) := ⟨_, rfl⟩
                have HVo : Hid (vOk a l bs j ⟨true, 0, (q : Int), (k : Int) - 1⟩ = (decide (KD = 3) && EB)) := hide (by unfold vOk; simp [hp, kAt_nat l q hql, hKD, hEB])
                rw [← hEB] at HEl
                have HKD := hide hKD
                clear hp hKD hEB p1 p2 p3
                go_wp2_with fail
                have hBc0 : Below wc.heap.size wc (wr.alloc (.cells #[.bool true, .int .i64 0, .int .i64 (q : Int), .int .i64 ((k : Int) - 1)] 74)) := hB.alloc hB.size _
                have hX0 := (HXc.out.below hB xlc).alloc (.cells #[.bool true, .int .i64 0, .int .i64 (q : Int), .int .i64 ((k : Int) - 1)] 74)
                have hY0 := Bx.new wr #[.bool true, .int .i64 0, .int .i64 (q : Int), .int .i64 ((k : Int) - 1)] 74
                obtain ⟨w0, hw0⟩ : ∃ w0, w0 = wr.alloc (.cells #[.bool true, .int .i64 0, .int .i64 (q : Int), .int .i64 ((k : Int) - 1)] 74) := ⟨_, rfl⟩
                obtain ⟨YB, hYB⟩ : ∃ YB, YB = wr.heap.size := ⟨_, rfl⟩
                rw [← hw0] at hBc0 hX0 hY0 ⊢
                rw [← hYB] at hY0 ⊢
                have hBw0 : Below w.heap.size w w0 := HBwc.out.trans (hBc0.mono HBwc.out.size)
                have xl0 : XB < w0.heap.size := hX0.lt
                have yl0 : YB < w0.heap.size := hY0.lt
                have HX0 := hide hX0
                have HY0 := hide hY0
                have cx0 := hX0.c
                have cy0 := hY0.c
                obtain ⟨kb, vb, hcx, -, -, -, -⟩ := HCd.out.ex
                have hcc := hcx.below hBw0 hcx.lt
                have cl0 : cb0 < w0.heap.size := hcc.lt
                have cc0 := hcc.c
                clear hX0 hY0 hw0 hYB hcx hcc q0 q1 q2 q3
                obtain ⟨tb, tof, hta, htl, k0, -⟩ := CRow.tok HT.out hBw0 hql
                subst hta
                rw [← HKD.out] at k0
                have tl0 : tb < w0.heap.size := Nat.lt_of_lt_of_le htl hBw0.size
                by_cases h3 : KD = 3
                · subst h3
                  have b0 : w0.cell? ⟨XB, 0, none⟩ = some (.bool d) := cx0 0
                  have b1 : w0.cell? ⟨XB, 1, none⟩ = some (.int .i64 p) := cx0 1
                  have b2 : w0.cell? ⟨XB, 2, none⟩ = some (.int .i64 e) := cx0 2
                  have b3 : w0.cell? ⟨XB, 3, none⟩ = some (.int .i64 x) := cx0 3
                  have b4 : w0.cell? ⟨XB, 4, none⟩ = some (.slice af fs.length cf) := cx0 4
                  have b5 : w0.cell? ⟨XB, 5, none⟩ = some (.slice (some ⟨b, o, none⟩) vs.length cv) := cx0 5
                  have b6 : w0.cell? ⟨XB, 6, none⟩ = some (.slice ab bs.length cb) := cx0 6
                  have b7 : w0.cell? ⟨YB, 0, none⟩ = some (.bool true) := cy0 0
                  have b8 : w0.cell? ⟨YB, 1, none⟩ = some (.int .i64 0) := cy0 1
                  have b9 : w0.cell? ⟨YB, 2, none⟩ = some (.int .i64 (q : Int)) := cy0 2
                  have b10 : w0.cell? ⟨YB, 3, none⟩ = some (.int .i64 ((k : Int) - 1)) := cy0 3
                  have b11 : w0.cell? ⟨cb0, 0, none⟩ = some (.slice (some ⟨tb, tof, none⟩) l.length c) := cc0 0
                  have b12 : w0.cell? ⟨tb, tof + q * 2, none⟩ = some (.int .i64 3) := k0
                  have HB0 : Hid (Below w.heap.size w w0.drew) := hide (belowDrew hBw0)
                  have HB1 : Hid (Below wc.heap.size wc w0.drew) := hide (belowDrew hBc0)
                  clear cx0 cy0 cc0
                  refine wp_region_noPanic ?_
                  refine wp_region_held_drew (S := fun w' => w'.cell? ⟨XB, 0, none⟩ = some (.bool d) ∧ w'.cell? ⟨XB, 1, none⟩ = some (.int .i64 p) ∧ w'.cell? ⟨XB, 2, none⟩ = some (.int .i64 e) ∧ w'.cell? ⟨XB, 3, none⟩ = some (.int .i64 x) ∧ w'.cell? ⟨XB, 4, none⟩ = some (.slice af fs.length cf) ∧ w'.cell? ⟨XB, 5, none⟩ = some (.slice (some ⟨b, o, none⟩) vs.length cv) ∧ w'.cell? ⟨XB, 6, none⟩ = some (.slice ab bs.length cb) ∧ w'.cell? ⟨YB, 0, none⟩ = some (.bool true) ∧ w'.cell? ⟨YB, 1, none⟩ = some (.int .i64 0) ∧ w'.cell? ⟨YB, 2, none⟩ = some (.int .i64 (q : Int)) ∧ w'.cell? ⟨YB, 3, none⟩ = some (.int .i64 ((k : Int) - 1)) ∧ w'.cell? ⟨cb0, 0, none⟩ = some (.slice (some ⟨tb, tof, none⟩) l.length c) ∧ w'.cell? ⟨tb, tof + q * 2, none⟩ = some (.int .i64 3)) (by kernel_rfl) ⟨b0, b1, b2, b3, b4, b5, b6, b7, b8, b9, b10, b11, b12⟩ (fun hHeld => ?_)
                  refine wpAnyH_take (i := 0) (oi := _) (v := ?_) rfl (by kernel_rfl) (by kernel_rfl) (by kernel_rfl) (fun _ _ _ h => h) (Or.inl ⟨by rfl, ?_⟩) (by assumption) ?_
                  rotate_left 1
                  · (intro w hSw; (try dsimp only at hSw); (first | (go_simp; done) | (go_simp; with_reducible rfl)))
                  try simp only [Act.put, List.getElem_toArray, List.getElem_cons_zero, List.getElem_cons_succ, List.setIfInBounds_toArray, List.set_cons_zero, List.set_cons_succ]
                  refine wpAnyH_take (i := 1) (oi := _) (v := ?_) rfl (by kernel_rfl) (by kernel_rfl) (by kernel_rfl) (fun _ _ _ h => h) (Or.inl ⟨by rfl, ?_⟩) (by assumption) ?_
                  rotate_left 1
                  · (intro w hSw; (try dsimp only at hSw); (first | (go_simp; done) | (go_simp; with_reducible rfl)))
                  try simp only [Act.put, List.getElem_toArray, List.getElem_cons_zero, List.getElem_cons_succ, List.setIfInBounds_toArray, List.set_cons_zero, List.set_cons_succ]
                  refine wpAnyH_take (i := 2) (oi := _) (v := ?_) rfl (by kernel_rfl) (by kernel_rfl) (by kernel_rfl) (fun _ _ _ h => h) (Or.inl ⟨by rfl, ?_⟩) (by assumption) ?_
                  rotate_left 1
                  · (intro w hSw; (try dsimp only at hSw); (first | (go_simp; done) | (go_simp; with_reducible rfl)))
                  try simp only [Act.put, List.getElem_toArray, List.getElem_cons_zero, List.getElem_cons_succ, List.setIfInBounds_toArray, List.set_cons_zero, List.set_cons_succ]
                  refine wpAnyH_take (i := 3) (oi := _) (v := ?_) rfl (by kernel_rfl) (by kernel_rfl) (by kernel_rfl) (fun _ _ _ h => h) (Or.inl ⟨by rfl, ?_⟩) (by assumption) ?_
                  rotate_left 1
                  · (intro w hSw; (try dsimp only at hSw); (first | (go_simp; done) | (go_simp; with_reducible rfl)))
                  try simp only [Act.put, List.getElem_toArray, List.getElem_cons_zero, List.getElem_cons_succ, List.setIfInBounds_toArray, List.set_cons_zero, List.set_cons_succ]
                  refine wpAnyH_take (i := 4) (oi := _) (v := ?_) rfl (by kernel_rfl) (by kernel_rfl) (by kernel_rfl) (fun _ _ _ h => h) (Or.inl ⟨by rfl, ?_⟩) (by assumption) ?_
                  rotate_left 1
                  · (intro w hSw; (try dsimp only at hSw); (first | (go_simp; done) | (go_simp; with_reducible rfl)))
                  try simp only [Act.put, List.getElem_toArray, List.getElem_cons_zero, List.getElem_cons_succ, List.setIfInBounds_toArray, List.set_cons_zero, List.set_cons_succ]
                  refine wpAnyH_take (i := 5) (oi := _) (v := ?_) rfl (by kernel_rfl) (by kernel_rfl) (by kernel_rfl) (fun _ _ _ h => h) (Or.inl ⟨by rfl, ?_⟩) (by assumption) ?_
                  rotate_left 1
                  · (intro w hSw; (try dsimp only at hSw); (first | (go_simp; done) | (go_simp; with_reducible rfl)))
                  try simp only [Act.put, List.getElem_toArray, List.getElem_cons_zero, List.getElem_cons_succ, List.setIfInBounds_toArray, List.set_cons_zero, List.set_cons_succ]
                  refine wpAnyH_take (i := 6) (oi := _) (v := ?_) rfl (by kernel_rfl) (by kernel_rfl) (by kernel_rfl) (fun _ _ _ h => h) (Or.inl ⟨by rfl, ?_⟩) (by assumption) ?_
                  rotate_left 1
                  · (intro w hSw; (try dsimp only at hSw); (first | (go_simp; done) | (go_simp; with_reducible rfl)))
                  try simp only [Act.put, List.getElem_toArray, List.getElem_cons_zero, List.getElem_cons_succ, List.setIfInBounds_toArray, List.set_cons_zero, List.set_cons_succ]
                  refine wpAnyH_take (i := 7) (oi := _) (v := ?_) rfl (by kernel_rfl) (by kernel_rfl) (by kernel_rfl) (fun _ _ _ h => h) (Or.inl ⟨by rfl, ?_⟩) (by assumption) ?_
                  rotate_left 1
                  · (intro w hSw; (try dsimp only at hSw); (first | (go_simp; done) | (go_simp; with_reducible rfl)))
                  try simp only [Act.put, List.getElem_toArray, List.getElem_cons_zero, List.getElem_cons_succ, List.setIfInBounds_toArray, List.set_cons_zero, List.set_cons_succ]
                  refine wpAnyH_take (i := 8) (oi := _) (v := ?_) rfl (by kernel_rfl) (by kernel_rfl) (by kernel_rfl) (fun _ _ _ h => h) (Or.inl ⟨by rfl, ?_⟩) (by assumption) ?_
                  rotate_left 1
                  · (intro w hSw; (try dsimp only at hSw); (first | (go_simp; done) | (go_simp; with_reducible rfl)))
                  try simp only [Act.put, List.getElem_toArray, List.getElem_cons_zero, List.getElem_cons_succ, List.setIfInBounds_toArray, List.set_cons_zero, List.set_cons_succ]
                  refine wpAnyH_take (i := 9) (oi := _) (v := ?_) rfl (by kernel_rfl) (by kernel_rfl) (by kernel_rfl) (fun _ _ _ h => h) (Or.inl ⟨by rfl, ?_⟩) (by assumption) ?_
                  rotate_left 1
                  · (intro w hSw; (try dsimp only at hSw); (first | (go_simp; done) | (go_simp; with_reducible rfl)))
                  try simp only [Act.put, List.getElem_toArray, List.getElem_cons_zero, List.getElem_cons_succ, List.setIfInBounds_toArray, List.set_cons_zero, List.set_cons_succ]
                  refine wpAnyH_take (i := 10) (oi := _) (v := ?_) rfl (by kernel_rfl) (by kernel_rfl) (by kernel_rfl) (fun _ _ _ h => h) (Or.inl ⟨by rfl, ?_⟩) (by assumption) ?_
                  rotate_left 1
                  · (intro w hSw; (try dsimp only at hSw); (first | (go_simp; done) | (go_simp; with_reducible rfl)))
                  try simp only [Act.put, List.getElem_toArray, List.getElem_cons_zero, List.getElem_cons_succ, List.setIfInBounds_toArray, List.set_cons_zero, List.set_cons_succ]
                  refine wpAnyH_take (i := 11) (oi := _) (v := ?_) rfl (by kernel_rfl) (by kernel_rfl) (by kernel_rfl) (fun _ _ _ h => h) (Or.inl ⟨by rfl, ?_⟩) (by assumption) ?_
                  rotate_left 1
                  · (intro w hSw; (try dsimp only at hSw); (first | (go_simp; done) | (go_simp; with_reducible rfl)))
                  try simp only [Act.put, List.getElem_toArray, List.getElem_cons_zero, List.getElem_cons_succ, List.setIfInBounds_toArray, List.set_cons_zero, List.set_cons_succ]
                  refine wpAnyH_take (i := 12) (oi := _) (v := ?_) rfl (by kernel_rfl) (by kernel_rfl) (by kernel_rfl) (fun _ _ _ h => h) (Or.inl ⟨by rfl, ?_⟩) (by assumption) ?_
                  rotate_left 1
                  · (intro w hSw; (try dsimp only at hSw); (first | (go_simp; done) | (go_simp; with_reducible rfl)))
                  try simp only [Act.put, List.getElem_toArray, List.getElem_cons_zero, List.getElem_cons_succ, List.setIfInBounds_toArray, List.set_cons_zero, List.set_cons_succ]
                  refine wpAnyH_ready (rs := [13]) (by kernel_rfl) (by simp) ?_
                  refine AllReadyH.cons (o := _) rfl (fun K hK => ?_) AllReadyH.nil
                  go_simp
                  (with_reducible refine Calls.mono (HPt.out _ HB0.out) ?_)
                  rintro r wa ⟨rfl, hba⟩
                  have hBa : Below w.heap.size w wa := HB0.out.trans (hba.mono HB0.out.size)
                  have HBa := hide hBa
                  have hBac : Below wc.heap.size wc wa := HB1.out.trans (hba.mono HB1.out.size)
                  have HBac := hide hBac
                  have hza : w0.heap.size ≤ wa.heap.size := hba.size
                  have fa0 := (hba.cell (p := ⟨XB, 0, none⟩) (show XB < w0.heap.size by omega)).trans b0
                  have fa1 := (hba.cell (p := ⟨XB, 1, none⟩) (show XB < w0.heap.size by omega)).trans b1
                  have fa2 := (hba.cell (p := ⟨XB, 2, none⟩) (show XB < w0.heap.size by omega)).trans b2
                  have fa3 := (hba.cell (p := ⟨XB, 3, none⟩) (show XB < w0.heap.size by omega)).trans b3
                  have fa4 := (hba.cell (p := ⟨XB, 4, none⟩) (show XB < w0.heap.size by omega)).trans b4
                  have fa5 := (hba.cell (p := ⟨XB, 5, none⟩) (show XB < w0.heap.size by omega)).trans b5
                  have fa6 := (hba.cell (p := ⟨XB, 6, none⟩) (show XB < w0.heap.size by omega)).trans b6
                  have fa7 := (hba.cell (p := ⟨YB, 0, none⟩) (show YB < w0.heap.size by omega)).trans b7
                  have fa8 := (hba.cell (p := ⟨YB, 1, none⟩) (show YB < w0.heap.size by omega)).trans b8
                  have fa9 := (hba.cell (p := ⟨YB, 2, none⟩) (show YB < w0.heap.size by omega)).trans b9
                  have fa10 := (hba.cell (p := ⟨YB, 3, none⟩) (show YB < w0.heap.size by omega)).trans b10
                  have fa11 := (hba.cell (p := ⟨cb0, 0, none⟩) (show cb0 < w0.heap.size by omega)).trans b11
                  have fa12 := (hba.cell (p := ⟨tb, tof + q * 2, none⟩) (show tb < w0.heap.size by omega)).trans b12
                  clear hba hBa hBac
                  (try go_wp2_with fail)
                  refine hK.out _ _ ⟨fa0, fa1, fa2, fa3, fa4, fa5, fa6, fa7, fa8, fa9, fa10, fa11, fa12⟩ (fun hHeld => ?_)
                  clear hK K
                  try simp only [Act.put, List.getElem_toArray, List.getElem_cons_zero, List.getElem_cons_succ, List.setIfInBounds_toArray, List.set_cons_zero, List.set_cons_succ]
                  refine wpAnyH_take (i := 14) (oi := _) (v := ?_) rfl (by kernel_rfl) (by kernel_rfl) (by kernel_rfl) (fun _ _ _ h => h) (Or.inl ⟨by rfl, ?_⟩) (by assumption) ?_
                  rotate_left 1
                  · (intro w hSw; (try dsimp only at hSw); (first | (go_simp; done) | (go_simp; with_reducible rfl)))
                  try simp only [Act.put, List.getElem_toArray, List.getElem_cons_zero, List.getElem_cons_succ, List.setIfInBounds_toArray, List.set_cons_zero, List.set_cons_succ]
                  refine wpAnyH_take (i := 15) (oi := _) (v := ?_) rfl (by kernel_rfl) (by kernel_rfl) (by kernel_rfl) (fun _ _ _ h => h) (Or.inl ⟨by rfl, ?_⟩) (by assumption) ?_
                  rotate_left 1
                  · (intro w hSw; (try dsimp only at hSw); (first | (go_simp; done) | (go_simp; with_reducible rfl)))
                  try simp only [Act.put, List.getElem_toArray, List.getElem_cons_zero, List.getElem_cons_succ, List.setIfInBounds_toArray, List.set_cons_zero, List.set_cons_succ]
                  refine wpAnyH_take (i := 16) (oi := _) (v := ?_) rfl (by kernel_rfl) (by kernel_rfl) (by kernel_rfl) (fun _ _ _ h => h) (Or.inl ⟨by rfl, ?_⟩) (by assumption) ?_
                  rotate_left 1
                  · (intro w hSw; (try dsimp only at hSw); (first | (go_simp; done) | (go_simp; with_reducible rfl)))
                  try simp only [Act.put, List.getElem_toArray, List.getElem_cons_zero, List.getElem_cons_succ, List.setIfInBounds_toArray, List.set_cons_zero, List.set_cons_succ]
                  refine wpAnyH_take (i := 17) (oi := _) (v := ?_) rfl (by kernel_rfl) (by kernel_rfl) (by kernel_rfl) (fun _ _ _ h => h) (Or.inl ⟨by rfl, ?_⟩) (by assumption) ?_
                  rotate_left 1
                  · (intro w hSw; (try dsimp only at hSw); (first | (go_simp; done) | (go_simp; with_reducible rfl)))
                  try simp only [Act.put, List.getElem_toArray, List.getElem_cons_zero, List.getElem_cons_succ, List.setIfInBounds_toArray, List.set_cons_zero, List.set_cons_succ]
                  refine wpAnyH_take (i := 18) (oi := _) (v := ?_) rfl (by kernel_rfl) (by kernel_rfl) (by kernel_rfl) (fun _ _ _ h => h) (Or.inl ⟨by rfl, ?_⟩) (by assumption) ?_
                  rotate_left 1
                  · (intro w hSw; (try dsimp only at hSw); (first | (go_simp; done) | (go_simp; with_reducible rfl)))
                  try simp only [Act.put, List.getElem_toArray, List.getElem_cons_zero, List.getElem_cons_succ, List.setIfInBounds_toArray, List.set_cons_zero, List.set_cons_succ]
                  refine wpAnyH_take (i := 19) (oi := _) (v := ?_) rfl (by kernel_rfl) (by kernel_rfl) (by kernel_rfl) (fun _ _ _ h => h) (Or.inl ⟨by rfl, ?_⟩) (by assumption) ?_
                  rotate_left 1
                  · (intro w hSw; (try dsimp only at hSw); (first | (go_simp; done) | (go_simp; with_reducible rfl)))
                  try simp only [Act.put, List.getElem_toArray, List.getElem_cons_zero, List.getElem_cons_succ, List.setIfInBounds_toArray, List.set_cons_zero, List.set_cons_succ]
                  refine wpAnyH_take (i := 20) (oi := _) (v := ?_) rfl (by kernel_rfl) (by kernel_rfl) (by kernel_rfl) (fun _ _ _ h => h) (Or.inl ⟨by rfl, ?_⟩) (by assumption) ?_
                  rotate_left 1
                  · (intro w hSw; (try dsimp only at hSw); (first | (go_simp; done) | (go_simp; with_reducible rfl)))
                  try simp only [Act.put, List.getElem_toArray, List.getElem_cons_zero, List.getElem_cons_succ, List.setIfInBounds_toArray, List.set_cons_zero, List.set_cons_succ]
                  refine wpAnyH_take (i := 21) (oi := _) (v := ?_) rfl (by kernel_rfl) (by kernel_rfl) (by kernel_rfl) (fun _ _ _ h => h) (Or.inl ⟨by rfl, ?_⟩) (by assumption) ?_
                  rotate_left 1
                  · (intro w hSw; (try dsimp only at hSw); (first | (go_simp; done) | (go_simp; with_reducible rfl)))
                  try simp only [Act.put, List.getElem_toArray, List.getElem_cons_zero, List.getElem_cons_succ, List.setIfInBounds_toArray, List.set_cons_zero, List.set_cons_succ]
                  refine wpAnyH_take (i := 22) (oi := _) (v := ?_) rfl (by kernel_rfl) (by kernel_rfl) (by kernel_rfl) (fun _ _ _ h => h) (Or.inl ⟨by rfl, ?_⟩) (by assumption) ?_
                  rotate_left 1
                  · (intro w hSw; (try dsimp only at hSw); (first | (go_simp; done) | (go_simp; with_reducible rfl)))
                  try simp only [Act.put, List.getElem_toArray, List.getElem_cons_zero, List.getElem_cons_succ, List.setIfInBounds_toArray, List.set_cons_zero, List.set_cons_succ]
                  refine wpAnyH_take (i := 23) (oi := _) (v := ?_) rfl (by kernel_rfl) (by kernel_rfl) (by kernel_rfl) (fun _ _ _ h => h) (Or.inl ⟨by rfl, ?_⟩) (by assumption) ?_
                  rotate_left 1
                  · (intro w hSw; (try dsimp only at hSw); (first | (go_simp; done) | (go_simp; with_reducible rfl)))
                  try simp only [Act.put, List.getElem_toArray, List.getElem_cons_zero, List.getElem_cons_succ, List.setIfInBounds_toArray, List.set_cons_zero, List.set_cons_succ]
                  refine wpAnyH_take (i := 24) (oi := _) (v := ?_) rfl (by kernel_rfl) (by kernel_rfl) (by kernel_rfl) (fun _ _ _ h => h) (Or.inl ⟨by rfl, ?_⟩) (by assumption) ?_
                  rotate_left 1
                  · (intro w hSw; (try dsimp only at hSw); (first | (go_simp; done) | (go_simp; with_reducible rfl)))
                  try simp only [Act.put, List.getElem_toArray, List.getElem_cons_zero, List.getElem_cons_succ, List.setIfInBounds_toArray, List.set_cons_zero, List.set_cons_succ]
                  refine wpAnyH_take (i := 25) (oi := _) (v := ?_) rfl (by kernel_rfl) (by kernel_rfl) (by kernel_rfl) (fun _ _ _ h => h) (Or.inl ⟨by rfl, ?_⟩) (by assumption) ?_
                  rotate_left 1
                  · (intro w hSw; (try dsimp only at hSw); (first | (go_simp; done) | (go_simp; with_reducible rfl)))
                  try simp only [Act.put, List.getElem_toArray, List.getElem_cons_zero, List.getElem_cons_succ, List.setIfInBounds_toArray, List.set_cons_zero, List.set_cons_succ]
                  refine wpAnyH_take (i := 26) (oi := _) (v := ?_) rfl (by kernel_rfl) (by kernel_rfl) (by kernel_rfl) (fun _ _ _ h => h) (Or.inl ⟨by rfl, ?_⟩) (by assumption) ?_
                  rotate_left 1
                  · (intro w hSw; (try dsimp only at hSw); (first | (go_simp; done) | (go_simp; with_reducible rfl)))
                  try simp only [Act.put, List.getElem_toArray, List.getElem_cons_zero, List.getElem_cons_succ, List.setIfInBounds_toArray, List.set_cons_zero, List.set_cons_succ]
                  refine wpAnyH_take (i := 27) (oi := _) (v := ?_) rfl (by kernel_rfl) (by kernel_rfl) (by kernel_rfl) (fun _ _ _ h => h) (Or.inl ⟨by rfl, ?_⟩) (by assumption) ?_
                  rotate_left 1
                  · (intro w hSw; (try dsimp only at hSw); (first | (go_simp; done) | (go_simp; with_reducible rfl)))
                  try simp only [Act.put, List.getElem_toArray, List.getElem_cons_zero, List.getElem_cons_succ, List.setIfInBounds_toArray, List.set_cons_zero, List.set_cons_succ]
                  refine wpAnyH_take (i := 28) (oi := _) (v := ?_) rfl (by kernel_rfl) (by kernel_rfl) (by kernel_rfl) (fun _ _ _ h => h) (Or.inl ⟨by rfl, ?_⟩) (by assumption) ?_
                  rotate_left 1
                  · (intro w hSw; (try dsimp only at hSw); (first | (go_simp; done) | (go_simp; with_reducible rfl)))
                  try simp only [Act.put, List.getElem_toArray, List.getElem_cons_zero, List.getElem_cons_succ, List.setIfInBounds_toArray, List.set_cons_zero, List.set_cons_succ]
                  refine wpAnyH_take (i := 29) (oi := _) (v := ?_) rfl (by kernel_rfl) (by kernel_rfl) (by kernel_rfl) (fun _ _ _ h => h) (Or.inl ⟨by rfl, ?_⟩) (by assumption) ?_
                  rotate_left 1
                  · (intro w hSw; (try dsimp only at hSw); (first | (go_simp; done) | (go_simp; with_reducible rfl)))
                  try simp only [Act.put, List.getElem_toArray, List.getElem_cons_zero, List.getElem_cons_succ, List.setIfInBounds_toArray, List.set_cons_zero, List.set_cons_succ]
                  refine wpAnyH_take (i := 30) (oi := _) (v := ?_) rfl (by kernel_rfl) (by kernel_rfl) (by kernel_rfl) (fun _ _ _ h => h) (Or.inl ⟨by rfl, ?_⟩) (by assumption) ?_
                  rotate_left 1
                  · (intro w hSw; (try dsimp only at hSw); (first | (go_simp; done) | (go_simp; with_reducible rfl)))
                  try simp only [Act.put, List.getElem_toArray, List.getElem_cons_zero, List.getElem_cons_succ, List.setIfInBounds_toArray, List.set_cons_zero, List.set_cons_succ]
                  refine wpAnyH_take (i := 31) (oi := _) (v := ?_) rfl (by kernel_rfl) (by kernel_rfl) (by kernel_rfl) (fun _ _ _ h => h) (Or.inl ⟨by rfl, ?_⟩) (by assumption) ?_
                  rotate_left 1
                  · (intro w hSw; (try dsimp only at hSw); (first | (go_simp; done) | (go_simp; with_reducible rfl)))
                  try simp only [Act.put, List.getElem_toArray, List.getElem_cons_zero, List.getElem_cons_succ, List.setIfInBounds_toArray, List.set_cons_zero, List.set_cons_succ]
                  refine wpAnyH_take (i := 32) (oi := _) (v := ?_) rfl (by kernel_rfl) (by kernel_rfl) (by kernel_rfl) (fun _ _ _ h => h) (Or.inl ⟨by rfl, ?_⟩) (by assumption) ?_
                  rotate_left 1
                  · (intro w hSw; (try dsimp only at hSw); (first | (go_simp; done) | (go_simp; with_reducible rfl)))
                  try simp only [Act.put, List.getElem_toArray, List.getElem_cons_zero, List.getElem_cons_succ, List.setIfInBounds_toArray, List.set_cons_zero, List.set_cons_succ]
                  refine wpAnyH_ready (rs := [33]) (by kernel_rfl) (by simp) ?_
                  refine AllReadyH.cons (o := _) rfl (fun K hK => ?_) AllReadyH.nil
                  go_simp
                  (with_reducible refine Calls.mono (HEl.out _ HBa.out) ?_)
                  rintro r wb ⟨rfl, hbb⟩
                  have HBb := hide (HBa.out.trans (hbb.mono HBa.out.size))
                  have HBbc := hide (HBac.out.trans (hbb.mono HBac.out.size))
                  have fb0 := (hbb.cell (p := ⟨XB, 0, none⟩) (show XB < wa.heap.size by omega)).trans fa0
                  have fb1 := (hbb.cell (p := ⟨XB, 1, none⟩) (show XB < wa.heap.size by omega)).trans fa1
                  have fb2 := (hbb.cell (p := ⟨XB, 2, none⟩) (show XB < wa.heap.size by omega)).trans fa2
                  have fb3 := (hbb.cell (p := ⟨XB, 3, none⟩) (show XB < wa.heap.size by omega)).trans fa3
                  have fb4 := (hbb.cell (p := ⟨XB, 4, none⟩) (show XB < wa.heap.size by omega)).trans fa4
                  have fb5 := (hbb.cell (p := ⟨XB, 5, none⟩) (show XB < wa.heap.size by omega)).trans fa5
                  have fb6 := (hbb.cell (p := ⟨XB, 6, none⟩) (show XB < wa.heap.size by omega)).trans fa6
                  have fb7 := (hbb.cell (p := ⟨YB, 0, none⟩) (show YB < wa.heap.size by omega)).trans fa7
                  have fb8 := (hbb.cell (p := ⟨YB, 1, none⟩) (show YB < wa.heap.size by omega)).trans fa8
                  have fb9 := (hbb.cell (p := ⟨YB, 2, none⟩) (show YB < wa.heap.size by omega)).trans fa9
                  have fb10 := (hbb.cell (p := ⟨YB, 3, none⟩) (show YB < wa.heap.size by omega)).trans fa10
                  have fb11 := (hbb.cell (p := ⟨cb0, 0, none⟩) (show cb0 < wa.heap.size by omega)).trans fa11
                  have fb12 := (hbb.cell (p := ⟨tb, tof + q * 2, none⟩) (show tb < wa.heap.size by omega)).trans fa12
                  clear hbb
                  (try go_wp2_with fail)
                  refine hK.out _ _ ⟨fb0, fb1, fb2, fb3, fb4, fb5, fb6, fb7, fb8, fb9, fb10, fb11, fb12⟩ (fun hHeld => ?_)
                  clear hK K
                  try simp only [Act.put, List.getElem_toArray, List.getElem_cons_zero, List.getElem_cons_succ, List.setIfInBounds_toArray, List.set_cons_zero, List.set_cons_succ]
                  refine wpAnyH_take (i := 34) (oi := _) (v := ?_) rfl (by kernel_rfl) (by kernel_rfl) (by kernel_rfl) (fun _ _ _ h => h) (Or.inl ⟨by rfl, ?_⟩) (by assumption) ?_
                  rotate_left 1
                  · (intro w hSw; (try dsimp only at hSw); (first | (go_simp; done) | (go_simp; with_reducible rfl)))
                  try simp only [Act.put, List.getElem_toArray, List.getElem_cons_zero, List.getElem_cons_succ, List.setIfInBounds_toArray, List.set_cons_zero, List.set_cons_succ]
                  refine wpAnyH_take (i := 35) (oi := _) (v := ?_) rfl (by kernel_rfl) (by kernel_rfl) (by kernel_rfl) (fun _ _ _ h => h) (Or.inl ⟨by rfl, ?_⟩) (by assumption) ?_
                  rotate_left 1
                  · (intro w hSw; (try dsimp only at hSw); (first | (go_simp; done) | (go_simp; with_reducible rfl)))
                  try simp only [Act.put, List.getElem_toArray, List.getElem_cons_zero, List.getElem_cons_succ, List.setIfInBounds_toArray, List.set_cons_zero, List.set_cons_succ]
                  refine wpAnyH_take (i := 36) (oi := _) (v := ?_) rfl (by kernel_rfl) (by kernel_rfl) (by kernel_rfl) (fun _ _ _ h => h) (Or.inl ⟨by rfl, ?_⟩) (by assumption) ?_
                  rotate_left 1
                  · (intro w hSw; (try dsimp only at hSw); (first | (go_simp; done) | (go_simp; with_reducible rfl)))
                  try simp only [Act.put, List.getElem_toArray, List.getElem_cons_zero, List.getElem_cons_succ, List.setIfInBounds_toArray, List.set_cons_zero, List.set_cons_succ]
                  refine wpAnyH_done (by kernel_rfl) ?_ _
                  refine NoPanic.normal ?_
                  cases EB with
                  | false =>
                    have HR0 : Hid (RES = false) := hide (by rw [HRES.out, HBad.out (by rw [HVo.out]; simp)]; rfl)
                    go_wp2_with fail
                    go_ret
                    exact ⟨ret_bool HR0.out.symm, HBb.out⟩
                  | true =>
                    have HOk : Hid (vOk a l bs j ⟨true, 0, (q : Int), (k : Int) - 1⟩ = true) := hide (by rw [HVo.out]; simp)
                    clear b0 b1 b2 b3 b4 b5 b6 b7 b8 b9 b10 b11 b12
                    go_wp2_with fail
                    exact ⟨⟨j + 1, by omega, by go_num, HAt.out HOk.out, HBbc.out⟩, by simp [intOf]; omega⟩
                · skip
                  have b0 : w0.cell? ⟨XB, 0, none⟩ = some (.bool d) := cx0 0
                  have b1 : w0.cell? ⟨XB, 1, none⟩ = some (.int .i64 p) := cx0 1
                  have b2 : w0.cell? ⟨XB, 2, none⟩ = some (.int .i64 e) := cx0 2
                  have b3 : w0.cell? ⟨XB, 3, none⟩ = some (.int .i64 x) := cx0 3
                  have b4 : w0.cell? ⟨XB, 4, none⟩ = some (.slice af fs.length cf) := cx0 4
                  have b5 : w0.cell? ⟨XB, 5, none⟩ = some (.slice (some ⟨b, o, none⟩) vs.length cv) := cx0 5
                  have b6 : w0.cell? ⟨XB, 6, none⟩ = some (.slice ab bs.length cb) := cx0 6
                  have b7 : w0.cell? ⟨YB, 0, none⟩ = some (.bool true) := cy0 0
                  have b8 : w0.cell? ⟨YB, 1, none⟩ = some (.int .i64 0) := cy0 1
                  have b9 : w0.cell? ⟨YB, 2, none⟩ = some (.int .i64 (q : Int)) := cy0 2
                  have b10 : w0.cell? ⟨YB, 3, none⟩ = some (.int .i64 ((k : Int) - 1)) := cy0 3
                  have b11 : w0.cell? ⟨cb0, 0, none⟩ = some (.slice (some ⟨tb, tof, none⟩) l.length c) := cc0 0
                  have b12 : w0.cell? ⟨tb, tof + q * 2, none⟩ = some (.int .i64 KD) := k0
                  have HB0 : Hid (Below w.heap.size w w0.drew) := hide (belowDrew hBw0)
                  have HB1 : Hid (Below wc.heap.size wc w0.drew) := hide (belowDrew hBc0)
                  clear cx0 cy0 cc0
                  refine wp_region_noPanic ?_
                  refine wp_region_held_drew (S := fun w' => w'.cell? ⟨XB, 0, none⟩ = some (.bool d) ∧ w'.cell? ⟨XB, 1, none⟩ = some (.int .i64 p) ∧ w'.cell? ⟨XB, 2, none⟩ = some (.int .i64 e) ∧ w'.cell? ⟨XB, 3, none⟩ = some (.int .i64 x) ∧ w'.cell? ⟨XB, 4, none⟩ = some (.slice af fs.length cf) ∧ w'.cell? ⟨XB, 5, none⟩ = some (.slice (some ⟨b, o, none⟩) vs.length cv) ∧ w'.cell? ⟨XB, 6, none⟩ = some (.slice ab bs.length cb) ∧ w'.cell? ⟨YB, 0, none⟩ = some (.bool true) ∧ w'.cell? ⟨YB, 1, none⟩ = some (.int .i64 0) ∧ w'.cell? ⟨YB, 2, none⟩ = some (.int .i64 (q : Int)) ∧ w'.cell? ⟨YB, 3, none⟩ = some (.int .i64 ((k : Int) - 1)) ∧ w'.cell? ⟨cb0, 0, none⟩ = some (.slice (some ⟨tb, tof, none⟩) l.length c) ∧ w'.cell? ⟨tb, tof + q * 2, none⟩ = some (.int .i64 KD)) (by kernel_rfl) ⟨b0, b1, b2, b3, b4, b5, b6, b7, b8, b9, b10, b11, b12⟩ (fun hHeld => ?_)
                  refine wpAnyH_take (i := 0) (oi := _) (v := ?_) rfl (by kernel_rfl) (by kernel_rfl) (by kernel_rfl) (fun _ _ _ h => h) (Or.inl ⟨by rfl, ?_⟩) (by assumption) ?_
                  rotate_left 1
                  · (intro w hSw; (try dsimp only at hSw); (first | (go_simp; done) | (go_simp; with_reducible rfl)))
                  try simp only [Act.put, List.getElem_toArray, List.getElem_cons_zero, List.getElem_cons_succ, List.setIfInBounds_toArray, List.set_cons_zero, List.set_cons_succ]
                  refine wpAnyH_take (i := 1) (oi := _) (v := ?_) rfl (by kernel_rfl) (by kernel_rfl) (by kernel_rfl) (fun _ _ _ h => h) (Or.inl ⟨by rfl, ?_⟩) (by assumption) ?_
                  rotate_left 1
                  · (intro w hSw; (try dsimp only at hSw); (first | (go_simp; done) | (go_simp; with_reducible rfl)))
                  try simp only [Act.put, List.getElem_toArray, List.getElem_cons_zero, List.getElem_cons_succ, List.setIfInBounds_toArray, List.set_cons_zero, List.set_cons_succ]
                  refine wpAnyH_take (i := 2) (oi := _) (v := ?_) rfl (by kernel_rfl) (by kernel_rfl) (by kernel_rfl) (fun _ _ _ h => h) (Or.inl ⟨by rfl, ?_⟩) (by assumption) ?_
                  rotate_left 1
                  · (intro w hSw; (try dsimp only at hSw); (first | (go_simp; done) | (go_simp; with_reducible rfl)))
                  try simp only [Act.put, List.getElem_toArray, List.getElem_cons_zero, List.getElem_cons_succ, List.setIfInBounds_toArray, List.set_cons_zero, List.set_cons_succ]
                  refine wpAnyH_take (i := 3) (oi := _) (v := ?_) rfl (by kernel_rfl) (by kernel_rfl) (by kernel_rfl) (fun _ _ _ h => h) (Or.inl ⟨by rfl, ?_⟩) (by assumption) ?_
                  rotate_left 1
                  · (intro w hSw; (try dsimp only at hSw); (first | (go_simp; done) | (go_simp; with_reducible rfl)))
                  try simp only [Act.put, List.getElem_toArray, List.getElem_cons_zero, List.getElem_cons_succ, List.setIfInBounds_toArray, List.set_cons_zero, List.set_cons_succ]
                  refine wpAnyH_take (i := 4) (oi := _) (v := ?_) rfl (by kernel_rfl) (by kernel_rfl) (by kernel_rfl) (fun _ _ _ h => h) (Or.inl ⟨by rfl, ?_⟩) (by assumption) ?_
                  rotate_left 1
                  · (intro w hSw; (try dsimp only at hSw); (first | (go_simp; done) | (go_simp; with_reducible rfl)))
                  try simp only [Act.put, List.getElem_toArray, List.getElem_cons_zero, List.getElem_cons_succ, List.setIfInBounds_toArray, List.set_cons_zero, List.set_cons_succ]
                  refine wpAnyH_take (i := 5) (oi := _) (v := ?_) rfl (by kernel_rfl) (by kernel_rfl) (by kernel_rfl) (fun _ _ _ h => h) (Or.inl ⟨by rfl, ?_⟩) (by assumption) ?_
                  rotate_left 1
                  · (intro w hSw; (try dsimp only at hSw); (first | (go_simp; done) | (go_simp; with_reducible rfl)))
                  try simp only [Act.put, List.getElem_toArray, List.getElem_cons_zero, List.getElem_cons_succ, List.setIfInBounds_toArray, List.set_cons_zero, List.set_cons_succ]
                  refine wpAnyH_take (i := 6) (oi := _) (v := ?_) rfl (by kernel_rfl) (by kernel_rfl) (by kernel_rfl) (fun _ _ _ h => h) (Or.inl ⟨by rfl, ?_⟩) (by assumption) ?_
                  rotate_left 1
                  · (intro w hSw; (try dsimp only at hSw); (first | (go_simp; done) | (go_simp; with_reducible rfl)))
                  try simp only [Act.put, List.getElem_toArray, List.getElem_cons_zero, List.getElem_cons_succ, List.setIfInBounds_toArray, List.set_cons_zero, List.set_cons_succ]
                  refine wpAnyH_take (i := 7) (oi := _) (v := ?_) rfl (by kernel_rfl) (by kernel_rfl) (by kernel_rfl) (fun _ _ _ h => h) (Or.inl ⟨by rfl, ?_⟩) (by assumption) ?_
                  rotate_left 1
                  · (intro w hSw; (try dsimp only at hSw); (first | (go_simp; done) | (go_simp; with_reducible rfl)))
                  try simp only [Act.put, List.getElem_toArray, List.getElem_cons_zero, List.getElem_cons_succ, List.setIfInBounds_toArray, List.set_cons_zero, List.set_cons_succ]
                  refine wpAnyH_take (i := 8) (oi := _) (v := ?_) rfl (by kernel_rfl) (by kernel_rfl) (by kernel_rfl) (fun _ _ _ h => h) (Or.inl ⟨by rfl, ?_⟩) (by assumption) ?_
                  rotate_left 1
                  · (intro w hSw; (try dsimp only at hSw); (first | (go_simp; done) | (go_simp; with_reducible rfl)))
                  try simp only [Act.put, List.getElem_toArray, List.getElem_cons_zero, List.getElem_cons_succ, List.setIfInBounds_toArray, List.set_cons_zero, List.set_cons_succ]
                  refine wpAnyH_take (i := 9) (oi := _) (v := ?_) rfl (by kernel_rfl) (by kernel_rfl) (by kernel_rfl) (fun _ _ _ h => h) (Or.inl ⟨by rfl, ?_⟩) (by assumption) ?_
                  rotate_left 1
                  · (intro w hSw; (try dsimp only at hSw); (first | (go_simp; done) | (go_simp; with_reducible rfl)))
                  try simp only [Act.put, List.getElem_toArray, List.getElem_cons_zero, List.getElem_cons_succ, List.setIfInBounds_toArray, List.set_cons_zero, List.set_cons_succ]
                  refine wpAnyH_take (i := 10) (oi := _) (v := ?_) rfl (by kernel_rfl) (by kernel_rfl) (by kernel_rfl) (fun _ _ _ h => h) (Or.inl ⟨by rfl, ?_⟩) (by assumption) ?_
                  rotate_left 1
                  · (intro w hSw; (try dsimp only at hSw); (first | (go_simp; done) | (go_simp; with_reducible rfl)))
                  try simp only [Act.put, List.getElem_toArray, List.getElem_cons_zero, List.getElem_cons_succ, List.setIfInBounds_toArray, List.set_cons_zero, List.set_cons_succ]
                  refine wpAnyH_take (i := 11) (oi := _) (v := ?_) rfl (by kernel_rfl) (by kernel_rfl) (by kernel_rfl) (fun _ _ _ h => h) (Or.inl ⟨by rfl, ?_⟩) (by assumption) ?_
                  rotate_left 1
                  · (intro w hSw; (try dsimp only at hSw); (first | (go_simp; done) | (go_simp; with_reducible rfl)))
                  try simp only [Act.put, List.getElem_toArray, List.getElem_cons_zero, List.getElem_cons_succ, List.setIfInBounds_toArray, List.set_cons_zero, List.set_cons_succ]
                  refine wpAnyH_take (i := 12) (oi := _) (v := ?_) rfl (by kernel_rfl) (by kernel_rfl) (by kernel_rfl) (fun _ _ _ h => h) (Or.inl ⟨by rfl, ?_⟩) (by assumption) ?_
                  rotate_left 1
                  · (intro w hSw; (try dsimp only at hSw); (first | (go_simp; done) | (go_simp; with_reducible rfl)))
                  try simp only [Act.put, List.getElem_toArray, List.getElem_cons_zero, List.getElem_cons_succ, List.setIfInBounds_toArray, List.set_cons_zero, List.set_cons_succ]
                  refine wpAnyH_ready (rs := [13]) (by kernel_rfl) (by simp) ?_
                  refine AllReadyH.cons (o := _) rfl (fun K hK => ?_) AllReadyH.nil
                  go_simp
                  (with_reducible refine Calls.mono (HPt.out _ HB0.out) ?_)
                  rintro r wa ⟨rfl, hba⟩
                  have hBa : Below w.heap.size w wa := HB0.out.trans (hba.mono HB0.out.size)
                  have HBa := hide hBa
                  have hBac : Below wc.heap.size wc wa := HB1.out.trans (hba.mono HB1.out.size)
                  have HBac := hide hBac
                  have hza : w0.heap.size ≤ wa.heap.size := hba.size
                  have fa0 := (hba.cell (p := ⟨XB, 0, none⟩) (show XB < w0.heap.size by omega)).trans b0
                  have fa1 := (hba.cell (p := ⟨XB, 1, none⟩) (show XB < w0.heap.size by omega)).trans b1
                  have fa2 := (hba.cell (p := ⟨XB, 2, none⟩) (show XB < w0.heap.size by omega)).trans b2
                  have fa3 := (hba.cell (p := ⟨XB, 3, none⟩) (show XB < w0.heap.size by omega)).trans b3
                  have fa4 := (hba.cell (p := ⟨XB, 4, none⟩) (show XB < w0.heap.size by omega)).trans b4
                  have fa5 := (hba.cell (p := ⟨XB, 5, none⟩) (show XB < w0.heap.size by omega)).trans b5
                  have fa6 := (hba.cell (p := ⟨XB, 6, none⟩) (show XB < w0.heap.size by omega)).trans b6
                  have fa7 := (hba.cell (p := ⟨YB, 0, none⟩) (show YB < w0.heap.size by omega)).trans b7
                  have fa8 := (hba.cell (p := ⟨YB, 1, none⟩) (show YB < w0.heap.size by omega)).trans b8
                  have fa9 := (hba.cell (p := ⟨YB, 2, none⟩) (show YB < w0.heap.size by omega)).trans b9
                  have fa10 := (hba.cell (p := ⟨YB, 3, none⟩) (show YB < w0.heap.size by omega)).trans b10
                  have fa11 := (hba.cell (p := ⟨cb0, 0, none⟩) (show cb0 < w0.heap.size by omega)).trans b11
                  have fa12 := (hba.cell (p := ⟨tb, tof + q * 2, none⟩) (show tb < w0.heap.size by omega)).trans b12
                  clear hba hBa hBac
                  (try go_wp2_with fail)
                  refine hK.out _ _ ⟨fa0, fa1, fa2, fa3, fa4, fa5, fa6, fa7, fa8, fa9, fa10, fa11, fa12⟩ (fun hHeld => ?_)
                  clear hK K
                  try simp only [Act.put, List.getElem_toArray, List.getElem_cons_zero, List.getElem_cons_succ, List.setIfInBounds_toArray, List.set_cons_zero, List.set_cons_succ]
                  refine wpAnyH_take (i := 14) (oi := _) (v := ?_) rfl (by kernel_rfl) (by kernel_rfl) (by kernel_rfl) (fun _ _ _ h => h) (Or.inl ⟨by rfl, ?_⟩) (by assumption) ?_
                  rotate_left 1
                  · (intro w hSw; (try dsimp only at hSw); (first | (go_simp; done) | (go_simp; with_reducible rfl)))
                  try simp only [Act.put, List.getElem_toArray, List.getElem_cons_zero, List.getElem_cons_succ, List.setIfInBounds_toArray, List.set_cons_zero, List.set_cons_succ]
                  refine wpAnyH_take (i := 15) (oi := _) (v := ?_) rfl (by kernel_rfl) (by kernel_rfl) (by kernel_rfl) (fun _ _ _ h => h) (Or.inl ⟨by rfl, ?_⟩) (by assumption) ?_
                  rotate_left 1
                  · (intro w hSw; (try dsimp only at hSw); (first | (go_simp; done) | (go_simp; with_reducible rfl)))
                  try simp only [Act.put, List.getElem_toArray, List.getElem_cons_zero, List.getElem_cons_succ, List.setIfInBounds_toArray, List.set_cons_zero, List.set_cons_succ]
                  refine wpAnyH_take (i := 16) (oi := _) (v := ?_) rfl (by kernel_rfl) (by kernel_rfl) (by kernel_rfl) (fun _ _ _ h => h) (Or.inl ⟨by rfl, ?_⟩) (by assumption) ?_
                  rotate_left 1
                  · (intro w hSw; (try dsimp only at hSw); (first | (go_simp; done) | (go_simp; with_reducible rfl)))
                  try simp only [Act.put, List.getElem_toArray, List.getElem_cons_zero, List.getElem_cons_succ, List.setIfInBounds_toArray, List.set_cons_zero, List.set_cons_succ]
                  refine wpAnyH_take (i := 17) (oi := _) (v := ?_) rfl (by kernel_rfl) (by kernel_rfl) (by kernel_rfl) (fun _ _ _ h => h) (Or.inl ⟨by rfl, ?_⟩) (by assumption) ?_
                  rotate_left 1
                  · (intro w hSw; (try dsimp only at hSw); (first | (go_simp; done) | (go_simp; with_reducible rfl)))
                  try simp only [Act.put, List.getElem_toArray, List.getElem_cons_zero, List.getElem_cons_succ, List.setIfInBounds_toArray, List.set_cons_zero, List.set_cons_succ]
                  refine wpAnyH_take (i := 18) (oi := _) (v := ?_) rfl (by kernel_rfl) (by kernel_rfl) (by kernel_rfl) (fun _ _ _ h => h) (Or.inl ⟨by rfl, ?_⟩) (by assumption) ?_
                  rotate_left 1
                  · (intro w hSw; (try dsimp only at hSw); (first | (go_simp; done) | (go_simp; with_reducible rfl)))
                  try simp only [Act.put, List.getElem_toArray, List.getElem_cons_zero, List.getElem_cons_succ, List.setIfInBounds_toArray, List.set_cons_zero, List.set_cons_succ]
                  refine wpAnyH_take (i := 19) (oi := _) (v := ?_) rfl (by kernel_rfl) (by kernel_rfl) (by kernel_rfl) (fun _ _ _ h => h) (Or.inl ⟨by rfl, ?_⟩) (by assumption) ?_
                  rotate_left 1
                  · (intro w hSw; (try dsimp only at hSw); (first | (go_simp; done) | (go_simp; with_reducible rfl)))
                  try simp only [Act.put, List.getElem_toArray, List.getElem_cons_zero, List.getElem_cons_succ, List.setIfInBounds_toArray, List.set_cons_zero, List.set_cons_succ]
                  refine wpAnyH_take (i := 20) (oi := _) (v := ?_) rfl (by kernel_rfl) (by kernel_rfl) (by kernel_rfl) (fun _ _ _ h => h) (Or.inl ⟨by rfl, ?_⟩) (by assumption) ?_
                  rotate_left 1
                  · (intro w hSw; (try dsimp only at hSw); (first | (go_simp; done) | (go_simp; with_reducible rfl)))
                  try simp only [Act.put, List.getElem_toArray, List.getElem_cons_zero, List.getElem_cons_succ, List.setIfInBounds_toArray, List.set_cons_zero, List.set_cons_succ]
                  refine wpAnyH_take (i := 21) (oi := _) (v := ?_) rfl (by kernel_rfl) (by kernel_rfl) (by kernel_rfl) (fun _ _ _ h => h) (Or.inl ⟨by rfl, ?_⟩) (by assumption) ?_
                  rotate_left 1
                  · (intro w hSw; (try dsimp only at hSw); (first | (go_simp; done) | (go_simp; with_reducible rfl)))
                  try simp only [Act.put, List.getElem_toArray, List.getElem_cons_zero, List.getElem_cons_succ, List.setIfInBounds_toArray, List.set_cons_zero, List.set_cons_succ]
                  refine wpAnyH_take (i := 22) (oi := _) (v := ?_) rfl (by kernel_rfl) (by kernel_rfl) (by kernel_rfl) (fun _ _ _ h => h) (Or.inl ⟨by rfl, ?_⟩) (by assumption) ?_
                  rotate_left 1
                  · (intro w hSw; (try dsimp only at hSw); (first | (go_simp; done) | (go_simp; with_reducible rfl)))
                  try simp only [Act.put, List.getElem_toArray, List.getElem_cons_zero, List.getElem_cons_succ, List.setIfInBounds_toArray, List.set_cons_zero, List.set_cons_succ]
                  refine wpAnyH_take (i := 23) (oi := _) (v := ?_) rfl (by kernel_rfl) (by kernel_rfl) (by kernel_rfl) (fun _ _ _ h => h) (Or.inl ⟨by rfl, ?_⟩) (by assumption) ?_
                  rotate_left 1
                  · (intro w hSw; (try dsimp only at hSw); (first | (go_simp; done) | (go_simp; with_reducible rfl)))
                  try simp only [Act.put, List.getElem_toArray, List.getElem_cons_zero, List.getElem_cons_succ, List.setIfInBounds_toArray, List.set_cons_zero, List.set_cons_succ]
                  refine wpAnyH_take (i := 24) (oi := _) (v := ?_) rfl (by kernel_rfl) (by kernel_rfl) (by kernel_rfl) (fun _ _ _ h => h) (Or.inl ⟨by rfl, ?_⟩) (by assumption) ?_
                  rotate_left 1
                  · (intro w hSw; (try dsimp only at hSw); (first | (go_simp; done) | (go_simp; with_reducible rfl)))
                  try simp only [Act.put, List.getElem_toArray, List.getElem_cons_zero, List.getElem_cons_succ, List.setIfInBounds_toArray, List.set_cons_zero, List.set_cons_succ]
                  refine wpAnyH_take (i := 25) (oi := _) (v := ?_) rfl (by kernel_rfl) (by kernel_rfl) (by kernel_rfl) (fun _ _ _ h => h) (Or.inl ⟨by rfl, ?_⟩) (by assumption) ?_
                  rotate_left 1
                  · (intro w hSw; (try dsimp only at hSw); (first | (go_simp; done) | (go_simp; with_reducible rfl)))
                  try simp only [Act.put, List.getElem_toArray, List.getElem_cons_zero, List.getElem_cons_succ, List.setIfInBounds_toArray, List.set_cons_zero, List.set_cons_succ]
                  refine wpAnyH_take (i := 26) (oi := _) (v := .bool true) rfl (by kernel_rfl) (by kernel_rfl) (by kernel_rfl) (fun _ _ _ h => h) (Or.inl ⟨by rfl, ?_⟩) (by assumption) ?_
                  · (intro w hSw; (try dsimp only at hSw); (first | (go_simp; done) | (go_simp; simp [*])))
                  try simp only [Act.put, List.getElem_toArray, List.getElem_cons_zero, List.getElem_cons_succ, List.setIfInBounds_toArray, List.set_cons_zero, List.set_cons_succ]
                  refine wpAnyH_take (i := 27) (oi := _) (v := ?_) rfl (by kernel_rfl) (by kernel_rfl) (by kernel_rfl) (fun _ _ _ h => h) (Or.inl ⟨by rfl, ?_⟩) (by assumption) ?_
                  rotate_left 1
                  · (intro w hSw; (try dsimp only at hSw); (first | (go_simp; done) | (go_simp; with_reducible rfl)))
                  try simp only [Act.put, List.getElem_toArray, List.getElem_cons_zero, List.getElem_cons_succ, List.setIfInBounds_toArray, List.set_cons_zero, List.set_cons_succ]
                  refine wpAnyH_take (i := 28) (oi := _) (v := ?_) rfl (by kernel_rfl) (by kernel_rfl) (by kernel_rfl) (fun _ _ _ h => h) (Or.inl ⟨by rfl, ?_⟩) (by assumption) ?_
                  rotate_left 1
                  · (intro w hSw; (try dsimp only at hSw); (first | (go_simp; done) | (go_simp; with_reducible rfl)))
                  try simp only [Act.put, List.getElem_toArray, List.getElem_cons_zero, List.getElem_cons_succ, List.setIfInBounds_toArray, List.set_cons_zero, List.set_cons_succ]
                  refine wpAnyH_take (i := 29) (oi := _) (v := undef) rfl (by kernel_rfl) (by kernel_rfl) (by kernel_rfl) (fun _ _ _ h => h) (Or.inr ⟨by rfl, rfl⟩) (by assumption) ?_
                  try simp only [Act.put, List.getElem_toArray, List.getElem_cons_zero, List.getElem_cons_succ, List.setIfInBounds_toArray, List.set_cons_zero, List.set_cons_succ]
                  refine wpAnyH_take (i := 30) (oi := _) (v := undef) rfl (by kernel_rfl) (by kernel_rfl) (by kernel_rfl) (fun _ _ _ h => h) (Or.inr ⟨by rfl, rfl⟩) (by assumption) ?_
                  try simp only [Act.put, List.getElem_toArray, List.getElem_cons_zero, List.getElem_cons_succ, List.setIfInBounds_toArray, List.set_cons_zero, List.set_cons_succ]
                  refine wpAnyH_take (i := 31) (oi := _) (v := undef) rfl (by kernel_rfl) (by kernel_rfl) (by kernel_rfl) (fun _ _ _ h => h) (Or.inr ⟨by rfl, rfl⟩) (by assumption) ?_
                  try simp only [Act.put, List.getElem_toArray, List.getElem_cons_zero, List.getElem_cons_succ, List.setIfInBounds_toArray, List.set_cons_zero, List.set_cons_succ]
                  refine wpAnyH_take (i := 32) (oi := _) (v := undef) rfl (by kernel_rfl) (by kernel_rfl) (by kernel_rfl) (fun _ _ _ h => h) (Or.inr ⟨by rfl, rfl⟩) (by assumption) ?_
                  try simp only [Act.put, List.getElem_toArray, List.getElem_cons_zero, List.getElem_cons_succ, List.setIfInBounds_toArray, List.set_cons_zero, List.set_cons_succ]
                  refine wpAnyH_take (i := 33) (oi := _) (v := undef) rfl (by kernel_rfl) (by kernel_rfl) (by kernel_rfl) (fun _ _ _ h => h) (Or.inr ⟨by rfl, rfl⟩) (by assumption) ?_
                  try simp only [Act.put, List.getElem_toArray, List.getElem_cons_zero, List.getElem_cons_succ, List.setIfInBounds_toArray, List.set_cons_zero, List.set_cons_succ]
                  refine wpAnyH_take (i := 34) (oi := _) (v := undef) rfl (by kernel_rfl) (by kernel_rfl) (by kernel_rfl) (fun _ _ _ h => h) (Or.inr ⟨by rfl, rfl⟩) (by assumption) ?_
                  try simp only [Act.put, List.getElem_toArray, List.getElem_cons_zero, List.getElem_cons_succ, List.setIfInBounds_toArray, List.set_cons_zero, List.set_cons_succ]
                  refine wpAnyH_take (i := 35) (oi := _) (v := ?_) rfl (by kernel_rfl) (by kernel_rfl) (by kernel_rfl) (fun _ _ _ h => h) (Or.inl ⟨by rfl, ?_⟩) (by assumption) ?_
                  rotate_left 1
                  · (intro w hSw; (try dsimp only at hSw); (first | (go_simp; done) | (go_simp; with_reducible rfl)))
                  try simp only [Act.put, List.getElem_toArray, List.getElem_cons_zero, List.getElem_cons_succ, List.setIfInBounds_toArray, List.set_cons_zero, List.set_cons_succ]
                  refine wpAnyH_take (i := 36) (oi := _) (v := ?_) rfl (by kernel_rfl) (by kernel_rfl) (by kernel_rfl) (fun _ _ _ h => h) (Or.inl ⟨by rfl, ?_⟩) (by assumption) ?_
                  rotate_left 1
                  · (intro w hSw; (try dsimp only at hSw); (first | (go_simp; done) | (go_simp; with_reducible rfl)))
                  try simp only [Act.put, List.getElem_toArray, List.getElem_cons_zero, List.getElem_cons_succ, List.setIfInBounds_toArray, List.set_cons_zero, List.set_cons_succ]
                  refine wpAnyH_done (by kernel_rfl) ?_ _
                  refine NoPanic.normal ?_
                  have HR0 : Hid (RES = false) := hide (by rw [HRES.out, HBad.out (by rw [HVo.out]; simp [h3])]; rfl)
                  go_wp2_with fail
                  go_ret
                  exact ⟨ret_bool HR0.out.symm, HBa.out⟩
            · have HR0 : Hid (RES = false) := hide (by rw [HRES.out, HBad.out (by unfold vOk; simp [hn])]; rfl)
              go_wp2_with fail
              have hBc0 : Below wc.heap.size wc (wr.alloc (.cells #[.bool true, .int .i64 yn, .int .i64 yp, .int .i64 ye] 74)) := hB.alloc hB.size _
              have hX0 := (HXc.out.below hB xlc).alloc (.cells #[.bool true, .int .i64 yn, .int .i64 yp, .int .i64 ye] 74)
              have hY0 := Bx.new wr #[.bool true, .int .i64 yn, .int .i64 yp, .int .i64 ye] 74
              obtain ⟨w0, hw0⟩ : ∃ w0, w0 = wr.alloc (.cells #[.bool true, .int .i64 yn, .int .i64 yp, .int .i64 ye] 74) := ⟨_, rfl⟩
              obtain ⟨YB, hYB⟩ : ∃ YB, YB = wr.heap.size := ⟨_, rfl⟩
              rw [← hw0] at hBc0 hX0 hY0 ⊢
              rw [← hYB] at hY0 ⊢
              have hBw0 : Below w.heap.size w w0 := HBwc.out.trans (hBc0.mono HBwc.out.size)
              have xl0 : XB < w0.heap.size := hX0.lt
              have yl0 : YB < w0.heap.size := hY0.lt
              have HX0 := hide hX0
              have HY0 := hide hY0
              have cx0 := hX0.c
              have cy0 := hY0.c
              obtain ⟨kb, vb, hcx, -, -, -, -⟩ := HCd.out.ex
              have hcc := hcx.below hBw0 hcx.lt
              have cl0 : cb0 < w0.heap.size := hcc.lt
              have cc0 := hcc.c
              clear hX0 hY0 hw0 hYB hcx hcc q0 q1 q2 q3
              have b0 : w0.cell? ⟨XB, 0, none⟩ = some (.bool d) := cx0 0
              have b1 : w0.cell? ⟨XB, 1, none⟩ = some (.int .i64 p) := cx0 1
              have b2 : w0.cell? ⟨XB, 2, none⟩ = some (.int .i64 e) := cx0 2
              have b3 : w0.cell? ⟨XB, 3, none⟩ = some (.int .i64 x) := cx0 3
              have b4 : w0.cell? ⟨XB, 4, none⟩ = some (.slice af fs.length cf) := cx0 4
              have b5 : w0.cell? ⟨XB, 5, none⟩ = some (.slice (some ⟨b, o, none⟩) vs.length cv) := cx0 5
              have b6 : w0.cell? ⟨XB, 6, none⟩ = some (.slice ab bs.length cb) := cx0 6
              have b7 : w0.cell? ⟨YB, 0, none⟩ = some (.bool true) := cy0 0
              have b8 : w0.cell? ⟨YB, 1, none⟩ = some (.int .i64 yn) := cy0 1
              have b9 : w0.cell? ⟨YB, 2, none⟩ = some (.int .i64 yp) := cy0 2
              have b10 : w0.cell? ⟨YB, 3, none⟩ = some (.int .i64 ye) := cy0 3
              have HB0 : Hid (Below w.heap.size w w0.drew) := hide (belowDrew hBw0)
              have HB1 : Hid (Below wc.heap.size wc w0.drew) := hide (belowDrew hBc0)
              clear cx0 cy0 cc0
              refine wp_region_noPanic ?_
              refine wp_region_held_drew (S := fun w' => w'.cell? ⟨XB, 0, none⟩ = some (.bool d) ∧ w'.cell? ⟨XB, 1, none⟩ = some (.int .i64 p) ∧ w'.cell? ⟨XB, 2, none⟩ = some (.int .i64 e) ∧ w'.cell? ⟨XB, 3, none⟩ = some (.int .i64 x) ∧ w'.cell? ⟨XB, 4, none⟩ = some (.slice af fs.length cf) ∧ w'.cell? ⟨XB, 5, none⟩ = some (.slice (some ⟨b, o, none⟩) vs.length cv) ∧ w'.cell? ⟨XB, 6, none⟩ = some (.slice ab bs.length cb) ∧ w'.cell? ⟨YB, 0, none⟩ = some (.bool true) ∧ w'.cell? ⟨YB, 1, none⟩ = some (.int .i64 yn) ∧ w'.cell? ⟨YB, 2, none⟩ = some (.int .i64 yp) ∧ w'.cell? ⟨YB, 3, none⟩ = some (.int .i64 ye)) (by kernel_rfl) ⟨b0, b1, b2, b3, b4, b5, b6, b7, b8, b9, b10⟩ (fun hHeld => ?_)
              refine wpAnyH_take (i := 0) (oi := _) (v := ?_) rfl (by kernel_rfl) (by kernel_rfl) (by kernel_rfl) (fun _ _ _ h => h) (Or.inl ⟨by rfl, ?_⟩) (by assumption) ?_
              rotate_left 1
              · (intro w hSw; (try dsimp only at hSw); (first | (go_simp; done) | (go_simp; with_reducible rfl)))
              try simp only [Act.put, List.getElem_toArray, List.getElem_cons_zero, List.getElem_cons_succ, List.setIfInBounds_toArray, List.set_cons_zero, List.set_cons_succ]
              refine wpAnyH_take (i := 1) (oi := _) (v := ?_) rfl (by kernel_rfl) (by kernel_rfl) (by kernel_rfl) (fun _ _ _ h => h) (Or.inl ⟨by rfl, ?_⟩) (by assumption) ?_
              rotate_left 1
              · (intro w hSw; (try dsimp only at hSw); (first | (go_simp; done) | (go_simp; with_reducible rfl)))
              try simp only [Act.put, List.getElem_toArray, List.getElem_cons_zero, List.getElem_cons_succ, List.setIfInBounds_toArray, List.set_cons_zero, List.set_cons_succ]
              refine wpAnyH_take (i := 2) (oi := _) (v := ?_) rfl (by kernel_rfl) (by kernel_rfl) (by kernel_rfl) (fun _ _ _ h => h) (Or.inl ⟨by rfl, ?_⟩) (by assumption) ?_
              rotate_left 1
              · (intro w hSw; (try dsimp only at hSw); (first | (go_simp; done) | (go_simp; with_reducible rfl)))
              try simp only [Act.put, List.getElem_toArray, List.getElem_cons_zero, List.getElem_cons_succ, List.setIfInBounds_toArray, List.set_cons_zero, List.set_cons_succ]
              refine wpAnyH_take (i := 3) (oi := _) (v := ?_) rfl (by kernel_rfl) (by kernel_rfl) (by kernel_rfl) (fun _ _ _ h => h) (Or.inl ⟨by rfl, ?_⟩) (by assumption) ?_
              rotate_left 1
              · (intro w hSw; (try dsimp only at hSw); (first | (go_simp; done) | (go_simp; with_reducible rfl)))
              try simp only [Act.put, List.getElem_toArray, List.getElem_cons_zero, List.getElem_cons_succ, List.setIfInBounds_toArray, List.set_cons_zero, List.set_cons_succ]
              refine wpAnyH_take (i := 4) (oi := _) (v := ?_) rfl (by kernel_rfl) (by kernel_rfl) (by kernel_rfl) (fun _ _ _ h => h) (Or.inl ⟨by rfl, ?_⟩) (by assumption) ?_
              rotate_left 1
              · (intro w hSw; (try dsimp only at hSw); (first | (go_simp; done) | (go_simp; with_reducible rfl)))
              try simp only [Act.put, List.getElem_toArray, List.getElem_cons_zero, List.getElem_cons_succ, List.setIfInBounds_toArray, List.set_cons_zero, List.set_cons_succ]
              refine wpAnyH_take (i := 5) (oi := _) (v := .bool true) rfl (by kernel_rfl) (by kernel_rfl) (by kernel_rfl) (fun _ _ _ h => h) (Or.inl ⟨by rfl, ?_⟩) (by assumption) ?_
              · (intro w hSw; (try dsimp only at hSw); (first | (go_simp; done) | (go_simp; simp [*])))
              try simp only [Act.put, List.getElem_toArray, List.getElem_cons_zero, List.getElem_cons_succ, List.setIfInBounds_toArray, List.set_cons_zero, List.set_cons_succ]
              refine wpAnyH_take (i := 6) (oi := _) (v := ?_) rfl (by kernel_rfl) (by kernel_rfl) (by kernel_rfl) (fun _ _ _ h => h) (Or.inl ⟨by rfl, ?_⟩) (by assumption) ?_
              rotate_left 1
              · (intro w hSw; (try dsimp only at hSw); (first | (go_simp; done) | (go_simp; with_reducible rfl)))
              try simp only [Act.put, List.getElem_toArray, List.getElem_cons_zero, List.getElem_cons_succ, List.setIfInBounds_toArray, List.set_cons_zero, List.set_cons_succ]
              refine wpAnyH_take (i := 7) (oi := _) (v := undef) rfl (by kernel_rfl) (by kernel_rfl) (by kernel_rfl) (fun _ _ _ h => h) (Or.inr ⟨by rfl, rfl⟩) (by assumption) ?_
              try simp only [Act.put, List.getElem_toArray, List.getElem_cons_zero, List.getElem_cons_succ, List.setIfInBounds_toArray, List.set_cons_zero, List.set_cons_succ]
              refine wpAnyH_take (i := 8) (oi := _) (v := undef) rfl (by kernel_rfl) (by kernel_rfl) (by kernel_rfl) (fun _ _ _ h => h) (Or.inr ⟨by rfl, rfl⟩) (by assumption) ?_
              try simp only [Act.put, List.getElem_toArray, List.getElem_cons_zero, List.getElem_cons_succ, List.setIfInBounds_toArray, List.set_cons_zero, List.set_cons_succ]
              refine wpAnyH_take (i := 9) (oi := _) (v := undef) rfl (by kernel_rfl) (by kernel_rfl) (by kernel_rfl) (fun _ _ _ h => h) (Or.inr ⟨by rfl, rfl⟩) (by assumption) ?_
              try simp only [Act.put, List.getElem_toArray, List.getElem_cons_zero, List.getElem_cons_succ, List.setIfInBounds_toArray, List.set_cons_zero, List.set_cons_succ]
              refine wpAnyH_take (i := 10) (oi := _) (v := undef) rfl (by kernel_rfl) (by kernel_rfl) (by kernel_rfl) (fun _ _ _ h => h) (Or.inr ⟨by rfl, rfl⟩) (by assumption) ?_
              try simp only [Act.put, List.getElem_toArray, List.getElem_cons_zero, List.getElem_cons_succ, List.setIfInBounds_toArray, List.set_cons_zero, List.set_cons_succ]
              refine wpAnyH_take (i := 11) (oi := _) (v := undef) rfl (by kernel_rfl) (by kernel_rfl) (by kernel_rfl) (fun _ _ _ h => h) (Or.inr ⟨by rfl, rfl⟩) (by assumption) ?_
              try simp only [Act.put, List.getElem_toArray, List.getElem_cons_zero, List.getElem_cons_succ, List.setIfInBounds_toArray, List.set_cons_zero, List.set_cons_succ]
              refine wpAnyH_take (i := 12) (oi := _) (v := undef) rfl (by kernel_rfl) (by kernel_rfl) (by kernel_rfl) (fun _ _ _ h => h) (Or.inr ⟨by rfl, rfl⟩) (by assumption) ?_
              try simp only [Act.put, List.getElem_toArray, List.getElem_cons_zero, List.getElem_cons_succ, List.setIfInBounds_toArray, List.set_cons_zero, List.set_cons_succ]
              refine wpAnyH_take (i := 13) (oi := _) (v := undef) rfl (by kernel_rfl) (by kernel_rfl) (by kernel_rfl) (fun _ _ _ h => h) (Or.inr ⟨by rfl, rfl⟩) (by assumption) ?_
              try simp only [Act.put, List.getElem_toArray, List.getElem_cons_zero, List.getElem_cons_succ, List.setIfInBounds_toArray, List.set_cons_zero, List.set_cons_succ]
              refine wpAnyH_take (i := 14) (oi := _) (v := undef) rfl (by kernel_rfl) (by kernel_rfl) (by kernel_rfl) (fun _ _ _ h => h) (Or.inr ⟨by rfl, rfl⟩) (by assumption) ?_
              try simp only [Act.put, List.getElem_toArray, List.getElem_cons_zero, List.getElem_cons_succ, List.setIfInBounds_toArray, List.set_cons_zero, List.set_cons_succ]
              refine wpAnyH_take (i := 15) (oi := _) (v := ?_) rfl (by kernel_rfl) (by kernel_rfl) (by kernel_rfl) (fun _ _ _ h => h) (Or.inl ⟨by rfl, ?_⟩) (by assumption) ?_
              rotate_left 1
              · (intro w hSw; (try dsimp only at hSw); (first | (go_simp; done) | (go_simp; with_reducible rfl)))
              try simp only [Act.put, List.getElem_toArray, List.getElem_cons_zero, List.getElem_cons_succ, List.setIfInBounds_toArray, List.set_cons_zero, List.set_cons_succ]
              refine wpAnyH_take (i := 16) (oi := _) (v := ?_) rfl (by kernel_rfl) (by kernel_rfl) (by kernel_rfl) (fun _ _ _ h => h) (Or.inl ⟨by rfl, ?_⟩) (by assumption) ?_
              rotate_left 1
              · (intro w hSw; (try dsimp only at hSw); (first | (go_simp; done) | (go_simp; with_reducible rfl)))
              try simp only [Act.put, List.getElem_toArray, List.getElem_cons_zero, List.getElem_cons_succ, List.setIfInBounds_toArray, List.set_cons_zero, List.set_cons_succ]
              refine wpAnyH_take (i := 17) (oi := _) (v := undef) rfl (by kernel_rfl) (by kernel_rfl) (by kernel_rfl) (fun _ _ _ h => h) (Or.inr ⟨by rfl, rfl⟩) (by assumption) ?_
              try simp only [Act.put, List.getElem_toArray, List.getElem_cons_zero, List.getElem_cons_succ, List.setIfInBounds_toArray, List.set_cons_zero, List.set_cons_succ]
              refine wpAnyH_take (i := 18) (oi := _) (v := undef) rfl (by kernel_rfl) (by kernel_rfl) (by kernel_rfl) (fun _ _ _ h => h) (Or.inr ⟨by rfl, rfl⟩) (by assumption) ?_
              try simp only [Act.put, List.getElem_toArray, List.getElem_cons_zero, List.getElem_cons_succ, List.setIfInBounds_toArray, List.set_cons_zero, List.set_cons_succ]
              refine wpAnyH_take (i := 19) (oi := _) (v := undef) rfl (by kernel_rfl) (by kernel_rfl) (by kernel_rfl) (fun _ _ _ h => h) (Or.inr ⟨by rfl, rfl⟩) (by assumption) ?_
              try simp only [Act.put, List.getElem_toArray, List.getElem_cons_zero, List.getElem_cons_succ, List.setIfInBounds_toArray, List.set_cons_zero, List.set_cons_succ]
              refine wpAnyH_take (i := 20) (oi := _) (v := undef) rfl (by kernel_rfl) (by kernel_rfl) (by kernel_rfl) (fun _ _ _ h => h) (Or.inr ⟨by rfl, rfl⟩) (by assumption) ?_
              try simp only [Act.put, List.getElem_toArray, List.getElem_cons_zero, List.getElem_cons_succ, List.setIfInBounds_toArray, List.set_cons_zero, List.set_cons_succ]
              refine wpAnyH_take (i := 21) (oi := _) (v := undef) rfl (by kernel_rfl) (by kernel_rfl) (by kernel_rfl) (fun _ _ _ h => h) (Or.inr ⟨by rfl, rfl⟩) (by assumption) ?_
              try simp only [Act.put, List.getElem_toArray, List.getElem_cons_zero, List.getElem_cons_succ, List.setIfInBounds_toArray, List.set_cons_zero, List.set_cons_succ]
              refine wpAnyH_take (i := 22) (oi := _) (v := undef) rfl (by kernel_rfl) (by kernel_rfl) (by kernel_rfl) (fun _ _ _ h => h) (Or.inr ⟨by rfl, rfl⟩) (by assumption) ?_
              try simp only [Act.put, List.getElem_toArray, List.getElem_cons_zero, List.getElem_cons_succ, List.setIfInBounds_toArray, List.set_cons_zero, List.set_cons_succ]
              refine wpAnyH_take (i := 23) (oi := _) (v := undef) rfl (by kernel_rfl) (by kernel_rfl) (by kernel_rfl) (fun _ _ _ h => h) (Or.inr ⟨by rfl, rfl⟩) (by assumption) ?_
              try simp only [Act.put, List.getElem_toArray, List.getElem_cons_zero, List.getElem_cons_succ, List.setIfInBounds_toArray, List.set_cons_zero, List.set_cons_succ]
              refine wpAnyH_take (i := 24) (oi := _) (v := undef) rfl (by kernel_rfl) (by kernel_rfl) (by kernel_rfl) (fun _ _ _ h => h) (Or.inr ⟨by rfl, rfl⟩) (by assumption) ?_
              try simp only [Act.put, List.getElem_toArray, List.getElem_cons_zero, List.getElem_cons_succ, List.setIfInBounds_toArray, List.set_cons_zero, List.set_cons_succ]
              refine wpAnyH_take (i := 25) (oi := _) (v := undef) rfl (by kernel_rfl) (by kernel_rfl) (by kernel_rfl) (fun _ _ _ h => h) (Or.inr ⟨by rfl, rfl⟩) (by assumption) ?_
              try simp only [Act.put, List.getElem_toArray, List.getElem_cons_zero, List.getElem_cons_succ, List.setIfInBounds_toArray, List.set_cons_zero, List.set_cons_succ]
              refine wpAnyH_take (i := 26) (oi := _) (v := undef) rfl (by kernel_rfl) (by kernel_rfl) (by kernel_rfl) (fun _ _ _ h => h) (Or.inr ⟨by rfl, rfl⟩) (by assumption) ?_
              try simp only [Act.put, List.getElem_toArray, List.getElem_cons_zero, List.getElem_cons_succ, List.setIfInBounds_toArray, List.set_cons_zero, List.set_cons_succ]
              refine wpAnyH_take (i := 27) (oi := _) (v := ?_) rfl (by kernel_rfl) (by kernel_rfl) (by kernel_rfl) (fun _ _ _ h => h) (Or.inl ⟨by rfl, ?_⟩) (by assumption) ?_
              rotate_left 1
              · (intro w hSw; (try dsimp only at hSw); (first | (go_simp; done) | (go_simp; with_reducible rfl)))
              try simp only [Act.put, List.getElem_toArray, List.getElem_cons_zero, List.getElem_cons_succ, List.setIfInBounds_toArray, List.set_cons_zero, List.set_cons_succ]
              refine wpAnyH_take (i := 28) (oi := _) (v := ?_) rfl (by kernel_rfl) (by kernel_rfl) (by kernel_rfl) (fun _ _ _ h => h) (Or.inl ⟨by rfl, ?_⟩) (by assumption) ?_
              rotate_left 1
              · (intro w hSw; (try dsimp only at hSw); (first | (go_simp; done) | (go_simp; with_reducible rfl)))
              try simp only [Act.put, List.getElem_toArray, List.getElem_cons_zero, List.getElem_cons_succ, List.setIfInBounds_toArray, List.set_cons_zero, List.set_cons_succ]
              refine wpAnyH_take (i := 29) (oi := _) (v := undef) rfl (by kernel_rfl) (by kernel_rfl) (by kernel_rfl) (fun _ _ _ h => h) (Or.inr ⟨by rfl, rfl⟩) (by assumption) ?_
              try simp only [Act.put, List.getElem_toArray, List.getElem_cons_zero, List.getElem_cons_succ, List.setIfInBounds_toArray, List.set_cons_zero, List.set_cons_succ]
              refine wpAnyH_take (i := 30) (oi := _) (v := undef) rfl (by kernel_rfl) (by kernel_rfl) (by kernel_rfl) (fun _ _ _ h => h) (Or.inr ⟨by rfl, rfl⟩) (by assumption) ?_
              try simp only [Act.put, List.getElem_toArray, List.getElem_cons_zero, List.getElem_cons_succ, List.setIfInBounds_toArray, List.set_cons_zero, List.set_cons_succ]
              refine wpAnyH_take (i := 31) (oi := _) (v := undef) rfl (by kernel_rfl) (by kernel_rfl) (by kernel_rfl) (fun _ _ _ h => h) (Or.inr ⟨by rfl, rfl⟩) (by assumption) ?_
              try simp only [Act.put, List.getElem_toArray, List.getElem_cons_zero, List.getElem_cons_succ, List.setIfInBounds_toArray, List.set_cons_zero, List.set_cons_succ]
              refine wpAnyH_take (i := 32) (oi := _) (v := undef) rfl (by kernel_rfl) (by kernel_rfl) (by kernel_rfl) (fun _ _ _ h => h) (Or.inr ⟨by rfl, rfl⟩) (by assumption) ?_
              try simp only [Act.put, List.getElem_toArray, List.getElem_cons_zero, List.getElem_cons_succ, List.setIfInBounds_toArray, List.set_cons_zero, List.set_cons_succ]
              refine wpAnyH_take (i := 33) (oi := _) (v := undef) rfl (by kernel_rfl) (by kernel_rfl) (by kernel_rfl) (fun _ _ _ h => h) (Or.inr ⟨by rfl, rfl⟩) (by assumption) ?_
              try simp only [Act.put, List.getElem_toArray, List.getElem_cons_zero, List.getElem_cons_succ, List.setIfInBounds_toArray, List.set_cons_zero, List.set_cons_succ]
              refine wpAnyH_take (i := 34) (oi := _) (v := undef) rfl (by kernel_rfl) (by kernel_rfl) (by kernel_rfl) (fun _ _ _ h => h) (Or.inr ⟨by rfl, rfl⟩) (by assumption) ?_
              try simp only [Act.put, List.getElem_toArray, List.getElem_cons_zero, List.getElem_cons_succ, List.setIfInBounds_toArray, List.set_cons_zero, List.set_cons_succ]
              refine wpAnyH_take (i := 35) (oi := _) (v := ?_) rfl (by kernel_rfl) (by kernel_rfl) (by kernel_rfl) (fun _ _ _ h => h) (Or.inl ⟨by rfl, ?_⟩) (by assumption) ?_
              rotate_left 1
              · (intro w hSw; (try dsimp only at hSw); (first | (go_simp; done) | (go_simp; with_reducible rfl)))
              try simp only [Act.put, List.getElem_toArray, List.getElem_cons_zero, List.getElem_cons_succ, List.setIfInBounds_toArray, List.set_cons_zero, List.set_cons_succ]
              refine wpAnyH_take (i := 36) (oi := _) (v := ?_) rfl (by kernel_rfl) (by kernel_rfl) (by kernel_rfl) (fun _ _ _ h => h) (Or.inl ⟨by rfl, ?_⟩) (by assumption) ?_
              rotate_left 1
              · (intro w hSw; (try dsimp only at hSw); (first | (go_simp; done) | (go_simp; with_reducible rfl)))
              try simp only [Act.put, List.getElem_toArray, List.getElem_cons_zero, List.getElem_cons_succ, List.setIfInBounds_toArray, List.set_cons_zero, List.set_cons_succ]
              refine wpAnyH_done (by kernel_rfl) ?_ _
              refine NoPanic.normal ?_
              go_wp2_with fail
              go_ret
              exact ⟨ret_bool HR0.out.symm, HB0.out⟩
        · have hlt' : ¬ (j : Int) < (vs.length : Int) := by omega
          have hva : allI (vOk a l bs) 0 vs = true := allI_all _ _ _ (fun k hk => by rw [Nat.zero_add]; exact hall k hk (by omega))
          rw [hva, Bool.true_and] at HRES
          have cx := (HXc.out.below hB xlc).c
          have HB8' := hide hB
          clear hall hva hB hBwr
          go_wp2_with fail
          obtain ⟨w8, hw8⟩ : ∃ w8, w8 = wr := ⟨_, rfl⟩
          have HB8 : Hid (Below wc.heap.size wc w8) := hide (by rw [hw8]; exact HB8'.out)
          rw [← hw8]
          clear cx HB8' hw8
          go_loopw [120] (fun i w' => ∃ (j : Nat), j ≤ fs.length ∧ i = .int .i64 (j : Int) ∧ (∀ k (hk : k < fs.length), k < j → fOk a l bs vs.length fs[k] = true) ∧ Below wc.heap.size wc w') (fun i _ => fs.length - (intOf i).toNat)
          case atStart => exact ⟨0, Nat.zero_le _, rfl, fun k _ hk => by omega, HB8.out⟩
          case round =>
            obtain ⟨j, hj, rfl, hall, hB⟩ := hrel
            have hBwr : Below w.heap.size w wr := HBwc.out.trans (hB.mono HBwc.out.size)
            by_cases hlt : j < fs.length
            · have hlt' : (j : Int) < (fs.length : Int) := by omega
              have hj0 : (0 : Int) ≤ (j : Int) := by omega
              obtain ⟨b, o, rfl, -, q0, q1, q2, q3⟩ := FmRow.tok HF.out hBwr hlt
              have HBad := hide (fun (h : fOk a l bs vs.length fs[j] = false) => allI_bad (fun _ f => fOk a l bs vs.length f) fs 0 j hlt h)
              have HAt := hide (fun (h : fOk a l bs vs.length fs[j] = true) k hk (hk' : k < j + 1) => (by
                by_cases hkj : k < j
                · exact hall k hk hkj
                · have hke : k = j := by omega
                  subst hke
                  exact h : fOk a l bs vs.length fs[k] = true))
              obtain ⟨y, hy⟩ : ∃ y, y = fs[j] := ⟨_, rfl⟩
              rw [← hy] at q0 q1 q2 q3
              simp only [← hy] at HBad HAt
              clear hy hall
              have hBv : Below wc.heap.size wc (wr.alloc (.cells #[.int .i64 y.k, .int .i64 y.pl, .int .i64 y.env, .int .i64 y.val] 96)) := hB.alloc hB.size _
              have HBv := hide (HBwc.out.trans (hBv.mono HBwc.out.size))
              have HCall := hide (HFa.out (wr.alloc (.cells #[.int .i64 y.k, .int .i64 y.pl, .int .i64 y.env, .int .i64 y.val] 96)) y HBO.out HBv.out)
              have cx := (HXc.out.below hBv xlc).c
              have HBr := hide hBv
              obtain ⟨VB, hVB⟩ : ∃ VB, VB = fOk a l bs vs.length y := ⟨_, rfl⟩
              rw [← hVB] at HCall HBad HAt
              clear hVB hBv
              obtain ⟨yk, yp, ye, yv⟩ := y
              simp only [Fm.v] at HCall HBv HBr q0 q1 q2 q3 cx
              go_wp2_with fail
              refine HCall.out.mono ?_
              rintro r w5 ⟨rfl, hb5⟩
              have hB5 : Below w.heap.size w w5 := HBv.out.trans (hb5.mono HBv.out.size)
              have HB5 := hide (HBr.out.trans (hb5.mono HBr.out.size))
              clear hb5 cx q0 q1 q2 q3
              cases VB with
              | false =>
                have HR0 : Hid (RES = false) := hide (by rw [HRES.out, HBad.out (by first | trivial | rfl)]; rfl)
                go_wp2_with fail
                go_ret
                exact ⟨ret_bool HR0.out.symm, hB5⟩
              | true =>
                go_wp2_with fail
                exact ⟨⟨j + 1, by omega, by go_num, HAt.out (by first | trivial | rfl), HB5.out⟩, by simp [intOf]; omega⟩
            · have hlt' : ¬ (j : Int) < (fs.length : Int) := by omega
              have hva : allI (fun _ f => fOk a l bs vs.length f) 0 fs = true := allI_all _ _ _ (fun k hk => hall k hk (by omega))
              rw [hva, Bool.true_and] at HRES
              have cx := (HXc.out.below hB xlc).c
              clear hall hva hB
              cases d with
              | true =>
                have HCall := hide (HVl.out wr x)
                obtain ⟨VB, hVB⟩ : ∃ VB, VB = blw x vs.length := ⟨_, rfl⟩
                rw [← hVB] at HCall
                have HNo : Hid (nOk a l ⟨true, p, e, x, fs, vs, bs⟩ = (decide (p = -1) && decide (e = -1) && VB)) := hide (by rw [hVB]; unfold nOk; simp)
                clear hVB
                by_cases h1 : p = -1
                · subst h1
                  by_cases h2 : e = -1
                  · subst h2
                    go_wp2_with fail
                    refine HCall.out.mono ?_
                    rintro r w5 ⟨rfl, hb5⟩
                    have hB5 : Below w.heap.size w w5 := hBwr.trans (hb5.mono hBwr.size)
                    clear hb5 cx
                    go_wp2_with fail
                    go_ret
                    exact ⟨ret_bool (by rw [HRES.out, HNo.out]; simp), hB5⟩
                  · go_wp2_with fail
                    go_ret
                    exact ⟨ret_bool (by rw [HRES.out, HNo.out]; simp [h2]), hBwr⟩
                · go_wp2_with fail
                  go_ret
                  exact ⟨ret_bool (by rw [HRES.out, HNo.out]; simp [h1]), hBwr⟩
              | false =>
                have HCall := hide (HPa.out wr p e HBO.out hBwr)
                obtain ⟨VB, hVB⟩ : ∃ VB, VB = pOk a l.length bs p e := ⟨_, rfl⟩
                rw [← hVB] at HCall
                have HNo : Hid (nOk a l ⟨false, p, e, x, fs, vs, bs⟩ = (decide (x = -1) && VB)) := hide (by rw [hVB]; unfold nOk; simp)
                clear hVB
                by_cases h1 : x = -1
                · subst h1
                  go_wp2_with fail
                  refine HCall.out.mono ?_
                  rintro r w5 ⟨rfl, hb5⟩
                  have hB5 : Below w.heap.size w w5 := hBwr.trans (hb5.mono hBwr.size)
                  clear hb5 cx
                  go_wp2_with fail
                  go_ret
                  exact ⟨ret_bool (by rw [HRES.out, HNo.out]; simp), hB5⟩
                · go_wp2_with fail
                  go_ret
                  exact ⟨ret_bool (by rw [HRES.out, HNo.out]; simp [h1]), hBwr⟩
end Go.Proofs.Ytdajalchdbgooaa.W
