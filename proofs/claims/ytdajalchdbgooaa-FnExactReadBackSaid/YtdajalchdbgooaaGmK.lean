/-
  The program's GoodMachine. Conditions: rows of at most 1048576. Written by wip/build/mk_implgood.py.
-/
import Derived.Test.YtdajalchdbgooaaJ16
import Derived.Test.YtdajalchdbgooaaGmH
import Derived.Test.YtdajalchdbgooaaGmJ
import Derived.Deep.RegionHeld3
import Derived.Deep.RegionLaw
import Derived.Deep.AppendLies
import Derived.Deep.CutRange
namespace Go.Proofs.Ytdajalchdbgooaa.W
open Go.ChangeShapes Go.WideShapes Go.ChangeAt Go.RowKit
set_option linter.unusedVariables false
set_option linter.unusedSimpArgs false

theorem own0 {α : Type} {w : World} {lo z n : Nat} {T : TypeId} {v : Value} {f : α → Nat → Value} {l : List α} (h : w.ownsRow lo T z v n (rcells z f l)) (hn : n = l.length) (hp : 0 < n) :
    ∃ g c, v = .slice (some ⟨g, 0, none⟩) n c ∧ lo ≤ g ∧ g < w.heap.size ∧ ∀ i (hi : i < l.length) r, r < z → w.cell? ⟨g, i * z + r, none⟩ = some (f l[i] r) := by
  obtain ⟨ad, c, rfl⟩ := own_form h
  obtain ⟨g, rfl⟩ : ∃ g, ad = some ⟨g, 0, none⟩ := by
    rcases h.2 with ⟨e, e2⟩ | ⟨g, cap, cur, e, _⟩
    · omega
    · simp only [Value.slice.injEq] at e; exact ⟨g, e.1⟩
  have hb := h.lt g rfl
  refine ⟨g, c, rfl, hb.1, hb.2, fun i hi r hr => ?_⟩
  obtain ⟨b, o, he, -, hc⟩ := RRow.at (RRow.ofOwn h hn) (Below.refl _ _) hi
  simp only [Option.some.injEq, Addr.mk.injEq] at he
  obtain ⟨rfl, rfl, -⟩ := he
  have := hc r hr
  rwa [Nat.zero_add] at this
/-- What a look reads, of the rows as they were made. -/
theorem look_of {w : World} {ad : Option Addr} {l : List Cc} {a : F} {bs : List Bd} {ga ra nv : Nat} (hCl : Cl l a) (ht : CRow w ad l) (hb : bsOk nv bs = true) (hg : ga < w.heap.size) (hr : ra < w.heap.size)
    (h1 : ∀ i (hi : i < ((ndT a).map (·.2.1)).length) r, r < 1 → w.cell? ⟨ga, i * 1 + r, none⟩ = some (Ic ((ndT a).map (·.2.1))[i] r))
    (h2 : ∀ i (hi : i < (brow bs bs.length).length) r, r < 2 → w.cell? ⟨ra, i * 2 + r, none⟩ = some (Rcc (brow bs bs.length)[i] r)) : LkR w ad l a bs ga ra := by
  refine ⟨ht, fun i hi => ?_, hg, fun i hi => ?_, hr⟩
  · have hi' : i < (ndT a).length := by rw [hCl.len]; exact hi
    have := h1 i (by rw [List.length_map]; exact hi') 0 (by omega)
    rw [Nat.mul_one, Nat.add_zero] at this
    rw [this]
    unfold tV Ic
    rw [List.getElem?_eq_getElem hi', List.getElem_map]
  · have hl := brow_len bs bs.length (Nat.le_refl _)
    have hi' : i < (brow bs bs.length).length := by omega
    have e := brow_bw hb bs.length (Nat.le_refl _) ((i : Int) - 1) (by omega) (by omega)
    rw [show ((i : Int) - 1 + 1).toNat = i by omega, List.getElem?_eq_getElem hi', Option.some.injEq] at e
    have q0 := h2 i hi' 0 (by omega)
    have q1 := h2 i hi' 1 (by omega)
    rw [e] at q0 q1
    exact ⟨q0, q1⟩

set_option maxRecDepth 20000 in
set_option maxHeartbeats 4000000 in
theorem implGood_few (ad : Option Addr) (c : Nat) (l : List Cc) (d : Bool) (p e x : Int) (af av ab : Option Addr) (cf cv cb : Nat) (fs : List Fm) (vs : List Vl) (bs : List Bd) (w : World) (hl : l.length ≤ 1048576) (hcap : l.length ≤ c) (h : CRow w ad l) (h4 : fs.length ≤ 1048576) (h5 : vs.length ≤ 1048576) (h6 : bs.length ≤ 1048576) (hno : closed l = false ∨ ¬ (fs.length ≤ 500 ∧ vs.length ≤ 500 ∧ bs.length ≤ 500)) :
    Calls Try.prog 22 #[.slice ad l.length c, .agg #[.bool d, .int .i64 p, .int .i64 e, .int .i64 x, .slice af fs.length cf, .slice av vs.length cv, .slice ab bs.length cb]] w fun r w' => r = .returned (.bool false) ∧ Below w.heap.size w w' := by
  have HC := hide (fun (w' : World) (hb : Below w.heap.size w w') => isClosed_any ad c l w' hl hcap (h.below hb))
  have hB0 : Below w.heap.size w (w.alloc (.cells #[.bool d, .int .i64 p, .int .i64 e, .int .i64 x, .slice af fs.length cf, .slice av vs.length cv, .slice ab bs.length cb] 28)) := (Below.refl _ _).alloc (Nat.le_refl _) _
  have HX := hide (Bx.new w #[.bool d, .int .i64 p, .int .i64 e, .int .i64 x, .slice af fs.length cf, .slice av vs.length cv, .slice ab bs.length cb] 28)
  cases hcl : closed l with
  | false =>
    rw [hcl] at HC
    clear h hno hcl
    go_enter Try.func22, Try.ntmps22
    go_wp2_with fail
    refine (HC.out _ hB0).mono ?_
    rintro r w1 ⟨rfl, hb1⟩
    have hB1 : Below w.heap.size w w1 := hB0.trans (hb1.mono (by simp))
    clear hb1
    go_wp2_with fail
    go_ret
    exact ⟨rfl, hB1⟩
  | true =>
    rw [hcl] at HC hno
    have hno' := hno.resolve_left (by simp)
    clear h hno hcl
    go_enter Try.func22, Try.ntmps22
    go_wp2_with fail
    refine (HC.out _ hB0).mono ?_
    rintro r w1 ⟨rfl, hb1⟩
    have hB1 : Below w.heap.size w w1 := hB0.trans (hb1.mono (by simp))
    have cx := (HX.out.below hb1 (by simp)).c
    clear hb1
    by_cases g1 : (500 : Int) < (fs.length : Int)
    · clear hno'
      go_wp2_with fail
      go_ret
      exact ⟨rfl, hB1⟩
    · by_cases g2 : (500 : Int) < (vs.length : Int)
      · clear hno'
        go_wp2_with fail
        go_ret
        exact ⟨rfl, hB1⟩
      · have g3 : (500 : Int) < (bs.length : Int) := by omega
        clear hno'
        go_wp2_with fail
        go_ret
        exact ⟨rfl, hB1⟩

set_option maxRecDepth 20000 in
set_option maxHeartbeats 8000000 in
theorem implGood_some (ad : Option Addr) (c : Nat) (l : List Cc) (a : F) (d : Bool) (p e x : Int) (af av ab : Option Addr) (cf cv cb : Nat) (fs : List Fm) (vs : List Vl) (bs : List Bd) (w : World) (hcap : l.length ≤ c) (h : CRow w ad l) (hcl : closedT l = some a) (h4 : fs.length ≤ 500) (h5 : vs.length ≤ 500) (h6 : bs.length ≤ 500) (hF : FmRow w af fs) (hV : VlRow w av vs) (hBd : BdRow w ab bs) :
    Calls Try.prog 22 #[.slice ad l.length c, .agg #[.bool d, .int .i64 p, .int .i64 e, .int .i64 x, .slice af fs.length cf, .slice av vs.length cv, .slice ab bs.length cb]] w fun r w' => r = .returned (.bool (bsOk vs.length bs && (allI (vOk a l bs) 0 vs && (allI (fun _ f => fOk a l bs vs.length f) 0 fs && nOk a l ⟨d, p, e, x, fs, vs, bs⟩)))) ∧ Below w.heap.size w w' := by
  have hCl := (closedT_some hcl).1
  have hll := hCl.le
  have hpos := hCl.pos
  have HC := hide (fun (w' : World) (hb : Below w.heap.size w w') => isClosed_any ad c l w' (by omega) hcap (h.below hb))
  rw [show closed l = true by unfold closed; rw [hcl]; rfl] at HC
  have HRo := hide (fun (w' : World) (hb : Below w.heap.size w w') => bindingRows_any d p e x (.slice af fs.length cf) av ab vs.length cv cb bs w' (hBd.below hb) h6 (by omega))
  have HAr := hide (fun (w' : World) (hb : Below w.heap.size w w') => boundAround_any ad c l a w' hCl (h.below hb))
  have hB0 : Below w.heap.size w (w.alloc (.cells #[.bool d, .int .i64 p, .int .i64 e, .int .i64 x, .slice af fs.length cf, .slice av vs.length cv, .slice ab bs.length cb] 28)) := (Below.refl _ _).alloc (Nat.le_refl _) _
  have HX := hide (Bx.new w #[.bool d, .int .i64 p, .int .i64 e, .int .i64 x, .slice af fs.length cf, .slice av vs.length cv, .slice ab bs.length cb] 28)
  obtain ⟨RES, hRES⟩ : ∃ RES, RES = (bsOk vs.length bs && (allI (vOk a l bs) 0 vs && (allI (fun _ f => fOk a l bs vs.length f) 0 fs && nOk a l ⟨d, p, e, x, fs, vs, bs⟩))) := ⟨_, rfl⟩
  rw [← hRES]
  have HRES := hide hRES
  have HCl := hide hCl
  have HT := hide h
  have HF := hide hF
  have HV := hide hV
  have HGV := hide (fun (w' : World) (ga ca ra cr : Nat) (v : Vl) (i : Nat) (hL : LkR w' ad l a bs ga ra) (hb : bsOk vs.length bs = true) (hi : i ≤ 1048576) => goodVal_any ad c l a d p e x af av ab fs.length cf vs.length cv cb bs ga ca ra (bs.length + 1) cr v i w' hCl hL hb rfl (by omega) (by omega) hi)
  have HGF := hide (fun (w' : World) (ga ca ra cr : Nat) (f : Fm) (hL : LkR w' ad l a bs ga ra) (hb : bsOk vs.length bs = true) => goodFrame_any ad c l a d p e x af av ab fs.length cf vs.length cv cb bs ga ca ra (bs.length + 1) cr f w' hCl hL hb rfl (by omega) (by omega))
  have HGN := hide (fun (w' : World) (ga ca ra cr : Nat) (hL : LkR w' ad l a bs ga ra) (hb : bsOk vs.length bs = true) => goodNow_any ad c l a d p e x af av ab fs.length cf vs.length cv cb bs ga ca ra (bs.length + 1) cr fs vs w' hCl hL hb rfl (by omega) (by omega) rfl)
  have g1 : ¬ (500 : Int) < (fs.length : Int) := by omega
  have g2 : ¬ (500 : Int) < (vs.length : Int) := by omega
  have g3 : ¬ (500 : Int) < (bs.length : Int) := by omega
  clear h hcl hCl hRES hF hV hBd hcap
  obtain ⟨OK, hOK⟩ : ∃ OK, OK = bsOk vs.length bs := ⟨_, rfl⟩
  have HOK := hide hOK
  simp only [← hOK] at HRo HGV HGF HGN
  rw [← hOK] at HRES
  clear hOK
  go_enter Try.func22, Try.ntmps22
  go_wp2_with fail
  refine (HC.out _ hB0).mono ?_
  rintro r w1 ⟨rfl, hb1⟩
  have hB1 : Below w.heap.size w w1 := hB0.trans (hb1.mono (by simp))
  have HX1 := hide (HX.out.below hb1 (by simp))
  have cx := HX1.out.c
  have xl1 : w.heap.size < w1.heap.size := HX1.out.lt
  clear hb1 HX hB0 HC
  go_wp2_with fail
  refine (HRo.out _ hB1).mono ?_
  rintro r w2 ⟨vr, rfl, hor, hb2⟩
  have hB2 : Below w.heap.size w w2 := hB1.trans (hb2.mono hB1.size)
  have HX2 := hide (HX1.out.below hb2 xl1)
  have xl2 : w.heap.size < w2.heap.size := HX2.out.lt
  clear hb2 cx HX1 HRo
  cases OK with
  | false =>
    have HR0 : Hid (RES = false) := hide (by rw [HRES.out]; rfl)
    clear hor
    go_wp2_with fail
    go_ret
    exact ⟨ret_bool HR0.out.symm, hB2⟩
  | true =>
    have hor' := hor rfl
    obtain ⟨ra, cr, hvr, hrlo, hrl, hrc⟩ := own0 hor' (by rw [brow_len bs bs.length (Nat.le_refl _)]) (by omega)
    subst hvr
    have HRc := hide hrc
    clear hor hor' hrc
    have hall : (true && (allI (vOk a l bs) 0 vs && (allI (fun _ f => fOk a l bs vs.length f) 0 fs && nOk a l ⟨d, p, e, x, fs, vs, bs⟩))) = (allI (vOk a l bs) 0 vs && (allI (fun _ f => fOk a l bs vs.length f) 0 fs && nOk a l ⟨d, p, e, x, fs, vs, bs⟩)) := Bool.true_and _
    rw [hall] at HRES
    clear hall
    go_upto_region 6 with fail
    obtain ⟨XB, hXB⟩ : ∃ XB, XB = w.heap.size := ⟨_, rfl⟩
    rw [← hXB] at HX2 xl2 ⊢
    have HXB := hide hXB
    clear hXB
    have b0 : w2.cell? ⟨XB, 0, none⟩ = some (.bool d) := HX2.out.c 0
    have b1 : w2.cell? ⟨XB, 1, none⟩ = some (.int .i64 p) := HX2.out.c 1
    have b2 : w2.cell? ⟨XB, 2, none⟩ = some (.int .i64 e) := HX2.out.c 2
    have b3 : w2.cell? ⟨XB, 3, none⟩ = some (.int .i64 x) := HX2.out.c 3
    have b4 : w2.cell? ⟨XB, 4, none⟩ = some (.slice af fs.length cf) := HX2.out.c 4
    have b5 : w2.cell? ⟨XB, 5, none⟩ = some (.slice av vs.length cv) := HX2.out.c 5
    have b6 : w2.cell? ⟨XB, 6, none⟩ = some (.slice ab bs.length cb) := HX2.out.c 6
    have D0 : Below w2.heap.size w2 w2.drew := belowDrew (Below.refl _ _)
    have HD0 := hide D0
    have HBw : Hid (Below w.heap.size w w2) := hide hB2
    have HXs : Hid (∀ w', Below w2.heap.size w2 w' → w'.cell? ⟨XB, 0, none⟩ = some (.bool d) ∧ w'.cell? ⟨XB, 1, none⟩ = some (.int .i64 p) ∧ w'.cell? ⟨XB, 2, none⟩ = some (.int .i64 e) ∧ w'.cell? ⟨XB, 3, none⟩ = some (.int .i64 x) ∧ w'.cell? ⟨XB, 4, none⟩ = some (.slice af fs.length cf) ∧ w'.cell? ⟨XB, 5, none⟩ = some (.slice av vs.length cv) ∧ w'.cell? ⟨XB, 6, none⟩ = some (.slice ab bs.length cb)) := hide (fun w' hb => ⟨(hb.cell (p := ⟨XB, 0, none⟩) xl2).trans b0, (hb.cell (p := ⟨XB, 1, none⟩) xl2).trans b1, (hb.cell (p := ⟨XB, 2, none⟩) xl2).trans b2, (hb.cell (p := ⟨XB, 3, none⟩) xl2).trans b3, (hb.cell (p := ⟨XB, 4, none⟩) xl2).trans b4, (hb.cell (p := ⟨XB, 5, none⟩) xl2).trans b5, (hb.cell (p := ⟨XB, 6, none⟩) xl2).trans b6⟩)
    go_cut [7] from 40 to 73 (fun v wx => ∃ (LB ga ca : Nat), v = .pointer (some ⟨LB, 0, none⟩) ∧ Bx wx LB #[.bool d, .int .i64 p, .int .i64 e, .int .i64 x, .slice af fs.length cf, .slice av vs.length cv, .slice ab bs.length cb, .slice ad l.length c, .slice (some ⟨ga, 0, none⟩) l.length ca, .slice (some ⟨ra, 0, none⟩) (bs.length + 1) cr] 93 ∧ ga < wx.heap.size ∧ (∀ i (hi : i < ((ndT a).map (·.2.1)).length) r, r < 1 → wx.cell? ⟨ga, i * 1 + r, none⟩ = some (Ic ((ndT a).map (·.2.1))[i] r)) ∧ Below w2.heap.size w2 wx)
    case first =>
      rename_i JJ KK hJJ hKK
      refine wp_region_noPanic ?_
      refine wp_region_held_drew (S := fun w' => w'.cell? ⟨XB, 0, none⟩ = some (.bool d) ∧ w'.cell? ⟨XB, 1, none⟩ = some (.int .i64 p) ∧ w'.cell? ⟨XB, 2, none⟩ = some (.int .i64 e) ∧ w'.cell? ⟨XB, 3, none⟩ = some (.int .i64 x) ∧ w'.cell? ⟨XB, 4, none⟩ = some (.slice af fs.length cf) ∧ w'.cell? ⟨XB, 5, none⟩ = some (.slice av vs.length cv) ∧ w'.cell? ⟨XB, 6, none⟩ = some (.slice ab bs.length cb)) (by kernel_rfl) ⟨b0, b1, b2, b3, b4, b5, b6⟩ (fun hHeld => ?_)
      refine wpAnyH_take (i := 0) (oi := _) (v := ?_) rfl (by kernel_rfl) (by kernel_rfl) (by kernel_rfl) (fun _ _ _ h => h) (Or.inl ⟨by rfl, ?_⟩) (by assumption) ?_
      rotate_left 1
      · (intro w hSw; (try dsimp only at hSw); (first | (go_simp; done) | (go_simp; with_reducible rfl)))
      try simp only [Act.put, List.getElem_toArray, List.getElem_cons_zero, List.getElem_cons_succ, List.setIfInBounds_toArray, List.set_cons_zero, List.set_cons_succ]
      refine wpAnyH_take (i := 1) (oi := _) (v := ?_) rfl (by kernel_rfl) (by kernel_rfl) (by kernel_rfl) (fun _ _ _ h => h) (Or.inl ⟨by rfl, ?_⟩) (by assumption) ?_
      rotate_left 1
      · (intro w hSw; (try dsimp only at hSw); (first | (go_simp; done) | (go_simp; with_reducible rfl)))
      try simp only [Act.put, List.getElem_toArray, List.getElem_cons_zero, List.getElem_cons_succ, List.setIfInBounds_toArray, List.set_cons_zero, List.set_cons_succ]
      refine wpAnyH_take (i := 2) (oi := _) (v := ?_) rfl (by kernel_rfl) (by kernel_rfl) (by kernel_rfl) (fun _ _ _ h => h) (Or.inl ⟨by rfl, ?_⟩) (by assumption) ?_
      rotate_left 1
      · (intro w hSw; (try dsimp only at hSw); (first | (go_simp; done) | (go_simp; with_reducible rfl)))
      try simp only [Act.put, List.getElem_toArray, List.getElem_cons_zero, List.getElem_cons_succ, List.setIfInBounds_toArray, List.set_cons_zero, List.set_cons_succ]
      refine wpAnyH_take (i := 4) (oi := _) (v := ?_) rfl (by kernel_rfl) (by kernel_rfl) (by kernel_rfl) (fun _ _ _ h => h) (Or.inl ⟨by rfl, ?_⟩) (by assumption) ?_
      rotate_left 1
      · (intro w hSw; (try dsimp only at hSw); (first | (go_simp; done) | (go_simp; with_reducible rfl)))
      try simp only [Act.put, List.getElem_toArray, List.getElem_cons_zero, List.getElem_cons_succ, List.setIfInBounds_toArray, List.set_cons_zero, List.set_cons_succ]
      refine wpAnyH_ready (rs := [3, 6]) (by kernel_rfl) (by simp) ?_
      refine AllReadyH.cons (o := _) rfl (fun K hK => ?_) (AllReadyH.cons (o := _) rfl (fun K hK => ?_) AllReadyH.nil)
      · go_simp
        (with_reducible refine Calls.mono (HAr.out _ (HBw.out.trans (HD0.out.mono HBw.out.size))) ?_)
        rintro r wa ⟨va, rfl, hoa, hba⟩
        have hBa : Below w2.heap.size w2 wa := HD0.out.trans (hba.mono HD0.out.size)
        obtain ⟨ga, ca, hva, hglo, hgl, hgc⟩ := own0 hoa (by rw [List.length_map, HCl.out.len]) hpos
        subst hva
        have HBa := hide hBa
        have HGc := hide hgc
        have HGL := hide hgl
        clear hoa hba hgc
        have HA2 := hide (hBa.alloc hBa.size (.cells #[.bool false, .int .i64 0, .int .i64 0, .int .i64 0, .slice none 0 0, .slice none 0 0, .slice none 0 0, .slice none 0 0, .slice none 0 0, .slice none 0 0] 93))
        have HA3 := hide (hBa.alloc hBa.size (.cells #[.bool d, .int .i64 p, .int .i64 e, .int .i64 x, .slice af fs.length cf, .slice av vs.length cv, .slice ab bs.length cb, .slice ad l.length c, .slice (some ⟨ga, 0, none⟩) l.length ca, .slice (some ⟨ra, 0, none⟩) (bs.length + 1) cr] 93))
        clear hBa
        (try go_wp2_with fail)
        refine hK.out _ _ (HXs.out _ HBa.out) (fun hHeld => ?_)
        clear hK K
        try simp only [Act.put, List.getElem_toArray, List.getElem_cons_zero, List.getElem_cons_succ, List.setIfInBounds_toArray, List.set_cons_zero, List.set_cons_succ]
        refine wpAnyH_take (i := 5) (oi := _) (v := ?_) rfl (by kernel_rfl) (by kernel_rfl) (by kernel_rfl) (fun _ _ _ h => h) (Or.inl ⟨by rfl, ?_⟩) (by assumption) ?_
        rotate_left 1
        · (intro w hSw; (try dsimp only at hSw); (first | (go_simp; done) | (go_simp; with_reducible rfl)))
        try simp only [Act.put, List.getElem_toArray, List.getElem_cons_zero, List.getElem_cons_succ, List.setIfInBounds_toArray, List.set_cons_zero, List.set_cons_succ]
        refine wpAnyH_ready (rs := [6]) (by kernel_rfl) (by simp) ?_
        refine AllReadyH.cons (o := _) rfl (fun K hK => ?_) AllReadyH.nil
        go_simp
        refine hK.out _ _ (HXs.out _ HA2.out) (fun hHeld => ?_)
        clear hK K
        try simp only [Act.put, List.getElem_toArray, List.getElem_cons_zero, List.getElem_cons_succ, List.setIfInBounds_toArray, List.set_cons_zero, List.set_cons_succ]
        refine wpAnyH_ready (rs := [7]) (by kernel_rfl) (by simp) ?_
        refine AllReadyH.cons (o := _) rfl (fun K hK => ?_) AllReadyH.nil
        have cl := (Bx.new wa #[.bool false, .int .i64 0, .int .i64 0, .int .i64 0, .slice none 0 0, .slice none 0 0, .slice none 0 0, .slice none 0 0, .slice none 0 0, .slice none 0 0] 93).c
        have fl := (Bx.new wa #[.bool false, .int .i64 0, .int .i64 0, .int .i64 0, .slice none 0 0, .slice none 0 0, .slice none 0 0, .slice none 0 0, .slice none 0 0, .slice none 0 0] 93).f
        go_simp
        refine hK.out _ _ (HXs.out _ HA3.out) (fun hHeld => ?_)
        clear hK K
        try simp only [Act.put, List.getElem_toArray, List.getElem_cons_zero, List.getElem_cons_succ, List.setIfInBounds_toArray, List.set_cons_zero, List.set_cons_succ]
        refine wpAnyH_done (by kernel_rfl) ?_ _
        refine NoPanic.normal ?_
        clear cl fl b0 b1 b2 b3 b4 b5 b6 hHeld
        show KK _ _
        refine hKK _ _ (Met.intro (hJJ _ _ ?_))
        (repeat apply Exists.intro)
        refine ⟨?_, rfl⟩
        exact ⟨wa.heap.size, ga, ca, rfl, Bx.new wa _ _, Nat.lt_of_lt_of_le HGL.out (by simp), fun i hi r hr => (((Below.refl wa.heap.size wa).alloc (Nat.le_refl _) _).cell (p := ⟨ga, i * 1 + r, none⟩) HGL.out).trans (HGc.out i hi r hr), HA3.out⟩
      · have HZB := hide ((Bx.new w2 #[.bool false, .int .i64 0, .int .i64 0, .int .i64 0, .slice none 0 0, .slice none 0 0, .slice none 0 0, .slice none 0 0, .slice none 0 0, .slice none 0 0] 93).drew)
        have HBP : Hid (Below w2.heap.size w2 (w2.alloc (.cells #[.bool false, .int .i64 0, .int .i64 0, .int .i64 0, .slice none 0 0, .slice none 0 0, .slice none 0 0, .slice none 0 0, .slice none 0 0, .slice none 0 0] 93)).drew) := hide (belowDrew ((Below.refl w2.heap.size w2).alloc (Nat.le_refl _) (.cells #[.bool false, .int .i64 0, .int .i64 0, .int .i64 0, .slice none 0 0, .slice none 0 0, .slice none 0 0, .slice none 0 0, .slice none 0 0, .slice none 0 0] 93)))
        go_simp
        refine hK.out _ _ (HXs.out _ HBP.out) (fun hHeld => ?_)
        clear hK K
        try simp only [Act.put, List.getElem_toArray, List.getElem_cons_zero, List.getElem_cons_succ, List.setIfInBounds_toArray, List.set_cons_zero, List.set_cons_succ]
        refine wpAnyH_ready (rs := [3]) (by kernel_rfl) (by simp) ?_
        refine AllReadyH.cons (o := _) rfl (fun K hK => ?_) AllReadyH.nil
        go_simp
        (with_reducible refine Calls.mono (HAr.out _ (HBw.out.trans (HBP.out.mono HBw.out.size))) ?_)
        rintro r wa ⟨va, rfl, hoa, hba⟩
        have hBa : Below w2.heap.size w2 wa := HBP.out.trans (hba.mono HBP.out.size)
        obtain ⟨ga, ca, hva, hglo, hgl, hgc⟩ := own0 hoa (by rw [List.length_map, HCl.out.len]) hpos
        subst hva
        have HBa := hide hBa
        have HGc := hide hgc
        have HGL := hide hgl
        have HZa := hide (HZB.out.below hba HZB.out.lt)
        have hgn : ga ≠ w2.heap.size := by have := HZB.out.lt; omega
        have HOt := hide (oth_set (oth_set (oth_set (oth_set (oth_set (oth_set (oth_set (oth_set (oth_set (oth_set (Oth.refl w2.heap.size wa) 0 (.bool d)) 1 (.int .i64 p)) 2 (.int .i64 e)) 3 (.int .i64 x)) 4 (.slice af fs.length cf)) 5 (.slice av vs.length cv)) 6 (.slice ab bs.length cb)) 7 (.slice ad l.length c)) 8 (.slice (some ⟨ga, 0, none⟩) l.length ca)) 9 (.slice (some ⟨ra, 0, none⟩) (bs.length + 1) cr))
        have HBf : Hid (Below w2.heap.size w2 _) := hide (hBa.trans (HOt.out.below hBa.size (Nat.le_refl _)))
        clear hoa hba hgc hBa
        (try go_wp2_with fail)
        refine hK.out _ _ (HXs.out _ HBa.out) (fun hHeld => ?_)
        clear hK K
        try simp only [Act.put, List.getElem_toArray, List.getElem_cons_zero, List.getElem_cons_succ, List.setIfInBounds_toArray, List.set_cons_zero, List.set_cons_succ]
        refine wpAnyH_take (i := 5) (oi := _) (v := ?_) rfl (by kernel_rfl) (by kernel_rfl) (by kernel_rfl) (fun _ _ _ h => h) (Or.inl ⟨by rfl, ?_⟩) (by assumption) ?_
        rotate_left 1
        · (intro w hSw; (try dsimp only at hSw); (first | (go_simp; done) | (go_simp; with_reducible rfl)))
        try simp only [Act.put, List.getElem_toArray, List.getElem_cons_zero, List.getElem_cons_succ, List.setIfInBounds_toArray, List.set_cons_zero, List.set_cons_succ]
        refine wpAnyH_ready (rs := [7]) (by kernel_rfl) (by simp) ?_
        refine AllReadyH.cons (o := _) rfl (fun K hK => ?_) AllReadyH.nil
        have cl := HZa.out.c
        have fl := HZa.out.f
        go_simp
        refine hK.out _ _ (HXs.out _ HBf.out) (fun hHeld => ?_)
        clear hK K
        try simp only [Act.put, List.getElem_toArray, List.getElem_cons_zero, List.getElem_cons_succ, List.setIfInBounds_toArray, List.set_cons_zero, List.set_cons_succ]
        refine wpAnyH_done (by kernel_rfl) ?_ _
        refine NoPanic.normal ?_
        clear cl fl b0 b1 b2 b3 b4 b5 b6 hHeld
        show KK _ _
        refine hKK _ _ (Met.intro (hJJ _ _ ?_))
        (repeat apply Exists.intro)
        refine ⟨?_, rfl⟩
        have hzf := ((((((((((HZa.out.set 0 (.bool d)).set 1 (.int .i64 p)).set 2 (.int .i64 e)).set 3 (.int .i64 x)).set 4 (.slice af fs.length cf)).set 5 (.slice av vs.length cv)).set 6 (.slice ab bs.length cb)).set 7 (.slice ad l.length c)).set 8 (.slice (some ⟨ga, 0, none⟩) l.length ca)).set 9 (.slice (some ⟨ra, 0, none⟩) (bs.length + 1) cr))
        simp only [List.setIfInBounds_toArray, List.set_cons_zero, List.set_cons_succ] at hzf
        exact ⟨w2.heap.size, ga, ca, rfl, hzf, Nat.lt_of_lt_of_le HGL.out HOt.out.size, fun i hi r hr => HOt.out.cell hgn (HGc.out i hi r hr), HBf.out⟩
    case rest =>
      obtain ⟨LB, ga, ca, rfl, hLx, hgl, hgc, hBc⟩ := hcut
      have hBw : Below w.heap.size w wc := hB2.trans (hBc.mono hB2.size)
      have HLk : Hid (LkR wc ad l a bs ga ra) := hide (look_of HCl.out (HT.out.below hBw) HOK.out.symm hgl (Nat.lt_of_lt_of_le hrl hBc.size) hgc (fun i hi r hr => (hBc.cell (p := ⟨ra, i * 2 + r, none⟩) hrl).trans (HRc.out i hi r hr)))
      have HXc := hide (HX2.out.below hBc xl2)
      have HLx := hide hLx
      have xlc : XB < wc.heap.size := HXc.out.lt
      have llc : LB < wc.heap.size := hLx.lt
      have cx := HXc.out.c
      have HBwc : Hid (Below w.heap.size w wc) := hide hBw
      clear hLx hgc hBc hBw b0 b1 b2 b3 b4 b5 b6 HXs HBw HD0 D0 HRc HAr hgl hB2 hB1
      go_wp2_with fail
      go_loopw [49] (fun i w' => ∃ (j : Nat), j ≤ vs.length ∧ i = .int .i64 (j : Int) ∧ (∀ k (hk : k < vs.length), k < j → vOk a l bs k vs[k] = true) ∧ Below wc.heap.size wc w') (fun i _ => vs.length - (intOf i).toNat)
      case atStart => exact ⟨0, Nat.zero_le _, rfl, fun k _ hk => by omega, Below.refl _ _⟩
      case round =>
        obtain ⟨j, hj, rfl, hall, hB⟩ := hrel
        have hBwr : Below w.heap.size w wr := HBwc.out.trans (hB.mono HBwc.out.size)
        clear cx
        by_cases hlt : j < vs.length
        · have hlt' : (j : Int) < (vs.length : Int) := by omega
          have hj0 : (0 : Int) ≤ (j : Int) := by omega
          obtain ⟨b, o, rfl, -, q0, q1, q2, q3⟩ := VlRow.tok HV.out hBwr hlt
          have HBad := hide (fun (h : vOk a l bs j vs[j] = false) => allI_bad (vOk a l bs) vs 0 j hlt (by rw [Nat.zero_add]; exact h))
          have HAt := hide (fun (h : vOk a l bs j vs[j] = true) k hk (hk' : k < j + 1) => (by
            by_cases hkj : k < j
            · exact hall k hk hkj
            · have hke : k = j := by omega
              subst hke
              exact h : vOk a l bs k vs[k] = true))
          obtain ⟨y, hy⟩ : ∃ y, y = vs[j] := ⟨_, rfl⟩
          rw [← hy] at q0 q1 q2 q3
          simp only [← hy] at HBad HAt
          clear hy hall
          have hBv : Below wc.heap.size wc (wr.alloc (.cells #[.bool y.fn, .int .i64 y.num, .int .i64 y.pl, .int .i64 y.env] 74)) := hB.alloc hB.size _
          have HCall := hide (HGV.out (wr.alloc (.cells #[.bool y.fn, .int .i64 y.num, .int .i64 y.pl, .int .i64 y.env] 74)) ga ca ra cr y j (HLk.out.below hBv) (by first | trivial | rfl) (by omega))
          have cl := (HLx.out.below hBv llc).c
          have HBv := hide (HBwc.out.trans (hBv.mono HBwc.out.size))
          have HBr := hide hBv
          obtain ⟨VB, hVB⟩ : ∃ VB, VB = vOk a l bs j y := ⟨_, rfl⟩
          rw [← hVB] at HCall HBad HAt
          clear hVB hBv
          obtain ⟨yf, yn, yp, ye⟩ := y
          simp only [Vl.v] at HCall HBv HBr q0 q1 q2 q3 cl
          go_wp2_with fail
          refine HCall.out.mono ?_
          rintro r w5 ⟨rfl, hb5⟩
          have hB5 : Below w.heap.size w w5 := HBv.out.trans (hb5.mono HBv.out.size)
          have HB5 := hide (HBr.out.trans (hb5.mono HBr.out.size))
          clear hb5 cl q0 q1 q2 q3
          cases VB with
          | false =>
            have HR0 : Hid (RES = false) := hide (by rw [HRES.out, HBad.out (by first | trivial | rfl)]; rfl)
            go_wp2_with fail
            go_ret
            exact ⟨ret_bool HR0.out.symm, hB5⟩
          | true =>
            go_wp2_with fail
            exact ⟨⟨j + 1, by omega, by go_num, HAt.out (by first | trivial | rfl), HB5.out⟩, by simp [intOf]; omega⟩
        · have hlt' : ¬ (j : Int) < (vs.length : Int) := by omega
          have hva : allI (vOk a l bs) 0 vs = true := allI_all _ _ _ (fun k hk => by rw [Nat.zero_add]; exact hall k hk (by omega))
          rw [hva, Bool.true_and] at HRES
          have cx := (HXc.out.below hB xlc).c
          have HB1 := hide hB
          clear hall hva hB hBwr
          go_wp2_with fail
          obtain ⟨w7, hw7⟩ : ∃ w7, w7 = wr := ⟨_, rfl⟩
          have HB7 : Hid (Below wc.heap.size wc w7) := hide (by rw [hw7]; exact HB1.out)
          rw [← hw7]
          clear cx HB1 hw7
          go_loopw [63] (fun i w' => ∃ (j : Nat), j ≤ fs.length ∧ i = .int .i64 (j : Int) ∧ (∀ k (hk : k < fs.length), k < j → fOk a l bs vs.length fs[k] = true) ∧ Below wc.heap.size wc w') (fun i _ => fs.length - (intOf i).toNat)
          case atStart => exact ⟨0, Nat.zero_le _, rfl, fun k _ hk => by omega, HB7.out⟩
          case round =>
            obtain ⟨j, hj, rfl, hall, hB⟩ := hrel
            have hBwr : Below w.heap.size w wr := HBwc.out.trans (hB.mono HBwc.out.size)
            by_cases hlt : j < fs.length
            · have hlt' : (j : Int) < (fs.length : Int) := by omega
              have hj0 : (0 : Int) ≤ (j : Int) := by omega
              obtain ⟨b, o, rfl, -, q0, q1, q2, q3⟩ := FmRow.tok HF.out hBwr hlt
              have HBad := hide (fun (h : fOk a l bs vs.length fs[j] = false) => allI_bad (fun _ f => fOk a l bs vs.length f) fs 0 j hlt h)
              have HAt := hide (fun (h : fOk a l bs vs.length fs[j] = true) k hk (hk' : k < j + 1) => (by
                by_cases hkj : k < j
                · exact hall k hk hkj
                · have hke : k = j := by omega
                  subst hke
                  exact h : fOk a l bs vs.length fs[k] = true))
              obtain ⟨y, hy⟩ : ∃ y, y = fs[j] := ⟨_, rfl⟩
              rw [← hy] at q0 q1 q2 q3
              simp only [← hy] at HBad HAt
              clear hy hall
              have hBv : Below wc.heap.size wc (wr.alloc (.cells #[.int .i64 y.k, .int .i64 y.pl, .int .i64 y.env, .int .i64 y.val] 96)) := hB.alloc hB.size _
              have HCall := hide (HGF.out (wr.alloc (.cells #[.int .i64 y.k, .int .i64 y.pl, .int .i64 y.env, .int .i64 y.val] 96)) ga ca ra cr y (HLk.out.below hBv) (by first | trivial | rfl))
              have cl := (HLx.out.below hBv llc).c
              have HBv := hide (HBwc.out.trans (hBv.mono HBwc.out.size))
              have HBr := hide hBv
              obtain ⟨VB, hVB⟩ : ∃ VB, VB = fOk a l bs vs.length y := ⟨_, rfl⟩
              rw [← hVB] at HCall HBad HAt
              clear hVB hBv
              obtain ⟨yk, yp, ye, yv⟩ := y
              simp only [Fm.v] at HCall HBv HBr q0 q1 q2 q3 cl
              go_wp2_with fail
              refine HCall.out.mono ?_
              rintro r w5 ⟨rfl, hb5⟩
              have hB5 : Below w.heap.size w w5 := HBv.out.trans (hb5.mono HBv.out.size)
              have HB5 := hide (HBr.out.trans (hb5.mono HBr.out.size))
              clear hb5 cl q0 q1 q2 q3
              cases VB with
              | false =>
                have HR0 : Hid (RES = false) := hide (by rw [HRES.out, HBad.out (by first | trivial | rfl)]; rfl)
                go_wp2_with fail
                go_ret
                exact ⟨ret_bool HR0.out.symm, hB5⟩
              | true =>
                go_wp2_with fail
                exact ⟨⟨j + 1, by omega, by go_num, HAt.out (by first | trivial | rfl), HB5.out⟩, by simp [intOf]; omega⟩
            · have hlt' : ¬ (j : Int) < (fs.length : Int) := by omega
              have hva : allI (fun _ f => fOk a l bs vs.length f) 0 fs = true := allI_all _ _ _ (fun k hk => hall k hk (by omega))
              rw [hva, Bool.true_and] at HRES
              have cl := (HLx.out.below hB llc).c
              have HCall := hide (HGN.out wr ga ca ra cr (HLk.out.below hB) (by first | trivial | rfl))
              rw [← HRES.out] at HCall
              clear hall hva hB
              go_wp2_with fail
              refine HCall.out.mono ?_
              rintro r w5 ⟨rfl, hb5⟩
              have hB5 : Below w.heap.size w w5 := hBwr.trans (hb5.mono hBwr.size)
              clear cl
              go_wp2_with fail
              go_ret
              exact ⟨rfl, hB5⟩
end Go.Proofs.Ytdajalchdbgooaa.W
