/-
  What some rows miss, by the program: within, but for the rows behind a constructor. Conditions: good rows. Written by wip/build/mk_msk.py.
-/
import Derived.Test.YtfepljcblajfpabMsJ
namespace Go.Proofs.Ytfepljcblajfpab.W
open Go.ChangeShapes Go.WideShapes Go.ChangeAt Go.RowKit
open Go.Maps
set_option linter.unusedVariables false
set_option linter.unusedSimpArgs false

set_option maxRecDepth 20000 in
set_option maxHeartbeats 4000000 in
theorem within_noR (D : List Int) (hd : goodD D = true) (A0 : List Pt) (R0 : List (List Pt)) (da : Option Addr) (dc MB : Nat) (a : F) (R : List F) (vr vR : Value) (w : World) (h : WiIn D A0 R0 da dc MB a R vr vR w) (hR : R = []) :
    Calls Try.prog 33 #[.agg #[.slice da D.length dc, .map (some MB)], vr, vR] w fun e w' => WiOut D a R w.heap.size w' e ∧ KM D A0 R0 w' MB ∧ Oth MB w w' := by
  subst hR
  have HI := hide h
  have hw : wn D a [] = some a.flat := wn_nil D a
  have hl : a.flat.length ≤ 1000 := by have := h.wr.big; omega
  have HB0 := hide (show Below w.heap.size w (w.alloc (.cells #[.slice da D.length dc, .map (some MB)] 63)) from (Below.refl _ _).alloc (Nat.le_refl _) _)
  have HX0 := hide (Bx.new w #[.slice da D.length dc, .map (some MB)] 63)
  have HC := hide (clonePt_any vr a.flat _ (by omega) (h.row.below HB0.out))
  obtain ⟨qa, qc, rfl, -, -, -⟩ := h.rows
  obtain ⟨ra, rc, rfl, -, -⟩ := h.row
  have HM := hide h.map
  have HW : Hid (∀ w' v', w'.ownsRow (w.alloc (.cells #[.slice da D.length dc, .map (some MB)] 63)).heap.size 67 2 v' a.flat.length (rcells 2 Pt.c a.flat) → Below w.heap.size w w' → ∀ ad n cc, v' = .slice ad n cc → WiOut D a [] w.heap.size w' (.returned (.tuple #[.slice ad n cc, .bool true]))) := hide (fun w' v' ho hb ad n cc e => by
    subst e
    exact WiOut.yes hw (own_lower ho (by simp)))
  simp only [List.map_nil, List.length_nil]
  obtain ⟨N, hN⟩ : ∃ N, N = a.flat.length := ⟨_, rfl⟩
  rw [← hN] at HC HW ⊢
  clear h hw hl hN
  go_enter Try.func33, Try.ntmps33
  go_wp2_with fail
  refine Calls.mono HC.out ?_
  rintro e w1 ⟨v', rfl, ho, hb⟩
  have hB1 : Below w.heap.size w w1 := HB0.out.trans (hb.mono HB0.out.size)
  obtain ⟨ad, c, rfl⟩ := own_form ho
  have HWi := hide (HW.out w1 _ ho hB1 _ _ _ rfl)
  clear ho hb HC
  go_wp2_with fail
  exact bodyPost_ret (v := .tuple #[.slice ad N c, .bool true]) (by simp [results, Try.results33, go_sem]) rfl ⟨HWi.out, HM.out.keep (hB1.block MB HM.out.lt), Oth.ofBelow hB1⟩

set_option maxRecDepth 20000 in
set_option maxHeartbeats 4000000 in
theorem within_noA (D : List Int) (hd : goodD D = true) (A0 : List Pt) (R0 : List (List Pt)) (da : Option Addr) (dc MB : Nat) (a : F) (R : List F) (vr vR : Value) (w : World) (h : WiIn D A0 R0 da dc MB a R vr vR w) (hR : R ≠ []) (ha : a = .nil) :
    Calls Try.prog 33 #[.agg #[.slice da D.length dc, .map (some MB)], vr, vR] w fun e w' => WiOut D a R w.heap.size w' e ∧ KM D A0 R0 w' MB ∧ Oth MB w w' := by
  subst ha
  have hw : wn D .nil R = none := wn_none D hR
  have HB0 := hide (show Below w.heap.size w (w.alloc (.cells #[.slice da D.length dc, .map (some MB)] 63)) from (Below.refl _ _).alloc (Nat.le_refl _) _)
  have HX0 := hide (Bx.new w #[.slice da D.length dc, .map (some MB)] 63)
  obtain ⟨qa, qc, rfl, -, -, -⟩ := h.rows
  obtain ⟨ra, rc, rfl, -, -⟩ := h.row
  have HM := hide h.map
  have hW : WiOut D .nil R w.heap.size (w.alloc (.cells #[.slice da D.length dc, .map (some MB)] 63)) (.returned (.tuple #[.slice none 0 0, .bool false])) := WiOut.no hw
  have HW := hide hW
  have hRl : 0 < R.length := List.length_pos_iff.2 hR
  simp only [List.length_map]
  obtain ⟨N, hN⟩ : ∃ N, N = R.length := ⟨_, rfl⟩
  rw [← hN] at hRl ⊢
  have hn0 : ¬ (N : Int) = 0 := by omega
  have hnb : ((N : Int) == 0) = false := by simp; omega
  clear h hw hN hW
  simp only [F.flat, List.length_nil]
  go_enter Try.func33, Try.ntmps33
  go_wp2_with fail
  exact bodyPost_ret (v := .tuple #[.slice none 0 0, .bool false]) (by simp [results, Try.results33, go_sem]) rfl ⟨HW.out, HM.out.keep (HB0.out.block MB HM.out.lt), Oth.ofBelow HB0.out⟩

set_option maxRecDepth 20000 in
set_option maxHeartbeats 8000000 in
theorem within_tl (f : Nat) (D : List Int) (hd : goodD D = true) (A0 : List Pt) (R0 : List (List Pt)) (da : Option Addr) (dc MB : Nat) (a : F) (R : List F) (vr vR : Value) (w : World) (h : WiIn D A0 R0 da dc MB a R vr vR w) (ih : (∀ (a : F) (R : List F) (vr vR : Value) (w : World), mea a R < f → WiIn D A0 R0 da dc MB a R vr vR w → Calls Try.prog 33 #[.agg #[.slice da D.length dc, .map (some MB)], vr, vR] w fun e w' => WiOut D a R w.heap.size w' e ∧ KM D A0 R0 w' MB ∧ Oth MB w w')) (hf : mea a R < f + 1) (x : Pt) (k r : F) (hax : a = .cons x k r) (hR : R ≠ []) (hx : x.kd = 1) (hn : R.any nam1 = false) :
    Calls Try.prog 33 #[.agg #[.slice da D.length dc, .map (some MB)], vr, vR] w fun e w' => WiOut D a R w.heap.size w' e ∧ KM D A0 R0 w' MB ∧ Oth MB w w' := by
  subst hax
  obtain ⟨w1', m1⟩ := h.wr.tl (by simp [F.len]) (by simp [nam1]; omega) hn
  have hwn := wn_tl hd h.wr hR hx hn
  have hne : ∀ l ∈ R.map F.flat, l ≠ [] := by
    intro l hl
    obtain ⟨b, hb, rfl⟩ := List.mem_map.1 hl
    have := (h.wr.oks b hb).2
    cases b with
    | nil => simp [F.len] at this
    | cons y k2 r2 => simp [F.flat]
  have hkn : k = .nil := F.len_0 (by rw [h.wr.ok.2.1, ar, if_pos hx])
  subst hkn
  have htl : (R.map F.flat).map List.tail = (R.map tlF).map F.flat := by
    rw [List.map_map, List.map_map]
    refine List.map_congr_left (fun b hb => ?_)
    have := (h.wr.oks b hb).2
    cases b with
    | nil => simp [F.len] at this
    | cons y k2 r2 => simp [F.flat, tlF, F.app_flat]
  have hre : ∃ n, Re A0 R0 (tlF (.cons x .nil r)) (R.map tlF) n := by obtain ⟨n, hn'⟩ := h.re; exact hn'.tl
  have hrow : PV w vr (x :: r.flat) := h.row
  obtain ⟨rb, ro, rc, rfl, hrb, hrc, -, -⟩ := hrow.head (Below.refl _ _)
  have HPt := hide (fun q hq => hrow.tail q hq)
  have HNm := hide (fun (w' : World) (hb : Below w.heap.size w w') => namesAny_any vR (R.map F.flat) w' (h.rows.below hb) hne)
  rw [any_flat, hn] at HNm
  have HWo := hide (fun (w' : World) (hb : Below w.heap.size w w') => withoutFirst_any vR (R.map F.flat) w' (h.rows.below hb) hne)
  rw [htl] at HWo
  have HRec : Hid (∀ v2, PV w v2 (tlF (.cons x .nil r)).flat → ∀ w' v', Below w.heap.size w w' → QV w' v' ((R.map tlF).map F.flat) → Calls Try.prog 33 #[.agg #[.slice da D.length dc, .map (some MB)], v2, v'] w' fun e w'' => WiOut D (tlF (.cons x .nil r)) (R.map tlF) w'.heap.size w'' e ∧ KM D A0 R0 w'' MB ∧ Oth MB w' w'') := hide (fun v2 h2 w' v' hb hq => ih _ _ v2 v' w' (by omega) ⟨w1', hre, h.dat.below hb, h2.below hb, hq, h.map.keep (hb.block MB h.map.lt)⟩)
  have HM := hide h.map
  have hMB := h.map.lt
  have HNo := hide h.map.noC
  have hrbM : rb ≠ MB := by
    intro e
    subst e
    obtain ⟨b', o', c', e1, -, -, p0, -⟩ := hrow.head (Below.refl _ _)
    simp only [Value.slice.injEq, Option.some.injEq, Addr.mk.injEq] at e1
    obtain ⟨⟨rfl, rfl, -⟩, -, -⟩ := e1
    exact h.map.noC _ _ p0
  obtain ⟨q0, q1⟩ : w.cell? ⟨rb, ro, none⟩ = some (.int .i64 x.kd) ∧ w.cell? ⟨rb, ro + 1, none⟩ = some (.int .i64 x.con) := by
    obtain ⟨b', o', c', e1, -, -, p0, p1⟩ := hrow.head (Below.refl _ _)
    simp only [Value.slice.injEq, Option.some.injEq, Addr.mk.injEq] at e1
    obtain ⟨⟨rfl, rfl, -⟩, -, -⟩ := e1
    exact ⟨p0, p1⟩
  obtain ⟨qa, qc, rfl, -, -, -⟩ := id h.rows
  have hRl : 0 < R.length := List.length_pos_iff.2 hR
  have HWl := hide (fun l h => wn_len (D := D) hd (l := l) w1' h)
  obtain ⟨T, hT⟩ : ∃ T, T = wn D (tlF (.cons x .nil r)) (R.map tlF) := ⟨_, rfl⟩
  have HWn : Hid (wn D (.cons x .nil r) R = T.map (x :: ·)) := hide (by rw [hT]; exact hwn)
  unfold WiOut at HRec
  rw [← hT] at HRec HWl
  simp only [List.length_map] at HNm HWo ⊢
  obtain ⟨RN, hRN⟩ : ∃ RN, RN = R.length := ⟨_, rfl⟩
  rw [← hRN] at hRl HNm HWo ⊢
  obtain ⟨N, hN⟩ : ∃ N, N = r.flat.length + 1 := ⟨_, rfl⟩
  have hN' : r.flat.length = N - 1 := by omega
  rw [hN'] at HPt
  rw [← hN] at hrc ⊢
  have HPt2 : Hid (∀ q, (rc = 1 ∨ q = ro + 2) → PV w (.slice (some ⟨rb, q, none⟩) (N - 1) (rc - 1)) (tlF (.cons x .nil r)).flat) := hide (fun q hq => HPt.out q hq)
  have HB0 := hide (show Below w.heap.size w (w.alloc (.cells #[.slice da D.length dc, .map (some MB)] 63)) from (Below.refl _ _).alloc (Nat.le_refl _) _)
  have HX0 := hide (Bx.new w #[.slice da D.length dc, .map (some MB)] 63)
  obtain ⟨w0, hw0⟩ : ∃ w0, w0 = w.alloc (.cells #[.slice da D.length dc, .map (some MB)] 63) := ⟨_, rfl⟩
  obtain ⟨XB, hXB⟩ : ∃ XB, XB = w.heap.size := ⟨_, rfl⟩
  rw [← hw0] at HB0 HX0
  rw [← hXB] at HX0
  have hXM : XB ≠ MB := by omega
  have xl0 := HX0.out.lt
  have p0 : w0.cell? ⟨rb, ro, none⟩ = some (.int .i64 1) := by rw [HB0.out.cell (p := ⟨rb, ro, none⟩) hrb, q0, hx]
  have hn0 : ¬ (RN : Int) = 0 := by omega
  have hnb : ((RN : Int) == 0) = false := by simp; omega
  have hNn : 0 < N := by omega
  have hNz : ¬ (N : Int) = 0 := by omega
  have hNb : ((N : Int) == 0) = false := by simp; omega
  have k1 : (1 : Int) ≤ (N : Int) := by omega
  have k2 : (N : Int) ≤ (rc : Int) := by omega
  have k3 : (1 : Int) ≤ (rc : Int) := by omega
  have k4 : (0 : Int) < (N : Int) := by omega
  have HX1c := hide q1
  have HXk := hide hx
  have HQ0 := hide q0
  clear q0 q1 hT hwn hN hN' hRN hrow h hne htl hre ih HPt m1 w1' hn hR hx
  go_enter Try.func33, Try.ntmps33
  go_upto_region 1 with fail
  rw [← hw0, ← hXB]
  clear hw0 hXB
  go_wp2_with fail
  refine Calls.mono (HNm.out _ HB0.out) ?_
  rintro e w1 ⟨rfl, hb1⟩
  have hB1 : Below w.heap.size w w1 := HB0.out.trans (hb1.mono HB0.out.size)
  have HX1 := hide (HX0.out.below hb1 xl0)
  have xl1 : XB < w1.heap.size := HX1.out.lt
  have b0 : w1.cell? ⟨XB, 0, none⟩ = some (.slice da D.length dc) := HX1.out.c 0
  have b1 : w1.cell? ⟨XB, 1, none⟩ = some (.map (some MB)) := HX1.out.c 1
  have HB1d : Hid (Below w.heap.size w w1.drew) := hide (belowDrew8 hB1)
  clear hb1 HNm HX0 xl0 p0
  go_wp2_with fail
  by_cases hc1 : rc = 1
  · subst hc1
    obtain rfl : N = 1 := by omega
    have HPv : Hid (PV w (.slice (some ⟨rb, ro, none⟩) 0 0) (tlF (.cons x .nil r)).flat) := hide (by have := HPt2.out ro (.inl rfl); simpa using this)
    refine wp_region_noPanic ?_
    refine wp_region_held_drew (S := fun w' => w'.cell? ⟨XB, 0, none⟩ = some (.slice da D.length dc) ∧ w'.cell? ⟨XB, 1, none⟩ = some (.map (some MB))) (by kernel_rfl) ⟨b0, b1⟩ (fun hHeld => ?_)
    refine wpAnyH_take (i := 0) (oi := _) (v := ?_) rfl (by kernel_rfl) (by kernel_rfl) (by kernel_rfl) (fun _ _ _ h => h) (Or.inl ⟨by rfl, ?_⟩) (by assumption) ?_
    rotate_left 1
    · (intro w hSw; (try dsimp only at hSw); (first | (go_simp; done) | (go_simp; with_reducible rfl)))
    try simp only [Act.put, List.getElem_toArray, List.getElem_cons_zero, List.getElem_cons_succ, List.setIfInBounds_toArray, List.set_cons_zero, List.set_cons_succ]
    refine wpAnyH_take (i := 1) (oi := _) (v := ?_) rfl (by kernel_rfl) (by kernel_rfl) (by kernel_rfl) (fun _ _ _ h => h) (Or.inl ⟨by rfl, ?_⟩) (by assumption) ?_
    rotate_left 1
    · (intro w hSw; (try dsimp only at hSw); (first | (go_simp; done) | (go_simp; with_reducible rfl)))
    try simp only [Act.put, List.getElem_toArray, List.getElem_cons_zero, List.getElem_cons_succ, List.setIfInBounds_toArray, List.set_cons_zero, List.set_cons_succ]
    refine wpAnyH_take (i := 2) (oi := _) (v := ?_) rfl (by kernel_rfl) (by kernel_rfl) (by kernel_rfl) (fun _ _ _ h => h) (Or.inl ⟨by rfl, ?_⟩) (by assumption) ?_
    rotate_left 1
    · (intro w hSw; (try dsimp only at hSw); (first | (go_simp; done) | (go_simp; with_reducible rfl)))
    try simp only [Act.put, List.getElem_toArray, List.getElem_cons_zero, List.getElem_cons_succ, List.setIfInBounds_toArray, List.set_cons_zero, List.set_cons_succ]
    refine wpAnyH_take (i := 3) (oi := _) (v := ?_) rfl (by kernel_rfl) (by kernel_rfl) (by kernel_rfl) (fun _ _ _ h => h) (Or.inl ⟨by rfl, ?_⟩) (by assumption) ?_
    rotate_left 1
    · (intro w hSw; (try dsimp only at hSw); (first | (go_simp; done) | (go_simp; with_reducible rfl)))
    try simp only [Act.put, List.getElem_toArray, List.getElem_cons_zero, List.getElem_cons_succ, List.setIfInBounds_toArray, List.set_cons_zero, List.set_cons_succ]
    refine wpAnyH_ready (rs := [4]) (by kernel_rfl) (by simp) ?_
    refine AllReadyH.cons (o := _) rfl (fun K hK => ?_) AllReadyH.nil
    go_simp
    (with_reducible refine Calls.mono (HWo.out _ HB1d.out) ?_)
    rintro r wa ⟨va, rfl, hqa, hba⟩
    obtain ⟨qa4, qc4, hva, -, -, -⟩ := id hqa
    have HQa := hide hqa
    have HBa := hide (HB1d.out.trans (hba.mono HB1d.out.size))
    have fa0 := (hba.cell (p := ⟨XB, 0, none⟩) xl1).trans b0
    have fa1 := (hba.cell (p := ⟨XB, 1, none⟩) xl1).trans b1
    have xla : XB < wa.heap.size := Nat.lt_of_lt_of_le xl1 hba.size
    subst hva
    simp only [List.length_map] at HQa
    clear hba hqa
    (try go_wp2_with fail)
    refine hK.out _ _ ⟨fa0, fa1⟩ (fun hHeld => ?_)
    clear hK K
    try simp only [Act.put, List.getElem_toArray, List.getElem_cons_zero, List.getElem_cons_succ, List.setIfInBounds_toArray, List.set_cons_zero, List.set_cons_succ]
    refine wpAnyH_ready (rs := [5]) (by kernel_rfl) (by simp) ?_
    refine AllReadyH.cons (o := _) rfl (fun K hK => ?_) AllReadyH.nil
    go_simp
    (with_reducible refine Calls.mono (HRec.out _ HPv.out _ _ HBa.out HQa.out) ?_)
    rintro r wb ⟨⟨ba, bn, bc, rfl, hown, hnone⟩, hkm, hoth⟩
    have HOwn := hide hown
    have HNone := hide hnone
    have HKm := hide hkm
    have HOt := hide hoth
    have fb0 := (World.cell?_of_block (a := ⟨XB, 0, none⟩) (hoth.block XB xla hXM)).trans fa0
    have fb1 := (World.cell?_of_block (a := ⟨XB, 1, none⟩) (hoth.block XB xla hXM)).trans fa1
    clear hown hnone hkm hoth
    (try go_wp2_with fail)
    refine hK.out _ _ ⟨fb0, fb1⟩ (fun hHeld => ?_)
    clear hK K
    try simp only [Act.put, List.getElem_toArray, List.getElem_cons_zero, List.getElem_cons_succ, List.setIfInBounds_toArray, List.set_cons_zero, List.set_cons_succ]
    refine wpAnyH_take (i := 6) (oi := _) (v := ?_) rfl (by kernel_rfl) (by kernel_rfl) (by kernel_rfl) (fun _ _ _ h => h) (Or.inl ⟨by rfl, ?_⟩) (by assumption) ?_
    rotate_left 1
    · (intro w hSw; (try dsimp only at hSw); (first | (go_simp; done) | (go_simp; with_reducible rfl)))
    try simp only [Act.put, List.getElem_toArray, List.getElem_cons_zero, List.getElem_cons_succ, List.setIfInBounds_toArray, List.set_cons_zero, List.set_cons_succ]
    refine wpAnyH_take (i := 7) (oi := _) (v := ?_) rfl (by kernel_rfl) (by kernel_rfl) (by kernel_rfl) (fun _ _ _ h => h) (Or.inl ⟨by rfl, ?_⟩) (by assumption) ?_
    rotate_left 1
    · (intro w hSw; (try dsimp only at hSw); (first | (go_simp; done) | (go_simp; with_reducible rfl)))
    try simp only [Act.put, List.getElem_toArray, List.getElem_cons_zero, List.getElem_cons_succ, List.setIfInBounds_toArray, List.set_cons_zero, List.set_cons_succ]
    refine wpAnyH_take (i := 8) (oi := _) (v := ?_) rfl (by kernel_rfl) (by kernel_rfl) (by kernel_rfl) (fun _ _ _ h => h) (Or.inl ⟨by rfl, ?_⟩) (by assumption) ?_
    rotate_left 1
    · (intro w hSw; (try dsimp only at hSw); (first | (go_simp; done) | (go_simp; with_reducible rfl)))
    try simp only [Act.put, List.getElem_toArray, List.getElem_cons_zero, List.getElem_cons_succ, List.setIfInBounds_toArray, List.set_cons_zero, List.set_cons_succ]
    refine wpAnyH_take (i := 9) (oi := _) (v := ?_) rfl (by kernel_rfl) (by kernel_rfl) (by kernel_rfl) (fun _ _ _ h => h) (Or.inl ⟨by rfl, ?_⟩) (by assumption) ?_
    rotate_left 1
    · (intro w hSw; (try dsimp only at hSw); (first | (go_simp; done) | (go_simp; with_reducible rfl)))
    try simp only [Act.put, List.getElem_toArray, List.getElem_cons_zero, List.getElem_cons_succ, List.setIfInBounds_toArray, List.set_cons_zero, List.set_cons_succ]
    refine wpAnyH_take (i := 10) (oi := _) (v := ?_) rfl (by kernel_rfl) (by kernel_rfl) (by kernel_rfl) (fun _ _ _ h => h) (Or.inl ⟨by rfl, ?_⟩) (by assumption) ?_
    rotate_left 1
    · (intro w hSw; (try dsimp only at hSw); (first | (go_simp; done) | (go_simp; with_reducible rfl)))
    try simp only [Act.put, List.getElem_toArray, List.getElem_cons_zero, List.getElem_cons_succ, List.setIfInBounds_toArray, List.set_cons_zero, List.set_cons_succ]
    refine wpAnyH_done (by kernel_rfl) ?_ _
    refine NoPanic.normal ?_
    have HOw : Hid (Oth MB w wb) := hide ((Oth.ofBelow HBa.out).trans HOt.out)
    have hsb : w.heap.size ≤ wb.heap.size := HOw.out.size
    have hswa : w.heap.size ≤ wa.heap.size := HBa.out.size
    have c0 : wb.cell? ⟨rb, ro, none⟩ = some (.int .i64 x.kd) := (World.cell?_of_block (a := ⟨rb, ro, none⟩) (HOw.out.block rb hrb hrbM)).trans HQ0.out
    have c1 : wb.cell? ⟨rb, ro + 1, none⟩ = some (.int .i64 x.con) := (World.cell?_of_block (a := ⟨rb, ro + 1, none⟩) (HOw.out.block rb hrb hrbM)).trans HX1c.out
    clear b0 b1 fa0 fa1 fb0 fb1 HX1 HRec HWo HQa
    cases T with
    | none =>
      obtain ⟨rfl, rfl, rfl⟩ := HNone.out rfl
      have HPn := hide (putAhead_no (.slice none 0 0) x wb ⟨_, _, _, rfl⟩)
      clear HNone HOwn
      simp only [Option.isSome_none]
      go_wp2_with fail
      refine Calls.mono HPn.out ?_
      rintro e wd ⟨rfl, hbd⟩
      clear c0 c1 HPn
      go_wp2_with fail
      exact bodyPost_ret (v := .tuple #[.slice none 0 0, .bool false]) (by simp [results, Try.results33, go_sem]) rfl ⟨WiOut.no (by rw [HWn.out]; rfl), HKm.out.keep (hbd.block MB HKm.out.lt), HOw.out.trans (Oth.ofBelow hbd)⟩
    | some l =>
      have hll := HWl.out l rfl
      have HOl := hide (HOwn.out l rfl)
      have HPy := hide (putAhead_any (.slice ba bn bc) w.heap.size x l wb hsb (by omega) (own_lower HOl.out hswa))
      clear HNone HOwn HWl
      simp only [Option.isSome_some]
      go_wp2_with fail
      refine Calls.mono HPy.out ?_
      rintro e wd ⟨vd, rfl, hod, hgd⟩
      obtain ⟨ad, ac, rfl⟩ := own_form hod
      have hwn2 : wn D (.cons x .nil r) R = some (x :: l) := by rw [HWn.out]; rfl
      have HWi := hide (WiOut.yes (lo := w.heap.size) (w' := wd) hwn2 (by have := hod; simpa using this))
      have hown : ∀ q, (Value.slice ba bn bc).ownBlock = some q → wa.heap.size ≤ q := fun q hq => (HOl.out.lt q hq).1
      have HOd : Hid (Oth MB w wd) := hide (HOw.out.trans' hgd (fun q hq => Nat.le_trans hswa (hown q hq)))
      have HKd := hide (HKm.out.keep (w' := wd) (hgd.block MB HKm.out.lt (fun e => by have := hown MB e.symm; omega)))
      obtain ⟨LN, hLN⟩ : ∃ LN, LN = l.length + 1 := ⟨_, rfl⟩
      rw [← hLN] at HWi ⊢
      clear c0 c1 HPy hod hgd hwn2 hown hLN
      go_wp2_with fail
      exact bodyPost_ret (v := .tuple #[.slice ad LN ac, .bool true]) (by simp [results, Try.results33, go_sem]) rfl ⟨HWi.out, HKd.out, HOd.out⟩
  · have HPv : Hid (PV w (.slice (some ⟨rb, ro + 2, none⟩) (N - 1) (rc - 1)) (tlF (.cons x .nil r)).flat) := hide (HPt2.out (ro + 2) (.inr rfl))
    refine wp_region_noPanic ?_
    refine wp_region_held_drew (S := fun w' => w'.cell? ⟨XB, 0, none⟩ = some (.slice da D.length dc) ∧ w'.cell? ⟨XB, 1, none⟩ = some (.map (some MB))) (by kernel_rfl) ⟨b0, b1⟩ (fun hHeld => ?_)
    refine wpAnyH_take (i := 0) (oi := _) (v := ?_) rfl (by kernel_rfl) (by kernel_rfl) (by kernel_rfl) (fun _ _ _ h => h) (Or.inl ⟨by rfl, ?_⟩) (by assumption) ?_
    rotate_left 1
    · (intro w hSw; (try dsimp only at hSw); (first | (go_simp; done) | (go_simp; with_reducible rfl)))
    try simp only [Act.put, List.getElem_toArray, List.getElem_cons_zero, List.getElem_cons_succ, List.setIfInBounds_toArray, List.set_cons_zero, List.set_cons_succ]
    refine wpAnyH_take (i := 1) (oi := _) (v := ?_) rfl (by kernel_rfl) (by kernel_rfl) (by kernel_rfl) (fun _ _ _ h => h) (Or.inl ⟨by rfl, ?_⟩) (by assumption) ?_
    rotate_left 1
    · (intro w hSw; (try dsimp only at hSw); (first | (go_simp; done) | (go_simp; with_reducible rfl)))
    try simp only [Act.put, List.getElem_toArray, List.getElem_cons_zero, List.getElem_cons_succ, List.setIfInBounds_toArray, List.set_cons_zero, List.set_cons_succ]
    refine wpAnyH_take (i := 2) (oi := _) (v := ?_) rfl (by kernel_rfl) (by kernel_rfl) (by kernel_rfl) (fun _ _ _ h => h) (Or.inl ⟨by rfl, ?_⟩) (by assumption) ?_
    rotate_left 1
    · (intro w hSw; (try dsimp only at hSw); (first | (go_simp; done) | (go_simp; with_reducible rfl)))
    try simp only [Act.put, List.getElem_toArray, List.getElem_cons_zero, List.getElem_cons_succ, List.setIfInBounds_toArray, List.set_cons_zero, List.set_cons_succ]
    refine wpAnyH_take (i := 3) (oi := _) (v := ?_) rfl (by kernel_rfl) (by kernel_rfl) (by kernel_rfl) (fun _ _ _ h => h) (Or.inl ⟨by rfl, ?_⟩) (by assumption) ?_
    rotate_left 1
    · (intro w hSw; (try dsimp only at hSw); (first | (go_simp; done) | (go_simp; with_reducible rfl)))
    try simp only [Act.put, List.getElem_toArray, List.getElem_cons_zero, List.getElem_cons_succ, List.setIfInBounds_toArray, List.set_cons_zero, List.set_cons_succ]
    refine wpAnyH_ready (rs := [4]) (by kernel_rfl) (by simp) ?_
    refine AllReadyH.cons (o := _) rfl (fun K hK => ?_) AllReadyH.nil
    go_simp
    (with_reducible refine Calls.mono (HWo.out _ HB1d.out) ?_)
    rintro r wa ⟨va, rfl, hqa, hba⟩
    obtain ⟨qa4, qc4, hva, -, -, -⟩ := id hqa
    have HQa := hide hqa
    have HBa := hide (HB1d.out.trans (hba.mono HB1d.out.size))
    have fa0 := (hba.cell (p := ⟨XB, 0, none⟩) xl1).trans b0
    have fa1 := (hba.cell (p := ⟨XB, 1, none⟩) xl1).trans b1
    have xla : XB < wa.heap.size := Nat.lt_of_lt_of_le xl1 hba.size
    subst hva
    simp only [List.length_map] at HQa
    clear hba hqa
    (try go_wp2_with fail)
    refine hK.out _ _ ⟨fa0, fa1⟩ (fun hHeld => ?_)
    clear hK K
    try simp only [Act.put, List.getElem_toArray, List.getElem_cons_zero, List.getElem_cons_succ, List.setIfInBounds_toArray, List.set_cons_zero, List.set_cons_succ]
    refine wpAnyH_ready (rs := [5]) (by kernel_rfl) (by simp) ?_
    refine AllReadyH.cons (o := _) rfl (fun K hK => ?_) AllReadyH.nil
    go_simp
    (with_reducible refine Calls.mono (HRec.out _ HPv.out _ _ HBa.out HQa.out) ?_)
    rintro r wb ⟨⟨ba, bn, bc, rfl, hown, hnone⟩, hkm, hoth⟩
    have HOwn := hide hown
    have HNone := hide hnone
    have HKm := hide hkm
    have HOt := hide hoth
    have fb0 := (World.cell?_of_block (a := ⟨XB, 0, none⟩) (hoth.block XB xla hXM)).trans fa0
    have fb1 := (World.cell?_of_block (a := ⟨XB, 1, none⟩) (hoth.block XB xla hXM)).trans fa1
    clear hown hnone hkm hoth
    (try go_wp2_with fail)
    refine hK.out _ _ ⟨fb0, fb1⟩ (fun hHeld => ?_)
    clear hK K
    try simp only [Act.put, List.getElem_toArray, List.getElem_cons_zero, List.getElem_cons_succ, List.setIfInBounds_toArray, List.set_cons_zero, List.set_cons_succ]
    refine wpAnyH_take (i := 6) (oi := _) (v := ?_) rfl (by kernel_rfl) (by kernel_rfl) (by kernel_rfl) (fun _ _ _ h => h) (Or.inl ⟨by rfl, ?_⟩) (by assumption) ?_
    rotate_left 1
    · (intro w hSw; (try dsimp only at hSw); (first | (go_simp; done) | (go_simp; with_reducible rfl)))
    try simp only [Act.put, List.getElem_toArray, List.getElem_cons_zero, List.getElem_cons_succ, List.setIfInBounds_toArray, List.set_cons_zero, List.set_cons_succ]
    refine wpAnyH_take (i := 7) (oi := _) (v := ?_) rfl (by kernel_rfl) (by kernel_rfl) (by kernel_rfl) (fun _ _ _ h => h) (Or.inl ⟨by rfl, ?_⟩) (by assumption) ?_
    rotate_left 1
    · (intro w hSw; (try dsimp only at hSw); (first | (go_simp; done) | (go_simp; with_reducible rfl)))
    try simp only [Act.put, List.getElem_toArray, List.getElem_cons_zero, List.getElem_cons_succ, List.setIfInBounds_toArray, List.set_cons_zero, List.set_cons_succ]
    refine wpAnyH_take (i := 8) (oi := _) (v := ?_) rfl (by kernel_rfl) (by kernel_rfl) (by kernel_rfl) (fun _ _ _ h => h) (Or.inl ⟨by rfl, ?_⟩) (by assumption) ?_
    rotate_left 1
    · (intro w hSw; (try dsimp only at hSw); (first | (go_simp; done) | (go_simp; with_reducible rfl)))
    try simp only [Act.put, List.getElem_toArray, List.getElem_cons_zero, List.getElem_cons_succ, List.setIfInBounds_toArray, List.set_cons_zero, List.set_cons_succ]
    refine wpAnyH_take (i := 9) (oi := _) (v := ?_) rfl (by kernel_rfl) (by kernel_rfl) (by kernel_rfl) (fun _ _ _ h => h) (Or.inl ⟨by rfl, ?_⟩) (by assumption) ?_
    rotate_left 1
    · (intro w hSw; (try dsimp only at hSw); (first | (go_simp; done) | (go_simp; with_reducible rfl)))
    try simp only [Act.put, List.getElem_toArray, List.getElem_cons_zero, List.getElem_cons_succ, List.setIfInBounds_toArray, List.set_cons_zero, List.set_cons_succ]
    refine wpAnyH_take (i := 10) (oi := _) (v := ?_) rfl (by kernel_rfl) (by kernel_rfl) (by kernel_rfl) (fun _ _ _ h => h) (Or.inl ⟨by rfl, ?_⟩) (by assumption) ?_
    rotate_left 1
    · (intro w hSw; (try dsimp only at hSw); (first | (go_simp; done) | (go_simp; with_reducible rfl)))
    try simp only [Act.put, List.getElem_toArray, List.getElem_cons_zero, List.getElem_cons_succ, List.setIfInBounds_toArray, List.set_cons_zero, List.set_cons_succ]
    refine wpAnyH_done (by kernel_rfl) ?_ _
    refine NoPanic.normal ?_
    have HOw : Hid (Oth MB w wb) := hide ((Oth.ofBelow HBa.out).trans HOt.out)
    have hsb : w.heap.size ≤ wb.heap.size := HOw.out.size
    have hswa : w.heap.size ≤ wa.heap.size := HBa.out.size
    have c0 : wb.cell? ⟨rb, ro, none⟩ = some (.int .i64 x.kd) := (World.cell?_of_block (a := ⟨rb, ro, none⟩) (HOw.out.block rb hrb hrbM)).trans HQ0.out
    have c1 : wb.cell? ⟨rb, ro + 1, none⟩ = some (.int .i64 x.con) := (World.cell?_of_block (a := ⟨rb, ro + 1, none⟩) (HOw.out.block rb hrb hrbM)).trans HX1c.out
    clear b0 b1 fa0 fa1 fb0 fb1 HX1 HRec HWo HQa
    cases T with
    | none =>
      obtain ⟨rfl, rfl, rfl⟩ := HNone.out rfl
      have HPn := hide (putAhead_no (.slice none 0 0) x wb ⟨_, _, _, rfl⟩)
      clear HNone HOwn
      simp only [Option.isSome_none]
      go_wp2_with fail
      refine Calls.mono HPn.out ?_
      rintro e wd ⟨rfl, hbd⟩
      clear c0 c1 HPn
      go_wp2_with fail
      exact bodyPost_ret (v := .tuple #[.slice none 0 0, .bool false]) (by simp [results, Try.results33, go_sem]) rfl ⟨WiOut.no (by rw [HWn.out]; rfl), HKm.out.keep (hbd.block MB HKm.out.lt), HOw.out.trans (Oth.ofBelow hbd)⟩
    | some l =>
      have hll := HWl.out l rfl
      have HOl := hide (HOwn.out l rfl)
      have HPy := hide (putAhead_any (.slice ba bn bc) w.heap.size x l wb hsb (by omega) (own_lower HOl.out hswa))
      clear HNone HOwn HWl
      simp only [Option.isSome_some]
      go_wp2_with fail
      refine Calls.mono HPy.out ?_
      rintro e wd ⟨vd, rfl, hod, hgd⟩
      obtain ⟨ad, ac, rfl⟩ := own_form hod
      have hwn2 : wn D (.cons x .nil r) R = some (x :: l) := by rw [HWn.out]; rfl
      have HWi := hide (WiOut.yes (lo := w.heap.size) (w' := wd) hwn2 (by have := hod; simpa using this))
      have hown : ∀ q, (Value.slice ba bn bc).ownBlock = some q → wa.heap.size ≤ q := fun q hq => (HOl.out.lt q hq).1
      have HOd : Hid (Oth MB w wd) := hide (HOw.out.trans' hgd (fun q hq => Nat.le_trans hswa (hown q hq)))
      have HKd := hide (HKm.out.keep (w' := wd) (hgd.block MB HKm.out.lt (fun e => by have := hown MB e.symm; omega)))
      obtain ⟨LN, hLN⟩ : ∃ LN, LN = l.length + 1 := ⟨_, rfl⟩
      rw [← hLN] at HWi ⊢
      clear c0 c1 HPy hod hgd hwn2 hown hLN
      go_wp2_with fail
      exact bodyPost_ret (v := .tuple #[.slice ad LN ac, .bool true]) (by simp [results, Try.results33, go_sem]) rfl ⟨HWi.out, HKd.out, HOd.out⟩
end Go.Proofs.Ytfepljcblajfpab.W
