/-
  What each block needs, in the program (needed). Conditions: a good flow; sets of names below 8.
-/
import Derived.Test.YtaniiolphghhiabLvA
namespace Go.Proofs.Ytaniiolphghhiab.W
open Go.ChangeShapes Go.WideShapes Go.ChangeAt Go.RowKit Go.Joins
set_option linter.unusedVariables false
set_option linter.unusedSimpArgs false
set_option maxRecDepth 20000

theorem ni_sets (D F L : List (List Int)) (k : Nat) : orL (woL (ou D L k) (fs F k)) (fu F k) = ni D F L k := by
  unfold orL ni
  refine lst_congr (fun n hn => ?_)
  unfold woL ou niB
  rw [hb_lst, hb_lst]
  simp only [hn, decide_true, Bool.true_and]
  cases ouB D L k n <;> cases hb (fs F k) n <;> cases hb (fu F k) n <;> rfl

set_option maxHeartbeats 16000000 in
theorem needed_any (v : Value) (D : List (List Int)) (n : Nat) (F L : List (List Int)) (S c : Nat) (w : World) (h : FRow w v D n F) (hf : GF D F) (hS : QSS w S L) (hL : L.length = D.length) (k1 : ∀ k, R8 (row L k)) :
    Calls Try.prog 43 #[v, .slice (some ⟨S, 0, none⟩) D.length c] w fun e w' => ∃ Z, e = .returned (.slice (some ⟨Z, 0, none⟩) D.length D.length) ∧ w.heap.size ≤ Z ∧ QSS w' Z (nx D F L) ∧ Below w.heap.size w w' := by
  have HA := hide (fun (w' : World) (hb : Below w.heap.size w w') => ahead_any v D n F L S c w' (h.below hb) hf.1 (hS.below hb) hL k1)
  obtain ⟨ad, cg, bd, bc, rfl, hR, hq, hlc, hRF, hsm, hnb, hF⟩ := h
  have hnD : n = D.length := by have := hf.2.1; omega
  have hB0 : Below w.heap.size w (w.alloc (.cells #[.slice ad D.length cg, .slice bd n bc] 34)) := (Below.refl _ _).alloc (Nat.le_refl _) _
  have HX := hide (Bx.new w #[.slice ad D.length cg, .slice bd n bc] 34)
  have HR := hide hRF
  have HG := hide hf
  have hd12 : D.length ≤ 12 := hf.1.2.1
  obtain ⟨nd, hnd⟩ : ∃ nd, nd = D.length := ⟨_, rfl⟩
  rw [← hnd] at HX hB0 hd12 HA hnD ⊢
  have HND := hide hnd
  subst hnD
  have HF2 := hide hF
  clear hR hRF hf hS k1 hq hlc hnd hL hsm hnb hF
  go_enter Try.func43, Try.ntmps43
  go_upto_region 1 with fail
  obtain ⟨W1, hW1⟩ : ∃ W1, W1 = w.alloc (.cells #[.slice ad n cg, .slice bd n bc] 34) := ⟨_, rfl⟩
  obtain ⟨X, hX⟩ : ∃ X, X = w.heap.size := ⟨_, rfl⟩
  rw [← hW1] at HX hB0 ⊢
  rw [← hX] at HX ⊢
  clear hW1 hX
  have cX := HX.out.c
  go_wp2_with fail
  refine Calls.mono (HA.out _ hB0) ?_
  rintro e W2 ⟨Z, rfl, hZ1, hQ, hb⟩
  have hZw : w.heap.size ≤ Z := Nat.le_trans hB0.size hZ1
  have HB2 := hide (hB0.trans (hb.mono hB0.size))
  have HX2 := hide (HX.out.below hb HX.out.lt)
  have HQ0 := hide hQ
  clear cX hb hQ HA hB0 HX hZ1
  have cX := HX2.out.c
  go_wp2_with fail
  clear cX
  go_loopw [14] (fun i w' => ∃ (j : Nat) (Ls : List (List Int)), j ≤ n ∧ i = .int .i64 j ∧ QSS w' Z Ls ∧ Ls.length = n ∧ (∀ q, q < j → row Ls q = ni D F L q) ∧ (∀ q, j ≤ q → row Ls q = row (ous D L) q) ∧ Below w.heap.size w w') (fun i _ => n - (intOf i).toNat)
  case atStart => exact ⟨0, _, by omega, rfl, HQ0.out, by rw [ous_len, HND.out], by intros; omega, fun q _ => rfl, HB2.out⟩
  case round =>
    clear HQ0 HB2 HX2
    obtain ⟨j, Ls, hj, rfl, hQ, hLs, hlo, hhi, hB⟩ := hrel
    have HQ := hide hQ
    have HLo := hide hlo
    have HHi := hide hhi
    have HB := hide hB
    have HLs := hide hLs
    clear hQ hlo hhi hB hLs
    by_cases hlt : j < n
    · have hlt' : (j : Int) < (n : Int) := by omega
      have hj0 : (0 : Int) ≤ (j : Int) := by omega
      have hjD : j < D.length := by rw [← HND.out]; exact hlt
      obtain ⟨b, o, a0, c0, a1, c1, rfl, hb0, p0, p1, r0, r1, -, -⟩ := QRow.two HR.out HB.out HF2.out hlt
      have R0 := HG.out.r8 (2 * j)
      have R1 := HG.out.r8 (2 * j + 1)
      obtain ⟨vj, cj, nvj⟩ := HQ.out.at (q := j) (by rw [HLs.out]; exact hlt)
      have ej : row Ls j = ou D L j := by rw [HHi.out j (Nat.le_refl _), row_at (by rw [ous_len]; exact hjD)]; simp [ous]
      rw [← row_at (by rw [HLs.out]; exact hlt), ej] at nvj
      have l0 := r8_len R0
      have l1 := r8_len R1
      obtain ⟨us, hus⟩ : ∃ us, us = fu F j := ⟨_, rfl⟩
      obtain ⟨ss, hss⟩ : ∃ ss, ss = fs F j := ⟨_, rfl⟩
      obtain ⟨oj, hoj⟩ : ∃ oj, oj = ou D L j := ⟨_, rfl⟩
      have R0' : R8 us := by rw [hus]; exact R0
      have R1' : R8 ss := by rw [hss]; exact R1
      have Ro : R8 oj := by rw [hoj]; exact lst_r8 _
      have l0' : us.length ≤ 8 := r8_len R0'
      have l1' : ss.length ≤ 8 := r8_len R1'
      have he : orL (woL oj ss) us = ni D F L j := by rw [hus, hss, hoj]; exact ni_sets D F L j
      rw [← hus] at p0 r0
      rw [← hss] at p1 r1
      rw [← hoj] at nvj
      have HE := hide he
      clear hus hss hoj R0 R1 l0 l1 ej he
      obtain ⟨m0, hm0⟩ : ∃ m0, m0 = us.length := ⟨_, rfl⟩
      obtain ⟨m1, hm1⟩ : ∃ m1, m1 = ss.length := ⟨_, rfl⟩
      have HU := hide (show IV wr (.slice a0 m0 c0) us by rw [hm0]; exact ⟨_, _, rfl, r0, by omega⟩)
      have HT := hide (show IV wr (.slice a1 m1 c1) ss by rw [hm1]; exact ⟨_, _, rfl, r1, by omega⟩)
      rw [← hm0] at p0
      rw [← hm1] at p1
      clear hm0 hm1 r0 r1
      have hzl := HQ.out.lt
      obtain ⟨W4, hW4⟩ : ∃ W4, W4 = wr.alloc (.cells #[.slice a0 m0 c0, .slice a1 m1 c1] 64) := ⟨_, rfl⟩
      have hb4 : Below wr.heap.size wr W4 := by rw [hW4]; exact (Below.refl _ _).alloc (Nat.le_refl _) _
      obtain ⟨B7, hB7⟩ : ∃ B7, B7 = wr.heap.size := ⟨_, rfl⟩
      have hB7Z : Hid (B7 ≠ Z) := hide (by omega)
      have HX7 := hide (show Bx W4 B7 #[.slice a0 m0 c0, .slice a1 m1 c1] 64 by rw [hW4, hB7]; exact Bx.new wr _ _)
      go_upto_region 5 with fail
      rw [← hW4]
      rw [← hB7]
      clear hW4 hB7 p0 p1
      have HB4 := hide (HB.out.trans (hb4.mono HB.out.size))
      have HQ4 := hide (HQ.out.below hb4)
      have cj4 := (hb4.cell (p := ⟨Z, j, none⟩) hzl).trans cj
      have nvj4 := nvj.below hb4
      have HSs := hide (fun (w1 : World) (hw : Below W4.heap.size W4 w1) => setOf_any (.slice a1 m1 c1) ss w1 (IV.below (IV.below HT.out hb4) hw) (by omega) R1'.2)
      have HSu := hide (fun (w1 : World) (hw : Below W4.heap.size W4 w1) => setOf_any (.slice a0 m0 c0) us w1 (IV.below (IV.below HU.out hb4) hw) (by omega) R0'.2)
      rw [r8_lst R1'] at HSs
      rw [r8_lst R0'] at HSu
      have HWo := hide (fun (v1 : Value) (w1 : World) (hw : Below W4.heap.size W4 w1) (hv : NV w1 v1 ss) => without_any vj v1 oj ss w1 (nvj4.below hw) hv Ro R1')
      have HWi := hide (fun (v2 v3 : Value) (w1 : World) (hv : NV w1 v2 (woL oj ss)) (hv3 : NV w1 v3 us) => with_any v2 v3 (woL oj ss) us w1 hv hv3 (lst_r8 _) R0')
      rw [HE.out] at HWi
      obtain ⟨aj, dj, ej, -⟩ := nvj.form
      obtain ⟨mj, hmj⟩ : ∃ mj, mj = oj.length := ⟨_, rfl⟩
      rw [← hmj] at ej
      subst ej
      have HKs : Hid (∀ V, Below W4.heap.size W4 V → V.cell? ⟨B7, 0, none⟩ = some (.slice a0 m0 c0) ∧ V.cell? ⟨B7, 1, none⟩ = some (.slice a1 m1 c1)) := hide (fun V h => ⟨((HX7.out.below h HX7.out.lt).c 0).trans rfl, ((HX7.out.below h HX7.out.lt).c 1).trans rfl⟩)
      have HKz : Hid (∀ V x, Below W4.heap.size W4 V → (V.setCell ⟨Z, j, none⟩ x).cell? ⟨B7, 0, none⟩ = some (.slice a0 m0 c0) ∧ (V.setCell ⟨Z, j, none⟩ x).cell? ⟨B7, 1, none⟩ = some (.slice a1 m1 c1)) := hide (fun V x h => ⟨(((HX7.out.below h HX7.out.lt).setne Z j x hB7Z.out).c 0).trans rfl, (((HX7.out.below h HX7.out.lt).setne Z j x hB7Z.out).c 1).trans rfl⟩)
      have HCell : Hid (∀ w1 : World, Below W4.heap.size W4 w1 → w1.cell? ⟨Z, j, none⟩ = some (.slice aj mj dj) ∧ ∀ i, w1.frozen? ⟨Z, i, none⟩ = false) := hide (fun w1 hw => ⟨(hw.cell (p := ⟨Z, j, none⟩) HQ4.out.lt).trans cj4, fun i => ((HQ4.out.below hw).f i)⟩)
      have HQn : Hid (∀ V x, Below W4.heap.size W4 V → NV V x (ni D F L j) → QSS (V.setCell ⟨Z, j, none⟩ x) Z (Ls.set j (ni D F L j)) ∧ Below w.heap.size w (V.setCell ⟨Z, j, none⟩ x)) := hide (fun V x h hv => ⟨(HQ4.out.below h).set (i := j) (by rw [HLs.out]; exact hlt) hv, (HB4.out.trans (h.mono HB4.out.size)).setCell (p := ⟨Z, j, none⟩) hZw x⟩)
      have HRn : Hid (∀ q, row (Ls.set j (ni D F L j)) q = if q = j then ni D F L j else row Ls q) := hide (fun q => row_set (by rw [HLs.out]; exact hlt) _ q)
      have HLn2 : Hid ((Ls.set j (ni D F L j)).length = n) := hide (by rw [List.length_set]; exact HLs.out)
      have k0 := (HKs.out W4 (Below.refl _ _)).1
      have k1 := (HKs.out W4 (Below.refl _ _)).2
      clear cj cj4 nvj nvj4 hmj hb4 hzl HX7 HB HQ HB4 HQ4
      refine wp_region_noPanic ?_
      refine wp_region_held_drew (S := fun w' => w'.cell? ⟨B7, 0, none⟩ = some (.slice a0 m0 c0) ∧ w'.cell? ⟨B7, 1, none⟩ = some (.slice a1 m1 c1)) (by kernel_rfl) ⟨k0, k1⟩ (fun hHeld => ?_)
      refine wpAnyH_take (i := 0) (oi := _) (v := ?_) rfl (by kernel_rfl) (by kernel_rfl) (by kernel_rfl) (fun _ _ _ h => h) (Or.inl ⟨by rfl, ?_⟩) (by assumption) ?_
      rotate_left 1
      · (intro w hSw; clear hSw; (first | (go_simp; done) | (go_simp; with_reducible rfl)))
      try simp only [Act.put, List.getElem_toArray, List.getElem_cons_zero, List.getElem_cons_succ, List.setIfInBounds_toArray, List.set_cons_zero, List.set_cons_succ]
      refine wpAnyH_take (i := 1) (oi := _) (v := ?_) rfl (by kernel_rfl) (by kernel_rfl) (by kernel_rfl) (fun _ _ _ h => h) (Or.inl ⟨by rfl, ?_⟩) (by assumption) ?_
      rotate_left 1
      · (intro w hSw; clear hSw; (first | (go_simp; done) | (go_simp; with_reducible rfl)))
      try simp only [Act.put, List.getElem_toArray, List.getElem_cons_zero, List.getElem_cons_succ, List.setIfInBounds_toArray, List.set_cons_zero, List.set_cons_succ]
      refine wpAnyH_take (i := 2) (oi := _) (v := ?_) rfl (by kernel_rfl) (by kernel_rfl) (by kernel_rfl) (fun _ _ _ h => h) (Or.inl ⟨by rfl, ?_⟩) (by assumption) ?_
      rotate_left 1
      · (intro w hSw; clear hSw; (first | (go_simp; done) | (go_simp; with_reducible rfl)))
      try simp only [Act.put, List.getElem_toArray, List.getElem_cons_zero, List.getElem_cons_succ, List.setIfInBounds_toArray, List.set_cons_zero, List.set_cons_succ]
      refine wpAnyH_take (i := 3) (oi := _) (v := ?_) rfl (by kernel_rfl) (by kernel_rfl) (by kernel_rfl) (fun _ _ _ h => h) (Or.inl ⟨by rfl, ?_⟩) (by assumption) ?_
      rotate_left 1
      · (intro w hSw; clear hSw; (first | (go_simp; done) | (go_simp; with_reducible rfl)))
      try simp only [Act.put, List.getElem_toArray, List.getElem_cons_zero, List.getElem_cons_succ, List.setIfInBounds_toArray, List.set_cons_zero, List.set_cons_succ]
      refine wpAnyH_take (i := 4) (oi := _) (v := ?_) rfl (by kernel_rfl) (by kernel_rfl) (by kernel_rfl) (fun _ _ _ h => h) (Or.inl ⟨by rfl, ?_⟩) (by assumption) ?_
      rotate_left 1
      · (intro w hSw; clear hSw; (first | (go_simp; done) | (go_simp; with_reducible rfl)))
      try simp only [Act.put, List.getElem_toArray, List.getElem_cons_zero, List.getElem_cons_succ, List.setIfInBounds_toArray, List.set_cons_zero, List.set_cons_succ]
      refine wpAnyH_take (i := 6) (oi := _) (v := ?_) rfl (by kernel_rfl) (by kernel_rfl) (by kernel_rfl) (fun _ _ _ h => h) (Or.inl ⟨by rfl, ?_⟩) (by assumption) ?_
      rotate_left 1
      · (intro w hSw; clear hSw; (first | (go_simp; done) | (go_simp; with_reducible rfl)))
      try simp only [Act.put, List.getElem_toArray, List.getElem_cons_zero, List.getElem_cons_succ, List.setIfInBounds_toArray, List.set_cons_zero, List.set_cons_succ]
      refine wpAnyH_take (i := 7) (oi := _) (v := ?_) rfl (by kernel_rfl) (by kernel_rfl) (by kernel_rfl) (fun _ _ _ h => h) (Or.inl ⟨by rfl, ?_⟩) (by assumption) ?_
      rotate_left 1
      · (intro w hSw; obtain ⟨hSw1, hSw2⟩ := hSw; (first | (go_simp; done) | (go_simp; with_reducible rfl)))
      try simp only [Act.put, List.getElem_toArray, List.getElem_cons_zero, List.getElem_cons_succ, List.setIfInBounds_toArray, List.set_cons_zero, List.set_cons_succ]
      refine wpAnyH_take (i := 10) (oi := _) (v := ?_) rfl (by kernel_rfl) (by kernel_rfl) (by kernel_rfl) (fun _ _ _ h => h) (Or.inl ⟨by rfl, ?_⟩) (by assumption) ?_
      rotate_left 1
      · (intro w hSw; clear hSw; (first | (go_simp; done) | (go_simp; with_reducible rfl)))
      try simp only [Act.put, List.getElem_toArray, List.getElem_cons_zero, List.getElem_cons_succ, List.setIfInBounds_toArray, List.set_cons_zero, List.set_cons_succ]
      refine wpAnyH_take (i := 11) (oi := _) (v := ?_) rfl (by kernel_rfl) (by kernel_rfl) (by kernel_rfl) (fun _ _ _ h => h) (Or.inl ⟨by rfl, ?_⟩) (by assumption) ?_
      rotate_left 1
      · (intro w hSw; obtain ⟨hSw1, hSw2⟩ := hSw; (first | (go_simp; done) | (go_simp; with_reducible rfl)))
      try simp only [Act.put, List.getElem_toArray, List.getElem_cons_zero, List.getElem_cons_succ, List.setIfInBounds_toArray, List.set_cons_zero, List.set_cons_succ]
      obtain ⟨V, hV⟩ : ∃ V, V = W4.drew := ⟨_, rfl⟩
      have HbV : Hid (Below W4.heap.size W4 V) := hide (by rw [hV]; exact belowDrwK (Below.refl _ _))
      rw [← hV]
      clear hV k0 k1
      refine wpAnyH_ready (rs := [5, 8]) (by kernel_rfl) (by simp) ?_
      refine AllReadyH.cons (o := _) rfl (fun K hK => ?_) (AllReadyH.cons (o := _) rfl (fun K hK => ?_) (AllReadyH.nil))
      · have cl := (HCell.out _ HbV.out).1
        go_simp
        refine hK.out _ _ (HKs.out _ HbV.out) (fun hHeld => ?_)
        clear hK K cl
        try simp only [Act.put, List.getElem_toArray, List.getElem_cons_zero, List.getElem_cons_succ, List.setIfInBounds_toArray, List.set_cons_zero, List.set_cons_succ]
        refine wpAnyH_ready (rs := [8]) (by kernel_rfl) (by simp) ?_
        refine AllReadyH.cons (o := _) rfl (fun K hK => ?_) (AllReadyH.nil)
        go_simp
        (with_reducible refine Calls.mono (HSs.out _ HbV.out) ?_)
        rintro r V1 ⟨v1, rfl, hv, hx⟩
        have HbV1 := hide (HbV.out.trans (hx.mono HbV.out.size))
        have HV1 := hide hv
        obtain ⟨g1, h1, rfl, -⟩ := hv.form
        clear hv hx
        (try go_wp2_with fail)
        refine hK.out _ _ (HKs.out _ HbV1.out) (fun hHeld => ?_)
        clear hK K
        try simp only [Act.put, List.getElem_toArray, List.getElem_cons_zero, List.getElem_cons_succ, List.setIfInBounds_toArray, List.set_cons_zero, List.set_cons_succ]
        refine wpAnyH_ready (rs := [9]) (by kernel_rfl) (by simp) ?_
        refine AllReadyH.cons (o := _) rfl (fun K hK => ?_) (AllReadyH.nil)
        go_simp
        (with_reducible refine Calls.mono (HWo.out _ _ HbV1.out HV1.out) ?_)
        rintro r V2 ⟨v2, rfl, hv, hx⟩
        have HbV2 := hide (HbV1.out.trans (hx.mono HbV1.out.size))
        have HV2 := hide hv
        obtain ⟨g2, h2, rfl, -⟩ := hv.form
        clear hv hx
        (try go_wp2_with fail)
        refine hK.out _ _ (HKs.out _ HbV2.out) (fun hHeld => ?_)
        clear hK K
        try simp only [Act.put, List.getElem_toArray, List.getElem_cons_zero, List.getElem_cons_succ, List.setIfInBounds_toArray, List.set_cons_zero, List.set_cons_succ]
        refine wpAnyH_ready (rs := [12]) (by kernel_rfl) (by simp) ?_
        refine AllReadyH.cons (o := _) rfl (fun K hK => ?_) (AllReadyH.nil)
        go_simp
        (with_reducible refine Calls.mono (HSu.out _ HbV2.out) ?_)
        rintro r V3 ⟨v3, rfl, hv, hx⟩
        have HbV3 := hide (HbV2.out.trans (hx.mono HbV2.out.size))
        have HV3 := hide hv
        obtain ⟨g3, h3, rfl, -⟩ := hv.form
        have HV2b := hide (HV2.out.below hx)
        clear hv hx
        (try go_wp2_with fail)
        refine hK.out _ _ (HKs.out _ HbV3.out) (fun hHeld => ?_)
        clear hK K
        try simp only [Act.put, List.getElem_toArray, List.getElem_cons_zero, List.getElem_cons_succ, List.setIfInBounds_toArray, List.set_cons_zero, List.set_cons_succ]
        refine wpAnyH_ready (rs := [13]) (by kernel_rfl) (by simp) ?_
        refine AllReadyH.cons (o := _) rfl (fun K hK => ?_) (AllReadyH.nil)
        go_simp
        (with_reducible refine Calls.mono (HWi.out _ _ _ HV2b.out HV3.out) ?_)
        rintro r V4 ⟨v4, rfl, hv, hx⟩
        have HbV4 := hide (HbV3.out.trans (hx.mono HbV3.out.size))
        have HV4 := hide hv
        obtain ⟨g4, h4, rfl, -⟩ := hv.form
        clear hv hx
        (try go_wp2_with fail)
        refine hK.out _ _ (HKs.out _ HbV4.out) (fun hHeld => ?_)
        clear hK K
        try simp only [Act.put, List.getElem_toArray, List.getElem_cons_zero, List.getElem_cons_succ, List.setIfInBounds_toArray, List.set_cons_zero, List.set_cons_succ]
        have cc := HCell.out _ HbV4.out
        have c5 := cc.1
        have f5 := cc.2
        clear cc
        refine wpAnyH_take (i := 14) (oi := _) (v := ?_) rfl (by kernel_rfl) (by kernel_rfl) (by kernel_rfl) (fun _ _ _ h => h) (Or.inl ⟨by rfl, ?_⟩) (by assumption) ?_
        rotate_left 1
        · (intro w hSw; clear hSw; (first | (go_simp; done) | (go_simp; with_reducible rfl)))
        try simp only [Act.put, List.getElem_toArray, List.getElem_cons_zero, List.getElem_cons_succ, List.setIfInBounds_toArray, List.set_cons_zero, List.set_cons_succ]
        refine wpAnyH_ready (rs := [15]) (by kernel_rfl) (by simp) ?_
        refine AllReadyH.cons (o := _) rfl (fun K hK => ?_) (AllReadyH.nil)
        go_simp
        refine hK.out _ _ (HKz.out _ _ HbV4.out) (fun hHeld => ?_)
        clear hK K c5 f5
        try simp only [Act.put, List.getElem_toArray, List.getElem_cons_zero, List.getElem_cons_succ, List.setIfInBounds_toArray, List.set_cons_zero, List.set_cons_succ]
        refine wpAnyH_done (by kernel_rfl) ?_ _
        refine NoPanic.normal ?_
        clear hHeld
        have hq9 := HQn.out _ _ HbV4.out HV4.out
        have HQ9 := hide hq9.1
        have HB9 := hide hq9.2
        clear hq9 HQn HWi HSu HSs HWo HKs HKz HCell HV1 HV2 HV2b HV3 HV4 HbV HbV1 HbV2 HbV3 HbV4
        go_wp2_with fail
        refine ⟨⟨j + 1, _, by omega, by go_num, HQ9.out, HLn2.out, fun q hq => ?_, fun q hq => ?_, HB9.out⟩, by simp [intOf]; omega⟩
        · rw [HRn.out]
          by_cases e : q = j
          · rw [if_pos e, e]
          · rw [if_neg e]; exact HLo.out q (by omega)
        · rw [HRn.out, if_neg (by omega)]; exact HHi.out q (by omega)
      · go_simp
        (with_reducible refine Calls.mono (HSs.out _ HbV.out) ?_)
        rintro r V1 ⟨v1, rfl, hv, hx⟩
        have HbV1 := hide (HbV.out.trans (hx.mono HbV.out.size))
        have HV1 := hide hv
        obtain ⟨g1, h1, rfl, -⟩ := hv.form
        clear hv hx
        (try go_wp2_with fail)
        refine hK.out _ _ (HKs.out _ HbV1.out) (fun hHeld => ?_)
        clear hK K
        try simp only [Act.put, List.getElem_toArray, List.getElem_cons_zero, List.getElem_cons_succ, List.setIfInBounds_toArray, List.set_cons_zero, List.set_cons_succ]
        refine wpAnyH_ready (rs := [5]) (by kernel_rfl) (by simp) ?_
        refine AllReadyH.cons (o := _) rfl (fun K hK => ?_) (AllReadyH.nil)
        have cl := (HCell.out _ HbV1.out).1
        go_simp
        refine hK.out _ _ (HKs.out _ HbV1.out) (fun hHeld => ?_)
        clear hK K cl
        try simp only [Act.put, List.getElem_toArray, List.getElem_cons_zero, List.getElem_cons_succ, List.setIfInBounds_toArray, List.set_cons_zero, List.set_cons_succ]
        refine wpAnyH_ready (rs := [9]) (by kernel_rfl) (by simp) ?_
        refine AllReadyH.cons (o := _) rfl (fun K hK => ?_) (AllReadyH.nil)
        go_simp
        (with_reducible refine Calls.mono (HWo.out _ _ HbV1.out HV1.out) ?_)
        rintro r V2 ⟨v2, rfl, hv, hx⟩
        have HbV2 := hide (HbV1.out.trans (hx.mono HbV1.out.size))
        have HV2 := hide hv
        obtain ⟨g2, h2, rfl, -⟩ := hv.form
        clear hv hx
        (try go_wp2_with fail)
        refine hK.out _ _ (HKs.out _ HbV2.out) (fun hHeld => ?_)
        clear hK K
        try simp only [Act.put, List.getElem_toArray, List.getElem_cons_zero, List.getElem_cons_succ, List.setIfInBounds_toArray, List.set_cons_zero, List.set_cons_succ]
        refine wpAnyH_ready (rs := [12]) (by kernel_rfl) (by simp) ?_
        refine AllReadyH.cons (o := _) rfl (fun K hK => ?_) (AllReadyH.nil)
        go_simp
        (with_reducible refine Calls.mono (HSu.out _ HbV2.out) ?_)
        rintro r V3 ⟨v3, rfl, hv, hx⟩
        have HbV3 := hide (HbV2.out.trans (hx.mono HbV2.out.size))
        have HV3 := hide hv
        obtain ⟨g3, h3, rfl, -⟩ := hv.form
        have HV2b := hide (HV2.out.below hx)
        clear hv hx
        (try go_wp2_with fail)
        refine hK.out _ _ (HKs.out _ HbV3.out) (fun hHeld => ?_)
        clear hK K
        try simp only [Act.put, List.getElem_toArray, List.getElem_cons_zero, List.getElem_cons_succ, List.setIfInBounds_toArray, List.set_cons_zero, List.set_cons_succ]
        refine wpAnyH_ready (rs := [13]) (by kernel_rfl) (by simp) ?_
        refine AllReadyH.cons (o := _) rfl (fun K hK => ?_) (AllReadyH.nil)
        go_simp
        (with_reducible refine Calls.mono (HWi.out _ _ _ HV2b.out HV3.out) ?_)
        rintro r V4 ⟨v4, rfl, hv, hx⟩
        have HbV4 := hide (HbV3.out.trans (hx.mono HbV3.out.size))
        have HV4 := hide hv
        obtain ⟨g4, h4, rfl, -⟩ := hv.form
        clear hv hx
        (try go_wp2_with fail)
        refine hK.out _ _ (HKs.out _ HbV4.out) (fun hHeld => ?_)
        clear hK K
        try simp only [Act.put, List.getElem_toArray, List.getElem_cons_zero, List.getElem_cons_succ, List.setIfInBounds_toArray, List.set_cons_zero, List.set_cons_succ]
        have cc := HCell.out _ HbV4.out
        have c5 := cc.1
        have f5 := cc.2
        clear cc
        refine wpAnyH_take (i := 14) (oi := _) (v := ?_) rfl (by kernel_rfl) (by kernel_rfl) (by kernel_rfl) (fun _ _ _ h => h) (Or.inl ⟨by rfl, ?_⟩) (by assumption) ?_
        rotate_left 1
        · (intro w hSw; clear hSw; (first | (go_simp; done) | (go_simp; with_reducible rfl)))
        try simp only [Act.put, List.getElem_toArray, List.getElem_cons_zero, List.getElem_cons_succ, List.setIfInBounds_toArray, List.set_cons_zero, List.set_cons_succ]
        refine wpAnyH_ready (rs := [15]) (by kernel_rfl) (by simp) ?_
        refine AllReadyH.cons (o := _) rfl (fun K hK => ?_) (AllReadyH.nil)
        go_simp
        refine hK.out _ _ (HKz.out _ _ HbV4.out) (fun hHeld => ?_)
        clear hK K c5 f5
        try simp only [Act.put, List.getElem_toArray, List.getElem_cons_zero, List.getElem_cons_succ, List.setIfInBounds_toArray, List.set_cons_zero, List.set_cons_succ]
        refine wpAnyH_done (by kernel_rfl) ?_ _
        refine NoPanic.normal ?_
        clear hHeld
        have hq9 := HQn.out _ _ HbV4.out HV4.out
        have HQ9 := hide hq9.1
        have HB9 := hide hq9.2
        clear hq9 HQn HWi HSu HSs HWo HKs HKz HCell HV1 HV2 HV2b HV3 HV4 HbV HbV1 HbV2 HbV3 HbV4
        go_wp2_with fail
        refine ⟨⟨j + 1, _, by omega, by go_num, HQ9.out, HLn2.out, fun q hq => ?_, fun q hq => ?_, HB9.out⟩, by simp [intOf]; omega⟩
        · rw [HRn.out]
          by_cases e : q = j
          · rw [if_pos e, e]
          · rw [if_neg e]; exact HLo.out q (by omega)
        · rw [HRn.out, if_neg (by omega)]; exact HHi.out q (by omega)
    · obtain rfl : j = n := by omega
      have HE : Hid (Ls = nx D F L) := hide (by
        refine List.ext_getElem (by rw [HLs.out, nx_len, HND.out]) (fun k h1 h2 => ?_)
        rw [← row_at h1, HLo.out k (by rw [← HLs.out]; exact h1)]
        simp [nx])
      go_wp2_with fail
      go_ret
      exact ⟨Z, rfl, hZw, by rw [← HE.out]; exact HQ.out, HB.out⟩
end Go.Proofs.Ytaniiolphghhiab.W
