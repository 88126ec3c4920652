/-
  The program's ClashesOf. Conditions: none but those that the theorem states. Written by wip/build/mk_lvx.py and lvx_head.txt.
-/
import Derived.Test.YtaniiolphghhiabLvK
namespace Go.Proofs.Ytaniiolphghhiab.W
open Go.ChangeShapes Go.WideShapes Go.ChangeAt Go.RowKit Go.Joins
set_option linter.unusedVariables false
set_option linter.unusedSimpArgs false
set_option maxRecDepth 20000

/-- The one number of a new row. -/
theorem iv_one (V : World) (a : Int) : IV (V.alloc (.cells #[.int .i64 a] 3)) (.slice (some ⟨V.heap.size, 0, none⟩) 1 1) [a] := by
  have h : IBlk (V.alloc (.cells #[.int .i64 a] 3)) V.heap.size [a] := by
    refine ⟨_, heap_alloc_new V _, by simp, fun i hi _ r hr => ?_⟩
    obtain rfl : r = 0 := by omega
    obtain rfl : i = 0 := by simpa using hi
    rfl
  exact ⟨_, _, rfl, h.row, by simp⟩

set_option maxHeartbeats 8000000 in
theorem implClash_any (v : Value) (D : List (List Int)) (n : Nat) (F : List (List Int)) (w : World) (h : FRow w v D n F) :
    Calls Try.prog 7 #[v] w fun e w' => ∃ v', e = .returned (.tuple #[v', .bool (goodF D F)]) ∧ OO w' w.heap.size v' (clR D F) ∧ Below w.heap.size w w' := by
  have HGf := hide (fun (w' : World) (hb : Below w.heap.size w w') => implGoodF_any v D n F w' (h.below hb))
  have HLi := hide (fun (w' : World) (hb : Below w.heap.size w w') (hf : GF D F) => liveIn_any v D n F w' (h.below hb) hf)
  obtain ⟨ad, c, bd, bc, rfl, -⟩ := h
  obtain ⟨nd, hnd⟩ : ∃ nd, nd = D.length := ⟨_, rfl⟩
  have hB0 : Below w.heap.size w (w.alloc (.cells #[.slice ad D.length c, .slice bd n bc] 34)) := (Below.refl _ _).alloc (Nat.le_refl _) _
  have HX := hide (Bx.new w #[.slice ad D.length c, .slice bd n bc] 34)
  rw [← hnd] at HX hB0 HGf HLi ⊢
  have HND := hide hnd
  clear hnd
  go_enter Try.func7, Try.ntmps7
  go_upto_region 1 with fail
  obtain ⟨W1, hW1⟩ : ∃ W1, W1 = w.alloc (.cells #[.slice ad nd c, .slice bd n bc] 34) := ⟨_, rfl⟩
  obtain ⟨X, hX⟩ : ∃ X, X = w.heap.size := ⟨_, rfl⟩
  rw [← hW1] at HX hB0 ⊢
  rw [← hX] at HX ⊢
  clear hW1 hX
  have cX := HX.out.c
  go_wp2_with fail
  refine Calls.mono (HGf.out _ hB0) ?_
  rintro e w1 ⟨rfl, hb⟩
  have HB1 := hide (hB0.trans (hb.mono hB0.size))
  have HX1 := hide (HX.out.below hb HX.out.lt)
  clear cX hb HGf hB0 HX
  have cX := HX1.out.c
  by_cases hg : goodF D F = true
  · have HF := hide (goodF_iff.1 hg)
    have HR := hide (clR_yes hg)
    have hn12 : nd ≤ 12 := by rw [HND.out]; exact (goodF_iff.1 hg).1.2.1
    have HGe := hide hg
    rw [hg]
    clear hg
    have hmk : ∀ w, (Instr.makeSlice 49 (.int .i64 8) (.int .i64 8)).run Try.prog w = .ok (.slice (some ⟨w.heap.size, 0, none⟩) 8 8) (w.alloc (.cells (madeCells #[.slice none 0 0] 8) 51)) := fun w => mk_SetS 8 (by omega) w
    go_upto_region 4 with fail
    clear hmk cX
    have HQ0 := hide (QST.new 51 w1 8)
    have HB2 := hide (HB1.out.alloc HB1.out.size (.cells (madeCells #[.slice none 0 0] 8) 51))
    have HX2 := hide (HX1.out.alloc (.cells (madeCells #[.slice none 0 0] 8) 51))
    obtain ⟨W2, hW2⟩ : ∃ W2, W2 = w1.alloc (.cells (madeCells #[.slice none 0 0] 8) 51) := ⟨_, rfl⟩
    obtain ⟨Z, hZ⟩ : ∃ Z, Z = w1.heap.size := ⟨_, rfl⟩
    rw [← hW2] at HX2 HQ0 HB2 ⊢
    rw [← hZ] at HQ0 ⊢
    have hZw : w.heap.size ≤ Z := by rw [hZ]; exact HB1.out.size
    clear hW2 hZ HX1 HB1
    have cX := HX2.out.c
    go_wp2_with fail
    refine Calls.mono (HLi.out _ HB2.out HF.out) ?_
    rintro e w2 ⟨Z2, rfl, hZ2, hQ, hb⟩
    have hne : Z2 ≠ Z := by have := HQ0.out.lt; omega
    have HZ := hide (HQ0.out.below hb)
    have HM := hide hQ
    have HB3 := hide (HB2.out.trans (hb.mono HB2.out.size))
    have HMl : Hid ((lvR D F).length = nd) := hide (by rw [lvR_len, HND.out])
    have HM8 : Hid (∀ k, R8 (row (lvR D F) k)) := hide (lvR_r8 D F)
    obtain ⟨M, hM⟩ : ∃ M, M = lvR D F := ⟨_, rfl⟩
    rw [← hM] at HM HMl HM8 HR
    clear cX hQ hb HX2 HLi HQ0 HB2 hM hZ2
    go_wp2_with fail
    go_loopw [16] (fun i w' => ∃ (k : Nat) (Ls : List (List Int)), k ≤ nd ∧ i = .int .i64 k ∧ QSS w' Z Ls ∧ RS Ls (clS M k 0) ∧ Oth Z w2 w' ∧ Below w.heap.size w w') (fun i _ => nd - (intOf i).toNat)
    case atStart => exact ⟨0, _, by omega, rfl, HZ.out, RS.start (clS_none M), Oth.refl _ _, HB3.out⟩
    case round =>
      obtain ⟨k, Ls, hk, rfl, hQ, hRS, hO, hB⟩ := hrel
      have HQ := hide hQ
      have HRS := hide hRS
      have HO := hide hO
      have HB := hide hB
      clear hQ hRS hO hB
      by_cases hlt : k < nd
      · have hlt' : (k : Int) < (nd : Int) := by omega
        have hk0 : (0 : Int) ≤ (k : Int) := by omega
        have hkM : k < M.length := by rw [HMl.out]; exact hlt
        obtain ⟨vk, ck, nvk⟩ := (HM.out.oth HZ.out hne HO.out).at (q := k) hkM
        have nv2 : NV w2 vk (row M k) := by
          obtain ⟨vk', ck', nvk'⟩ := HM.out.at (q := k) hkM
          have e := World.cell?_of_block (a := ⟨Z2, k, none⟩) (HO.out.block Z2 HM.out.lt hne)
          rw [ck, ck'] at e
          obtain rfl : vk = vk' := by simpa using e
          rw [row_at hkM]
          exact nvk'
        have HNx := hide (clS_next hkM)
        have HL8 := hide (HM8.out k)
        clear nvk
        obtain ⟨mk, hmk⟩ : ∃ mk, mk = (row M k).length := ⟨_, rfl⟩
        obtain ⟨ak, dk, e, -⟩ := nv2.form
        rw [← hmk] at e
        subst e
        have HNv := hide nv2
        have hmk8 : mk ≤ 8 := by rw [hmk]; exact r8_len HL8.out
        have HMk := hide hmk
        rw [← hmk] at HNx
        clear nv2 hmk
        go_wp2_with fail
        clear ck
        go_loopw [22] (fun i w' => ∃ (j : Nat) (Ls : List (List Int)), j ≤ mk ∧ i = .int .i64 j ∧ QSS w' Z Ls ∧ RS Ls (clS M k j) ∧ Oth Z w2 w' ∧ Below w.heap.size w w') (fun i _ => mk - (intOf i).toNat)
        case atStart => exact ⟨0, Ls, by omega, rfl, HQ.out, HRS.out, HO.out, HB.out⟩
        case round =>
          clear HQ HRS HO HB Ls
          obtain ⟨j, Ls, hj, rfl, hQ, hRS, hO, hB⟩ := hrel
          have HQ := hide hQ
          have HRS := hide hRS
          have HO := hide hO
          have HB := hide hB
          clear hQ hRS hO hB
          by_cases hlj : j < mk
          · have hlj' : (j : Int) < (mk : Int) := by omega
            have hj0 : (0 : Int) ≤ (j : Int) := by omega
            have hjl : j < (row M k).length := by rw [← HMk.out]; exact hlj
            have nvr : NV wr (.slice ak mk dk) (row M k) := HNv.out.othT HZ.out HO.out
            obtain ⟨ak', dk', e', hik, -⟩ := nvr.iv (by rw [← HMk.out]; omega)
            obtain ⟨rfl, -, rfl⟩ : ak = ak' ∧ mk = (row M k).length ∧ dk = dk' := by simpa using e'
            obtain ⟨bk, ok, rfl, -, pj⟩ := hik.iat (Below.refl _ _) hjl
            have h8 := HL8.out.2 _ (List.getElem_mem hjl)
            obtain ⟨a, ha⟩ : ∃ a : Nat, (row M k)[j] = (a : Int) := ⟨((row M k)[j]).toNat, by rw [Int.toNat_of_nonneg h8.1]⟩
            have ha8 : a < 8 := by rw [ha] at h8; omega
            have ha8' : (a : Int) < 8 := by omega
            have ha0 : (0 : Int) ≤ (a : Int) := by omega
            rw [ha] at pj
            have haL : a < Ls.length := by rw [HRS.out.1]; exact ha8
            obtain ⟨va, ca, nva⟩ := HQ.out.at (q := a) haL
            rw [← row_at haL] at nva
            have HRn := hide (HRS.out.with hjl ha ha8)
            have Ra := HRS.out.r8 a
            have Rk := HL8.out
            have HOne : Hid (∀ V : World, ∃ V8, V8 = V.alloc (.cells #[.int .i64 (a : Int)] 3) ∧ IV V8 (.slice (some ⟨V.heap.size, 0, none⟩) 1 1) [(a : Int)] ∧ Below V.heap.size V V8) := hide (fun V => ⟨_, rfl, iv_one V a, (Below.refl _ _).alloc (Nat.le_refl _) _⟩)
            have HSs := hide (fun (v1 : Value) (V : World) (hv : IV V v1 [(a : Int)]) => setOf_any v1 [(a : Int)] V hv (by simp) (by intro x hx; simp at hx; omega))
            have HWo := hide (fun (v1 : Value) (V : World) (hbw : Below wr.heap.size wr V) (hv : NV V v1 (lst (hb [(a : Int)]) 8)) => without_any (.slice (some ⟨bk, ok, none⟩) mk dk) v1 (row M k) _ V (nvr.below hbw) hv Rk (lst_r8 _))
            have HWi := hide (fun (v2 : Value) (V : World) (hbw : Below wr.heap.size wr V) (hv : NV V v2 (woL (row M k) (lst (hb [(a : Int)]) 8))) => with_any va v2 (row Ls a) _ V (nva.below hbw) hv Ra (lst_r8 _))
            have HNew : Hid (∀ V x, Below wr.heap.size wr V → NV V x (orL (row Ls a) (woL (row M k) (lst (hb [(a : Int)]) 8))) → QSS (V.setCell ⟨Z, a, none⟩ x) Z (Ls.set a (orL (row Ls a) (woL (row M k) (lst (hb [(a : Int)]) 8)))) ∧ RS (Ls.set a (orL (row Ls a) (woL (row M k) (lst (hb [(a : Int)]) 8)))) (clS M k (j + 1)) ∧ Oth Z w2 (V.setCell ⟨Z, a, none⟩ x) ∧ Below w.heap.size w (V.setCell ⟨Z, a, none⟩ x)) := hide (fun V x hbw hv => ⟨(HQ.out.below hbw).set haL hv, HRn.out, (HO.out.trans (Oth.ofBelow hbw)).setCell a x, (HB.out.trans (hbw.mono HB.out.size)).setCell (p := ⟨Z, a, none⟩) hZw x⟩)
            obtain ⟨aa, da, e, -⟩ := nva.form
            obtain ⟨ma, hma⟩ : ∃ ma, ma = (row Ls a).length := ⟨_, rfl⟩
            rw [← hma] at e
            subst e
            have HCell : Hid (∀ V : World, Below wr.heap.size wr V → V.cell? ⟨Z, a, none⟩ = some (.slice aa ma da) ∧ ∀ i, V.frozen? ⟨Z, i, none⟩ = false) := hide (fun V hb => ⟨(hb.cell (p := ⟨Z, a, none⟩) HQ.out.lt).trans ca, fun i => ((HQ.out.below hb).f i)⟩)
            have cX9 := True.intro
            clear nvr hik nva HRn Ra Rk ha h8 hma ca haL hjl HQ HRS HO HB e'
            go_upto_region 10 with fail
            clear pj
            refine wp_region_noPanic ?_
            refine wp_region_held_drew (S := fun w' => True) (by kernel_rfl) trivial (fun hHeld => ?_)
            refine wpAnyH_take (i := 0) (oi := _) (v := ?_) rfl (by kernel_rfl) (by kernel_rfl) (by kernel_rfl) (fun _ _ _ h => h) (Or.inl ⟨by rfl, ?_⟩) (by assumption) ?_
            rotate_left 1
            · (intro w hSw; clear hSw; (first | (go_simp; done) | (go_simp; with_reducible rfl)))
            try simp only [Act.put, List.getElem_toArray, List.getElem_cons_zero, List.getElem_cons_succ, List.setIfInBounds_toArray, List.set_cons_zero, List.set_cons_succ]
            refine wpAnyH_take (i := 1) (oi := _) (v := ?_) rfl (by kernel_rfl) (by kernel_rfl) (by kernel_rfl) (fun _ _ _ h => h) (Or.inl ⟨by rfl, ?_⟩) (by assumption) ?_
            rotate_left 1
            · (intro w hSw; clear hSw; (first | (go_simp; done) | (go_simp; with_reducible rfl)))
            try simp only [Act.put, List.getElem_toArray, List.getElem_cons_zero, List.getElem_cons_succ, List.setIfInBounds_toArray, List.set_cons_zero, List.set_cons_succ]
            refine wpAnyH_take (i := 2) (oi := _) (v := ?_) rfl (by kernel_rfl) (by kernel_rfl) (by kernel_rfl) (fun _ _ _ h => h) (Or.inl ⟨by rfl, ?_⟩) (by assumption) ?_
            rotate_left 1
            · (intro w hSw; clear hSw; (first | (go_simp; done) | (go_simp; with_reducible rfl)))
            try simp only [Act.put, List.getElem_toArray, List.getElem_cons_zero, List.getElem_cons_succ, List.setIfInBounds_toArray, List.set_cons_zero, List.set_cons_succ]
            refine wpAnyH_take (i := 3) (oi := _) (v := ?_) rfl (by kernel_rfl) (by kernel_rfl) (by kernel_rfl) (fun _ _ _ h => h) (Or.inl ⟨by rfl, ?_⟩) (by assumption) ?_
            rotate_left 1
            · (intro w hSw; clear hSw; (first | (go_simp; done) | (go_simp; with_reducible rfl)))
            try simp only [Act.put, List.getElem_toArray, List.getElem_cons_zero, List.getElem_cons_succ, List.setIfInBounds_toArray, List.set_cons_zero, List.set_cons_succ]
            refine wpAnyH_take (i := 4) (oi := _) (v := ?_) rfl (by kernel_rfl) (by kernel_rfl) (by kernel_rfl) (fun _ _ _ h => h) (Or.inl ⟨by rfl, ?_⟩) (by assumption) ?_
            rotate_left 1
            · (intro w hSw; clear hSw; (first | (go_simp; done) | (go_simp; with_reducible rfl)))
            try simp only [Act.put, List.getElem_toArray, List.getElem_cons_zero, List.getElem_cons_succ, List.setIfInBounds_toArray, List.set_cons_zero, List.set_cons_succ]
            refine wpAnyH_take (i := 6) (oi := _) (v := ?_) rfl (by kernel_rfl) (by kernel_rfl) (by kernel_rfl) (fun _ _ _ h => h) (Or.inl ⟨by rfl, ?_⟩) (by assumption) ?_
            rotate_left 1
            · (intro w hSw; clear hSw; (first | (go_simp; done) | (go_simp; with_reducible rfl)))
            try simp only [Act.put, List.getElem_toArray, List.getElem_cons_zero, List.getElem_cons_succ, List.setIfInBounds_toArray, List.set_cons_zero, List.set_cons_succ]
            refine wpAnyH_take (i := 7) (oi := _) (v := ?_) rfl (by kernel_rfl) (by kernel_rfl) (by kernel_rfl) (fun _ _ _ h => h) (Or.inl ⟨by rfl, ?_⟩) (by assumption) ?_
            rotate_left 1
            · (intro w hSw; clear hSw; (first | (go_simp; done) | (go_simp; with_reducible rfl)))
            try simp only [Act.put, List.getElem_toArray, List.getElem_cons_zero, List.getElem_cons_succ, List.setIfInBounds_toArray, List.set_cons_zero, List.set_cons_succ]
            obtain ⟨V, hV⟩ : ∃ V, V = wr.drew := ⟨_, rfl⟩
            have HbV : Hid (Below wr.heap.size wr V) := hide (by rw [hV]; exact belowDrwK (Below.refl _ _))
            rw [← hV]
            clear hV
            refine wpAnyH_ready (rs := [5, 8]) (by kernel_rfl) (by simp) ?_
            refine AllReadyH.cons (o := _) rfl (fun K hK => ?_) (AllReadyH.cons (o := _) rfl (fun K hK => ?_) (AllReadyH.nil))
            · have cl := (HCell.out _ HbV.out).1
              go_simp
              clear cl
              refine hK.out _ _ trivial (fun hHeld => ?_)
              clear hK K
              try simp only [Act.put, List.getElem_toArray, List.getElem_cons_zero, List.getElem_cons_succ, List.setIfInBounds_toArray, List.set_cons_zero, List.set_cons_succ]
              refine wpAnyH_ready (rs := [8]) (by kernel_rfl) (by simp) ?_
              refine AllReadyH.cons (o := _) rfl (fun K hK => ?_) (AllReadyH.nil)
              go_simp
              obtain ⟨V8, hV8, I8, hb8⟩ := HOne.out _
              rw [← hV8]
              have HI8 := hide I8
              replace HbV := hide (HbV.out.trans (hb8.mono HbV.out.size))
              clear hV8 I8 hb8
              refine hK.out _ _ trivial (fun hHeld => ?_)
              clear hK K
              try simp only [Act.put, List.getElem_toArray, List.getElem_cons_zero, List.getElem_cons_succ, List.setIfInBounds_toArray, List.set_cons_zero, List.set_cons_succ]
              refine wpAnyH_ready (rs := [9]) (by kernel_rfl) (by simp) ?_
              refine AllReadyH.cons (o := _) rfl (fun K hK => ?_) (AllReadyH.nil)
              go_simp
              (with_reducible refine Calls.mono (HSs.out _ _ HI8.out) ?_)
              rintro r V9 ⟨v9, rfl, hv, hx⟩
              replace HbV := hide (HbV.out.trans (hx.mono HbV.out.size))
              have HV9 := hide hv
              obtain ⟨g9, h9, rfl, -⟩ := hv.form
              clear hv hx HI8
              (try go_wp2_with fail)
              refine hK.out _ _ trivial (fun hHeld => ?_)
              clear hK K
              try simp only [Act.put, List.getElem_toArray, List.getElem_cons_zero, List.getElem_cons_succ, List.setIfInBounds_toArray, List.set_cons_zero, List.set_cons_succ]
              refine wpAnyH_ready (rs := [10]) (by kernel_rfl) (by simp) ?_
              refine AllReadyH.cons (o := _) rfl (fun K hK => ?_) (AllReadyH.nil)
              go_simp
              (with_reducible refine Calls.mono (HWo.out _ _ HbV.out HV9.out) ?_)
              rintro r V10 ⟨v10, rfl, hv, hx⟩
              replace HbV := hide (HbV.out.trans (hx.mono HbV.out.size))
              have HV10 := hide hv
              obtain ⟨g10, h10, rfl, -⟩ := hv.form
              clear hv hx HV9
              (try go_wp2_with fail)
              refine hK.out _ _ trivial (fun hHeld => ?_)
              clear hK K
              try simp only [Act.put, List.getElem_toArray, List.getElem_cons_zero, List.getElem_cons_succ, List.setIfInBounds_toArray, List.set_cons_zero, List.set_cons_succ]
              refine wpAnyH_ready (rs := [11]) (by kernel_rfl) (by simp) ?_
              refine AllReadyH.cons (o := _) rfl (fun K hK => ?_) (AllReadyH.nil)
              go_simp
              (with_reducible refine Calls.mono (HWi.out _ _ HbV.out HV10.out) ?_)
              rintro r V11 ⟨v11, rfl, hv, hx⟩
              replace HbV := hide (HbV.out.trans (hx.mono HbV.out.size))
              have HV11 := hide hv
              obtain ⟨g11, h11, rfl, -⟩ := hv.form
              clear hv hx HV10
              (try go_wp2_with fail)
              refine hK.out _ _ trivial (fun hHeld => ?_)
              clear hK K
              try simp only [Act.put, List.getElem_toArray, List.getElem_cons_zero, List.getElem_cons_succ, List.setIfInBounds_toArray, List.set_cons_zero, List.set_cons_succ]
              have cc := HCell.out _ HbV.out
              have c5 := cc.1
              have f5 := cc.2
              clear cc
              refine wpAnyH_take (i := 12) (oi := _) (v := ?_) rfl (by kernel_rfl) (by kernel_rfl) (by kernel_rfl) (fun _ _ _ h => h) (Or.inl ⟨by rfl, ?_⟩) (by assumption) ?_
              rotate_left 1
              · (intro w hSw; clear hSw; (first | (go_simp; done) | (go_simp; with_reducible rfl)))
              try simp only [Act.put, List.getElem_toArray, List.getElem_cons_zero, List.getElem_cons_succ, List.setIfInBounds_toArray, List.set_cons_zero, List.set_cons_succ]
              refine wpAnyH_ready (rs := [13]) (by kernel_rfl) (by simp) ?_
              refine AllReadyH.cons (o := _) rfl (fun K hK => ?_) AllReadyH.nil
              go_simp
              refine hK.out _ _ trivial (fun hHeld => ?_)
              clear hK K c5 f5
              try simp only [Act.put, List.getElem_toArray, List.getElem_cons_zero, List.getElem_cons_succ, List.setIfInBounds_toArray, List.set_cons_zero, List.set_cons_succ]
              refine wpAnyH_done (by kernel_rfl) ?_ _
              refine NoPanic.normal ?_
              clear hHeld
              have hq9 := HNew.out _ _ HbV.out HV11.out
              clear HNew HCell HbV HV11 HWi HWo HSs HOne cX9
              go_wp2_with fail
              exact ⟨⟨j + 1, _, by omega, by go_num, hq9.1, hq9.2.1, hq9.2.2.1, hq9.2.2.2⟩, by simp [intOf]; omega⟩
            · go_simp
              obtain ⟨V8, hV8, I8, hb8⟩ := HOne.out _
              rw [← hV8]
              have HI8 := hide I8
              replace HbV := hide (HbV.out.trans (hb8.mono HbV.out.size))
              clear hV8 I8 hb8
              refine hK.out _ _ trivial (fun hHeld => ?_)
              clear hK K
              try simp only [Act.put, List.getElem_toArray, List.getElem_cons_zero, List.getElem_cons_succ, List.setIfInBounds_toArray, List.set_cons_zero, List.set_cons_succ]
              refine wpAnyH_ready (rs := [5, 9]) (by kernel_rfl) (by simp) ?_
              refine AllReadyH.cons (o := _) rfl (fun K hK => ?_) (AllReadyH.cons (o := _) rfl (fun K hK => ?_) (AllReadyH.nil))
              · have cl := (HCell.out _ HbV.out).1
                go_simp
                clear cl
                refine hK.out _ _ trivial (fun hHeld => ?_)
                clear hK K
                try simp only [Act.put, List.getElem_toArray, List.getElem_cons_zero, List.getElem_cons_succ, List.setIfInBounds_toArray, List.set_cons_zero, List.set_cons_succ]
                refine wpAnyH_ready (rs := [9]) (by kernel_rfl) (by simp) ?_
                refine AllReadyH.cons (o := _) rfl (fun K hK => ?_) (AllReadyH.nil)
                go_simp
                (with_reducible refine Calls.mono (HSs.out _ _ HI8.out) ?_)
                rintro r V9 ⟨v9, rfl, hv, hx⟩
                replace HbV := hide (HbV.out.trans (hx.mono HbV.out.size))
                have HV9 := hide hv
                obtain ⟨g9, h9, rfl, -⟩ := hv.form
                clear hv hx HI8
                (try go_wp2_with fail)
                refine hK.out _ _ trivial (fun hHeld => ?_)
                clear hK K
                try simp only [Act.put, List.getElem_toArray, List.getElem_cons_zero, List.getElem_cons_succ, List.setIfInBounds_toArray, List.set_cons_zero, List.set_cons_succ]
                refine wpAnyH_ready (rs := [10]) (by kernel_rfl) (by simp) ?_
                refine AllReadyH.cons (o := _) rfl (fun K hK => ?_) (AllReadyH.nil)
                go_simp
                (with_reducible refine Calls.mono (HWo.out _ _ HbV.out HV9.out) ?_)
                rintro r V10 ⟨v10, rfl, hv, hx⟩
                replace HbV := hide (HbV.out.trans (hx.mono HbV.out.size))
                have HV10 := hide hv
                obtain ⟨g10, h10, rfl, -⟩ := hv.form
                clear hv hx HV9
                (try go_wp2_with fail)
                refine hK.out _ _ trivial (fun hHeld => ?_)
                clear hK K
                try simp only [Act.put, List.getElem_toArray, List.getElem_cons_zero, List.getElem_cons_succ, List.setIfInBounds_toArray, List.set_cons_zero, List.set_cons_succ]
                refine wpAnyH_ready (rs := [11]) (by kernel_rfl) (by simp) ?_
                refine AllReadyH.cons (o := _) rfl (fun K hK => ?_) (AllReadyH.nil)
                go_simp
                (with_reducible refine Calls.mono (HWi.out _ _ HbV.out HV10.out) ?_)
                rintro r V11 ⟨v11, rfl, hv, hx⟩
                replace HbV := hide (HbV.out.trans (hx.mono HbV.out.size))
                have HV11 := hide hv
                obtain ⟨g11, h11, rfl, -⟩ := hv.form
                clear hv hx HV10
                (try go_wp2_with fail)
                refine hK.out _ _ trivial (fun hHeld => ?_)
                clear hK K
                try simp only [Act.put, List.getElem_toArray, List.getElem_cons_zero, List.getElem_cons_succ, List.setIfInBounds_toArray, List.set_cons_zero, List.set_cons_succ]
                have cc := HCell.out _ HbV.out
                have c5 := cc.1
                have f5 := cc.2
                clear cc
                refine wpAnyH_take (i := 12) (oi := _) (v := ?_) rfl (by kernel_rfl) (by kernel_rfl) (by kernel_rfl) (fun _ _ _ h => h) (Or.inl ⟨by rfl, ?_⟩) (by assumption) ?_
                rotate_left 1
                · (intro w hSw; clear hSw; (first | (go_simp; done) | (go_simp; with_reducible rfl)))
                try simp only [Act.put, List.getElem_toArray, List.getElem_cons_zero, List.getElem_cons_succ, List.setIfInBounds_toArray, List.set_cons_zero, List.set_cons_succ]
                refine wpAnyH_ready (rs := [13]) (by kernel_rfl) (by simp) ?_
                refine AllReadyH.cons (o := _) rfl (fun K hK => ?_) AllReadyH.nil
                go_simp
                refine hK.out _ _ trivial (fun hHeld => ?_)
                clear hK K c5 f5
                try simp only [Act.put, List.getElem_toArray, List.getElem_cons_zero, List.getElem_cons_succ, List.setIfInBounds_toArray, List.set_cons_zero, List.set_cons_succ]
                refine wpAnyH_done (by kernel_rfl) ?_ _
                refine NoPanic.normal ?_
                clear hHeld
                have hq9 := HNew.out _ _ HbV.out HV11.out
                clear HNew HCell HbV HV11 HWi HWo HSs HOne cX9
                go_wp2_with fail
                exact ⟨⟨j + 1, _, by omega, by go_num, hq9.1, hq9.2.1, hq9.2.2.1, hq9.2.2.2⟩, by simp [intOf]; omega⟩
              · go_simp
                (with_reducible refine Calls.mono (HSs.out _ _ HI8.out) ?_)
                rintro r V9 ⟨v9, rfl, hv, hx⟩
                replace HbV := hide (HbV.out.trans (hx.mono HbV.out.size))
                have HV9 := hide hv
                obtain ⟨g9, h9, rfl, -⟩ := hv.form
                clear hv hx HI8
                (try go_wp2_with fail)
                refine hK.out _ _ trivial (fun hHeld => ?_)
                clear hK K
                try simp only [Act.put, List.getElem_toArray, List.getElem_cons_zero, List.getElem_cons_succ, List.setIfInBounds_toArray, List.set_cons_zero, List.set_cons_succ]
                refine wpAnyH_ready (rs := [5, 10]) (by kernel_rfl) (by simp) ?_
                refine AllReadyH.cons (o := _) rfl (fun K hK => ?_) (AllReadyH.cons (o := _) rfl (fun K hK => ?_) (AllReadyH.nil))
                · have cl := (HCell.out _ HbV.out).1
                  go_simp
                  clear cl
                  refine hK.out _ _ trivial (fun hHeld => ?_)
                  clear hK K
                  try simp only [Act.put, List.getElem_toArray, List.getElem_cons_zero, List.getElem_cons_succ, List.setIfInBounds_toArray, List.set_cons_zero, List.set_cons_succ]
                  refine wpAnyH_ready (rs := [10]) (by kernel_rfl) (by simp) ?_
                  refine AllReadyH.cons (o := _) rfl (fun K hK => ?_) (AllReadyH.nil)
                  go_simp
                  (with_reducible refine Calls.mono (HWo.out _ _ HbV.out HV9.out) ?_)
                  rintro r V10 ⟨v10, rfl, hv, hx⟩
                  replace HbV := hide (HbV.out.trans (hx.mono HbV.out.size))
                  have HV10 := hide hv
                  obtain ⟨g10, h10, rfl, -⟩ := hv.form
                  clear hv hx HV9
                  (try go_wp2_with fail)
                  refine hK.out _ _ trivial (fun hHeld => ?_)
                  clear hK K
                  try simp only [Act.put, List.getElem_toArray, List.getElem_cons_zero, List.getElem_cons_succ, List.setIfInBounds_toArray, List.set_cons_zero, List.set_cons_succ]
                  refine wpAnyH_ready (rs := [11]) (by kernel_rfl) (by simp) ?_
                  refine AllReadyH.cons (o := _) rfl (fun K hK => ?_) (AllReadyH.nil)
                  go_simp
                  (with_reducible refine Calls.mono (HWi.out _ _ HbV.out HV10.out) ?_)
                  rintro r V11 ⟨v11, rfl, hv, hx⟩
                  replace HbV := hide (HbV.out.trans (hx.mono HbV.out.size))
                  have HV11 := hide hv
                  obtain ⟨g11, h11, rfl, -⟩ := hv.form
                  clear hv hx HV10
                  (try go_wp2_with fail)
                  refine hK.out _ _ trivial (fun hHeld => ?_)
                  clear hK K
                  try simp only [Act.put, List.getElem_toArray, List.getElem_cons_zero, List.getElem_cons_succ, List.setIfInBounds_toArray, List.set_cons_zero, List.set_cons_succ]
                  have cc := HCell.out _ HbV.out
                  have c5 := cc.1
                  have f5 := cc.2
                  clear cc
                  refine wpAnyH_take (i := 12) (oi := _) (v := ?_) rfl (by kernel_rfl) (by kernel_rfl) (by kernel_rfl) (fun _ _ _ h => h) (Or.inl ⟨by rfl, ?_⟩) (by assumption) ?_
                  rotate_left 1
                  · (intro w hSw; clear hSw; (first | (go_simp; done) | (go_simp; with_reducible rfl)))
                  try simp only [Act.put, List.getElem_toArray, List.getElem_cons_zero, List.getElem_cons_succ, List.setIfInBounds_toArray, List.set_cons_zero, List.set_cons_succ]
                  refine wpAnyH_ready (rs := [13]) (by kernel_rfl) (by simp) ?_
                  refine AllReadyH.cons (o := _) rfl (fun K hK => ?_) AllReadyH.nil
                  go_simp
                  refine hK.out _ _ trivial (fun hHeld => ?_)
                  clear hK K c5 f5
                  try simp only [Act.put, List.getElem_toArray, List.getElem_cons_zero, List.getElem_cons_succ, List.setIfInBounds_toArray, List.set_cons_zero, List.set_cons_succ]
                  refine wpAnyH_done (by kernel_rfl) ?_ _
                  refine NoPanic.normal ?_
                  clear hHeld
                  have hq9 := HNew.out _ _ HbV.out HV11.out
                  clear HNew HCell HbV HV11 HWi HWo HSs HOne cX9
                  go_wp2_with fail
                  exact ⟨⟨j + 1, _, by omega, by go_num, hq9.1, hq9.2.1, hq9.2.2.1, hq9.2.2.2⟩, by simp [intOf]; omega⟩
                · go_simp
                  (with_reducible refine Calls.mono (HWo.out _ _ HbV.out HV9.out) ?_)
                  rintro r V10 ⟨v10, rfl, hv, hx⟩
                  replace HbV := hide (HbV.out.trans (hx.mono HbV.out.size))
                  have HV10 := hide hv
                  obtain ⟨g10, h10, rfl, -⟩ := hv.form
                  clear hv hx HV9
                  (try go_wp2_with fail)
                  refine hK.out _ _ trivial (fun hHeld => ?_)
                  clear hK K
                  try simp only [Act.put, List.getElem_toArray, List.getElem_cons_zero, List.getElem_cons_succ, List.setIfInBounds_toArray, List.set_cons_zero, List.set_cons_succ]
                  refine wpAnyH_ready (rs := [5]) (by kernel_rfl) (by simp) ?_
                  refine AllReadyH.cons (o := _) rfl (fun K hK => ?_) (AllReadyH.nil)
                  have cl := (HCell.out _ HbV.out).1
                  go_simp
                  clear cl
                  refine hK.out _ _ trivial (fun hHeld => ?_)
                  clear hK K
                  try simp only [Act.put, List.getElem_toArray, List.getElem_cons_zero, List.getElem_cons_succ, List.setIfInBounds_toArray, List.set_cons_zero, List.set_cons_succ]
                  refine wpAnyH_ready (rs := [11]) (by kernel_rfl) (by simp) ?_
                  refine AllReadyH.cons (o := _) rfl (fun K hK => ?_) (AllReadyH.nil)
                  go_simp
                  (with_reducible refine Calls.mono (HWi.out _ _ HbV.out HV10.out) ?_)
                  rintro r V11 ⟨v11, rfl, hv, hx⟩
                  replace HbV := hide (HbV.out.trans (hx.mono HbV.out.size))
                  have HV11 := hide hv
                  obtain ⟨g11, h11, rfl, -⟩ := hv.form
                  clear hv hx HV10
                  (try go_wp2_with fail)
                  refine hK.out _ _ trivial (fun hHeld => ?_)
                  clear hK K
                  try simp only [Act.put, List.getElem_toArray, List.getElem_cons_zero, List.getElem_cons_succ, List.setIfInBounds_toArray, List.set_cons_zero, List.set_cons_succ]
                  have cc := HCell.out _ HbV.out
                  have c5 := cc.1
                  have f5 := cc.2
                  clear cc
                  refine wpAnyH_take (i := 12) (oi := _) (v := ?_) rfl (by kernel_rfl) (by kernel_rfl) (by kernel_rfl) (fun _ _ _ h => h) (Or.inl ⟨by rfl, ?_⟩) (by assumption) ?_
                  rotate_left 1
                  · (intro w hSw; clear hSw; (first | (go_simp; done) | (go_simp; with_reducible rfl)))
                  try simp only [Act.put, List.getElem_toArray, List.getElem_cons_zero, List.getElem_cons_succ, List.setIfInBounds_toArray, List.set_cons_zero, List.set_cons_succ]
                  refine wpAnyH_ready (rs := [13]) (by kernel_rfl) (by simp) ?_
                  refine AllReadyH.cons (o := _) rfl (fun K hK => ?_) AllReadyH.nil
                  go_simp
                  refine hK.out _ _ trivial (fun hHeld => ?_)
                  clear hK K c5 f5
                  try simp only [Act.put, List.getElem_toArray, List.getElem_cons_zero, List.getElem_cons_succ, List.setIfInBounds_toArray, List.set_cons_zero, List.set_cons_succ]
                  refine wpAnyH_done (by kernel_rfl) ?_ _
                  refine NoPanic.normal ?_
                  clear hHeld
                  have hq9 := HNew.out _ _ HbV.out HV11.out
                  clear HNew HCell HbV HV11 HWi HWo HSs HOne cX9
                  go_wp2_with fail
                  exact ⟨⟨j + 1, _, by omega, by go_num, hq9.1, hq9.2.1, hq9.2.2.1, hq9.2.2.2⟩, by simp [intOf]; omega⟩
          · obtain rfl : j = mk := by omega
            have HRe := hide (HRS.out.to HNx.out)
            clear HRS HNv HNx
            go_wp2_with fail
            exact ⟨⟨k + 1, Ls, by omega, by go_num, HQ.out, HRe.out, HO.out, HB.out⟩, by simp [intOf]; omega⟩
      · obtain rfl : k = nd := by omega
        have HE : Hid (Ls = clL M) := hide (RS.done (by rw [HMl.out]; exact HRS.out))
        have HC := hide (listsOfSets_any Z 8 Ls wr HQ.out (by rw [HRS.out.1]; omega) HRS.out.r8)
        have hL8 := HRS.out.1
        rw [hL8] at HC
        clear HRS HM8 hL8
        go_wp2_with fail
        refine Calls.mono HC.out ?_
        rintro e w7 ⟨v7, rfl, hO, hb⟩
        have HO7 := hide (hO.lower HB.out.size)
        obtain ⟨va, vc, rfl⟩ := hO.form
        have HB7 := hide (HB.out.trans (hb.mono HB.out.size))
        clear hO hb HC
        go_wp2_with fail
        exact bodyPost_ret (v := .tuple #[(.slice va Ls.length vc), .bool true]) (by simp [results, Try.results7, go_sem]) rfl ⟨_, by rw [HGe.out], by rw [HR.out, ← HE.out]; exact HO7.out, HB7.out⟩
  · have hgf : goodF D F = false := by simpa using hg
    have HR := hide (clR_no hgf)
    have HGe := hide hgf
    rw [hgf]
    clear hg hgf
    go_wp2_with fail
    exact bodyPost_ret (v := .tuple #[.slice none 0 0, .bool false]) (by simp [results, Try.results7, go_sem]) rfl ⟨_, by rw [HGe.out], by rw [HR.out]; exact OO.nil _ _, HB1.out⟩
end Go.Proofs.Ytaniiolphghhiab.W
