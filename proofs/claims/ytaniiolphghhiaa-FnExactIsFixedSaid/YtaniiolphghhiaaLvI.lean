/-
  The program's LiveIn, LiveOut and DeadSets. Conditions: none but those that each theorem states.
-/
import Derived.Test.YtaniiolphghhiaaLvL
import Derived.Test.YtaniiolphghhiaaLvG
namespace Go.Proofs.Ytaniiolphghhiaa.W
open Go.ChangeShapes Go.WideShapes Go.ChangeAt Go.RowKit Go.Joins
set_option linter.unusedVariables false
set_option linter.unusedSimpArgs false
set_option maxRecDepth 20000

/-- What LiveIn, LiveOut and DeadSets tell. -/
noncomputable def liR (D F : List (List Int)) : List (List Int) := if goodF D F = true then lvR D F else []
noncomputable def loR (D F : List (List Int)) : List (List Int) := if goodF D F = true then ous D (lvR D F) else []
noncomputable def deL (D F : List (List Int)) : List (List Int) := (List.range D.length).map fun k => woL (fs F k) (ou D (lvR D F) k)
noncomputable def deR (D F : List (List Int)) : List (List Int) := if goodF D F = true then deL D F else []
theorem mapLst_sm {f : Nat → Nat → Bool} {n : Nat} (hn : n ≤ 12) : ((List.range n).map fun k => lst (f k) 8).length ≤ 600 ∧ ∀ l ∈ (List.range n).map (fun k => lst (f k) 8), l.length ≤ 600 :=
  ⟨by simp; omega, fun l hl => by
    obtain ⟨k, -, rfl⟩ := List.mem_map.1 hl
    have := lst_len (f k) 8
    omega⟩
theorem liR_sm (D F : List (List Int)) : (liR D F).length ≤ 600 ∧ ∀ l ∈ liR D F, l.length ≤ 600 := by
  unfold liR
  split
  · rename_i h; exact mapLst_sm (goodF_iff.1 h).1.2.1
  · simp
theorem loR_sm (D F : List (List Int)) : (loR D F).length ≤ 600 ∧ ∀ l ∈ loR D F, l.length ≤ 600 := by
  unfold loR
  split
  · rename_i h; exact mapLst_sm (goodF_iff.1 h).1.2.1
  · simp
theorem deR_sm (D F : List (List Int)) : (deR D F).length ≤ 600 ∧ ∀ l ∈ deR D F, l.length ≤ 600 := by
  unfold deR
  split
  · rename_i h; exact mapLst_sm (goodF_iff.1 h).1.2.1
  · simp
theorem liR_yes {D F : List (List Int)} (h : goodF D F = true) : liR D F = lvR D F := by simp [liR, h]
theorem loR_yes {D F : List (List Int)} (h : goodF D F = true) : loR D F = ous D (lvR D F) := by simp [loR, h]
theorem deR_yes {D F : List (List Int)} (h : goodF D F = true) : deR D F = deL D F := by simp [deR, h]
theorem liR_no {D F : List (List Int)} (h : goodF D F = false) : liR D F = [] := by simp [liR, h]
theorem loR_no {D F : List (List Int)} (h : goodF D F = false) : loR D F = [] := by simp [loR, h]
theorem deR_no {D F : List (List Int)} (h : goodF D F = false) : deR D F = [] := by simp [deR, h]
theorem lvR_r8 (D F : List (List Int)) (k : Nat) : R8 (row (lvR D F) k) := by
  by_cases h : k < (lvR D F).length
  · rw [row_at h]; simp only [lvR, List.getElem_map]; exact lst_r8 _
  · rw [row_out h]; exact r8_nil
theorem ous_r8 (D L : List (List Int)) (k : Nat) : R8 (row (ous D L) k) := by
  by_cases h : k < (ous D L).length
  · rw [row_at h]; simp only [ous, List.getElem_map]; exact lst_r8 _
  · rw [row_out h]; exact r8_nil
theorem ous_row {D L : List (List Int)} {k : Nat} (h : k < D.length) : row (ous D L) k = ou D L k := by
  rw [row_at (by rw [ous_len]; exact h)]; simp [ous]

set_option maxHeartbeats 4000000 in
theorem implLiveIn_any (v : Value) (D : List (List Int)) (n : Nat) (F : List (List Int)) (w : World) (h : FRow w v D n F) :
    Calls Try.prog 15 #[v] w fun e w' => ∃ v', e = .returned (.tuple #[v', .bool (goodF D F)]) ∧ OO w' w.heap.size v' (liR D F) ∧ Below w.heap.size w w' := by
  have HGf := hide (fun (w' : World) (hb : Below w.heap.size w w') => implGoodF_any v D n F w' (h.below hb))
  have HLi := hide (fun (w' : World) (hb : Below w.heap.size w w') (hf : GF D F) => liveIn_any v D n F w' (h.below hb) hf)
  obtain ⟨ad, c, bd, bc, rfl, -⟩ := h
  obtain ⟨nd, hnd⟩ : ∃ nd, nd = D.length := ⟨_, rfl⟩
  have hB0 : Below w.heap.size w (w.alloc (.cells #[.slice ad D.length c, .slice bd n bc] 33)) := (Below.refl _ _).alloc (Nat.le_refl _) _
  have HX := hide (Bx.new w #[.slice ad D.length c, .slice bd n bc] 33)
  rw [← hnd] at HX hB0 HGf HLi ⊢
  have HND := hide hnd
  clear hnd
  go_enter Try.func15, Try.ntmps15
  go_upto_region 1 with fail
  obtain ⟨W1, hW1⟩ : ∃ W1, W1 = w.alloc (.cells #[.slice ad nd c, .slice bd n bc] 33) := ⟨_, rfl⟩
  obtain ⟨X, hX⟩ : ∃ X, X = w.heap.size := ⟨_, rfl⟩
  rw [← hW1] at HX hB0 ⊢
  rw [← hX] at HX ⊢
  clear hW1 hX
  have cX := HX.out.c
  go_wp2_with fail
  refine Calls.mono (HGf.out _ hB0) ?_
  rintro e w1 ⟨rfl, hb⟩
  have HB1 := hide (hB0.trans (hb.mono hB0.size))
  have HX1 := hide (HX.out.below hb HX.out.lt)
  clear cX hb HGf hB0 HX
  have cX := HX1.out.c
  by_cases hg : goodF D F = true
  · have HF := hide (goodF_iff.1 hg)
    have HR := hide (liR_yes hg)
    have HGe := hide hg
    rw [hg]
    clear hg
    go_wp2_with fail
    refine Calls.mono (HLi.out _ HB1.out HF.out) ?_
    rintro e w2 ⟨Z, rfl, -, hQ, hb⟩
    have HQ := hide hQ
    have HB2 := hide (HB1.out.trans (hb.mono HB1.out.size))
    have hl : (lvR D F).length = nd := by rw [lvR_len, HND.out]
    have hn12 : nd ≤ 12 := by rw [HND.out]; exact HF.out.1.2.1
    have HC := hide (listsOfSets_any Z nd (lvR D F) w2 HQ.out (by rw [hl]; omega) (lvR_r8 D F))
    rw [hl] at HC
    clear cX hQ hb HX1 HLi hl
    go_wp2_with fail
    refine Calls.mono HC.out ?_
    rintro e w3 ⟨v', rfl, hO, hb⟩
    have HO := hide (hO.lower HB2.out.size)
    obtain ⟨va, vc, rfl⟩ := hO.form
    have HB3 := hide (HB2.out.trans (hb.mono HB2.out.size))
    clear hO hb HC
    go_wp2_with fail
    exact bodyPost_ret (v := .tuple #[.slice va (lvR D F).length vc, .bool true]) (by simp [results, Try.results15, go_sem]) rfl ⟨_, by rw [HGe.out], by rw [HR.out]; exact HO.out, HB3.out⟩
  · have hgf : goodF D F = false := by simpa using hg
    have HR := hide (liR_no hgf)
    have HGe := hide hgf
    rw [hgf]
    clear hg hgf
    go_wp2_with fail
    exact bodyPost_ret (v := .tuple #[.slice none 0 0, .bool false]) (by simp [results, Try.results15, go_sem]) rfl ⟨_, by rw [HGe.out], by rw [HR.out]; exact OO.nil _ _, HB1.out⟩

set_option maxHeartbeats 8000000 in
theorem implLiveOut_any (v : Value) (D : List (List Int)) (n : Nat) (F : List (List Int)) (w : World) (h : FRow w v D n F) :
    Calls Try.prog 21 #[v] w fun e w' => ∃ v', e = .returned (.tuple #[v', .bool (goodF D F)]) ∧ OO w' w.heap.size v' (loR D F) ∧ Below w.heap.size w w' := by
  have HGf := hide (fun (w' : World) (hb : Below w.heap.size w w') => implGoodF_any v D n F w' (h.below hb))
  have HLi := hide (fun (w' : World) (hb : Below w.heap.size w w') (hf : GF D F) => liveIn_any v D n F w' (h.below hb) hf)
  have HAh := hide (fun (Z : Nat) (w' : World) (hb : Below w.heap.size w w') (hf : GF D F) (hQ : QSS w' Z (lvR D F)) => ahead_any v D n F (lvR D F) Z D.length w' (h.below hb) hf.1 hQ (lvR_len D F) (lvR_r8 D F))
  obtain ⟨ad, c, bd, bc, rfl, -⟩ := h
  obtain ⟨nd, hnd⟩ : ∃ nd, nd = D.length := ⟨_, rfl⟩
  have hB0 : Below w.heap.size w (w.alloc (.cells #[.slice ad D.length c, .slice bd n bc] 33)) := (Below.refl _ _).alloc (Nat.le_refl _) _
  have HX := hide (Bx.new w #[.slice ad D.length c, .slice bd n bc] 33)
  rw [← hnd] at HX hB0 HGf HLi HAh ⊢
  have HND := hide hnd
  clear hnd
  go_enter Try.func21, Try.ntmps21
  go_upto_region 1 with fail
  obtain ⟨W1, hW1⟩ : ∃ W1, W1 = w.alloc (.cells #[.slice ad nd c, .slice bd n bc] 33) := ⟨_, rfl⟩
  obtain ⟨X, hX⟩ : ∃ X, X = w.heap.size := ⟨_, rfl⟩
  rw [← hW1] at HX hB0 ⊢
  rw [← hX] at HX ⊢
  clear hW1 hX
  have cX := HX.out.c
  go_wp2_with fail
  refine Calls.mono (HGf.out _ hB0) ?_
  rintro e w1 ⟨rfl, hb⟩
  have HB1 := hide (hB0.trans (hb.mono hB0.size))
  have HX1 := hide (HX.out.below hb HX.out.lt)
  clear cX hb HGf hB0 HX
  have cX := HX1.out.c
  by_cases hg : goodF D F = true
  · have HF := hide (goodF_iff.1 hg)
    have HR := hide (loR_yes hg)
    have hn12 : nd ≤ 12 := by rw [HND.out]; exact (goodF_iff.1 hg).1.2.1
    have HLs := hide (fun (Z : Nat) (w' : World) (hQ : QSS w' Z (ous D (lvR D F))) => listsOfSets_any Z nd (ous D (lvR D F)) w' hQ (by rw [ous_len, ← HND.out]; omega) (ous_r8 D (lvR D F)))
    rw [ous_len, ← HND.out] at HLs
    have HGe := hide hg
    rw [hg]
    clear hg
    go_wp2_with fail
    have HXc : Hid (∀ w', Below w1.heap.size w1 w' → ∀ o, w'.cell? ⟨X, o, none⟩ = #[Value.slice ad nd c, .slice bd n bc][o]?) := hide (fun w' hb => (HX1.out.below hb HX1.out.lt).c)
    go_region_with (first
      | (with_reducible refine Calls.mono (HLs.out _ _ HQ2.out) ?_); rintro e w4 ⟨v', rfl, hO, hb⟩; have HO := hide (hO.lower HB3.out.size); obtain ⟨va, vc, rfl⟩ := hO.form; have HB4 := hide (HB3.out.trans (hb.mono HB3.out.size)); clear hO hb
      | (with_reducible refine Calls.mono (HAh.out _ _ HB2.out HF.out HQ.out) ?_); rintro e w3 ⟨Z2, rfl, -, hQ2, hb⟩; have HQ2 := hide hQ2; have HB3 := hide (HB2.out.trans (hb.mono HB2.out.size)); clear hQ2 hb
      | (with_reducible refine Calls.mono (HLi.out _ (belowDrwK HB1.out) HF.out) ?_); rintro e w2 ⟨Z, rfl, -, hQ, hb⟩; have HQ := hide hQ; have HB2 := hide (HB1.out.trans ((show Below w1.heap.size w1 w2 from ⟨hb.os, hb.tape, hb.output, hb.size, hb.block⟩).mono HB1.out.size)); have cX2 := HXc.out w2 ⟨hb.os, hb.tape, hb.output, hb.size, hb.block⟩; clear hQ hb)
    all_goals
      clear cX cX2
      go_wp2_with fail
      exact bodyPost_ret (v := .tuple #[.slice va (ous D (lvR D F)).length vc, .bool true]) (by simp [results, Try.results21, go_sem]) rfl ⟨_, by rw [HGe.out], by rw [HR.out]; exact HO.out, HB4.out⟩
  · have hgf : goodF D F = false := by simpa using hg
    have HR := hide (loR_no hgf)
    have HGe := hide hgf
    rw [hgf]
    clear hg hgf
    go_wp2_with fail
    exact bodyPost_ret (v := .tuple #[.slice none 0 0, .bool false]) (by simp [results, Try.results21, go_sem]) rfl ⟨_, by rw [HGe.out], by rw [HR.out]; exact OO.nil _ _, HB1.out⟩
set_option maxHeartbeats 8000000 in
theorem implDead_any (v : Value) (D : List (List Int)) (n : Nat) (F : List (List Int)) (w : World) (h : FRow w v D n F) :
    Calls Try.prog 27 #[v] w fun e w' => ∃ v', e = .returned (.tuple #[v', .bool (goodF D F)]) ∧ OO w' w.heap.size v' (deR D F) ∧ Below w.heap.size w w' := by
  have HGf := hide (fun (w' : World) (hb : Below w.heap.size w w') => implGoodF_any v D n F w' (h.below hb))
  have HLi := hide (fun (w' : World) (hb : Below w.heap.size w w') (hf : GF D F) => liveIn_any v D n F w' (h.below hb) hf)
  have HAh := hide (fun (Z : Nat) (w' : World) (hb : Below w.heap.size w w') (hf : GF D F) (hQ : QSS w' Z (lvR D F)) => ahead_any v D n F (lvR D F) Z D.length w' (h.below hb) hf.1 hQ (lvR_len D F) (lvR_r8 D F))
  obtain ⟨ad, c, bd, bc, rfl, -, -, -, hRF, -, -, hF2⟩ := h
  have HRF := hide hRF
  have HF2 := hide hF2
  clear hRF hF2
  obtain ⟨nd, hnd⟩ : ∃ nd, nd = D.length := ⟨_, rfl⟩
  have hB0 : Below w.heap.size w (w.alloc (.cells #[.slice ad D.length c, .slice bd n bc] 33)) := (Below.refl _ _).alloc (Nat.le_refl _) _
  have HX := hide (Bx.new w #[.slice ad D.length c, .slice bd n bc] 33)
  rw [← hnd] at HX hB0 HGf HLi HAh ⊢
  have HND := hide hnd
  clear hnd
  go_enter Try.func27, Try.ntmps27
  go_upto_region 1 with fail
  obtain ⟨W1, hW1⟩ : ∃ W1, W1 = w.alloc (.cells #[.slice ad nd c, .slice bd n bc] 33) := ⟨_, rfl⟩
  obtain ⟨X, hX⟩ : ∃ X, X = w.heap.size := ⟨_, rfl⟩
  rw [← hW1] at HX hB0 ⊢
  rw [← hX] at HX ⊢
  clear hW1 hX
  have cX := HX.out.c
  go_wp2_with fail
  refine Calls.mono (HGf.out _ hB0) ?_
  rintro e w1 ⟨rfl, hb⟩
  have HB1 := hide (hB0.trans (hb.mono hB0.size))
  have HX1 := hide (HX.out.below hb HX.out.lt)
  clear cX hb HGf hB0 HX
  have cX := HX1.out.c
  by_cases hg : goodF D F = true
  · have HF := hide (goodF_iff.1 hg)
    have HR := hide (deR_yes hg)
    have hn12 : nd ≤ 12 := by rw [HND.out]; exact (goodF_iff.1 hg).1.2.1
    have HXc : Hid (∀ w', Below w1.heap.size w1 w' → ∀ o, w'.cell? ⟨X, o, none⟩ = #[Value.slice ad nd c, .slice bd n bc][o]?) := hide (fun w' hb => (HX1.out.below hb HX1.out.lt).c)
    have HNn : Hid (n = nd) := hide (by rw [HND.out]; have := (goodF_iff.1 hg).2.1; have := HF2.out; omega)
    have HGe := hide hg
    rw [hg]
    clear hg
    go_wp2_with fail
    go_region_with (first
      | (with_reducible refine Calls.mono (HAh.out _ _ HB2.out HF.out HQ.out) ?_); rintro e w3 ⟨Z2, rfl, hZ2, hQ2, hb⟩; have HQ2 := hide hQ2; have HB3 := hide (HB2.out.trans (hb.mono HB2.out.size)); have HX3 := hide (HX2.out.below hb HX2.out.lt); have hz2 : X < Z2 := Nat.lt_of_lt_of_le HX2.out.lt hZ2; have hzw : w.heap.size ≤ Z2 := Nat.le_trans HB2.out.size hZ2; clear hQ2 hb hZ2
      | (with_reducible refine Calls.mono (HLi.out _ (belowDrwK HB1.out) HF.out) ?_); rintro e w2 ⟨Z, rfl, -, hQ, hb⟩; have HQ := hide hQ; have HX2 := hide (HX1.out.below (show Below w1.heap.size w1 w2 from ⟨hb.os, hb.tape, hb.output, hb.size, hb.block⟩) HX1.out.lt); have HB2 := hide (HB1.out.trans ((show Below w1.heap.size w1 w2 from ⟨hb.os, hb.tape, hb.output, hb.size, hb.block⟩).mono HB1.out.size)); have cX2 := HXc.out w2 ⟨hb.os, hb.tape, hb.output, hb.size, hb.block⟩; clear hQ hb)
    all_goals
      clear cX cX2 HX1 HX2 HXc HB1 HB2 HQ HAh HLi
      go_wp2_with fail
      go_loopw [16] (fun i w' => ∃ (j : Nat) (Ls : List (List Int)), j ≤ nd ∧ i = .int .i64 j ∧ QSS w' Z2 Ls ∧ Ls.length = nd ∧ (∀ q, q < j → row Ls q = woL (fs F q) (ou D (lvR D F) q)) ∧ (∀ q, j ≤ q → row Ls q = row (ous D (lvR D F)) q) ∧ Bx w' X #[.slice ad nd c, .slice bd n bc] 33 ∧ Below w.heap.size w w') (fun i _ => nd - (intOf i).toNat)
      case atStart => exact ⟨0, _, by omega, rfl, HQ2.out, by rw [ous_len, HND.out], by intros; omega, fun q _ => rfl, HX3.out, HB3.out⟩
      case round =>
        clear HQ2 HB3 HX3
        obtain ⟨j, Ls, hj, rfl, hQ, hLs, hlo, hhi, hx, hB⟩ := hrel
        have HQ := hide hQ
        have HLo := hide hlo
        have HHi := hide hhi
        have HB := hide hB
        have HX := hide hx
        have HLs9 := hide hLs
        clear hQ hlo hhi hB hLs hx
        by_cases hlt : j < nd
        · have hlt' : (j : Int) < (nd : Int) := by omega
          have hj0 : (0 : Int) ≤ (j : Int) := by omega
          have hjD : j < D.length := by rw [← HND.out]; exact hlt
          have hjn : j < n := by have := HNn.out; omega
          have hjn' : (j : Int) < (n : Int) := by omega
          obtain ⟨b, o, a0, c0, a1, c1, rfl, hb0, p0, p1, r0, r1, -, -⟩ := QRow.two HRF.out HB.out HF2.out hjn
          have R1 : R8 (fs F j) := HF.out.r8 (2 * j + 1)
          obtain ⟨vj, cj, nvj⟩ := HQ.out.at (q := j) (by rw [HLs9.out]; exact hlt)
          have ej : row Ls j = ou D (lvR D F) j := by rw [HHi.out j (Nat.le_refl _), ous_row hjD]
          rw [← row_at (by rw [HLs9.out]; exact hlt), ej] at nvj
          have l1 := r8_len R1
          obtain ⟨ss, hss⟩ : ∃ ss, ss = fs F j := ⟨_, rfl⟩
          obtain ⟨oj, hoj⟩ : ∃ oj, oj = ou D (lvR D F) j := ⟨_, rfl⟩
          have Ro : R8 oj := by rw [hoj]; exact lst_r8 _
          have HEw : Hid (woL ss oj = woL (fs F j) (ou D (lvR D F) j)) := hide (by rw [hss, hoj])
          rw [← hss] at p1 r1 R1 l1
          rw [← hoj] at nvj
          clear hss hoj ej p0 r0
          obtain ⟨m1, hm1⟩ : ∃ m1, m1 = ss.length := ⟨_, rfl⟩
          have HT := hide (show IV wr (.slice a1 m1 c1) ss by rw [hm1]; exact ⟨_, _, rfl, r1, by omega⟩)
          rw [← hm1] at p1
          have HSs := hide (setOf_any (.slice a1 m1 c1) ss wr HT.out (by omega) R1.2)
          rw [r8_lst R1] at HSs
          have HWo := hide (fun (v1 : Value) (w1 : World) (hb : Below wr.heap.size wr w1) (hv : NV w1 v1 ss) => without_any v1 vj ss oj w1 hv (nvj.below hb) R1 Ro)
          rw [HEw.out] at HWo
          obtain ⟨aj, dj, ejj, -⟩ := nvj.form
          obtain ⟨mj, hmj⟩ : ∃ mj, mj = oj.length := ⟨_, rfl⟩
          rw [← hmj] at ejj
          subst ejj
          have hzl := HQ.out.lt
          have cX := HX.out.c
          clear nvj hm1 hmj r1 R1 Ro l1
          go_wp2_with fail
          refine Calls.mono HSs.out ?_
          rintro e w5 ⟨v5, rfl, hv5, hb5⟩
          have HV5 := hide hv5
          have Hb5 := hide hb5
          obtain ⟨g5, h5, rfl, -⟩ := hv5.form
          clear hv5 hb5 HSs
          go_wp2_with fail
          refine Calls.mono (HWo.out _ _ Hb5.out HV5.out) ?_
          rintro e w6 ⟨v6, rfl, hv6, hb6⟩
          have Hb6 := hide (Hb5.out.trans (hb6.mono Hb5.out.size))
          have c6 := (Hb6.out.cell (p := ⟨Z2, j, none⟩) hzl).trans cj
          have f6 := (HQ.out.below Hb6.out).f
          have HQn := hide ((HQ.out.below Hb6.out).set (i := j) (by rw [HLs9.out]; exact hlt) hv6)
          have HBn := hide ((HB.out.trans (Hb6.out.mono HB.out.size)).setCell (p := ⟨Z2, j, none⟩) hzw v6)
          have HXn := hide ((HX.out.below Hb6.out HX.out.lt).setne Z2 j v6 (by omega))
          have HRn : Hid (∀ q, row (Ls.set j (woL (fs F j) (ou D (lvR D F) j))) q = if q = j then woL (fs F j) (ou D (lvR D F) j) else row Ls q) := hide (fun q => row_set (by rw [HLs9.out]; exact hlt) _ q)
          have HLn2 : Hid ((Ls.set j (woL (fs F j) (ou D (lvR D F) j))).length = nd) := hide (by rw [List.length_set]; exact HLs9.out)
          obtain ⟨g6, h6, e6, -⟩ := hv6.form
          subst e6
          clear hv6 hb6 HWo HV5 Hb5 Hb6 cj cX p1 HQ HB HX
          go_wp2_with fail
          refine ⟨⟨j + 1, _, by omega, by go_num, HQn.out, HLn2.out, fun q hq => ?_, fun q hq => ?_, HXn.out, HBn.out⟩, by simp [intOf]; omega⟩
          · rw [HRn.out]
            by_cases e : q = j
            · rw [if_pos e, e]
            · rw [if_neg e]; exact HLo.out q (by omega)
          · rw [HRn.out, if_neg (by omega)]; exact HHi.out q (by omega)
        · obtain rfl : j = nd := by omega
          have HE : Hid (Ls = deL D F) := hide (by
            refine List.ext_getElem (by rw [HLs9.out, HND.out]; simp [deL]) (fun k h1 h2 => ?_)
            rw [← row_at h1, HLo.out k (by rw [← HLs9.out]; exact h1)]
            simp [deL])
          have hr8 : ∀ k, R8 (row Ls k) := fun k => by
            by_cases hk : k < Ls.length
            · rw [HLo.out k (by rw [← HLs9.out]; exact hk)]; exact lst_r8 _
            · rw [row_out hk]; exact r8_nil
          have HC := hide (listsOfSets_any Z2 j Ls wr HQ.out (by rw [HLs9.out]; omega) hr8)
          rw [HLs9.out] at HC
          clear hr8
          go_wp2_with fail
          refine Calls.mono HC.out ?_
          rintro e w7 ⟨v7, rfl, hO, hb⟩
          have HO := hide (hO.lower HB.out.size)
          obtain ⟨va, vc, rfl⟩ := hO.form
          have HB7 := hide (HB.out.trans (hb.mono HB.out.size))
          clear hO hb HC
          go_wp2_with fail
          exact bodyPost_ret (v := .tuple #[(.slice va Ls.length vc), .bool true]) (by simp [results, Try.results27, go_sem]) rfl ⟨_, by rw [HGe.out], by rw [HR.out, ← HE.out]; exact HO.out, HB7.out⟩
  · have hgf : goodF D F = false := by simpa using hg
    have HR := hide (deR_no hgf)
    have HGe := hide hgf
    rw [hgf]
    clear hg hgf
    go_wp2_with fail
    exact bodyPost_ret (v := .tuple #[.slice none 0 0, .bool false]) (by simp [results, Try.results27, go_sem]) rfl ⟨_, by rw [HGe.out], by rw [HR.out]; exact OO.nil _ _, HB1.out⟩
end Go.Proofs.Ytaniiolphghhiaa.W
