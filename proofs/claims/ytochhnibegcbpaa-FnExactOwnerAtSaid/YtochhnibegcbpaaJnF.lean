/-
  Frontiers of the program: frontiers, listsOf, FrontierOf. Conditions: none but those that each theorem states.
-/
import Derived.Test.YtochhnibegcbpaaJnP
namespace Go.Proofs.Ytochhnibegcbpaa.W
open Go.ChangeShapes Go.WideShapes Go.ChangeAt Go.RowKit Go.Joins
set_option linter.unusedVariables false
set_option linter.unusedSimpArgs false

theorem dA_mk2 (F : Nat → Nat → Bool) {b t : Nat} (hb : b < 12) (ht : t < 12) : (dA F).setIfInBounds (b * 12 + t) (.bool true) = dA (mk2 F b t) := by
  apply Array.ext_getElem?
  intro k
  rw [Array.getElem?_setIfInBounds, dA_size]
  by_cases e : b * 12 + t = k
  · subst e
    rw [if_pos rfl, if_pos (by omega), dA_cell _ hb ht, mk2_here]
  · rw [if_neg e]
    by_cases hk : k < 144
    · rw [dA_at _ hk, dA_at _ hk]
      congr 2
      unfold mk2
      by_cases e2 : k / 12 = b
      · subst e2
        rw [updR_same, upd_other _ _ _ (by omega)]
      · rw [updR_other _ _ _ e2]
    · rw [Array.getElem?_eq_none (by rw [dA_size]; omega), Array.getElem?_eq_none (by rw [dA_size]; omega)]
theorem fInfo : (Try.prog.info? 54).map (fun i => (i.zero, i.size)) = some (some (.agg (dA fun _ _ => false)), 144) := by kernel_rfl
theorem fSize : (Try.prog.info? 54).map (·.size) = some 144 := by kernel_rfl

set_option maxHeartbeats 8000000 in
theorem frontiers_any (v : Value) (L : List (List Int)) (w : World) (h : GRow w v L) (hg : GG L) :
    Calls Try.prog 38 #[v] w fun e w' => e = .returned (.agg (dA (fr L))) ∧ Below w.heap.size w w' := by
  obtain ⟨ad, c, rfl, hR, hs, hlc⟩ := h
  have hz := (zero_of_info dInfo).1
  have hzf := (zero_of_info fInfo).1
  obtain ⟨W1, hW1⟩ : ∃ W1, W1 = (w.alloc (.cells #[.slice ad L.length c] 28)).alloc (.cells (dA fun _ _ => false) 54) := ⟨_, rfl⟩
  have hB1 : Below w.heap.size w W1 := by rw [hW1]; exact ((Below.refl _ _).alloc (Nat.le_refl _) _).alloc (by simp) _
  have HX : Hid (Bx W1 w.heap.size #[.slice ad L.length c] 28) := hide (by rw [hW1]; exact (Bx.new w _ _).alloc _)
  have HX2 : Hid (Bx W1 (w.heap.size + 1) (dA fun _ _ => false) 54) := hide (by rw [hW1]; have := Bx.new (w.alloc (.cells #[.slice ad L.length c] 28)) (dA fun _ _ => false) 54; simpa using this)
  have HV : Hid (∀ w', Below w.heap.size w w' → GRow w' (.agg #[.slice ad L.length c]) L) := hide (fun w' hb => ⟨ad, c, rfl, hR.below hb, hs, hlc⟩)
  have HG := hide hg
  have hl12 := hg.2.1
  have HW1 := hide hW1
  clear hR hs hlc hg hW1
  go_enter Try.func38, Try.ntmps38
  go_upto_region 1 with fail
  rw [← HW1.out]
  have cx := HX.out.c
  have lx := HX.out.lt
  go_wp2_with fail
  refine Calls.mono (dominators_any _ L _ (HV.out _ hB1) HG.out) ?_
  rintro e w2 ⟨rfl, hb⟩
  have hB2 := hB1.trans (hb.mono hB1.size)
  have HXb := hide (HX.out.below hb HX.out.lt)
  have HX2b := hide (HX2.out.below hb HX2.out.lt)
  have hl2 : w.heap.size + 1 < w2.heap.size := HX2b.out.lt
  clear hb cx lx HX HX2 HW1 hB1
  have HX4 : Hid ((w2.alloc (.cells (dA fun _ _ => false) 65)).heap[w2.heap.size]? = some (.cells (dA fun _ _ => false) 65 (0, 0))) := hide (heap_alloc_new w2 _)
  go_upto_region 2 with (refine wpList_store_row rfl 65 _ _ rfl w2.heap.size _ rfl rfl 65 _ HX4.out (by rw [dA_size]; exact dSize) (by rw [dA_size, dA_size]) (dA_one _) ?_)
  rw [World.setRow_alloc_new]
  clear HX4
  go_upto_region 3 with fail
  obtain ⟨w3, hw3⟩ : ∃ w3, w3 = (w2.alloc (.cells (dA (dm L)) 65)).alloc (.cells (dA fun _ _ => false) 54) := ⟨_, rfl⟩
  rw [← hw3]
  have hB3 : Below w.heap.size w w3 := by rw [hw3]; exact (hB2.alloc hB2.size _).alloc (by have := hB2.size; simp; omega) _
  have HY3 : Hid (Bx w3 w2.heap.size (dA (dm L)) 65) := hide (by rw [hw3]; exact (Bx.new w2 _ _).alloc _)
  have HY4 : Hid (Bx w3 (w2.heap.size + 1) (dA fun _ _ => false) 54) := hide (by rw [hw3]; have := Bx.new (w2.alloc (.cells (dA (dm L)) 65)) (dA fun _ _ => false) 54; simpa using this)
  have HY1 : Hid (Bx w3 w.heap.size #[.slice ad L.length c] 28) := hide (by rw [hw3]; exact (HXb.out.alloc _).alloc _)
  have HY2 : Hid (Bx w3 (w.heap.size + 1) (dA fun _ _ => false) 54) := hide (by rw [hw3]; exact (HX2b.out.alloc _).alloc _)
  obtain ⟨B4, hB4⟩ : ∃ B4, B4 = w2.heap.size + 1 := ⟨_, rfl⟩
  obtain ⟨B3, hB3'⟩ : ∃ B3, B3 = w2.heap.size := ⟨_, rfl⟩
  obtain ⟨B2, hB2'⟩ : ∃ B2, B2 = w.heap.size + 1 := ⟨_, rfl⟩
  rw [← hB4] at HY4 ⊢
  rw [← hB3'] at HY3 ⊢
  rw [← hB2'] at HY2 ⊢
  have h2 : w.heap.size < B2 := by omega
  have h4 : w.heap.size < B4 := by omega
  have h24 : B2 ≠ B4 := by omega
  have h34 : B3 ≠ B4 := by omega
  clear hw3 hB4 hB3' hB2' HXb HX2b hB2 hl2
  have cx := HY1.out.c
  have lx := HY1.out.lt
  go_wp2_with fail
  refine Calls.mono (preds_any _ L _ (HV.out _ hB3) HG.out) ?_
  rintro e w5 ⟨v14, rfl, hO, hb⟩
  have hB5 := hB3.trans (hb.mono hB3.size)
  have HY35 := hide (HY3.out.below hb HY3.out.lt)
  have HY45 := hide (HY4.out.below hb HY4.out.lt)
  have HY25 := hide (HY2.out.below hb HY2.out.lt)
  have hl4 := HY4.out.lt
  have HO := hide hO
  obtain ⟨a14, c14, rfl⟩ := hO.form
  clear hb cx lx HY1 HY2 HY3 HY4 hB3 hO hz hzf
  have hpl := pds_len L
  rw [hpl]
  go_wp2_with fail
  clear hpl
  go_loopw [16] (fun i w' => ∃ (j : Nat) (F : Nat → Nat → Bool), j ≤ L.length ∧ i = .int .i64 j ∧ FI L F j ∧ Bx w' B4 (dA F) 54 ∧ Bx w' B3 (dA (dm L)) 65 ∧ Bx w' B2 (dA fun _ _ => false) 54 ∧ OO w' w3.heap.size (.slice a14 (pds L).length c14) (pds L) ∧ Below w.heap.size w w') (fun i _ => L.length - (intOf i).toNat)
  case atStart => exact ⟨0, _, by omega, rfl, FI.zero L, HY45.out, HY35.out, HY25.out, HO.out, hB5⟩
  case round =>
    clear HY45 HY35 HY25 HO hB5
    obtain ⟨j, F, hj, rfl, hF, hX4, hX3, hX2, hO, hB⟩ := hrel
    have HF := hide hF
    have HX4 := hide hX4
    have HX3 := hide hX3
    have HX2 := hide hX2
    have HO := hide hO
    have HB := hide hB
    clear hF hX4 hX3 hX2 hO hB
    by_cases hlt : j < L.length
    · have hlt' : (j : Int) < (L.length : Int) := by omega
      have hj12 : j < 12 := by omega
      have hj12' : (j : Int) < 12 := by omega
      obtain ⟨g, cap, x, e1, hgb, hgl, p1, o1⟩ := HO.out.elem (j := j) (by rw [pds_len]; exact hlt)
      simp only [Value.slice.injEq] at e1
      obtain ⟨rfl, -, -⟩ := e1
      rw [pds_at] at o1
      obtain ⟨l, hl1⟩ : ∃ l, l = pdL L j := ⟨_, rfl⟩
      rw [← hl1] at o1
      have hll : l.length ≤ 12 := by rw [hl1]; have := pdL_len L j; omega
      have HL := hide hl1
      have HNl := hide (NV.ofOwn o1 rfl)
      have HNst : Hid (∀ w' : World, (∀ k, w3.heap.size ≤ k → k < wr.heap.size → w'.heap[k]? = wr.heap[k]?) → w'.ownsRow w3.heap.size 3 1 x l.length (ic l)) := hide (fun w' hk => own_keep o1 hk)
      obtain ⟨ax, cax, rfl⟩ := own_form o1
      obtain ⟨nl, hnl⟩ : ∃ nl, nl = l.length := ⟨_, rfl⟩
      rw [← hnl] at p1 HNst HNl hll
      have Hnl := hide hnl
      clear hl1 o1 hnl
      go_wp2_with fail
      clear p1
      go_loopw [23] (fun i w' => ∃ (m : Nat) (F : Nat → Nat → Bool), m ≤ nl ∧ i = .int .i64 m ∧ FJ L F j m ∧ Bx w' B4 (dA F) 54 ∧ Bx w' B3 (dA (dm L)) 65 ∧ Bx w' B2 (dA fun _ _ => false) 54 ∧ OO w' w3.heap.size (.slice (some ⟨g, 0, none⟩) (pds L).length c14) (pds L) ∧ w'.ownsRow w3.heap.size 3 1 (.slice ax nl cax) nl (ic l) ∧ Below w.heap.size w w') (fun i _ => nl - (intOf i).toNat)
      case atStart => exact ⟨0, F, by omega, rfl, HF.out.start, HX4.out, HX3.out, HX2.out, HO.out, HNst.out _ (fun _ _ _ => rfl), HB.out⟩
      case round =>
        clear HF HX4 HX3 HX2 HO HB HNst HNl
        obtain ⟨m, F, hm, rfl, hF, hX4, hX3, hX2, hO, hN, hB⟩ := hrel
        have HF := hide hF
        have HX4 := hide hX4
        have HX3 := hide hX3
        have HX2 := hide hX2
        have HO := hide hO
        have HN := hide hN
        have HB := hide hB
        clear hF hX4 hX3 hX2 hO hN hB
        by_cases hlm : m < nl
        · have hlm' : (m : Int) < (nl : Int) := by omega
          have hlml : m < l.length := by rw [← Hnl.out]; exact hlm
          have hNv := NV.ofOwn HN.out Hnl.out
          rw [Hnl.out] at hNv
          obtain ⟨b1, o1, rfl, p0⟩ := NV.at hNv (Below.refl _ _) hlml
          have hm1 : l[m] ∈ pdL L j := by rw [← HL.out]; exact List.getElem_mem hlml
          obtain ⟨P, hP, hPl, -, -⟩ := pdL_mem.1 hm1
          rw [hP] at p0 hm1
          have HPm := hide hm1
          have HPe : Hid (∀ hl : m < (pdL L j).length, (pdL L j)[m] = (P : Int)) := hide (fun hl => by rw [← hP]; simp only [HL.out])
          have hP12 : P < 12 := by omega
          have hP12' : (P : Int) < 12 := by omega
          clear hm1 hP hNv
          go_wp2_with (refine wpList_load_set rfl _ rfl B3 P _ _ HX3.out hP12 rfl ?_)
          clear p0
          go_loopw [30] (fun i w' => ∃ (k : Nat) (F : Nat → Nat → Bool), k ≤ 12 ∧ i = .int .i64 k ∧ FK L F j m P k ∧ Bx w' B4 (dA F) 54 ∧ Bx w' B3 (dA (dm L)) 65 ∧ Bx w' B2 (dA fun _ _ => false) 54 ∧ OO w' w3.heap.size (.slice (some ⟨g, 0, none⟩) (pds L).length c14) (pds L) ∧ w'.ownsRow w3.heap.size 3 1 (.slice (some ⟨b1, o1, none⟩) nl cax) nl (ic l) ∧ Below w.heap.size w w') (fun i _ => 12 - (intOf i).toNat)
          case atStart => exact ⟨0, F, by omega, rfl, HF.out.start, HX4.out, HX3.out, HX2.out, HO.out, HN.out, HB.out⟩
          case round =>
            clear HF HX4 HX3 HX2 HO HB HN
            obtain ⟨k, F, hk, rfl, hF, hX4, hX3, hX2, hO, hN, hB⟩ := hrel
            have HF := hide hF
            have HX4 := hide hX4
            have HX3 := hide hX3
            have HX2 := hide hX2
            have HO := hide hO
            have HN := hide hN
            have HB := hide hB
            clear hF hX4 hX3 hX2 hO hN hB
            by_cases hlk : k < 12
            · have hlk' : (k : Int) < 12 := by omega
              have HI := hide (sIdx (dm L P) wr k hlk)
              obtain ⟨b, hb⟩ : ∃ b, b = dm L P k := ⟨_, rfl⟩
              rw [← hb] at HI
              have Hb := hide hb
              clear hb
              cases b with
              | false =>
                have HF2 := hide (HF.out.skip (by unfold cnd; rw [← Hb.out]; rfl))
                go_wp2_with (refine wpList_indexA rfl 52 _ _ rfl _ _ _ rfl rfl HI.out ?_)
                exact ⟨⟨k + 1, F, by omega, by go_num, HF2.out, HX4.out, HX3.out, HX2.out, HO.out, HN.out, HB.out⟩, by simp [intOf]; omega⟩
              | true =>
                have c4 : wr.cell? ⟨B4, k * 12 + j, none⟩ = some (.bool (F k j)) := by rw [HX4.out.c]; exact dA_cell _ hlk hj12
                have f4 := HX4.out.f
                have HX4n := hide (HX4.out.set (k * 12 + j) (.bool true))
                rw [dA_mk2 F hlk hj12] at HX4n
                have HX3n := hide (HX3.out.setne B4 (k * 12 + j) (.bool true) h34)
                have HX2n := hide (HX2.out.setne B4 (k * 12 + j) (.bool true) h24)
                have HOn := hide (HO.out.keep (w' := wr.setCell ⟨B4, k * 12 + j, none⟩ (.bool true)) (fun q hq _ => Below.heap_setCell _ _ _ _ (by show q ≠ B4; omega)))
                have HNn := hide (own_keep HN.out (w' := wr.setCell ⟨B4, k * 12 + j, none⟩ (.bool true)) (fun q hq _ => Below.heap_setCell _ _ _ _ (by show q ≠ B4; omega)))
                have HBn := hide (HB.out.setCell (p := ⟨B4, k * 12 + j, none⟩) (show w.heap.size ≤ B4 by omega) (.bool true))
                by_cases hkj : k = j
                · have hkb : ((k : Int) == (j : Int)) = true := by rw [beq_iff_eq]; omega
                  have HF2 := hide (HF.out.put HPm.out (by unfold cnd; rw [← Hb.out, decide_eq_true hkj]; rfl))
                  subst hkj
                  go_wp2_with (refine wpList_indexA rfl 52 _ _ rfl _ _ _ rfl rfl HI.out ?_)
                  exact ⟨⟨k + 1, _, by omega, by go_num, HF2.out, HX4n.out, HX3n.out, HX2n.out, HOn.out, HNn.out, HBn.out⟩, by simp [intOf]; omega⟩
                · have hkb : ((k : Int) == (j : Int)) = false := by rw [beq_eq_false_iff_ne]; omega
                  have c3 : wr.cell? ⟨B3, j * 12 + k, none⟩ = some (.bool (dm L j k)) := by rw [HX3.out.c]; exact dA_cell _ hj12 hlk
                  obtain ⟨q, hq⟩ : ∃ q, q = dm L j k := ⟨_, rfl⟩
                  rw [← hq] at c3
                  have Hq := hide hq
                  have Hkj := hide hkj
                  clear hq hkj
                  cases q with
                  | true =>
                    have HF2 := hide (HF.out.skip (by unfold cnd; rw [← Hb.out, decide_eq_false Hkj.out, ← Hq.out]; rfl))
                    clear c4 f4
                    go_wp2_with (refine wpList_indexA rfl 52 _ _ rfl _ _ _ rfl rfl HI.out ?_)
                    exact ⟨⟨k + 1, F, by omega, by go_num, HF2.out, HX4.out, HX3.out, HX2.out, HO.out, HN.out, HB.out⟩, by simp [intOf]; omega⟩
                  | false =>
                    have HF2 := hide (HF.out.put HPm.out (by unfold cnd; rw [← Hb.out, ← Hq.out]; simp))
                    go_wp2_with (refine wpList_indexA rfl 52 _ _ rfl _ _ _ rfl rfl HI.out ?_)
                    exact ⟨⟨k + 1, _, by omega, by go_num, HF2.out, HX4n.out, HX3n.out, HX2n.out, HOn.out, HNn.out, HBn.out⟩, by simp [intOf]; omega⟩
            · have HF2 := hide (HF.out.next (by omega) HPe.out)
              go_wp2_with fail
              exact ⟨⟨m + 1, F, by omega, by go_num, HF2.out, HX4.out, HX3.out, HX2.out, HO.out, HN.out, HB.out⟩, by simp [intOf]; omega⟩
        · have HF2 := hide (HF.out.next (by rw [← HL.out, ← Hnl.out]; omega))
          go_wp2_with fail
          exact ⟨⟨j + 1, F, by omega, by go_num, HF2.out, HX4.out, HX3.out, HX2.out, HO.out, HB.out⟩, by simp [intOf]; omega⟩
    · have HE : Hid (dA F = dA (fr L)) := hide (by
        have := HF.out
        rw [show j = L.length by omega] at this
        exact this.done HG.out)
      rw [HE.out] at HX4
      go_wp2_with (first | (refine wpList_load_row rfl 54 _ rfl B4 rfl 54 _ (0, 0) _ HX4.out Try.underlying54 rfl (by rw [dA_size]; exact fSize) ?_) | (refine wpList_store_row rfl 54 _ _ rfl B2 _ rfl rfl 54 _ HX2.out (by rw [dA_size]; exact fSize) (by rw [dA_size, dA_size]) (dA_one _) ?_))
      refine bodyPost_ret (v := .agg (dA (fr L))) (results_cell_row (p := 2) rfl _ _ B2 54 _ (0, 0) _ rfl (setRow_same HX2.out _) Try.underlying54 rfl (by rw [dA_size]; exact fSize)) rfl ⟨rfl, setRow_below _ HB.out (by omega)⟩
end Go.Proofs.Ytochhnibegcbpaa.W
