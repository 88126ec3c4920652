/-
  l11Preds: who goes on to each block, by the specification. Conditions: a good graph.
-/
import Derived.Test.YtochhnibegcbpaaJnP
namespace Go.Proofs.Ytochhnibegcbpaa.W
open Go.ChangeShapes Go.WideShapes Go.ChangeAt Go.RowKit Go.Joins
set_option linter.unusedVariables false
set_option linter.unusedSimpArgs false

set_option maxHeartbeats 8000000 in
theorem l11Preds_any (v : Value) (L : List (List Int)) (w : World) (h : GRow w v L) (hg : GG L) :
    Calls Try.prog 52 #[v] w fun e w' => ∃ S, e = .returned (.slice (some ⟨S, 0, none⟩) L.length L.length) ∧ w.heap.size ≤ S ∧ QS w' S (pds L) ∧ Below w.heap.size w w' := by
  obtain ⟨ad, c, rfl, hR, hs, hlc⟩ := h
  have hB0 : Below w.heap.size w (w.alloc (.cells #[.slice ad L.length c] 28)) := (Below.refl _ _).alloc (Nat.le_refl _) _
  have HX := hide (Bx.new w #[.slice ad L.length c] 28)
  have HV : Hid (∀ w', Below w.heap.size w w' → GRow w' (.agg #[.slice ad L.length c]) L) := hide (fun w' hb => ⟨ad, c, rfl, hR.below hb, hs, hlc⟩)
  have hR0 := hR
  have HG := hide hg
  have hl12 := hg.2.1
  have hmk := mk_ISS L.length (by omega)
  clear hR hs hlc hg
  go_enter Try.func52, Try.ntmps52
  go_wp2_with fail
  refine Calls.mono (l10Reach_any _ L (-1) _ (HV.out _ hB0) HG.out) ?_
  rintro e W1 ⟨v3, rfl, hN3, hb⟩
  have hB1 := hB0.trans (hb.mono hB0.size)
  have HX1 := hide (HX.out.below hb HX.out.lt)
  clear hb hB0 HX HV
  obtain ⟨R, hRR⟩ : ∃ R, R = rl L (-1) 0 := ⟨_, rfl⟩
  rw [← hRR] at hN3
  have hR12 : R.length ≤ 12 := by rw [hRR]; exact lst_len _ _
  have HRR := hide hRR
  have HRm : Hid (∀ q (h : q < R.length), ∃ k : Nat, R[q] = (k : Int) ∧ k < L.length) := hide (fun q h => by
    have hm : R[q] ∈ rl L (-1) 0 := by rw [← hRR]; exact List.getElem_mem h
    obtain ⟨k, e, -, hk⟩ := lst_mem.1 hm
    exact ⟨k, e, (rc_iff.1 hk).lt HG.out HG.out.1⟩)
  clear hRR
  obtain ⟨a3, c3, rfl, -⟩ := hN3.form
  have HN3 := hide hN3
  have cx := HX1.out.c
  have lx := HX1.out.lt
  clear hN3
  go_wp2_with fail
  clear cx hmk
  obtain ⟨S, hS⟩ : ∃ S, S = W1.heap.size := ⟨_, rfl⟩
  have HQ0 := hide (QS.new W1 L.length)
  have hB2 : Below W1.heap.size W1 (W1.alloc (.cells (madeCells #[.slice none 0 0] L.length) 35)) := (Below.refl _ _).alloc (Nat.le_refl _) _
  rw [← hS] at HQ0 ⊢
  have hSw : w.heap.size ≤ S := by rw [hS]; exact hB1.size
  have hSW : S = W1.heap.size := hS
  have HSW := hide hSW
  clear hS hSW
  go_loopw [17] (fun i w' => ∃ (j : Nat) (Ls : List (List Int)), j ≤ R.length ∧ i = .int .i64 j ∧ QS w' S Ls ∧ Ls.length = L.length ∧ (∀ k (h : k < Ls.length), PD L R j [] 0 k Ls[k]) ∧ Below W1.heap.size W1 w') (fun i _ => R.length - (intOf i).toNat)
  case atStart => exact ⟨0, _, by omega, rfl, HQ0.out, by simp, fun k h => by simp only [List.getElem_replicate]; exact PD.zero L R _ k, hB2⟩
  case round =>
    clear HQ0 hB2
    obtain ⟨j, Ls, hj, rfl, hQ, hLl, hD, hB⟩ := hrel
    have HQ := hide hQ
    have HD := hide hD
    have HB := hide hB
    have HLl := hide hLl
    clear hQ hD hB hLl
    by_cases hlt : j < R.length
    · have hlt' : (j : Int) < (R.length : Int) := by omega
      obtain ⟨D, hD, hDl⟩ := HRm.out j hlt
      have hDl' : (D : Int) < (L.length : Int) := by omega
      obtain ⟨b3, o3, rfl, p3⟩ := NV.at HN3.out HB.out hlt
      rw [hD] at p3
      have HDd := hide hD
      clear hD
      have X := HX1.out.below HB.out HX1.out.lt
      have cx := X.c
      have lx2 := X.lt
      have HBw := hide (hB1.trans (HB.out.mono hB1.size))
      obtain ⟨b, oo, v, rfl, hb, p0w, pv⟩ := QRow.at hR0 (Below.refl _ _) hDl
      have p0 := (HBw.out.cell (p := ⟨b, oo + D, none⟩) hb).trans p0w
      obtain ⟨ad1, c1, rfl, pr, -⟩ := pv
      obtain ⟨l, hl1⟩ : ∃ l, l = L[D] := ⟨_, rfl⟩
      rw [← hl1] at p0 pr
      have HL := hide hl1
      have HP := hide pr
      have HRi := hide (HG.out.2.2 D hDl)
      rw [← hl1] at HRi
      have hll : l.length ≤ 12 := by have := HRi.out.len; omega
      clear hl1 pr p0w
      go_wp2_with fail
      clear cx lx2 X p3 p0 HBw
      go_loopw [27] (fun i w' => ∃ (m : Nat) (Ls2 : List (List Int)), m ≤ l.length ∧ i = .int .i64 m ∧ QS w' S Ls2 ∧ Ls2.length = L.length ∧ (∀ k (h : k < Ls2.length), PD L R j l m k Ls2[k]) ∧ Below W1.heap.size W1 w') (fun i _ => l.length - (intOf i).toNat)
      case atStart => exact ⟨0, Ls, by omega, rfl, HQ.out, HLl.out, fun k h => (HD.out k h).row l, HB.out⟩
      case round =>
        clear HQ HD HLl HB
        obtain ⟨m, Ls2, hm, rfl, hQ, hLl, hD, hB⟩ := hrel
        have HQ := hide hQ
        have HD := hide hD
        have HB := hide hB
        have HLl := hide hLl
        clear hQ hD hB
        by_cases hlm : m < l.length
        · have hlm' : (m : Int) < (l.length : Int) := by omega
          have HBw := hide (hB1.trans (HB.out.mono hB1.size))
          obtain ⟨b1, o1, rfl, hb1, p0⟩ := IRow.iat HP.out HBw.out hlm
          have hbd := HRi.out.mem (List.getElem_mem hlm)
          obtain ⟨X, hX⟩ : ∃ X : Nat, l[m] = (X : Int) := ⟨l[m].toNat, by omega⟩
          rw [hX] at p0 hbd
          have HXx := hide hX
          clear hX
          have hXl : X < L.length := by omega
          have hXl' : (X : Int) < (L.length : Int) := by omega
          have hK2 : X < Ls2.length := by omega
          have HPut := hide ((HD.out X hK2).put hlt hlm HXx.out)
          rw [HDd.out] at HPut
          have hlen := (HD.out X hK2).len HRR.out
          obtain ⟨x, cS, hNx⟩ := HQ.out.at hK2
          have fS := HQ.out.f
          obtain ⟨ax, cxx, rfl, -⟩ := hNx.form
          have HNx := hide hNx
          obtain ⟨OL, hOL⟩ : ∃ OL, OL = Ls2[X] := ⟨_, rfl⟩
          rw [← hOL] at HNx HPut hlen cS
          have HSl := HQ.out.lt
          clear hNx hOL hbd HBw hLl
          go_wp2_with fail
          refine Calls.mono (l1Put_any _ OL D _ HNx.out (by omega)) ?_
          rintro e w4 ⟨v4, rfl, hN4, hb⟩
          have hN4' := hN4
          obtain ⟨y4, z4, ev4, -⟩ := hN4'.form
          obtain ⟨n4, hn4⟩ : ∃ n4, n4 = (putL OL D).length := ⟨_, rfl⟩
          rw [← hn4] at ev4
          subst ev4
          clear hN4' hn4 p0
          have HB4 := hide (HB.out.trans (hb.mono HB.out.size))
          have HQ4 := HQ.out.below hb
          have HQ5 := hide (HQ4.set (i := X) hK2 hN4)
          obtain ⟨y, cS4, -⟩ := HQ4.at hK2
          have fS4 := HQ4.f
          have HB5 : Hid (Below W1.heap.size W1 (w4.setCell ⟨S, X, none⟩ (.slice y4 n4 z4))) := hide (HB4.out.setCell (p := ⟨S, X, none⟩) (by have := HSW.out; simp; omega) _)
          have HL5 : Hid ((Ls2.set X (putL OL D)).length = L.length) := hide (by rw [List.length_set]; exact HLl.out)
          have HD5 : Hid (∀ k (h : k < (Ls2.set X (putL OL D)).length), PD L R j l (m + 1) k (Ls2.set X (putL OL D))[k]) := hide (fun k h => by
            by_cases e : X = k
            · subst e
              rw [List.getElem_set_self]
              exact HPut.out
            · rw [List.getElem_set_ne e]
              exact (HD.out k (by simpa using h)).skip hlm (by rw [HXx.out]; omega))
          clear hb HQ4 hN4 cS fS
          go_wp2_with fail
          exact ⟨⟨m + 1, _, by omega, by go_num, HQ5.out, HL5.out, HD5.out, HB5.out⟩, by simp [intOf]; omega⟩
        · have HD2 : Hid (∀ k (h : k < Ls2.length), PD L R (j + 1) [] 0 k Ls2[k]) := hide (fun k h => by
            have h1 := HD.out k h
            rw [show m = l.length by omega] at h1
            exact (h1.next hlt HDd.out hDl HL.out).row [])
          go_wp2_with fail
          exact ⟨⟨j + 1, Ls2, by omega, by go_num, HQ.out, HLl.out, HD2.out, HB.out⟩, by simp [intOf]; omega⟩
    · have HE : Hid (Ls = pds L) := hide (by
        refine List.ext_getElem (by rw [pds_len]; exact HLl.out) (fun k h1 h2 => ?_)
        rw [pds_at L h2]
        have := HD.out k h1
        rw [show j = R.length by omega] at this
        exact this.done HG.out HRR.out)
      have HBw := hide (hB1.trans (HB.out.mono hB1.size))
      go_wp2_with fail
      go_ret
      exact ⟨S, rfl, hSw, by rw [← HE.out]; exact HQ.out, HBw.out⟩

/-- What PredsOf tells. -/
noncomputable def pdR (L : List (List Int)) : List (List Int) := if goodG L = true then pds L else []
theorem pdR_sm (L : List (List Int)) : (pdR L).length ≤ 600 ∧ ∀ l ∈ pdR L, l.length ≤ 600 := by
  unfold pdR
  split
  · rename_i h
    have h12 := (goodG_iff.1 h).2.1
    refine ⟨by rw [pds_len]; omega, fun l hl => ?_⟩
    obtain ⟨k, -, rfl⟩ := List.mem_map.1 hl
    have := pdL_len L k
    omega
  · exact ⟨by simp, by simp⟩
theorem pdR_QSm (L : List (List Int)) : QSm (pdR L) := by
  have := pdR_sm L
  exact ⟨by omega, fun l hl => by have := this.2 l hl; omega⟩

set_option maxHeartbeats 2000000 in
theorem specPreds_any (v : Value) (L : List (List Int)) (w : World) (h : GRow w v L) :
    Calls Try.prog 28 #[v] w fun e w' => ∃ v', e = .returned (.tuple #[v', .bool (goodG L)]) ∧ QV w' v' (pdR L) ∧ Below w.heap.size w w' := by
  obtain ⟨ad, c, rfl, hR, hs, hlc⟩ := h
  have hB0 : Below w.heap.size w (w.alloc (.cells #[.slice ad L.length c] 28)) := (Below.refl _ _).alloc (Nat.le_refl _) _
  have HX := hide (Bx.new w #[.slice ad L.length c] 28)
  have HV : Hid (∀ w', Below w.heap.size w w' → GRow w' (.agg #[.slice ad L.length c]) L) := hide (fun w' hb => ⟨ad, c, rfl, hR.below hb, hs, hlc⟩)
  clear hR hs hlc
  go_enter Try.func28, Try.ntmps28
  go_wp2_with fail
  refine Calls.mono (specGoodG_any _ L _ (HV.out _ hB0)) ?_
  rintro e w1 ⟨rfl, hb⟩
  have hB1 := hB0.trans (hb.mono hB0.size)
  have HX1 := hide (HX.out.below hb HX.out.lt)
  clear hb hB0 HX
  have cx := HX1.out.c
  have lx := HX1.out.lt
  by_cases hg : goodG L = true
  · have HRe : Hid (pdR L = pds L) := hide (by rw [pdR, if_pos hg])
    have HGG := hide (goodG_iff.1 hg)
    have Hg := hide hg
    rw [hg]
    clear hg
    go_wp2_with fail
    refine Calls.mono (l11Preds_any _ L _ (HV.out _ hB1) HGG.out) ?_
    rintro e w2 ⟨S, rfl, -, hQ, hb⟩
    have HQ := hide hQ
    have hB2 := hB1.trans (hb.mono hB1.size)
    clear hQ hb cx
    go_wp2_with fail
    refine bodyPost_ret (v := .tuple #[.slice (some ⟨S, 0, none⟩) L.length L.length, .bool true]) (by simp [results, Try.results28, go_sem]) rfl ?_
    have hq := HQ.out.qv (by rw [← HRe.out]; exact pdR_QSm L)
    rw [pds_len] at hq
    exact ⟨_, by rw [Hg.out], by rw [HRe.out]; exact hq, hB2⟩
  · have HRe : Hid (pdR L = []) := hide (by rw [pdR, if_neg hg])
    rw [Bool.not_eq_true] at hg
    have Hg := hide hg
    rw [hg]
    clear hg
    go_wp2_with fail
    refine bodyPost_ret (v := .tuple #[.slice none 0 0, .bool false]) (by simp [results, Try.results28, go_sem]) rfl ?_
    exact ⟨_, by rw [Hg.out], by rw [HRe.out]; exact ⟨none, 0, rfl, .inl rfl, ⟨by simp, by simp⟩, Nat.le_refl _⟩, hB1⟩

set_option maxHeartbeats 2000000 in
theorem implPreds_any (v : Value) (L : List (List Int)) (w : World) (h : GRow w v L) :
    Calls Try.prog 29 #[v] w fun e w' => ∃ v', e = .returned (.tuple #[v', .bool (goodG L)]) ∧ OO w' w.heap.size v' (pdR L) ∧ Below w.heap.size w w' := by
  obtain ⟨ad, c, rfl, hR, hs, hlc⟩ := h
  have hB0 : Below w.heap.size w (w.alloc (.cells #[.slice ad L.length c] 28)) := (Below.refl _ _).alloc (Nat.le_refl _) _
  have HX := hide (Bx.new w #[.slice ad L.length c] 28)
  have HV : Hid (∀ w', Below w.heap.size w w' → GRow w' (.agg #[.slice ad L.length c]) L) := hide (fun w' hb => ⟨ad, c, rfl, hR.below hb, hs, hlc⟩)
  clear hR hs hlc
  go_enter Try.func29, Try.ntmps29
  go_wp2_with fail
  refine Calls.mono (implGoodG_any _ L _ (HV.out _ hB0)) ?_
  rintro e w1 ⟨rfl, hb⟩
  have hB1 := hB0.trans (hb.mono hB0.size)
  have HX1 := hide (HX.out.below hb HX.out.lt)
  clear hb hB0 HX
  have cx := HX1.out.c
  have lx := HX1.out.lt
  by_cases hg : goodG L = true
  · have HRe : Hid (pdR L = pds L) := hide (by rw [pdR, if_pos hg])
    have HGG := hide (goodG_iff.1 hg)
    have Hg := hide hg
    rw [hg]
    clear hg
    go_wp2_with fail
    refine Calls.mono (preds_any _ L _ (HV.out _ hB1) HGG.out) ?_
    rintro e w2 ⟨v2, rfl, hQ, hb⟩
    have hQ2 := hQ.lower hB1.size
    obtain ⟨a2, c2, rfl⟩ := hQ.form
    have HQ := hide hQ2
    have hB2 := hB1.trans (hb.mono hB1.size)
    clear hQ hQ2 hb cx
    go_wp2_with fail
    refine bodyPost_ret (v := .tuple #[.slice a2 (pds L).length c2, .bool true]) (by simp [results, Try.results29, go_sem]) rfl ?_
    exact ⟨_, by rw [Hg.out], by rw [HRe.out]; exact HQ.out, hB2⟩
  · have HRe : Hid (pdR L = []) := hide (by rw [pdR, if_neg hg])
    rw [Bool.not_eq_true] at hg
    have Hg := hide hg
    rw [hg]
    clear hg
    go_wp2_with fail
    refine bodyPost_ret (v := .tuple #[.slice none 0 0, .bool false]) (by simp [results, Try.results29, go_sem]) rfl ?_
    exact ⟨_, by rw [Hg.out], by rw [HRe.out]; exact OO.nil _ _, hB1⟩
end Go.Proofs.Ytochhnibegcbpaa.W
