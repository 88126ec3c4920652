/-
  Both ReachedOf and both Without. Conditions: none but those that each theorem states.
-/
import Derived.Test.YtangkpbehpgmiaaGrZ
namespace Go.Proofs.Ytangkpbehpgmiaa.W
open Go.ChangeShapes Go.WideShapes Go.ChangeAt Go.RowKit Go.Joins
set_option linter.unusedVariables false

/-- What ReachedOf tells. -/
noncomputable def reR (L : List (List Int)) : List Int := if goodG L = true then rl L (-1) 0 else []
/-- What Without tells. -/
noncomputable def woB (L : List (List Int)) (k : Int) : Bool := goodG L && beB k L.length
noncomputable def woR (L : List (List Int)) (k : Int) : List Int := if woB L k = true then rl L k 0 else []
theorem reR_len (L : List (List Int)) : (reR L).length ≤ 12 := by
  unfold reR; split
  · exact lst_len _ _
  · simp
theorem woR_len (L : List (List Int)) (k : Int) : (woR L k).length ≤ 12 := by
  unfold woR; split
  · exact lst_len _ _
  · simp

set_option maxHeartbeats 2000000 in
theorem specReached_any (v : Value) (L : List (List Int)) (w : World) (h : GRow w v L) :
    Calls Try.prog 14 #[v] w fun e w' => ∃ v', e = .returned (.tuple #[v', .bool (goodG L)]) ∧ NV w' v' (reR L) ∧ Below w.heap.size w w' := by
  obtain ⟨ad, c, rfl, hR, hs, hlc⟩ := h
  have hB0 : Below w.heap.size w (w.alloc (.cells #[.slice ad L.length c] 27)) := (Below.refl _ _).alloc (Nat.le_refl _) _
  have HX := hide (Bx.new w #[.slice ad L.length c] 27)
  have HV : Hid (∀ w', Below w.heap.size w w' → GRow w' (.agg #[.slice ad L.length c]) L) := hide (fun w' hb => ⟨ad, c, rfl, hR.below hb, hs, hlc⟩)
  clear hR hs hlc
  go_enter Try.func14, Try.ntmps14
  go_wp2_with fail
  refine Calls.mono (specGoodG_any _ L _ (HV.out _ hB0)) ?_
  rintro e w1 ⟨rfl, hb⟩
  have hB1 := hB0.trans (hb.mono hB0.size)
  have HX1 := hide (HX.out.below hb HX.out.lt)
  clear hb hB0 HX
  have cx := HX1.out.c
  have lx := HX1.out.lt
  by_cases hg : goodG L = true
  · have HRe : Hid (reR L = rl L (-1) 0) := hide (by rw [reR, if_pos hg])
    have HGG := hide (goodG_iff.1 hg)
    have Hg := hide hg
    rw [hg]
    clear hg
    go_wp2_with fail
    refine Calls.mono (l10Reach_any _ L (-1) _ (HV.out _ hB1) HGG.out) ?_
    rintro e w2 ⟨v2, rfl, hN, hb⟩
    have HN := hide hN
    have hB2 := hB1.trans (hb.mono hB1.size)
    clear hN hb cx
    go_wp2_with fail
    refine bodyPost_ret (v := .tuple #[v2, .bool true]) (by simp [results, Try.results14, go_sem]) rfl ?_
    exact ⟨_, by rw [Hg.out], by rw [HRe.out]; exact HN.out, hB2⟩
  · have HRe : Hid (reR L = []) := hide (by rw [reR, if_neg hg])
    rw [Bool.not_eq_true] at hg
    have Hg := hide hg
    rw [hg]
    clear hg
    go_wp2_with fail
    refine bodyPost_ret (v := .tuple #[.slice none 0 0, .bool false]) (by simp [results, Try.results14, go_sem]) rfl ?_
    exact ⟨_, by rw [Hg.out], .inl ⟨rfl, HRe.out⟩, hB1⟩

set_option maxHeartbeats 2000000 in
theorem implReached_any (v : Value) (L : List (List Int)) (w : World) (h : GRow w v L) :
    Calls Try.prog 15 #[v] w fun e w' => ∃ v', e = .returned (.tuple #[v', .bool (goodG L)]) ∧ w'.ownsRow w.heap.size 3 1 v' (reR L).length (ic (reR L)) ∧ Below w.heap.size w w' := by
  obtain ⟨ad, c, rfl, hR, hs, hlc⟩ := h
  have hB0 : Below w.heap.size w (w.alloc (.cells #[.slice ad L.length c] 27)) := (Below.refl _ _).alloc (Nat.le_refl _) _
  have HX := hide (Bx.new w #[.slice ad L.length c] 27)
  have HV : Hid (∀ w', Below w.heap.size w w' → GRow w' (.agg #[.slice ad L.length c]) L) := hide (fun w' hb => ⟨ad, c, rfl, hR.below hb, hs, hlc⟩)
  clear hR hs hlc
  go_enter Try.func15, Try.ntmps15
  go_wp2_with fail
  refine Calls.mono (implGoodG_any _ L _ (HV.out _ hB0)) ?_
  rintro e w1 ⟨rfl, hb⟩
  have hB1 := hB0.trans (hb.mono hB0.size)
  have HX1 := hide (HX.out.below hb HX.out.lt)
  clear hb hB0 HX
  have cx := HX1.out.c
  have lx := HX1.out.lt
  by_cases hg : goodG L = true
  · have HRe : Hid (reR L = lst (rc L (-1) 0) 12) := hide (by rw [reR, if_pos hg]; rfl)
    have HGG := hide (goodG_iff.1 hg)
    have Hg := hide hg
    rw [hg]
    clear hg
    go_wp2_with fail
    refine Calls.mono (reached_any _ L _ (HV.out _ hB1) HGG.out) ?_
    rintro e w2 ⟨rfl, hb⟩
    have hB2 := hB1.trans (hb.mono hB1.size)
    clear hb cx
    go_wp2_with fail
    refine Calls.mono (list_any _ _) ?_
    rintro e w3 ⟨v3, rfl, hO, hb⟩
    have hB3 := hB2.trans (hb.mono hB2.size)
    have HO := hide (own_lower hO hB2.size)
    clear hO hb
    go_wp2_with fail
    refine bodyPost_ret (v := .tuple #[v3, .bool true]) (by simp [results, Try.results15, go_sem]) rfl ?_
    exact ⟨_, by rw [Hg.out], by rw [HRe.out]; exact HO.out, hB3⟩
  · have HRe : Hid (reR L = []) := hide (by rw [reR, if_neg hg])
    rw [Bool.not_eq_true] at hg
    have Hg := hide hg
    rw [hg]
    clear hg
    go_wp2_with fail
    refine bodyPost_ret (v := .tuple #[.slice none 0 0, .bool false]) (by simp [results, Try.results15, go_sem]) rfl ?_
    exact ⟨_, by rw [Hg.out], by rw [HRe.out]; exact World.ownsRow_nil _ _ _ _, hB1⟩

set_option maxHeartbeats 2000000 in
theorem specWithout_any (v : Value) (L : List (List Int)) (k : Int) (w : World) (h : GRow w v L) :
    Calls Try.prog 27 #[v, .int .i64 k] w fun e w' => ∃ v', e = .returned (.tuple #[v', .bool (woB L k)]) ∧ NV w' v' (woR L k) ∧ Below w.heap.size w w' := by
  obtain ⟨ad, c, rfl, hR, hs, hlc⟩ := h
  have hB0 : Below w.heap.size w (w.alloc (.cells #[.slice ad L.length c] 27)) := (Below.refl _ _).alloc (Nat.le_refl _) _
  have HX := hide (Bx.new w #[.slice ad L.length c] 27)
  have HV : Hid (∀ w', Below w.heap.size w w' → GRow w' (.agg #[.slice ad L.length c]) L) := hide (fun w' hb => ⟨ad, c, rfl, hR.below hb, hs, hlc⟩)
  have hl := hs.1
  clear hR hs hlc
  go_enter Try.func27, Try.ntmps27
  go_wp2_with fail
  refine Calls.mono (specGoodG_any _ L _ (HV.out _ hB0)) ?_
  rintro e w1 ⟨rfl, hb⟩
  have hB1 := hB0.trans (hb.mono hB0.size)
  have HX1 := hide (HX.out.below hb HX.out.lt)
  clear hb hB0 HX
  have cx := HX1.out.c
  have lx := HX1.out.lt
  by_cases hg : goodG L = true
  · have HGG := hide (goodG_iff.1 hg)
    by_cases h0 : k < 0
    · have HRe : Hid (woB L k = false) := hide (by simp [woB, beB]; intros; omega)
      rw [hg]
      clear hg
      go_wp2_with fail
      refine bodyPost_ret (v := .tuple #[.slice none 0 0, .bool false]) (by simp [results, Try.results27, go_sem]) rfl ?_
      exact ⟨_, by rw [HRe.out], .inl ⟨rfl, by rw [woR, HRe.out]; rfl⟩, hB1⟩
    · by_cases hn : (L.length : Int) ≤ k
      · have HRe : Hid (woB L k = false) := hide (by simp [woB, beB]; intros; omega)
        rw [hg]
        clear hg
        go_wp2_with fail
        refine bodyPost_ret (v := .tuple #[.slice none 0 0, .bool false]) (by simp [results, Try.results27, go_sem]) rfl ?_
        exact ⟨_, by rw [HRe.out], .inl ⟨rfl, by rw [woR, HRe.out]; rfl⟩, hB1⟩
      · have HRe : Hid (woB L k = true) := hide (by simp [woB, beB, hg]; omega)
        rw [hg]
        clear hg
        go_wp2_with fail
        refine Calls.mono (l10Reach_any _ L k _ (HV.out _ hB1) HGG.out) ?_
        rintro e w2 ⟨v2, rfl, hN, hb⟩
        have HN := hide hN
        have hB2 := hB1.trans (hb.mono hB1.size)
        clear hN hb cx
        go_wp2_with fail
        refine bodyPost_ret (v := .tuple #[v2, .bool true]) (by simp [results, Try.results27, go_sem]) rfl ?_
        exact ⟨_, by rw [HRe.out], by rw [woR, HRe.out]; exact HN.out, hB2⟩
  · rw [Bool.not_eq_true] at hg
    have HRe : Hid (woB L k = false) := hide (by simp [woB, hg])
    rw [hg]
    clear hg
    go_wp2_with fail
    refine bodyPost_ret (v := .tuple #[.slice none 0 0, .bool false]) (by simp [results, Try.results27, go_sem]) rfl ?_
    exact ⟨_, by rw [HRe.out], .inl ⟨rfl, by rw [woR, HRe.out]; rfl⟩, hB1⟩

set_option maxHeartbeats 2000000 in
theorem implWithout_any (v : Value) (L : List (List Int)) (k : Int) (w : World) (h : GRow w v L) :
    Calls Try.prog 28 #[v, .int .i64 k] w fun e w' => ∃ v', e = .returned (.tuple #[v', .bool (woB L k)]) ∧ w'.ownsRow w.heap.size 3 1 v' (woR L k).length (ic (woR L k)) ∧ Below w.heap.size w w' := by
  obtain ⟨ad, c, rfl, hR, hs, hlc⟩ := h
  have hB0 : Below w.heap.size w (w.alloc (.cells #[.slice ad L.length c] 27)) := (Below.refl _ _).alloc (Nat.le_refl _) _
  have HX := hide (Bx.new w #[.slice ad L.length c] 27)
  have HV : Hid (∀ w', Below w.heap.size w w' → GRow w' (.agg #[.slice ad L.length c]) L) := hide (fun w' hb => ⟨ad, c, rfl, hR.below hb, hs, hlc⟩)
  have hl := hs.1
  clear hR hs hlc
  go_enter Try.func28, Try.ntmps28
  go_wp2_with fail
  refine Calls.mono (implGoodG_any _ L _ (HV.out _ hB0)) ?_
  rintro e w1 ⟨rfl, hb⟩
  have hB1 := hB0.trans (hb.mono hB0.size)
  have HX1 := hide (HX.out.below hb HX.out.lt)
  clear hb hB0 HX
  have cx := HX1.out.c
  have lx := HX1.out.lt
  by_cases hg : goodG L = true
  · have HGG := hide (goodG_iff.1 hg)
    obtain ⟨R, hRR⟩ : ∃ R, R = beB k L.length := ⟨_, rfl⟩
    have HRe : Hid (woB L k = R) := hide (by rw [hRR]; simp [woB, hg])
    have HRR := hide hRR
    rw [hg]
    clear hg hRR
    go_wp2_with fail
    refine Calls.mono (isBelow_g k L.length _) ?_
    rintro e w2 ⟨rfl, hw⟩
    obtain rfl := hw.symm
    rw [← HRR.out]
    cases R with
    | true =>
      clear HRR
      go_wp2_with fail
      refine Calls.mono (reachedFrom_any _ L 0 k _ (HV.out _ hB1) HGG.out HGG.out.1) ?_
      rintro e w2 ⟨rfl, hb⟩
      have hB2 := hB1.trans (hb.mono hB1.size)
      clear hb cx
      go_wp2_with fail
      refine Calls.mono (list_any _ _) ?_
      rintro e w3 ⟨v3, rfl, hO, hb⟩
      have hB3 := hB2.trans (hb.mono hB2.size)
      have HO := hide (own_lower hO hB2.size)
      clear hO hb
      go_wp2_with fail
      refine bodyPost_ret (v := .tuple #[v3, .bool true]) (by simp [results, Try.results28, go_sem]) rfl ?_
      exact ⟨_, by rw [HRe.out], by rw [woR, HRe.out]; exact HO.out, hB3⟩
    | false =>
      clear HRR
      go_wp2_with fail
      refine bodyPost_ret (v := .tuple #[.slice none 0 0, .bool false]) (by simp [results, Try.results28, go_sem]) rfl ?_
      exact ⟨_, by rw [HRe.out], by rw [woR, HRe.out]; exact World.ownsRow_nil _ _ _ _, hB1⟩
  · rw [Bool.not_eq_true] at hg
    have HRe : Hid (woB L k = false) := hide (by simp [woB, hg])
    rw [hg]
    clear hg
    go_wp2_with fail
    refine bodyPost_ret (v := .tuple #[.slice none 0 0, .bool false]) (by simp [results, Try.results28, go_sem]) rfl ?_
    exact ⟨_, by rw [HRe.out], by rw [woR, HRe.out]; exact World.ownsRow_nil _ _ _ _, hB1⟩
end Go.Proofs.Ytangkpbehpgmiaa.W
