/-
  listsOf and DominatorsOf of the program (from 1fcb42f on). Conditions: none but those that each theorem states.
-/
import Derived.Test.YtgmablmkjngkkaaGrK
namespace Go.Proofs.Ytgmablmkjngkkaa.W
open Go.ChangeShapes Go.WideShapes Go.ChangeAt Go.RowKit Go.Joins
set_option linter.unusedVariables false
set_option maxRecDepth 20000
set_option linter.unusedSimpArgs false

set_option maxHeartbeats 4000000 in
theorem listsOf_any (F : Nat → Nat → Bool) (n : Nat) (hn : n ≤ 12) (w : World) :
    Calls Try.prog 32 #[.agg (dA F), .int .i64 (n : Int)] w fun e w' => ∃ v', e = .returned v' ∧ OO w' w.heap.size v' ((List.range n).map fun b => lst (F b) 12) ∧ Below w.heap.size w w' := by
  have hB0 : Below w.heap.size w (w.alloc (.cells (dA F) 61)) := (Below.refl _ _).alloc (Nat.le_refl _) _
  have HX0 := hide (Bx.new w (dA F) 61)
  go_enter Try.func32, Try.ntmps32
  go_upto_region 1 with fail
  obtain ⟨w3, hw3⟩ : ∃ w3, w3 = w.alloc (.cells (dA F) 61) := ⟨_, rfl⟩
  obtain ⟨B4, hB4⟩ : ∃ B4, B4 = w.heap.size := ⟨_, rfl⟩
  rw [← hw3] at HX0 hB0 ⊢
  rw [← hB4] at HX0 ⊢
  have h4 : w.heap.size ≤ B4 := by omega
  clear hw3 hB4
  have hmk := mk_ISS n (by omega)
  go_wp2_with fail
  clear hmk
  have HO0 := hide (OOv.new w3 w.heap.size n (by omega) hB0.size)
  have hB5 : Below w.heap.size w (w3.alloc (.cells (madeCells #[.slice none 0 0] n) 35)) := hB0.alloc hB0.size _
  have HY5 : Hid (Bx (w3.alloc (.cells (madeCells #[.slice none 0 0] n) 35)) B4 (dA F) 61) := hide (HX0.out.alloc _)
  obtain ⟨S, hS⟩ : ∃ S, S = w3.heap.size := ⟨_, rfl⟩
  rw [← hS] at HO0 ⊢
  have hS4 : B4 < S := by rw [hS]; exact HX0.out.lt
  clear hS HX0 hB0
  go_loopw [11] (fun i w' => ∃ (j : Nat) (Ls : List (List Int)) (vs : List Value), j ≤ n ∧ i = .int .i64 j ∧ Ls.length = n ∧ OOv w' w.heap.size (.slice (some ⟨S, 0, none⟩) n n) Ls vs ∧ (∀ q (h : q < Ls.length), q < j → Ls[q] = lst (F q) 12) ∧ Bx w' B4 (dA F) 61 ∧ Below w.heap.size w w') (fun i _ => n - (intOf i).toNat)
  case atStart => exact ⟨0, _, _, by omega, rfl, by simp, HO0.out, by intros; omega, HY5.out, hB5⟩
  case round =>
    clear HO0 hB5 HY5
    obtain ⟨j, Ls, vs, hj, rfl, hLl, hO, hD, hX, hB⟩ := hrel
    have HO := hide hO
    have HD := hide hD
    have HX := hide hX
    have HB := hide hB
    have HLl := hide hLl
    clear hO hD hX hB
    by_cases hlt : j < n
    · have hlt' : (j : Int) < (n : Int) := by omega
      have hj12 : j < 12 := by omega
      have hj12' : (j : Int) < 12 := by omega
      have hj2 : j < Ls.length := by omega
      clear hLl
      go_wp2_with (refine wpList_load_set rfl _ rfl B4 j _ _ HX.out hj12 rfl ?_)
      refine Calls.mono (list_any (F j) _) ?_
      rintro e w5 ⟨v5, rfl, hO5, hb⟩
      have HOn := hide (HO.out.put (l := lst (F j) 12) (x := v5) HLl.out.symm hj2 HB.out.size hb hO5)
      have hB5 := HB.out.trans (hb.mono HB.out.size)
      have HBn := hide (hB5.setCell (p := ⟨S, j, none⟩) (show w.heap.size ≤ S by omega) v5)
      have hX5 := HX.out.below hb HX.out.lt
      have HXn := hide (hX5.setne S j v5 (by omega))
      obtain ⟨gS, capS, eS, hgS, hlS, cS⟩ := tOwn_lies HO.out.own (by omega)
      simp only [Value.slice.injEq, Option.some.injEq, Addr.mk.injEq, and_true] at eS
      obtain ⟨rfl, -, -⟩ := eS
      obtain ⟨y, y1, -⟩ := HO.out.at_ j hj2
      have c5 : w5.cell? ⟨S, j, none⟩ = some y := (hb.cell (p := ⟨S, j, none⟩) hlS).trans (cS j y y1)
      have f5 : ∀ i, w5.frozen? ⟨S, i, none⟩ = false := by
        rcases HO.out.own.2 with ⟨h1, -⟩ | ⟨g, cap, cur, h1, hg, hh, -⟩
        · cases h1
        · simp only [Value.slice.injEq, Option.some.injEq, Addr.mk.injEq, and_true] at h1
          obtain ⟨rfl, -, -⟩ := h1
          exact fun i => unfrozen_of_blk ((hb.block S hlS).trans hh) i
      have HDn : Hid (∀ q (h : q < (Ls.set j (lst (F j) 12)).length), q < j + 1 → (Ls.set j (lst (F j) 12))[q] = lst (F q) 12) := hide (fun q h hq => by
        by_cases e : j = q
        · subst e; rw [List.getElem_set_self]
        · rw [List.getElem_set_ne e]; exact HD.out q (by simpa using h) (by omega))
      have HLn : Hid ((Ls.set j (lst (F j) 12)).length = n) := hide (by rw [List.length_set]; exact HLl.out)
      obtain ⟨y5, z5, e5⟩ := own_form hO5
      obtain ⟨n5, hn5⟩ : ∃ n5, n5 = (lst (F j) 12).length := ⟨_, rfl⟩
      rw [← hn5] at e5
      subst e5
      clear hO5 hb cS y1 hX5 hB5 hn5
      go_wp2_with fail
      exact ⟨⟨j + 1, _, _, by omega, by go_num, HLn.out, HOn.out, HDn.out, HXn.out, HBn.out⟩, by simp [intOf]; omega⟩
    · have HE : Hid (Ls = (List.range n).map fun b => lst (F b) 12) := hide (by
        refine List.ext_getElem (by simp [HLl.out]) (fun k h1 h2 => ?_)
        rw [HD.out k h1 (by have := HLl.out; omega)]
        simp)
      clear hLl
      go_wp2_with fail
      go_ret
      exact ⟨_, rfl, ⟨vs, by rw [← HE.out]; exact HO.out⟩, HB.out⟩

set_option maxHeartbeats 2000000 in
theorem implDoms_any (v : Value) (L : List (List Int)) (w : World) (h : GRow w v L) :
    Calls Try.prog 8 #[v] w fun e w' => ∃ v', e = .returned (.tuple #[v', .bool (goodG L)]) ∧ OO w' w.heap.size v' (doR L) ∧ Below w.heap.size w w' := by
  obtain ⟨ad, c, rfl, hR, hs, hlc⟩ := h
  have hB0 : Below w.heap.size w (w.alloc (.cells #[.slice ad L.length c] 28)) := (Below.refl _ _).alloc (Nat.le_refl _) _
  have HX := hide (Bx.new w #[.slice ad L.length c] 28)
  have HV : Hid (∀ w', Below w.heap.size w w' → GRow w' (.agg #[.slice ad L.length c]) L) := hide (fun w' hb => ⟨ad, c, rfl, hR.below hb, hs, hlc⟩)
  clear hR hs hlc
  go_enter Try.func8, Try.ntmps8
  go_wp2_with fail
  refine Calls.mono (implGoodG_any _ L _ (HV.out _ hB0)) ?_
  rintro e w1 ⟨rfl, hb⟩
  have hB1 := hB0.trans (hb.mono hB0.size)
  have HX1 := hide (HX.out.below hb HX.out.lt)
  clear hb hB0 HX
  have cx := HX1.out.c
  have lx := HX1.out.lt
  by_cases hg : goodG L = true
  · have HRe : Hid (doR L = dls L) := hide (by rw [doR, if_pos hg])
    have HGG := hide (goodG_iff.1 hg)
    have Hg := hide hg
    rw [hg]
    clear hg
    have hB1d : Below w.heap.size w w1.drew := belowDrew8 hB1
    have c0 := cx 0
    have hl12 := HGG.out.2.1
    go_upto_region 3 with fail
    refine wp_region_noPanic ?_
    refine wp_region_held_drew (S := fun w' => w'.cell? ⟨w.heap.size, 0, none⟩ = some (.slice ad L.length c)) (by kernel_rfl) c0 (fun hHeld => ?_)
    refine wpAnyH_take (i := 0) (oi := _) (v := ?_) rfl (by kernel_rfl) (by kernel_rfl) (by kernel_rfl) (fun _ _ _ h => h) (Or.inl ⟨by rfl, ?_⟩) (by assumption) ?_
    rotate_left 1
    · (intro w hSw; (try dsimp only at hSw); (first | (go_simp; done) | (go_simp; with_reducible rfl)))
    try simp only [Act.put, List.getElem_toArray, List.getElem_cons_zero, List.getElem_cons_succ, List.setIfInBounds_toArray, List.set_cons_zero, List.set_cons_succ]
    refine wpAnyH_take (i := 2) (oi := _) (v := ?_) rfl (by kernel_rfl) (by kernel_rfl) (by kernel_rfl) (fun _ _ _ h => h) (Or.inl ⟨by rfl, ?_⟩) (by assumption) ?_
    rotate_left 1
    · (intro w hSw; (try dsimp only at hSw); (first | (go_simp; done) | (go_simp; with_reducible rfl)))
    try simp only [Act.put, List.getElem_toArray, List.getElem_cons_zero, List.getElem_cons_succ, List.setIfInBounds_toArray, List.set_cons_zero, List.set_cons_succ]
    refine wpAnyH_take (i := 3) (oi := _) (v := ?_) rfl (by kernel_rfl) (by kernel_rfl) (by kernel_rfl) (fun _ _ _ h => h) (Or.inl ⟨by rfl, ?_⟩) (by assumption) ?_
    rotate_left 1
    · (intro w hSw; (try dsimp only at hSw); (first | (go_simp; done) | (go_simp; with_reducible rfl)))
    try simp only [Act.put, List.getElem_toArray, List.getElem_cons_zero, List.getElem_cons_succ, List.setIfInBounds_toArray, List.set_cons_zero, List.set_cons_succ]
    refine wpAnyH_take (i := 4) (oi := _) (v := ?_) rfl (by kernel_rfl) (by kernel_rfl) (by kernel_rfl) (fun _ _ _ h => h) (Or.inl ⟨by rfl, ?_⟩) (by assumption) ?_
    rotate_left 1
    · (intro w hSw; (try dsimp only at hSw); (first | (go_simp; done) | (go_simp; with_reducible rfl)))
    try simp only [Act.put, List.getElem_toArray, List.getElem_cons_zero, List.getElem_cons_succ, List.setIfInBounds_toArray, List.set_cons_zero, List.set_cons_succ]
    refine wpAnyH_ready (rs := [1]) (by kernel_rfl) (by simp) ?_
    refine AllReadyH.cons (o := _) rfl (fun K hK => ?_) AllReadyH.nil
    go_simp
    (with_reducible refine Calls.mono (dominators_any _ L _ (HV.out _ hB1d) HGG.out) ?_)
    rintro r w2 ⟨rfl, hb⟩
    have c2 := (hb.cell (p := ⟨w.heap.size, 0, none⟩) lx).trans c0
    have lx2 := Nat.lt_of_lt_of_le lx hb.size
    have hB2 := hB1d.trans (hb.mono hB1d.size)
    clear hb
    (try go_wp2_with fail)
    refine hK.out _ _ c2 (fun hHeld => ?_)
    clear hK K
    try simp only [Act.put, List.getElem_toArray, List.getElem_cons_zero, List.getElem_cons_succ, List.setIfInBounds_toArray, List.set_cons_zero, List.set_cons_succ]
    refine wpAnyH_ready (rs := [5]) (by kernel_rfl) (by simp) ?_
    refine AllReadyH.cons (o := _) rfl (fun K hK => ?_) AllReadyH.nil
    go_simp
    (with_reducible refine Calls.mono (listsOf_any (dm L) L.length hl12 _) ?_)
    rintro r w3 ⟨v3, rfl, hO, hb⟩
    have c3 := (hb.cell (p := ⟨w.heap.size, 0, none⟩) lx2).trans c2
    have hB3 := hB2.trans (hb.mono hB2.size)
    have HO : Hid (OO w3 w.heap.size v3 (dls L)) := hide (hO.lower hB2.size)
    obtain ⟨a3, k3, e3⟩ := hO.form
    obtain ⟨n3, hn3⟩ : ∃ n3, n3 = ((List.range L.length).map fun b => lst (dm L b) 12).length := ⟨_, rfl⟩
    rw [← hn3] at e3
    subst e3
    clear hb hO hn3
    (try go_wp2_with fail)
    refine hK.out _ _ c3 (fun hHeld => ?_)
    clear hK K
    try simp only [Act.put, List.getElem_toArray, List.getElem_cons_zero, List.getElem_cons_succ, List.setIfInBounds_toArray, List.set_cons_zero, List.set_cons_succ]
    refine wpAnyH_take (i := 6) (oi := _) (v := ?_) rfl (by kernel_rfl) (by kernel_rfl) (by kernel_rfl) (fun _ _ _ h => h) (Or.inl ⟨by rfl, ?_⟩) (by assumption) ?_
    rotate_left 1
    · (intro w hSw; (try dsimp only at hSw); (first | (go_simp; done) | (go_simp; with_reducible rfl)))
    try simp only [Act.put, List.getElem_toArray, List.getElem_cons_zero, List.getElem_cons_succ, List.setIfInBounds_toArray, List.set_cons_zero, List.set_cons_succ]
    refine wpAnyH_take (i := 7) (oi := _) (v := ?_) rfl (by kernel_rfl) (by kernel_rfl) (by kernel_rfl) (fun _ _ _ h => h) (Or.inl ⟨by rfl, ?_⟩) (by assumption) ?_
    rotate_left 1
    · (intro w hSw; (try dsimp only at hSw); (first | (go_simp; done) | (go_simp; with_reducible rfl)))
    try simp only [Act.put, List.getElem_toArray, List.getElem_cons_zero, List.getElem_cons_succ, List.setIfInBounds_toArray, List.set_cons_zero, List.set_cons_succ]
    refine wpAnyH_done (by kernel_rfl) ?_ _
    refine NoPanic.normal ?_
    clear hHeld
    go_wp2_with fail
    refine bodyPost_ret (v := .tuple #[.slice a3 n3 k3, .bool true]) (by simp [results, Try.results8, go_sem]) rfl ?_
    exact ⟨_, by rw [Hg.out], by rw [HRe.out]; exact HO.out, hB3⟩
  · have HRe : Hid (doR L = []) := hide (by rw [doR, if_neg hg])
    rw [Bool.not_eq_true] at hg
    have Hg := hide hg
    rw [hg]
    clear hg
    go_wp2_with fail
    refine bodyPost_ret (v := .tuple #[.slice none 0 0, .bool false]) (by simp [results, Try.results8, go_sem]) rfl ?_
    exact ⟨_, by rw [Hg.out], by rw [HRe.out]; exact OO.nil _ _, hB1⟩
end Go.Proofs.Ytgmablmkjngkkaa.W
