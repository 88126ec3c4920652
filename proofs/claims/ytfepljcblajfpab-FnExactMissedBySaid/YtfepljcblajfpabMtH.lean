/-
  What rules miss, by the specification: MissedBy. Conditions: at most 1048576 elements a row. Written by wip/build/mk_mth.py.
-/
import Derived.Test.YtfepljcblajfpabMtG
import Derived.Test.YtfepljcblajfpabMsQ
namespace Go.Proofs.Ytfepljcblajfpab.W
open Go.ChangeShapes Go.WideShapes Go.ChangeAt Go.RowKit
set_option linter.unusedVariables false
set_option linter.unusedSimpArgs false

set_option maxRecDepth 20000 in
set_option maxHeartbeats 8000000 in
theorem specMissed_any (vd : Value) (D : List Int) (x0 : Value) (L : List (List Pt)) (w : World) (hD : DRow w vd D) (hq : QV w x0 L) :
    Calls Try.prog 7 #[vd, x0] w fun e w' => ∃ v', e = .returned (.tuple #[v', .bool (missO D L).isSome, .bool (goodR D L)]) ∧ w'.ownsRow w.heap.size 67 2 v' (missL D L).length (rcells 2 Pt.c (missL D L)) ∧ Below w.heap.size w w' := by
  have HG := hide (fun (w' : World) (hb : Below w.heap.size w w') => l8Rules_any vd D x0 L w' (hD.below hb) (hq.below hb))
  have HD := hide hD
  obtain ⟨da, dc, rfl, -, -⟩ := hD
  obtain ⟨qa, qc, rfl, -, -, -⟩ := hq
  have HB0 := hide (show Below w.heap.size w (w.alloc (.cells #[.slice da D.length dc] 31)) from (Below.refl _ _).alloc (Nat.le_refl _) _)
  have HX0 := hide (Bx.new w #[.slice da D.length dc] 31)
  have HMno := hide (fun h => missO_no (D := D) (L := L) h)
  have HMy := hide (fun h => missO_yes (D := D) (L := L) h)
  have HFa := hide (fun h => goodR_facts (D := D) (L := L) h)
  have HGd : Hid (goodR D L = (ruT D L).isSome) := hide rfl
  obtain ⟨G, hG⟩ : ∃ G, G = goodR D L := ⟨_, rfl⟩
  rw [← hG] at HMno HMy HFa HGd ⊢
  clear hG
  unfold missL
  obtain ⟨M, hM⟩ : ∃ M, M = missO D L := ⟨_, rfl⟩
  rw [← hM] at HMno HMy ⊢
  clear hM
  go_enter Try.func7, Try.ntmps7
  go_wp2_with fail
  refine Calls.mono (HG.out _ HB0.out) ?_
  rintro e w1 ⟨hb1, ho1⟩
  have hB1 : Below w.heap.size w w1 := HB0.out.trans (hb1.mono HB0.out.size)
  have HX1 := hide (HX0.out.below hb1 HX0.out.lt)
  clear hb1 HB0 HX0 HG
  cases hr : ruT D L with
  | none =>
    rw [hr] at ho1
    obtain rfl : e = .returned (.tuple #[.slice none 0 0, .bool false]) := ho1
    obtain rfl : G = false := by rw [HGd.out, hr]; rfl
    obtain rfl := HMno.out rfl
    have HE := hide (World.ownsRow_nil w1 w.heap.size 67 2)
    clear HMno HMy HFa hr HGd
    go_wp2_with fail
    exact bodyPost_ret (v := .tuple #[.slice none 0 0, .bool false, .bool false]) (by simp [results, Try.results7, go_sem]) rfl ⟨_, rfl, HE.out, hB1⟩
  | some R =>
    rw [hr] at ho1
    obtain ⟨s, rfl, hT⟩ := ho1
    obtain rfl : G = true := by rw [HGd.out, hr]; rfl
    obtain ⟨hd, h8, htr⟩ := HFa.out rfl
    have hMe := HMy.out rfl
    have hru : rulesF D L = some R := by
      unfold ruT at hr
      split at hr
      · exact hr
      · cases hr
    have hRl : R.len ≤ 8 := by rw [(rulesF_len hru).1]; exact h8
    have hon := ones_trees hru
    have hWR := trees_wr htr h8 (anys1_ok D) rfl (by simp [anys, F.flat])
    have HLn : Hid (∀ l, M = some l → l.length ≤ 2000) := hide (fun l hl => by
      rw [hMe] at hl
      have h1 := win_len hd _ _ _ _ hWR hl
      have h2 := hWR.big
      omega)
    have HRo : Hid (∀ (w' : World), Below w1.heap.size w1 w' → Calls Try.prog 27 #[s] w' fun e w'' => ∃ v', e = .returned v' ∧ RV w'' v' (trees D L) ∧ Below w'.heap.size w' w'') := hide (fun w' hb => by
      rw [← hon]
      exact l8Rows_any R s _ w' (hT.below hb) hRl)
    have HMi : Hid (∀ (w' : World) (v' : Value), Below w.heap.size w w' → RV w' v' (trees D L) → Calls Try.prog 26 #[.agg #[.slice da D.length dc], v', .int .i64 1] w' fun e w'' => MOut D (trees D L) 1 w'' e ∧ Below w'.heap.size w' w'') := hide (fun w' v' hb hv => l8Missed_any D hd da dc (trees D L) 1 v' w' (HD.out.below hb) hv hWR)
    unfold MOut at HMi
    rw [← hMe] at HMi
    obtain ⟨sad, sc, rfl⟩ := hT.form
    obtain ⟨RN, hRN⟩ : ∃ RN, RN = R.len := ⟨_, rfl⟩
    rw [← hRN] at HRo ⊢
    have b0 : w1.cell? ⟨w.heap.size, 0, none⟩ = some (.slice da D.length dc) := HX1.out.c 0
    have xl := HX1.out.lt
    clear HMno HMy HFa hr HGd hMe hru hRl hon hWR hT hRN htr h8
    go_wp2_with fail
    refine wp_region_noPanic ?_
    refine wp_region_held_drew (S := fun w' => w'.cell? ⟨w.heap.size, 0, none⟩ = some (.slice da D.length dc)) (by kernel_rfl) b0 (fun hHeld => ?_)
    refine wpAnyH_take (i := 0) (oi := _) (v := ?_) rfl (by kernel_rfl) (by kernel_rfl) (by kernel_rfl) (fun _ _ _ h => h) (Or.inl ⟨by rfl, ?_⟩) (by assumption) ?_
    rotate_left 1
    · (intro w hSw; (try dsimp only at hSw); (first | (go_simp; done) | (go_simp; with_reducible rfl)))
    try simp only [Act.put, List.getElem_toArray, List.getElem_cons_zero, List.getElem_cons_succ, List.setIfInBounds_toArray, List.set_cons_zero, List.set_cons_succ]
    refine wpAnyH_take (i := 1) (oi := _) (v := ?_) rfl (by kernel_rfl) (by kernel_rfl) (by kernel_rfl) (fun _ _ _ h => h) (Or.inl ⟨by rfl, ?_⟩) (by assumption) ?_
    rotate_left 1
    · (intro w hSw; (try dsimp only at hSw); (first | (go_simp; done) | (go_simp; with_reducible rfl)))
    try simp only [Act.put, List.getElem_toArray, List.getElem_cons_zero, List.getElem_cons_succ, List.setIfInBounds_toArray, List.set_cons_zero, List.set_cons_succ]
    refine wpAnyH_ready (rs := [2]) (by kernel_rfl) (by simp) ?_
    refine AllReadyH.cons (o := _) rfl (fun K hK => ?_) AllReadyH.nil
    go_simp
    (with_reducible refine Calls.mono (HRo.out w1.drew (Below.drew (Below.refl _ _))) ?_)
    rintro r wa ⟨vn, rfl, hrv, hba⟩
    have HRv := hide hrv
    have hBa : Below w.heap.size w wa := (belowDrew8 hB1).trans (hba.mono hB1.size)
    have fa0 := (hba.cell (p := ⟨w.heap.size, 0, none⟩) xl).trans b0
    have xla : w.heap.size < wa.heap.size := Nat.lt_of_lt_of_le xl hba.size
    clear hba
    obtain ⟨na, nc, rfl, -⟩ := hrv.form
    clear hrv
    (try go_wp2_with fail)
    refine hK.out _ _ fa0 (fun hHeld => ?_)
    clear hK K
    try simp only [Act.put, List.getElem_toArray, List.getElem_cons_zero, List.getElem_cons_succ, List.setIfInBounds_toArray, List.set_cons_zero, List.set_cons_succ]
    refine wpAnyH_ready (rs := [3]) (by kernel_rfl) (by simp) ?_
    refine AllReadyH.cons (o := _) rfl (fun K hK => ?_) AllReadyH.nil
    go_simp
    (with_reducible refine Calls.mono (HMi.out wa _ hBa HRv.out) ?_)
    rintro r wb ⟨⟨s9, b9, rfl, hg9, hc9, hl9, hs9⟩, hbb⟩
    have hBb : Below w.heap.size w wb := hBa.trans (hbb.mono hBa.size)
    have fb0 := (hbb.cell (p := ⟨w.heap.size, 0, none⟩) xla).trans fa0
    have HG9 := hide hg9
    have HC9 := hide hc9
    have HS9 := hide hs9
    clear hbb hg9 hc9 hs9 hl9
    obtain ⟨a9, c9, hf9⟩ := HG9.out.form
    (try go_wp2_with fail)
    refine hK.out _ _ fb0 (fun hHeld => ?_)
    clear hK K
    try simp only [Act.put, List.getElem_toArray, List.getElem_cons_zero, List.getElem_cons_succ, List.setIfInBounds_toArray, List.set_cons_zero, List.set_cons_succ]
    refine wpAnyH_take (i := 4) (oi := _) (v := ?_) rfl (by kernel_rfl) (by kernel_rfl) (by kernel_rfl) (fun _ _ _ h => h) (Or.inl ⟨by rfl, ?_⟩) (by assumption) ?_
    rotate_left 1
    · (intro w hSw; (try dsimp only at hSw); (first | (go_simp; done) | (go_simp; with_reducible rfl)))
    try simp only [Act.put, List.getElem_toArray, List.getElem_cons_zero, List.getElem_cons_succ, List.setIfInBounds_toArray, List.set_cons_zero, List.set_cons_succ]
    refine wpAnyH_take (i := 5) (oi := _) (v := ?_) rfl (by kernel_rfl) (by kernel_rfl) (by kernel_rfl) (fun _ _ _ h => h) (Or.inl ⟨by rfl, ?_⟩) (by assumption) ?_
    rotate_left 1
    · (intro w hSw; (try dsimp only at hSw); (first | (go_simp; done) | (go_simp; with_reducible rfl)))
    try simp only [Act.put, List.getElem_toArray, List.getElem_cons_zero, List.getElem_cons_succ, List.setIfInBounds_toArray, List.set_cons_zero, List.set_cons_succ]
    refine wpAnyH_take (i := 6) (oi := _) (v := ?_) rfl (by kernel_rfl) (by kernel_rfl) (by kernel_rfl) (fun _ _ _ h => h) (Or.inl ⟨by rfl, ?_⟩) (by assumption) ?_
    rotate_left 1
    · (intro w hSw; (try dsimp only at hSw); (first | (go_simp; done) | (go_simp; with_reducible rfl)))
    try simp only [Act.put, List.getElem_toArray, List.getElem_cons_zero, List.getElem_cons_succ, List.setIfInBounds_toArray, List.set_cons_zero, List.set_cons_succ]
    refine wpAnyH_take (i := 7) (oi := _) (v := ?_) rfl (by kernel_rfl) (by kernel_rfl) (by kernel_rfl) (fun _ _ _ h => h) (Or.inl ⟨by rfl, ?_⟩) (by assumption) ?_
    rotate_left 1
    · (intro w hSw; (try dsimp only at hSw); (first | (go_simp; done) | (go_simp; with_reducible rfl)))
    try simp only [Act.put, List.getElem_toArray, List.getElem_cons_zero, List.getElem_cons_succ, List.setIfInBounds_toArray, List.set_cons_zero, List.set_cons_succ]
    refine wpAnyH_take (i := 8) (oi := _) (v := ?_) rfl (by kernel_rfl) (by kernel_rfl) (by kernel_rfl) (fun _ _ _ h => h) (Or.inl ⟨by rfl, ?_⟩) (by assumption) ?_
    rotate_left 1
    · (intro w hSw; (try dsimp only at hSw); (first | (go_simp; done) | (go_simp; with_reducible rfl)))
    try simp only [Act.put, List.getElem_toArray, List.getElem_cons_zero, List.getElem_cons_succ, List.setIfInBounds_toArray, List.set_cons_zero, List.set_cons_succ]
    refine wpAnyH_done (by kernel_rfl) ?_ _
    refine NoPanic.normal ?_
    clear b0 fa0 fb0 HMi HRo HX1 HRv xl
    cases M with
    | none =>
      have HE := hide (World.ownsRow_nil wb w.heap.size 67 2)
      clear HG9 HC9 HS9 HLn
      subst hf9
      simp only [Option.isSome_none]
      go_wp2_with fail
      exact bodyPost_ret (v := .tuple #[.slice none 0 0, .bool false, .bool true]) (by simp [results, Try.results7, go_sem]) rfl ⟨_, rfl, HE.out, hBb⟩
    | some l =>
      obtain ⟨ok9, ln9, fl9⟩ := HS9.out l rfl
      obtain ⟨x, k, rfl⟩ := F.len_1 ln9
      have hll := HLn.out l rfl
      rw [← fl9] at hll
      have hkl : k.flat.length ≤ 2000 := by simp [F.flat] at hll; omega
      have hg9 := HG9.out.weak (P' := fun g => g < wb.heap.size) (fun k _ hk => hk)
      obtain ⟨g, o, c, sx, e9, hgl, -, hgk, p0, p1⟩ := GT.kid (a := .nil) (k := k) (r := .nil) (x := x) (s := s9) hg9
      have HC := hide (l8Flat_any D k x sx (.slice none 0 0) wb.heap.size 0 [] wb ok9 (by omega) (Nat.le_refl _) hgk (World.ownsRow_nil _ _ _ _))
      have HFl : Hid (l = x :: k.flat) := hide (by rw [← fl9]; simp [F.flat])
      obtain ⟨xa, xc, rfl⟩ := hgk.form
      obtain ⟨YT, hYT⟩ : ∃ YT, YT = tcon x := ⟨_, rfl⟩
      obtain ⟨KN, hKN⟩ : ∃ KN, KN = k.len := ⟨_, rfl⟩
      rw [← hYT] at p0 HC
      rw [← hKN] at p1 HC
      simp only [F.len, Nat.zero_mul, Nat.add_zero] at p0 p1
      rw [hf9] at e9
      simp only [Value.slice.injEq] at e9
      obtain ⟨rfl, -, rfl⟩ := e9
      rw [show (F.cons x k .nil).len = 1 from rfl]
      clear HG9 HC9 HS9 HLn ok9 ln9 fl9 hll hg9 hgk hYT hKN hf9
      simp only [Option.isSome_some, Option.getD_some]
      go_wp2_with fail
      refine Calls.mono HC.out ?_
      rintro e w5 ⟨v5, rfl, ho5, hb5⟩
      have hB5 : Below w.heap.size w w5 := hBb.trans (hb5.mono hBb.size)
      have HO5 : Hid (w5.ownsRow w.heap.size 67 2 v5 l.length (rcells 2 Pt.c l)) := hide (by
        have h := own_lower ho5 (base' := w.heap.size) hBb.size
        rw [HFl.out]
        simpa using h)
      obtain ⟨a5, c5, rfl⟩ := own_form ho5
      clear ho5 hb5 HC p0 p1
      go_wp2_with fail
      exact bodyPost_ret (v := .tuple #[.slice a5 (0 + (k.flat.length + 1)) c5, .bool true, .bool true]) (by simp [results, Try.results7, go_sem]) rfl ⟨_, rfl, HO5.out, hB5⟩
end Go.Proofs.Ytfepljcblajfpab.W
