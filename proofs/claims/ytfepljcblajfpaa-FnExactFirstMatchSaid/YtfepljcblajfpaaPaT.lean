/-
  Which rule fits first: the program's FirstMatch. Conditions: at most 1048576 elements a row.
-/
import Derived.Test.YtfepljcblajfpaaPaE
namespace Go.Proofs.Ytfepljcblajfpaa.W
open Go.ChangeShapes Go.WideShapes Go.ChangeAt Go.RowKit
set_option linter.unusedVariables false
set_option linter.unusedSimpArgs false

/-- The number of the first of patterns that a value fits. -/
def frst : F → F → Nat → Int
  | .nil, _, _ => -1
  | .cons x k r, t, i => if fit (.cons x k .nil) t = true then (i : Int) else frst r t (i + 1)
def fmR (D : List Int) (L : List (List Pt)) (v : List Int) : Int × Bool :=
  match ruT D L, valT D v with
  | some R, some t => (frst R t 0, true)
  | _, _ => (0, false)
theorem frst_app {a r t : F} {i : Nat} (h : a.len = 1) : frst (a.app r) t i = if fit a t = true then (i : Int) else frst r t (i + 1) := by
  obtain ⟨x, k, rfl⟩ := F.len_1 h
  rfl
theorem valT_facts {D v : List Int} {t : F} (h : valT D v = some t) : goodD D = true ∧ v.map oP = t.flat ∧ t.ok D ∧ t.len = 1 ∧ v.length ≤ 60 ∧ t.val := by
  unfold valT at h
  by_cases hd : goodD D = true
  · rw [if_pos hd] at h
    obtain ⟨h1, h2, h3, h4, -⟩ := treeT_flat h
    exact ⟨hd, h1, h2, h3, by simpa using h4, val_of (v := v) (r := []) ⟨0, by simpa using h1⟩⟩
  · rw [if_neg hd] at h; cases h
theorem fmR_no {D : List Int} {L : List (List Pt)} {v : List Int} (h : goodR D L = false ∨ goodV D v = false) : fmR D L v = (0, false) := by
  unfold fmR
  rcases h with h | h
  · cases hr : ruT D L with
    | none => rfl
    | some R => simp [goodR, hr] at h
  · cases hr : valT D v with
    | none => cases ruT D L <;> rfl
    | some R => simp [goodV, hr] at h

set_option maxRecDepth 20000 in
set_option maxHeartbeats 4000000 in
theorem implFirst_any (vd : Value) (D : List Int) (x0 : Value) (L : List (List Pt)) (x1 : Value) (v : List Int) (w : World) (hD : DRow w vd D) (hq : QV w x0 L) (hv : IV w x1 v) :
    Calls Try.prog 24 #[vd, x0, x1] w fun e w' => e = .returned (.tuple #[.int .i64 (fmR D L v).1, .bool (fmR D L v).2]) ∧ Below w.heap.size w w' := by
  have HG := hide (fun (w' : World) (hb : Below w.heap.size w w') => implGoodR_any vd D x0 L w' (hD.below hb) (hq.below hb))
  have HV : Hid (∀ (w' : World) (hb : Below w.heap.size w w'), Calls Try.prog 21 #[vd, x1] w' fun e w'' => e = .returned (.bool (goodV D v)) ∧ Below w'.heap.size w' w'') := hide (fun w' hb => by
    obtain ⟨a, k, rfl, h1, h2⟩ := hv
    exact implGoodV_any vd D a k v w' (hD.below hb) h2 (RRow.below h1 hb))
  have HO : Hid (∀ (w' : World) (hb : Below w.heap.size w w'), Calls Try.prog 45 #[x1] w' fun e w'' => e = .returned (.slice (some ⟨w'.heap.size, 0, none⟩) v.length v.length) ∧ PtBlk w'' w'.heap.size (v.map oP) ∧ Below w'.heap.size w' w'') := hide (fun w' hb => by
    obtain ⟨a, k, rfl, h1, h2⟩ := hv
    exact onlyPattern_any a k v w' h2 (RRow.below h1 hb))
  have HD := hide hD
  obtain ⟨qa, qc, rfl, hQ, hs, hqc⟩ := hq
  obtain ⟨ia, ic, rfl, -, hvl⟩ := hv
  have HQ := hide hQ
  have hLl := hs.1
  have HS := hide hs.2
  obtain ⟨da, dc, rfl, -, hDl⟩ := hD
  have HB0 := hide (show Below w.heap.size w (w.alloc (.cells #[.slice da D.length dc] 27)) from (Below.refl _ _).alloc (Nat.le_refl _) _)
  have HX0 := hide (Bx.new w #[.slice da D.length dc] 27)
  have HF := hide (fun h => fmR_no (D := D) (L := L) (v := v) h)
  have HY : Hid (∀ R t, ruT D L = some R → valT D v = some t → fmR D L v = (frst R t 0, true)) := hide (fun R t h1 h2 => by unfold fmR; rw [h1, h2])
  obtain ⟨A, hA⟩ : ∃ A, A = fmR D L v := ⟨_, rfl⟩
  rw [← hA] at HF HY ⊢
  clear hA hQ hs
  obtain ⟨fr, ok⟩ := A
  dsimp only
  go_enter Try.func24, Try.ntmps24
  go_wp2_with fail
  refine Calls.mono (HG.out _ HB0.out) ?_
  rintro e w1 ⟨rfl, hb1⟩
  have hB1 : Below w.heap.size w w1 := HB0.out.trans (hb1.mono HB0.out.size)
  have HX1 := hide (HX0.out.below hb1 HX0.out.lt)
  clear hb1 HB0 HX0 HG
  cases hg : goodR D L with
  | false =>
    have e1 := HF.out (.inl hg)
    simp only [Prod.mk.injEq] at e1
    obtain ⟨rfl, rfl⟩ := e1
    clear hg HY HF
    go_wp2_with fail
    exact bodyPost_ret (v := .tuple #[.int .i64 0, .bool false]) (by simp [results, Try.results24, go_sem]) rfl ⟨rfl, hB1⟩
  | true =>
    have cx := HX1.out.c
    have xl := HX1.out.lt
    go_wp2_with fail
    refine Calls.mono (HV.out _ hB1) ?_
    rintro e w2 ⟨rfl, hb2⟩
    have hB2 : Below w.heap.size w w2 := hB1.trans (hb2.mono hB1.size)
    have HX2 := hide (HX1.out.below hb2 xl)
    clear hb2 cx xl HX1 HV hB1
    cases hgv : goodV D v with
    | false =>
      have e1 := HF.out (.inr hgv)
      simp only [Prod.mk.injEq] at e1
      obtain ⟨rfl, rfl⟩ := e1
      clear hg hgv HY HF
      go_wp2_with fail
      exact bodyPost_ret (v := .tuple #[.int .i64 0, .bool false]) (by simp [results, Try.results24, go_sem]) rfl ⟨rfl, hB2⟩
    | true =>
      obtain ⟨R, hR⟩ := Option.isSome_iff_exists.1 (show (ruT D L).isSome = true from hg)
      obtain ⟨t, ht⟩ := Option.isSome_iff_exists.1 (show (valT D v).isSome = true from hgv)
      have hAe := HY.out R t hR ht
      obtain ⟨hd, hvf, hto, htl, hv60, htv⟩ := valT_facts ht
      have hRf : rulesF D L = some R := by
        unfold ruT at hR
        split at hR
        · exact hR
        · cases hR
      have HRf := hide hRf
      have Hto := hide hto
      have Htl := hide htl
      have Htv := hide htv
      have Hd := hide hd
      have Hvf := hide hvf
      simp only [Prod.mk.injEq] at hAe
      obtain ⟨hfr, rfl⟩ := hAe
      have Hfr := hide hfr
      have htlen := hide (show t.flat.length = v.length by rw [← hvf]; simp)
      clear hg hgv HY HF hR ht hto htl htv hd hvf hRf hfr
      go_wp2_with fail
      refine Calls.mono (HO.out _ hB2) ?_
      rintro e w3 ⟨rfl, hblk, hb3⟩
      have hB3 : Below w.heap.size w w3 := hB2.trans (hb3.mono hB2.size)
      have HX3 := hide (HX2.out.below hb3 HX2.out.lt)
      obtain ⟨VB, hVB⟩ : ∃ VB, VB = w2.heap.size := ⟨_, rfl⟩
      rw [← hVB] at hblk ⊢
      have hpv : PV w3 (.slice (some ⟨VB, 0, none⟩) v.length v.length) t.flat := ⟨_, _, by rw [htlen.out], by rw [← Hvf.out]; exact hblk.row, by rw [htlen.out]; exact Nat.le_refl _⟩
      have HPV := hide hpv
      clear hblk hpv hb3 hVB HX2 HO hB2
      go_wp2_with fail
      go_loopw [25] (fun i w' => ∃ (j : Nat) (Rj : F), j ≤ L.length ∧ i = .int .i64 j ∧ rulesF D (L.drop j) = some Rj ∧ fr = frst Rj t j ∧ Bx w' w.heap.size #[.slice da D.length dc] 27 ∧ Below w3.heap.size w3 w') (fun i _ => L.length - (intOf i).toNat)
      case atStart => exact ⟨0, R, by omega, rfl, HRf.out, Hfr.out, HX3.out, Below.refl _ _⟩
      case round =>
        clear HX3 HRf Hfr
        obtain ⟨j, Rj, hj, rfl, hRj, hfj, hX, hB⟩ := hrel
        have HX := hide hX
        have HRj := hide hRj
        have Hfj := hide hfj
        have hBw : Below w.heap.size w wr := hB3.trans (hB.mono hB3.size)
        clear hX hRj hfj
        have xl := HX.out.lt
        by_cases hlt : j < L.length
        · have hlt' : (j : Int) < (L.length : Int) := by omega
          obtain ⟨b, o, lv, rfl, hb, p0, pv⟩ := QRow.at HQ.out hBw hlt
          have hs6 := HS.out L[j] (List.getElem_mem hlt)
          obtain ⟨a, Rr, ha, hRr, hae⟩ : ∃ a Rr, treeT D 40 L[j] = some a ∧ rulesF D (L.drop (j + 1)) = some Rr ∧ Rj = a.app Rr := by
            have h := HRj.out
            rw [List.drop_eq_getElem_cons hlt, rulesF] at h
            cases h1 : treeT D 40 L[j] with
            | none => rw [h1] at h; cases h
            | some a =>
              rw [h1] at h
              cases h2 : rulesF D (L.drop (j + 1)) with
              | none => rw [h2] at h; cases h
              | some Rr => rw [h2] at h; simp at h; exact ⟨a, Rr, rfl, rfl, h.symm⟩
          obtain ⟨f1, f2, f3, f4, -⟩ := treeT_flat ha
          have hfr2 : fr = if fit a t = true then (j : Int) else frst Rr t (j + 1) := by rw [Hfj.out, hae, frst_app f3]
          have Hfr2 := hide hfr2
          have HRr := hide hRr
          rw [f1] at pv
          have HC := hide (fun (w' : World) (hb : Below wr.heap.size wr w') => fits_any (.agg #[.slice da D.length dc]) D lv a (.slice (some ⟨VB, 0, none⟩) v.length v.length) t w' (HD.out.below (hBw.trans (hb.mono hBw.size))) Hd.out (pv.below hb) (HPV.out.below (hB.trans (hb.mono hB.size))) (by rw [← f1]; exact hs6) (by rw [htlen.out]; omega) f2 Hto.out Htv.out (by rw [f3, Htl.out]))
          obtain ⟨la, lc, rfl, -, -⟩ := pv
          obtain ⟨FT, hFT⟩ : ∃ FT, FT = fit a t := ⟨_, rfl⟩
          rw [← hFT] at HC Hfr2
          obtain ⟨N, hN⟩ : ∃ N, N = a.flat.length := ⟨_, rfl⟩
          rw [← hN] at HC p0
          have cx := HX.out.c
          clear hFT hN f1 f2 f3 f4 ha hRr hae hfr2 hs6 HRj Hfj
          go_wp2_with fail
          refine Calls.mono (HC.out _ (Below.refl _ _)) ?_
          rintro e w4 ⟨rfl, hb4⟩
          have hB4 : Below w3.heap.size w3 w4 := hB.trans (hb4.mono hB.size)
          have HX4 := hide (HX.out.below hb4 xl)
          clear hb4 cx p0 HC
          cases FT with
          | true =>
            have e1 := hide (show fr = (j : Int) by rw [Hfr2.out]; rfl)
            clear Hfr2
            go_wp2_with fail
            exact bodyPost_ret (v := .tuple #[.int .i64 (j : Int), .bool true]) (by simp [results, Try.results24, go_sem]) rfl ⟨by rw [e1.out], hB3.trans (hB4.mono hB3.size)⟩
          | false =>
            have e1 := hide (show fr = frst Rr t (j + 1) by rw [Hfr2.out]; rfl)
            clear Hfr2
            go_wp2_with fail
            exact ⟨⟨j + 1, Rr, by omega, by go_num, HRr.out, e1.out, HX4.out, hB4⟩, by simp [intOf]; omega⟩
        · obtain rfl : j = L.length := by omega
          have e1 := hide (show fr = -1 by
            have h := HRj.out
            rw [List.drop_length] at h
            simp [rulesF] at h
            rw [Hfj.out, ← h]; rfl)
          clear HRj Hfj
          go_wp2_with fail
          exact bodyPost_ret (v := .tuple #[.int .i64 (-1), .bool true]) (by simp [results, Try.results24, go_sem]) rfl ⟨by rw [e1.out], hBw⟩
end Go.Proofs.Ytfepljcblajfpaa.W
