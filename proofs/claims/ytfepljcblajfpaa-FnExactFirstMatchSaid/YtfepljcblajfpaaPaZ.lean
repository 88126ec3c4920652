/-
  Which rule fits first: the specification's l8First and FirstMatch. Conditions: at most 1048576 elements a row.
-/
import Derived.Test.YtfepljcblajfpaaPaT
import Derived.Test.YtfepljcblajfpaaPaU
namespace Go.Proofs.Ytfepljcblajfpaa.W
open Go.ChangeShapes Go.WideShapes Go.ChangeAt Go.RowKit
set_option linter.unusedVariables false
set_option linter.unusedSimpArgs false

set_option maxRecDepth 20000 in
set_option maxHeartbeats 4000000 in
theorem l8First_any (D : List Int) (hd : goodD D = true) (P : Nat → Prop) (R : F) (s : Value) (y : Pt) (k' : F) (s' : Value) (w : World) (hl : R.len ≤ 1048576) (oR : R.ok D) (ou : (F.cons y k' .nil).ok D) (hy : y.kd = 2) (hv : k'.val) (hR : KidT w P R s) (hk' : KidT w P k' s') :
    Calls Try.prog 46 #[s, .agg #[.int .i64 (tcon y), s']] w fun e w' => e = .returned (.int .i64 (frst R (.cons y k' .nil) 0)) ∧ Below w.heap.size w w' := by
  obtain ⟨sa, sc, rfl⟩ := hR.form
  obtain ⟨sa', sc', rfl⟩ := hk'.form
  have HK := hide hR
  have HK' := hide hk'
  have Hok := hide oR
  have HF := hide (fun (n : Nat) (x : Pt) (k : F) (sx : Value) (w' : World) (h1 : k.flat.length < n) (h2 : (F.cons x k .nil).ok D) (h3 : KidT w' P k sx) (h4 : KidT w' P k' (.slice sa' k'.len sc')) => l8Fits_all D hd P n x k sx y k' (.slice sa' k'.len sc') w' h1 h2 ou hy hv h3 h4)
  obtain ⟨t, ht⟩ : ∃ t, t = F.cons y k' .nil := ⟨_, rfl⟩
  rw [← ht] at HF ⊢
  obtain ⟨fr, hfr⟩ : ∃ fr, fr = frst R t 0 := ⟨_, rfl⟩
  rw [← hfr]
  have Hfr := hide hfr
  obtain ⟨Y, hY⟩ : ∃ Y, Y = tcon y := ⟨_, rfl⟩
  rw [← hY] at HF ⊢
  obtain ⟨N', hN'⟩ : ∃ N', N' = k'.len := ⟨_, rfl⟩
  rw [← hN'] at HF HK' ⊢
  obtain ⟨N, hN⟩ : ∃ N, N = R.len := ⟨_, rfl⟩
  rw [← hN] at HK hl ⊢
  have HN := hide hN
  have HB0 := hide (show Below w.heap.size w (w.alloc (.cells #[.int .i64 Y, .slice sa' N' sc'] 71)) from (Below.refl _ _).alloc (Nat.le_refl _) _)
  have HX0 := hide (Bx.new w #[.int .i64 Y, .slice sa' N' sc'] 71)
  clear hR hk' oR ou hy hv ht hfr hY hN' hN hd
  go_enter Try.func46, Try.ntmps46
  go_wp2_with fail
  go_loopw [9] (fun i w' => ∃ (q : Nat) (b : F), q ≤ N ∧ i = .int .i64 q ∧ b.len = N - q ∧ (∃ a : F, R = a.app b ∧ a.len = q) ∧ fr = frst b t q ∧ Bx w' w.heap.size #[.int .i64 Y, .slice sa' N' sc'] 71 ∧ Below w.heap.size w w') (fun i _ => N - (intOf i).toNat)
  case atStart => exact ⟨0, R, by omega, rfl, by rw [HN.out]; omega, ⟨.nil, rfl, rfl⟩, Hfr.out, HX0.out, HB0.out⟩
  case round =>
    clear HX0 HB0 Hfr
    obtain ⟨q, b, hq, rfl, hbl, hab, hG, hX, hB⟩ := hrel
    have HX := hide hX
    have HG := hide hG
    have HAB := hide hab
    clear hX hG hab
    have xl := HX.out.lt
    by_cases hlt : q < N
    · have hlt' : (q : Int) < (N : Int) := by omega
      obtain ⟨x1, k1, r1, hb1⟩ : ∃ x1 k1 r1, b = .cons x1 k1 r1 := by
        cases b with
        | nil => simp [F.len] at hbl; omega
        | cons x k r => exact ⟨_, _, _, rfl⟩
      obtain ⟨a, ha, la⟩ := HAB.out
      subst hb1
      have hk0 := HK.out
      rw [ha] at hk0
      obtain ⟨g, cap, sx, e1, hPg, hgl, kx, c0, c1⟩ := KidT.kid hk0
      simp only [Value.slice.injEq] at e1
      obtain ⟨rfl, -, -⟩ := e1
      rw [la] at c0 c1
      have hok1 : (F.cons x1 k1 r1).ok D := by
        have := Hok.out
        rw [ha, F.app_ok] at this
        exact this.2
      have hG2 : fr = if fit (.cons x1 k1 .nil) t = true then (q : Int) else frst r1 t (q + 1) := HG.out
      have HC := hide (fun (w' : World) (hb : Below w.heap.size w w') => HF.out (k1.flat.length + 1) x1 k1 sx w' (by omega) ⟨hok1.1, hok1.2.1, hok1.2.2.1, trivial⟩ (kx.below hb) (HK'.out.below hb))
      obtain ⟨FT, hFT⟩ : ∃ FT, FT = fit (.cons x1 k1 .nil) t := ⟨_, rfl⟩
      rw [← hFT] at HC hG2
      have HG2 := hide hG2
      obtain ⟨xa, xc, rfl⟩ := kx.form
      have HAB2 : Hid (∃ a : F, R = a.app r1 ∧ a.len = q + 1) := hide ⟨a.app (.cons x1 k1 .nil), by rw [ha, F.app_assoc]; rfl, by rw [F.app_len, la]; rfl⟩
      have hbl2 := hide (show r1.len = N - (q + 1) by simp [F.len] at hbl; omega)
      have d0 : wr.cell? ⟨g, q * 2, none⟩ = some (.int .i64 (tcon x1)) := (hB.cell (p := ⟨g, q * 2, none⟩) hgl).trans c0
      have d1 : wr.cell? ⟨g, q * 2 + 1, none⟩ = some (.slice xa k1.len xc) := (hB.cell (p := ⟨g, q * 2 + 1, none⟩) hgl).trans c1
      obtain ⟨X1, hX1⟩ : ∃ X1, X1 = tcon x1 := ⟨_, rfl⟩
      obtain ⟨M, hM⟩ : ∃ M, M = k1.len := ⟨_, rfl⟩
      rw [← hX1] at d0 HC
      rw [← hM] at d1 HC
      have f0 := HX.out.c
      have hBa : Below w.heap.size w (wr.alloc (.cells #[.int .i64 X1, .slice xa M xc] 71)) := hB.alloc hB.size _
      have HBa := hide hBa
      have HXa := hide (HX.out.alloc (.cells #[.int .i64 X1, .slice xa M xc] 71))
      clear hX1 hM hFT hG2 hok1 kx c0 c1 la ha hk0 hbl HG HAB hBa
      go_wp2_with fail
      refine Calls.mono (HC.out _ HBa.out) ?_
      rintro e w2 ⟨rfl, hb2⟩
      have hB2 : Below w.heap.size w w2 := HBa.out.trans (hb2.mono HBa.out.size)
      have HX2 := hide (HXa.out.below hb2 HXa.out.lt)
      clear d0 d1 f0 hb2 HXa HBa
      cases FT with
      | true =>
        have HG3 := hide (show fr = (q : Int) by rw [HG2.out]; rfl)
        clear HG2
        go_wp2_with fail
        go_ret
        exact ⟨ret_int HG3.out.symm, hB2⟩
      | false =>
        have HG3 := hide (show fr = frst r1 t (q + 1) by rw [HG2.out]; rfl)
        clear HG2
        go_wp2_with fail
        exact ⟨⟨q + 1, r1, by omega, by go_num, hbl2.out, HAB2.out, HG3.out, HX2.out, hB2⟩, by simp [intOf]; omega⟩
    · obtain rfl : q = N := by omega
      have hb0 : b = .nil := F.len_0 (by omega)
      have HG2 := hide (show fr = -1 by rw [HG.out, hb0]; rfl)
      clear HG
      go_wp2_with fail
      go_ret
      exact ⟨ret_int HG2.out.symm, hB⟩

set_option maxRecDepth 20000 in
set_option maxHeartbeats 4000000 in
theorem specFirst_any (vd : Value) (D : List Int) (x0 : Value) (L : List (List Pt)) (x1 : Value) (v : List Int) (w : World) (hD : DRow w vd D) (hq : QV w x0 L) (hv : IV w x1 v) :
    Calls Try.prog 23 #[vd, x0, x1] w fun e w' => e = .returned (.tuple #[.int .i64 (fmR D L v).1, .bool (fmR D L v).2]) ∧ Below w.heap.size w w' := by
  have HG := hide (fun (w' : World) (hb : Below w.heap.size w w') => l8Rules_any vd D x0 L w' (hD.below hb) (hq.below hb))
  have HV : Hid (∀ (w' : World) (hb : Below w.heap.size w w'), Calls Try.prog 44 #[vd, x1] w' fun e w'' => Below w'.heap.size w' w'' ∧ VOut w'' w'.heap.size e (valT D v)) := hide (fun w' hb => by
    obtain ⟨a, k, rfl, h1, h2⟩ := hv
    exact l8Value_any vd D a k v w' (hD.below hb) h2 (RRow.below h1 hb))
  have hLl : L.length ≤ 1048576 := by obtain ⟨qa, qc, -, -, hs, -⟩ := hq; exact hs.1
  obtain ⟨qa, qc, rfl, -, -, -⟩ := hq
  obtain ⟨ia, ic, rfl, -, -⟩ := hv
  obtain ⟨da, dc, rfl, -, hDl⟩ := hD
  have HB0 := hide (show Below w.heap.size w (w.alloc (.cells #[.slice da D.length dc] 27)) from (Below.refl _ _).alloc (Nat.le_refl _) _)
  have HX0 := hide (Bx.new w #[.slice da D.length dc] 27)
  have HF := hide (fun h => fmR_no (D := D) (L := L) (v := v) h)
  have HY : Hid (∀ R t, ruT D L = some R → valT D v = some t → fmR D L v = (frst R t 0, true)) := hide (fun R t h1 h2 => by unfold fmR; rw [h1, h2])
  obtain ⟨A, hA⟩ : ∃ A, A = fmR D L v := ⟨_, rfl⟩
  rw [← hA] at HF HY ⊢
  clear hA
  obtain ⟨fr, ok⟩ := A
  dsimp only
  go_enter Try.func23, Try.ntmps23
  go_wp2_with fail
  refine Calls.mono (HG.out _ HB0.out) ?_
  rintro e w1 ⟨hb1, ho1⟩
  have hB1 : Below w.heap.size w w1 := HB0.out.trans (hb1.mono HB0.out.size)
  have HX1 := hide (HX0.out.below hb1 HX0.out.lt)
  have cx := HX1.out.c
  have xl := HX1.out.lt
  clear hb1 HB0 HX0 HG
  cases hr : ruT D L with
  | none =>
    rw [hr] at ho1
    obtain rfl : e = .returned (.tuple #[.slice none 0 0, .bool false]) := ho1
    have e1 := HF.out (.inl (by unfold goodR; rw [hr]; rfl))
    simp only [Prod.mk.injEq] at e1
    obtain ⟨rfl, rfl⟩ := e1
    clear hr HY HF
    go_wp2_with fail
    refine Calls.mono (HV.out _ hB1) ?_
    rintro e w2 ⟨hb2, ho2⟩
    have hB2 : Below w.heap.size w w2 := hB1.trans (hb2.mono hB1.size)
    clear hb2 cx xl HX1 HV hB1
    obtain ⟨X, sad, sn, sc, bo, rfl⟩ : ∃ X sad sn sc bo, e = .returned (.tuple #[.agg #[.int .i64 X, .slice sad sn sc], .bool bo]) := by
      cases hv2 : valT D v with
      | none => rw [hv2] at ho2; obtain ⟨k, sad, sn, sc, rfl⟩ := ho2; exact ⟨_, _, _, _, _, rfl⟩
      | some t => rw [hv2] at ho2; obtain ⟨x, k, s, -, rfl, hT⟩ := ho2; obtain ⟨sad, sc, rfl⟩ := hT.form; exact ⟨_, _, _, _, _, rfl⟩
    clear ho2
    go_wp2_with fail
    exact bodyPost_ret (v := .tuple #[.int .i64 0, .bool false]) (by simp [results, Try.results23, go_sem]) rfl ⟨rfl, hB2.alloc hB2.size _⟩
  | some R =>
    rw [hr] at ho1
    obtain ⟨s, rfl, hT⟩ := ho1
    have HT := hide hT
    obtain ⟨sad, sc, rfl⟩ := hT.form
    have hRl : R.len = L.length ∧ R.ok D ∧ goodD D = true := by
      unfold ruT at hr
      split at hr
      · rename_i h
        have := rulesF_len hr
        exact ⟨this.1, this.2, h.1⟩
      · cases hr
    have HRl := hide hRl
    have Hr := hide hr
    obtain ⟨RN, hRN⟩ : ∃ RN, RN = R.len := ⟨_, rfl⟩
    rw [← hRN] at HT ⊢
    have HRN := hide hRN
    clear hT hRl hr hRN
    go_wp2_with fail
    refine Calls.mono (HV.out _ hB1) ?_
    rintro e w2 ⟨hb2, ho2⟩
    have hB2 : Below w.heap.size w w2 := hB1.trans (hb2.mono hB1.size)
    have HT2 := hide ((HT.out.below hb2).weak (P' := fun _ => True) (fun _ _ _ => trivial))
    clear hb2 cx xl HX1 HV hB1 HT
    cases hv2 : valT D v with
    | none =>
      rw [hv2] at ho2
      obtain ⟨k, a2, n2, c2, rfl⟩ := ho2
      have e1 := HF.out (.inr (by unfold goodV; rw [hv2]; rfl))
      simp only [Prod.mk.injEq] at e1
      obtain ⟨rfl, rfl⟩ := e1
      clear HY HF hv2
      go_wp2_with fail
      exact bodyPost_ret (v := .tuple #[.int .i64 0, .bool false]) (by simp [results, Try.results23, go_sem]) rfl ⟨rfl, hB2.alloc hB2.size _⟩
    | some t =>
      rw [hv2] at ho2
      obtain ⟨y, k', s', rfl, rfl, hT'⟩ := ho2
      obtain ⟨-, -, hto, -, -, htv⟩ := valT_facts hv2
      have hAe := HY.out R _ Hr.out hv2
      simp only [Prod.mk.injEq] at hAe
      obtain ⟨hfr, rfl⟩ := hAe
      have HT3 := hide (hT'.weak (P' := fun _ => True) (fun _ _ _ => trivial))
      obtain ⟨a2, c2, rfl⟩ := hT'.form
      have HC := hide (fun (w' : World) (hb : Below w2.heap.size w2 w') => l8First_any D HRl.out.2.2 (fun _ => True) R (.slice sad RN sc) y k' (.slice a2 k'.len c2) w' (by rw [HRl.out.1]; exact hLl) HRl.out.2.1 hto htv.1 htv.2.1 (HT2.out.below hb) (HT3.out.below hb))
      rw [← hfr] at HC
      obtain ⟨Y, hY⟩ : ∃ Y, Y = tcon y := ⟨_, rfl⟩
      rw [← hY] at HC ⊢
      obtain ⟨N', hN'⟩ : ∃ N', N' = k'.len := ⟨_, rfl⟩
      rw [← hN'] at HC ⊢
      clear hfr hY hN' hto htv hT' hv2 HY HF HT2 HT3
      go_wp2_with fail
      refine Calls.mono (HC.out _ ((Below.refl _ _).alloc (Nat.le_refl _) _)) ?_
      rintro e w3 ⟨rfl, hb3⟩
      have hB3 : Below w.heap.size w w3 := (hB2.alloc hB2.size _).trans (hb3.mono (by simp; have := hB2.size; omega))
      clear hb3 HC
      go_wp2_with fail
      exact bodyPost_ret (v := .tuple #[.int .i64 fr, .bool true]) (by simp [results, Try.results23, go_sem]) rfl ⟨rfl, hB3⟩
end Go.Proofs.Ytfepljcblajfpaa.W
