/-
  Which rule fits first: the specification's l8Fits. Conditions: good patterns and values by the same data.
-/
import Derived.Test.YtfepljcblajfpaaPaF
import Derived.Test.YtfepljcblajfpaaPaM
import Derived.BigQuiet
namespace Go.Proofs.Ytfepljcblajfpaa.W
open Go.ChangeShapes Go.WideShapes Go.ChangeAt Go.RowKit
set_option linter.unusedVariables false
set_option linter.unusedSimpArgs false

set_option maxRecDepth 20000 in
set_option maxHeartbeats 4000000 in
theorem l8Fits_all (D : List Int) (hd : goodD D = true) (P : Nat → Prop) : ∀ (n : Nat) (x : Pt) (k : F) (s : Value) (y : Pt) (k' : F) (s' : Value) (w : World), k.flat.length < n → (F.cons x k .nil).ok D → (F.cons y k' .nil).ok D → y.kd = 2 → k'.val → KidT w P k s → KidT w P k' s' →
    Calls Try.prog 69 #[.agg #[.int .i64 (tcon x), s], .agg #[.int .i64 (tcon y), s']] w fun e w' => e = .returned (.bool (fit (.cons x k .nil) (.cons y k' .nil))) ∧ Below w.heap.size w w'
  | 0, x, k, s, y, k', s', w, hn, _, _, _, _, _, _ => by omega
  | n + 1, x, k, s, y, k', s', w, hn, op, ou, hy, hvk, hk, hk' => by
    have IH := hide (l8Fits_all D hd P n)
    obtain ⟨sa, sc, rfl⟩ := hk.form
    obtain ⟨sa', sc', rfl⟩ := hk'.form
    have hty : tcon y = y.con := by unfold tcon; rw [if_neg (by omega)]
    rw [hty]
    obtain ⟨X, hX⟩ : ∃ X, X = tcon x := ⟨_, rfl⟩
    rw [← hX]
    have HB0 := hide (show Below w.heap.size w ((w.alloc (.cells #[.int .i64 X, .slice sa k.len sc] 71)).alloc (.cells #[.int .i64 y.con, .slice sa' k'.len sc'] 71)) from ((Below.refl _ _).alloc (Nat.le_refl _) _).alloc (by simp) _)
    by_cases hx1 : x.kd = 1
    · have hX1 : X = -1 := by rw [hX]; unfold tcon; rw [if_pos hx1]
      have hG := hide (show fit (.cons x k .nil) (.cons y k' .nil) = true by rw [fit, if_pos hx1]; rfl)
      obtain ⟨G, hGG⟩ : ∃ G, G = fit (.cons x k .nil) (.cons y k' .nil) := ⟨_, rfl⟩
      rw [← hGG] at hG ⊢
      subst hX1
      clear hX hGG hk hk' IH hty
      go_enter Try.func69, Try.ntmps69
      go_wp2_with fail
      go_ret
      exact ⟨ret_bool hG.out.symm, HB0.out⟩
    · have hx2 : x.kd = 2 := by
        have := op.1
        simp only [goodC, if_neg hx1, Bool.and_eq_true, decide_eq_true_eq] at this
        exact this.1
      have hXc : X = x.con := by rw [hX]; unfold tcon; rw [if_neg hx1]
      have hX0 : 0 ≤ x.con := by
        have := op.1
        simp only [goodC, if_neg hx1, Bool.and_eq_true, decide_eq_true_eq] at this
        exact this.2.1
      have hXn : ¬ X = -1 := by omega
      have hXb : (X == -1) = false := by simp; omega
      by_cases hxy : x.con = y.con
      · have hkl := kids_same op ou hx1 (by omega) hxy
        have hG : fit (.cons x k .nil) (.cons y k' .nil) = fit k k' := by
          rw [fit, if_neg hx1, decide_eq_true hxy]; simp [fit]
        rw [hG]
        obtain ⟨G, hGG⟩ : ∃ G, G = fit k k' := ⟨_, rfl⟩
        rw [← hGG]
        have HG := hide hGG
        have hXy : X = y.con := by omega
        have HK := hide hk
        have HK' := hide hk'
        have Hkl := hide hkl
        have Hok := hide op.2.2.1
        have Hok' := hide ou.2.2.1
        have Hvk := hide hvk
        have Hn := hide hn
        obtain ⟨N, hN⟩ : ∃ N, N = k.len := ⟨_, rfl⟩
        have hN' : N = k'.len := by omega
        have hN2 : N ≤ 2 := by rw [hN, op.2.1]; exact ar_le hd x
        rw [← hN] at HK
        rw [← hN'] at HK'
        rw [← hN, ← hN', ← hXy] at HB0
        rw [← hN, ← hN', ← hXy]
        have HN := hide hN
        have HN' := hide hN'
        have HX0 := hide ((Bx.new w #[.int .i64 X, .slice sa N sc] 71).alloc (.cells #[.int .i64 X, .slice sa' N sc'] 71))
        have HX1 : Hid (Bx ((w.alloc (.cells #[.int .i64 X, .slice sa N sc] 71)).alloc (.cells #[.int .i64 X, .slice sa' N sc'] 71)) (w.heap.size + 1) #[.int .i64 X, .slice sa' N sc'] 71) := hide (by
          have h := Bx.new (w.alloc (.cells #[.int .i64 X, .slice sa N sc] 71)) #[.int .i64 X, .slice sa' N sc'] 71
          rw [show (w.alloc (.cells #[.int .i64 X, .slice sa N sc] 71)).heap.size = w.heap.size + 1 by simp] at h
          exact h)
        clear hk hk' hkl op ou hvk hGG hG hxy hXy hX0 hXc hx1 hx2 hX hy hty hN hN' hn
        go_enter Try.func69, Try.ntmps69
        go_wp2_with fail
        go_loopw [17] (fun i w' => ∃ (q : Nat) (b b' : F), q ≤ N ∧ i = .int .i64 q ∧ b.len = N - q ∧ (∃ a a' : F, k = a.app b ∧ k' = a'.app b' ∧ a.len = q ∧ a'.len = q) ∧ G = fit b b' ∧ Bx w' w.heap.size #[.int .i64 X, .slice sa N sc] 71 ∧ Bx w' (w.heap.size + 1) #[.int .i64 X, .slice sa' N sc'] 71 ∧ Below w.heap.size w w') (fun i _ => N - (intOf i).toNat)
        case atStart => exact ⟨0, k, k', by omega, rfl, by rw [← HN.out]; omega, ⟨.nil, .nil, rfl, rfl, rfl, rfl⟩, HG.out, HX0.out, HX1.out, HB0.out⟩
        case round =>
          clear HX0 HX1 HB0 HG
          obtain ⟨q, b, b', hq, rfl, hbl, hab, hG, hX, hX', hB⟩ := hrel
          have HX := hide hX
          have HX' := hide hX'
          have HG := hide hG
          have HAB := hide hab
          clear hX hX' hG hab
          have xl := HX.out.lt
          have xl' := HX'.out.lt
          by_cases hlt : q < N
          · have hlt' : (q : Int) < (N : Int) := by omega
            obtain ⟨x1, k1, r1, hb1⟩ : ∃ x1 k1 r1, b = .cons x1 k1 r1 := by
              cases b with
              | nil => simp [F.len] at hbl; omega
              | cons x k r => exact ⟨_, _, _, rfl⟩
            obtain ⟨a, a', ha, ha', la, la'⟩ := HAB.out
            obtain ⟨y1, k1', r1', hb1'⟩ : ∃ y1 k1' r1', b' = .cons y1 k1' r1' := by
              cases b' with
              | nil =>
                have := congrArg F.len ha'
                rw [F.app_len] at this
                have h2 := HN'.out
                simp [F.len] at this; omega
              | cons x k r => exact ⟨_, _, _, rfl⟩
            subst hb1 hb1'
            have hk0 := HK.out
            have hk0' := HK'.out
            rw [ha] at hk0
            rw [ha'] at hk0'
            obtain ⟨g, cap, sx, e1, hPg, hgl, kx, c0, c1⟩ := KidT.kid hk0
            obtain ⟨g', cap', sx', e1', hPg', hgl', kx', c0', c1'⟩ := KidT.kid hk0'
            simp only [Value.slice.injEq] at e1 e1'
            obtain ⟨rfl, -, -⟩ := e1
            obtain ⟨rfl, -, -⟩ := e1'
            rw [la] at c0 c1
            rw [la'] at c0' c1'
            have hok1 : (F.cons x1 k1 r1).ok D := by
              have := Hok.out
              rw [ha, F.app_ok] at this
              exact this.2
            have hok1' : (F.cons y1 k1' r1').ok D := by
              have := Hok'.out
              rw [ha', F.app_ok] at this
              exact this.2
            have hv1 : (F.cons y1 k1' r1').val := by
              have := Hvk.out
              rw [ha', F.app_val] at this
              exact this.2
            have hsz : k1.flat.length < n := by
              have := Hn.out
              rw [ha, F.app_flat] at this
              simp [F.flat] at this
              omega
            have hG2 : G = (fit (.cons x1 k1 .nil) (.cons y1 k1' .nil) && fit r1 r1') := by rw [HG.out, fit_cons]
            have HC := hide (fun (w' : World) (hb : Below w.heap.size w w') => IH.out x1 k1 sx y1 k1' sx' w' hsz ⟨hok1.1, hok1.2.1, hok1.2.2.1, trivial⟩ ⟨hok1'.1, hok1'.2.1, hok1'.2.2.1, trivial⟩ hv1.1 hv1.2.1 (kx.below hb) (kx'.below hb))
            obtain ⟨FT, hFT⟩ : ∃ FT, FT = fit (.cons x1 k1 .nil) (.cons y1 k1' .nil) := ⟨_, rfl⟩
            rw [← hFT] at HC hG2
            have HG2 := hide hG2
            obtain ⟨xa, xc, rfl⟩ := kx.form
            obtain ⟨xa', xc', rfl⟩ := kx'.form
            have HAB2 : Hid (∃ a a' : F, k = a.app r1 ∧ k' = a'.app r1' ∧ a.len = q + 1 ∧ a'.len = q + 1) := hide ⟨a.app (.cons x1 k1 .nil), a'.app (.cons y1 k1' .nil), by rw [ha, F.app_assoc]; rfl, by rw [ha', F.app_assoc]; rfl, by rw [F.app_len, la]; rfl, by rw [F.app_len, la']; rfl⟩
            have hbl2 := hide (show r1.len = N - (q + 1) by simp [F.len] at hbl; omega)
            have d0 : wr.cell? ⟨g, q * 2, none⟩ = some (.int .i64 (tcon x1)) := (hB.cell (p := ⟨g, q * 2, none⟩) hgl).trans c0
            have d1 : wr.cell? ⟨g, q * 2 + 1, none⟩ = some (.slice xa k1.len xc) := (hB.cell (p := ⟨g, q * 2 + 1, none⟩) hgl).trans c1
            have d0' : wr.cell? ⟨g', q * 2, none⟩ = some (.int .i64 (tcon y1)) := (hB.cell (p := ⟨g', q * 2, none⟩) hgl').trans c0'
            have d1' : wr.cell? ⟨g', q * 2 + 1, none⟩ = some (.slice xa' k1'.len xc') := (hB.cell (p := ⟨g', q * 2 + 1, none⟩) hgl').trans c1'
            obtain ⟨X1, hX1⟩ : ∃ X1, X1 = tcon x1 := ⟨_, rfl⟩
            obtain ⟨Y1, hY1⟩ : ∃ Y1, Y1 = tcon y1 := ⟨_, rfl⟩
            obtain ⟨M, hM⟩ : ∃ M, M = k1.len := ⟨_, rfl⟩
            obtain ⟨M', hM'⟩ : ∃ M', M' = k1'.len := ⟨_, rfl⟩
            rw [← hX1] at d0 HC
            rw [← hY1] at d0' HC
            rw [← hM] at d1 HC
            rw [← hM'] at d1' HC
            have f0 := HX.out.c 1
            have f0' := HX'.out.c 1
            simp only [List.getElem?_toArray, List.getElem?_cons_zero, List.getElem?_cons_succ] at f0 f0'
            have HB0d : Hid (Below w.heap.size w wr.drew) := hide (belowDrew8 hB)
            have hgr : g < wr.heap.size := Nat.lt_of_lt_of_le hgl hB.size
            have hgr' : g' < wr.heap.size := Nat.lt_of_lt_of_le hgl' hB.size
            clear hX1 hY1 hM hM' hFT hG2 hok1 hok1' hv1 hsz kx kx' c0 c1 c0' c1' la la' ha ha' hk0 hk0' hbl HG HAB
            go_wp2_with fail
            go_region_held3 (fun w' => w'.cell? ⟨w.heap.size, 1, none⟩ = some (.slice (some ⟨g, 0, none⟩) N sc) ∧ w'.cell? ⟨w.heap.size + 1, 1, none⟩ = some (.slice (some ⟨g', 0, none⟩) N sc') ∧ w'.cell? ⟨g, q * 2, none⟩ = some (.int .i64 X1) ∧ w'.cell? ⟨g, q * 2 + 1, none⟩ = some (.slice xa M xc) ∧ w'.cell? ⟨g', q * 2, none⟩ = some (.int .i64 Y1) ∧ w'.cell? ⟨g', q * 2 + 1, none⟩ = some (.slice xa' M' xc')) (go_keep)
              (first
                | (go_at_call 69; (with_reducible refine Calls.mono (HC.out _ HB0d.out) ?_); rintro e w2 ⟨rfl, hba⟩; have HBa := hide hba; (have fa0 := (hba.cell (p := ⟨w.heap.size, 1, none⟩) xl).trans f0; have fa1 := (hba.cell (p := ⟨w.heap.size + 1, 1, none⟩) xl').trans f0'; have fa2 := (hba.cell (p := ⟨g, q * 2, none⟩) hgr).trans d0; have fa3 := (hba.cell (p := ⟨g, q * 2 + 1, none⟩) hgr).trans d1; have fa4 := (hba.cell (p := ⟨g', q * 2, none⟩) hgr').trans d0'; have fa5 := (hba.cell (p := ⟨g', q * 2 + 1, none⟩) hgr').trans d1'); clear hba))
            all_goals
              have hB2 : Below w.heap.size w w2 := HB0d.out.trans (HBa.out.mono HB0d.out.size)
              have HX2 := hide (Bx.below (w := wr.drew) HX.out HBa.out xl)
              have HX2' := hide (Bx.below (w := wr.drew) HX'.out HBa.out xl')
              clear d0 d1 d0' d1' f0 f0' HC HBa
              cases FT with
              | true =>
                have HG3 := hide (show G = fit r1 r1' by rw [HG2.out, Bool.true_and])
                clear HG2
                go_wp2_with fail
                exact ⟨⟨q + 1, r1, r1', by omega, by go_num, hbl2.out, HAB2.out, HG3.out, HX2.out, HX2'.out, hB2⟩, by simp [intOf]; omega⟩
              | false =>
                have HG3 := hide (show G = false by rw [HG2.out, Bool.false_and])
                clear HG2
                go_wp2_with fail
                go_ret
                exact ⟨ret_bool HG3.out.symm, hB2⟩
          · obtain rfl : q = N := by omega
            have hb0 : b = .nil := F.len_0 (by omega)
            have HG2 := hide (show G = true by rw [HG.out, hb0]; rfl)
            clear HG
            go_wp2_with fail
            go_ret
            exact ⟨ret_bool HG2.out.symm, hB⟩
      · have hG := hide (show fit (.cons x k .nil) (.cons y k' .nil) = false by rw [fit, if_neg hx1, decide_eq_false hxy]; rfl)
        obtain ⟨G, hGG⟩ : ∃ G, G = fit (.cons x k .nil) (.cons y k' .nil) := ⟨_, rfl⟩
        rw [← hGG] at hG ⊢
        have hne : ¬ X = y.con := by omega
        have hnb : (X == y.con) = false := by simp; omega
        have hnb2 : (X != y.con) = true := by simp; omega
        clear hX hGG hk hk' IH hty hXc
        go_enter Try.func69, Try.ntmps69
        go_wp2_with fail
        go_ret
        exact ⟨ret_bool hG.out.symm, HB0.out⟩
end Go.Proofs.Ytfepljcblajfpaa.W
