/-
  Which rule fits first, by the program: contracts of fits and FirstMatch. Conditions: at most 1048576 elements a row.
-/
import Derived.Test.YtfepljcblajfpaaPaF
import Derived.Test.YtfepljcblajfpaaPaG
import Derived.Test.YtfepljcblajfpaaPaW
import Derived.Test.YtfepljcblajfpaaPaX
namespace Go.Proofs.Ytfepljcblajfpaa.W
open Go.ChangeShapes Go.WideShapes Go.ChangeAt Go.RowKit
set_option linter.unusedVariables false
set_option linter.unusedSimpArgs false

set_option maxRecDepth 20000 in
set_option maxHeartbeats 4000000 in
theorem fits_any (vd : Value) (D : List Int) (vp : Value) (p : F) (vv : Value) (u : F) (w : World) (hD : DRow w vd D) (hd : goodD D = true) (hp : PV w vp p.flat) (hu : PV w vv u.flat) (lp : p.flat.length ≤ 1048576) (lu : u.flat.length ≤ 1048576) (op : p.ok D) (ou : u.ok D) (vu : u.val) (hlen : p.len = u.len) :
    Calls Try.prog 47 #[vd, vp, vv] w fun e w' => e = .returned (.bool (fit p u)) ∧ Below w.heap.size w w' := by
  have HD := hide hD
  have Hd := hide hd
  obtain ⟨da, dc, rfl, -, hDl⟩ := hD
  have HB0 := hide (show Below w.heap.size w (w.alloc (.cells #[.slice da D.length dc] 27)) from (Below.refl _ _).alloc (Nat.le_refl _) _)
  have HX0 := hide (Bx.new w #[.slice da D.length dc] 27)
  obtain ⟨pa, pc, rfl, pr, -⟩ := hp
  have HP := hide pr
  have HU := hide hu
  obtain ⟨ua, uc, rfl, -, -⟩ := hu
  obtain ⟨G, hG⟩ : ∃ G, G = fit p u := ⟨_, rfl⟩
  rw [← hG]
  have HG := hide hG
  have Hop := hide op
  have Hou := hide ou
  have Hvu := hide vu
  have Hlen := hide hlen
  have Hlu := hide lu
  obtain ⟨l, hl⟩ : ∃ l, l = p.flat := ⟨_, rfl⟩
  rw [← hl] at HP lp ⊢
  have HL := hide hl
  obtain ⟨N, hN⟩ : ∃ N, N = u.flat.length := ⟨_, rfl⟩
  rw [← hN] at HU ⊢
  clear pr hG op ou vu hlen hl hd lu hN
  go_enter Try.func47, Try.ntmps47
  go_wp2_with fail
  go_loopw [2, 11] (fun v2 i w' => ∃ (j : Nat) (p1 u1 : F), j ≤ l.length ∧ i = .int .i64 j ∧ l.drop j = p1.flat ∧ p1.ok D ∧ u1.ok D ∧ u1.val ∧ p1.len = u1.len ∧ G = fit p1 u1 ∧ PV w v2 u1.flat ∧ u1.flat.length ≤ 1048576 ∧ Bx w' w.heap.size #[.slice da D.length dc] 27 ∧ Below w.heap.size w w') (fun _ i _ => l.length - (intOf i).toNat)
  case atStart => exact ⟨0, p, u, by omega, rfl, HL.out, Hop.out, Hou.out, Hvu.out, Hlen.out, HG.out, HU.out, Hlu.out, HX0.out, HB0.out⟩
  case round =>
    clear HX0 HB0 HL HU HG Hop Hou Hvu Hlen Hlu
    obtain ⟨j, p1, u1, hj, rfl, hl1, op, ou, vu, hlen, hG, hu, lu, hX, hB⟩ := hrel
    have HX := hide hX
    have HG := hide hG
    have HL := hide hl1
    clear hX hG hl1
    have xl := HX.out.lt
    by_cases hlt : j < l.length
    · have hlt' : (j : Int) < (l.length : Int) := by omega
      obtain ⟨b, o, rfl, hb, p0, p1'⟩ := PtRow.tok HP.out hB hlt
      obtain ⟨x, k, r, rfl⟩ : ∃ x k r, p1 = .cons x k r := by
        cases p1 with
        | nil => have := congrArg List.length HL.out; simp [F.flat] at this; omega
        | cons x k r => exact ⟨_, _, _, rfl⟩
      obtain ⟨y, k', r', rfl⟩ : ∃ y k' r', u1 = .cons y k' r' := by
        cases u1 with
        | nil => simp [F.len] at hlen
        | cons x k r => exact ⟨_, _, _, rfl⟩
      have hxx : l[j] = x ∧ l.drop (j + 1) = k.flat ++ r.flat := by
        have := HL.out
        rw [List.drop_eq_getElem_cons hlt] at this
        simp only [F.flat, List.cons.injEq] at this
        exact this
      rw [hxx.1] at p0 p1'
      have HL2 := hide hxx.2
      have hlen' : r.len = r'.len := by simpa [F.len] using hlen
      have hy2 : y.kd = 2 := vu.1
      clear hxx HL hlen
      obtain ⟨ua, uc, rfl, pu, hcu⟩ := hu
      have pu0 := pu
      obtain ⟨ub, uo, rfl, ub', ru⟩ : ∃ ub uo, ua = some ⟨ub, uo, none⟩ ∧ ub < w.heap.size ∧ RAt 2 Pt.c w ub uo (F.cons y k' r').flat := by
        rcases pu with h | ⟨ub, uo, h1, h2⟩
        · simp [F.flat] at h
        · exact ⟨ub, uo, h1, h2.1, h2⟩
      by_cases hk1 : x.kd = 1
      · have hG2 : G = fit r r' := by rw [HG.out, fit, if_pos hk1, Bool.true_and]
        have hkn : k = .nil := any_leaf op hk1
        have HG2 := hide hG2
        have HC := hide (fun (w' : World) (hb : Below w.heap.size w w') => cutFirst_any (.agg #[.slice da D.length dc]) D ub uo uc (F.cons y k' r').flat (F.cons y k' .nil) r'.flat w' (HD.out.below hb) Hd.out lu hcu (ru.below hb) (by simp [F.flat]) ⟨ou.1, ou.2.1, ou.2.2.1, trivial⟩ rfl)
        have hfl : (F.cons y k' r').flat.length = (F.cons y k' .nil).flat.length + r'.flat.length := by simp [F.flat]; omega
        have hPV : ∀ q, (r'.flat ≠ [] → q = uo + (F.cons y k' .nil).flat.length * 2) → PV w (.slice (some ⟨ub, q, none⟩) r'.flat.length (uc - (F.cons y k' .nil).flat.length)) r'.flat := by
          intro q hq
          refine ⟨_, _, rfl, ?_, by omega⟩
          by_cases hr : r'.flat = []
          · exact .inl hr
          · obtain rfl := hq hr
            refine .inr ⟨ub, _, rfl, ub', fun i hi rr hrr => ?_⟩
            have h1 := ru.2 ((F.cons y k' .nil).flat.length + i) (by omega) rr hrr
            have e1 : (F.cons y k' r').flat = (F.cons y k' .nil).flat ++ r'.flat := by simp [F.flat]
            have h2 : (F.cons y k' r').flat[(F.cons y k' .nil).flat.length + i]'(by omega) = r'.flat[i] := by
              simp only [e1]
              rw [List.getElem_append_right (by omega)]
              congr 1
              omega
            rw [h2] at h1
            rw [← h1]
            congr 2
            rw [Nat.add_mul]; omega
        have HPV := hide hPV
        obtain ⟨M, hM⟩ : ∃ M, M = (F.cons y k' r').flat.length := ⟨_, rfl⟩
        have lur : r'.flat.length ≤ 1048576 := by omega
        have Hlur := hide lur
        rw [← hM] at HC ⊢
        have c0 : ∀ oo, (wr.alloc (.cells #[.int .i64 x.kd, .int .i64 x.con] 101)).cell? ⟨w.heap.size, oo, none⟩ = #[.slice da D.length dc][oo]? := (HX.out.alloc _).c
        have cx := HX.out.c
        have hBa : Below w.heap.size w (wr.alloc (.cells #[.int .i64 x.kd, .int .i64 x.con] 101)) := hB.alloc hB.size _
        have Hor := hide op.2.2.2
        have Hor' := hide ou.2.2.2
        have Hvr := hide vu.2.2
        have HL3 := hide (show l.drop (j + 1) = r.flat by rw [HL2.out, hkn]; rfl)
        have Hlr := hide hlen'
        rw [hk1] at p0 hBa c0
        clear op ou vu hlen' hkn hG2 pu ru hM HG hfl hPV lur lu HL2 hk1 hy2 pu0
        go_wp2_with fail
        refine Calls.mono (HC.out _ hBa) ?_
        rintro e w2 ⟨q, rfl, hq, hb2⟩
        have HXa := hide (HX.out.alloc (.cells #[.int .i64 1, .int .i64 x.con] 101))
        have hB2 : Below w.heap.size w w2 := hBa.trans (hb2.mono hBa.size)
        have HX2 := hide (HXa.out.below hb2 HXa.out.lt)
        have HQ := hide hq
        clear hb2 p0 p1' c0 cx HC hq
        go_wp2_with fail
        exact ⟨⟨j + 1, r, r', by omega, by go_num, HL3.out, Hor.out, Hor'.out, Hvr.out, Hlr.out, HG2.out, HPV.out q HQ.out, Hlur.out, HX2.out, hB2⟩, by simp [intOf]; omega⟩
      · have hk2 : x.kd = 2 := by
          have := op.1
          simp only [goodC, if_neg hk1, Bool.and_eq_true, decide_eq_true_eq] at this
          exact this.1
        have hG2 : G = (decide (x.con = y.con) && fit k k' && fit r r') := by rw [HG.out, fit, if_neg hk1]
        have q0 : wr.cell? ⟨ub, uo, none⟩ = some (.int .i64 2) := by
          have := ru.2 0 (by simp [F.flat]) 0 (by omega)
          rw [hB.cell (p := ⟨ub, uo, none⟩) ub', ← hy2]
          simpa [F.flat, Pt.c] using this
        have q1 : wr.cell? ⟨ub, uo + 1, none⟩ = some (.int .i64 y.con) := by
          have := ru.2 0 (by simp [F.flat]) 1 (by omega)
          rw [hB.cell (p := ⟨ub, uo + 1, none⟩) ub']
          simpa [F.flat, Pt.c] using this
        have hM1 : 1 ≤ (F.cons y k' r').flat.length := by simp [F.flat]
        rw [hk2] at p0
        have hubr : ub < wr.heap.size := Nat.lt_of_lt_of_le ub' hB.size
        by_cases hxy : x.con = y.con
        · have hkl := kids_same op ou hk1 (by omega) hxy
          have hG3 : G = fit (k.app r) (k'.app r') := by rw [hG2, decide_eq_true hxy, Bool.true_and, fit_app hkl]
          have HG3 := hide hG3
          have HPV := hide (show ∀ q, ((k'.app r').flat ≠ [] → q = uo + 2) → PV w (.slice (some ⟨ub, q, none⟩) ((F.cons y k' r').flat.length - 1) (uc - 1)) (k'.app r').flat from by
            intro q hq
            have e1 : (F.cons y k' r').flat = y :: (k'.app r').flat := by simp [F.flat, F.app_flat]
            refine ⟨_, _, by rw [e1]; rfl, ?_, by rw [e1] at hcu; simp at hcu; omega⟩
            by_cases hr : (k'.app r').flat = []
            · exact .inl hr
            · obtain rfl := hq hr
              refine .inr ⟨ub, _, rfl, ub', fun i hi rr hrr => ?_⟩
              have h1 := ru.2 (1 + i) (by rw [e1]; simp; omega) rr hrr
              have h2 : (F.cons y k' r').flat[1 + i]'(by rw [e1]; simp; omega) = (k'.app r').flat[i] := by
                simp only [e1, Nat.add_comm 1 i, List.getElem_cons_succ]
              rw [h2] at h1
              rw [← h1]
              congr 2
              omega)
          have Hor := hide ((F.app_ok D k r).2 ⟨op.2.2.1, op.2.2.2⟩)
          have Hor' := hide ((F.app_ok D k' r').2 ⟨ou.2.2.1, ou.2.2.2⟩)
          have Hvr := hide ((F.app_val (a := k') (b := r')).2 ⟨vu.2.1, vu.2.2⟩)
          have HL3 := hide (show l.drop (j + 1) = (k.app r).flat by rw [HL2.out, F.app_flat])
          have Hlr := hide (show (k.app r).len = (k'.app r').len by rw [F.app_len, F.app_len, hkl, hlen'])
          have Hlur := hide (show (k'.app r').flat.length ≤ 1048576 by rw [F.app_flat]; simp [F.flat] at lu ⊢; omega)
          have Hnil := hide (show (F.cons y k' r').flat.length = 1 → (k'.app r').flat = [] from fun h => by
            refine List.eq_nil_of_length_eq_zero ?_
            rw [F.app_flat]; simp [F.flat] at h ⊢; omega)
          obtain ⟨M, hM⟩ : ∃ M, M = (F.cons y k' r').flat.length := ⟨_, rfl⟩
          rw [← hM] at hM1 HPV Hnil hcu ⊢
          rw [← hxy] at q1
          obtain ⟨xc, hxc⟩ : ∃ xc, xc = x.con := ⟨_, rfl⟩
          rw [← hxc] at q1 p1'
          have hM1' : (1 : Int) ≤ (M : Int) := by omega
          have hcu' : (M : Int) ≤ (uc : Int) := by omega
          have hcu1 : (1 : Int) ≤ (uc : Int) := by omega
          have hpos : (0 : Int) < (M : Int) := by omega
          have hpos2 : 0 < M := by omega
          have HXa := hide (HX.out.alloc (.cells #[.int .i64 2, .int .i64 xc] 101))
          have hBa : Below w.heap.size w (wr.alloc (.cells #[.int .i64 2, .int .i64 xc] 101)) := hB.alloc hB.size _
          have HBa := hide hBa
          clear op ou vu hlen' hG2 pu ru hM HG lu hk1 hy2 pu0 hxy hG3 hkl HL2 hk2 hxc hBa
          by_cases hc1 : uc = 1
          · subst hc1
            obtain rfl : M = 1 := by omega
            go_wp2_with fail
            go_quiet (fail)
            go_wp2_with fail
            refine ⟨⟨j + 1, k.app r, k'.app r', by omega, by go_num, HL3.out, Hor.out, Hor'.out, Hvr.out, Hlr.out, HG3.out, ?_, Hlur.out, HXa.out, ⟨HBa.out.os, HBa.out.tape, HBa.out.output, HBa.out.size, HBa.out.block⟩⟩, by simp [intOf]; omega⟩
            have := HPV.out uo (fun h => absurd (Hnil.out (by simp)) h)
            simpa using this
          · go_wp2_with fail
            go_quiet (fail)
            go_wp2_with fail
            exact ⟨⟨j + 1, k.app r, k'.app r', by omega, by go_num, HL3.out, Hor.out, Hor'.out, Hvr.out, Hlr.out, HG3.out, HPV.out (uo + 2) (fun _ => rfl), Hlur.out, HXa.out, ⟨HBa.out.os, HBa.out.tape, HBa.out.output, HBa.out.size, HBa.out.block⟩⟩, by simp [intOf]; omega⟩
        · have hG3 := hide (show G = false by rw [hG2, decide_eq_false hxy]; rfl)
          obtain ⟨M, hM⟩ : ∃ M, M = (F.cons y k' r').flat.length := ⟨_, rfl⟩
          rw [← hM] at hM1 hcu ⊢
          have hpos : (0 : Int) < (M : Int) := by omega
          have hpos2 : 0 < M := by omega
          have hb1 : (y.con == x.con) = false := by simp; exact fun h => hxy h.symm
          have hb2 : (x.con == y.con) = false := by simp [hxy]
          have hBa : Below w.heap.size w (wr.alloc (.cells #[.int .i64 2, .int .i64 x.con] 101)) := hB.alloc hB.size _
          have HBa := hide hBa
          clear op ou vu hlen' hG2 pu ru hM HG lu hk1 hy2 pu0 HL2 hk2 hBa
          go_wp2_with fail
          go_quiet (fail)
          go_wp2_with fail
          go_ret
          exact ⟨ret_bool hG3.out.symm, ⟨HBa.out.os, HBa.out.tape, HBa.out.output, HBa.out.size, HBa.out.block⟩⟩
    · obtain rfl : j = l.length := by omega
      have hp1 : p1 = .nil := by
        cases p1 with
        | nil => rfl
        | cons x k r => have := congrArg List.length HL.out; simp [F.flat] at this
      have hG2 := hide (show G = true by rw [HG.out, hp1]; rfl)
      clear HG
      go_wp2_with fail
      go_ret
      exact ⟨ret_bool hG2.out.symm, hB⟩
end Go.Proofs.Ytfepljcblajfpaa.W
