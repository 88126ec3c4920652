/-
  The contract of l6Play. Conditions: closed terms, at most 2000 steps. Written by wip/build/mk_play.py.
-/
import Derived.Test.YtdajalchdbgooaaMaY3
import Derived.Test.YtdajalchdbgooaaMm
import Derived.Deep.RegionHeld3
import Derived.Deep.RegionLaw
import Derived.Deep.AppendLies
import Derived.Deep.CutRange
namespace Go.Proofs.Ytdajalchdbgooaa.W
open Go.ChangeShapes Go.WideShapes Go.ChangeAt Go.RowKit
set_option linter.unusedVariables false
set_option linter.unusedSimpArgs false

theorem SR.up {w : World} {lo lo' cb : Nat} {ad : Option Addr} {c : Nat} {l : List Cc} {a : F} (h : SR w lo cb ad c l a) (h1 : lo ≤ lo') (h2 : lo' ≤ w.heap.size) : SR w lo' cb ad c l a := by
  obtain ⟨w00, e1, e2, e3, e4⟩ := h.base
  exact ⟨⟨w00, e1, e2, Nat.le_trans e3 h1, e4⟩, h2, Nat.lt_of_lt_of_le h.lt h1⟩
/-- A box that holds a machine. -/
def MB (w : World) (lo b : Nat) (m : Mc) : Prop := ∃ af cf av cv ab cb, Bx w b #[.bool m.done, .int .i64 m.pl, .int .i64 m.env, .int .i64 m.val, .slice af m.fs.length cf, .slice av m.vs.length cv, .slice ab m.bs.length cb] 28 ∧
  w.ownsRow lo 96 4 (.slice af m.fs.length cf) m.fs.length (rcells 4 Fm.c m.fs) ∧ w.ownsRow lo 74 4 (.slice av m.vs.length cv) m.vs.length (rcells 4 Vl.c m.vs) ∧ w.ownsRow lo 124 2 (.slice ab m.bs.length cb) m.bs.length (rcells 2 Bd.c m.bs)

set_option maxRecDepth 20000 in
set_option maxHeartbeats 4000000 in
theorem l6Play_any (cb0 : Nat) (ad : Option Addr) (c : Nat) (l : List Cc) (a : F) (S : Nat) (w : World) (hCl : Cl l a) (hS : S ≤ 2000) (hR : SR w w.heap.size cb0 ad c l a) :
    Calls Try.prog 43 #[.pointer (some ⟨cb0, 0, none⟩), .int .i64 (S : Int)] w fun e w' => ∃ v, e = .returned (.tuple #[v, .int .i64 ((playM a l S startM).2 : Int), .bool (canOf (stepM a l (playM a l S startM).1)), .bool (roomOf (stepM a l (playM a l S startM).1))]) ∧ MRow w' v (playM a l S startM).1 ∧ Below w.heap.size w w' := by
  obtain ⟨PM, hPM⟩ : ∃ PM, PM = playM a l S startM := ⟨_, rfl⟩
  rw [← hPM]
  have HPM := hide hPM
  have HCl := hide hCl
  have HSR := hide hR
  have HG0 := hide (start_good hCl)
  clear hPM hCl hR
  go_enter Try.func43, Try.ntmps43
  go_wp2_with fail
  refine (l6Start_any _).mono ?_
  rintro r w1 ⟨rfl, hb1⟩
  have HY1 := hide ((Bx.new w #[.bool false, .int .i64 0, .int .i64 0, .int .i64 0, .slice none 0 0, .slice none 0 0, .slice none 0 0] 28).below hb1 (by simp))
  have hB1 : Below w.heap.size w w1 := ((Below.refl _ _).alloc (Nat.le_refl _) _).trans (hb1.mono (by simp))
  have yl1 : w.heap.size < w1.heap.size := HY1.out.lt
  clear hb1
  go_upto_region 3 with fail
  have HX2 := hide (Bx.new w1 #[.bool false, .int .i64 0, .int .i64 (-1), .int .i64 (-1), .slice none 0 0, .slice none 0 0, .slice none 0 0] 28)
  have HY2 := hide (HY1.out.alloc (.cells #[.bool false, .int .i64 0, .int .i64 (-1), .int .i64 (-1), .slice none 0 0, .slice none 0 0, .slice none 0 0] 28))
  have hB2 : Below w.heap.size w (w1.alloc (.cells #[.bool false, .int .i64 0, .int .i64 (-1), .int .i64 (-1), .slice none 0 0, .slice none 0 0, .slice none 0 0] 28)) := hB1.alloc hB1.size _
  obtain ⟨w2, hw2⟩ : ∃ w2, w2 = w1.alloc (.cells #[.bool false, .int .i64 0, .int .i64 (-1), .int .i64 (-1), .slice none 0 0, .slice none 0 0, .slice none 0 0] 28) := ⟨_, rfl⟩
  obtain ⟨XB, hXB⟩ : ∃ XB, XB = w1.heap.size := ⟨_, rfl⟩
  rw [← hw2] at HX2 HY2 hB2 ⊢
  rw [← hXB] at HX2 yl1 ⊢
  clear hw2 hXB HY1 hB1
  go_loopw [9] (fun i w' => ∃ (M : Mc) (j : Nat), j ≤ S ∧ i = .int .i64 (j : Int) ∧ GM a l M ∧ PM = ((playM a l (S - j) M).1, (playM a l (S - j) M).2 + j) ∧ MB w' w.heap.size XB M ∧ Bx w' w.heap.size #[.bool false, .int .i64 0, .int .i64 0, .int .i64 0, .slice none 0 0, .slice none 0 0, .slice none 0 0] 28 ∧ Below w.heap.size w w') (fun i _ => S - (intOf i).toNat)
  case atStart => exact ⟨startM, 0, Nat.zero_le _, rfl, HG0.out, HPM.out, ⟨_, _, _, _, _, _, HX2.out, World.ownsRow_nil _ _ _ _, World.ownsRow_nil _ _ _ _, World.ownsRow_nil _ _ _ _⟩, HY2.out, hB2⟩
  case round =>
    obtain ⟨M, j, hj, rfl, hG, hP, ⟨af, cf, av, cv, ab, cb, hX, h1, h2, h3⟩, hY, hB⟩ := hrel
    clear HX2 HY2 HPM HG0 hB2
    have HG := hide hG
    have HP := hide hP
    have HX := hide hX
    have HY := hide hY
    have HM : Hid (SM wr w.heap.size (.agg #[.bool M.done, .int .i64 M.pl, .int .i64 M.env, .int .i64 M.val, .slice af M.fs.length cf, .slice av M.vs.length cv, .slice ab M.bs.length cb]) M) := hide ⟨_, _, _, _, _, _, rfl, h1, h2, h3⟩
    have HOw := hide (l6Own_any _ M wr (HM.out.row (by have := hG.nf; omega) (by have := hG.nv; omega) (by have := hG.nb; omega)))
    have hlo : w.heap.size ≤ wr.heap.size := hB.size
    have HStp : Hid (∀ (v : Value) (w' : World), MOwn wr.heap.size w'.heap.size w' v M → Below wr.heap.size wr w' → Calls Try.prog 71 #[.pointer (some ⟨cb0, 0, none⟩), v] w' (GoP wr.heap.size w' (stepM a l M))) := hide (fun v w' h1 h2 => l6Step_any wr.heap.size cb0 ad c l a v M w' HCl.out h1.sm (((HSR.out.below hB).below (h2.mono hlo)).up hlo h2.size) hG)
    have HGS := hide (fun m1 h => step_good (m' := m1) HCl.out hG h)
    obtain ⟨GO, hGO⟩ : ∃ GO, GO = stepM a l M := ⟨_, rfl⟩
    rw [← hGO] at HStp
    have HGO := hide hGO
    have xl : XB < wr.heap.size := hX.lt
    have yl : w.heap.size < wr.heap.size := hY.lt
    have cx := hX.c
    obtain ⟨d, p, e, x, fs, vs, bs⟩ := M
    simp only at HX HM HOw HStp cx
    clear hG hP hX hY h1 h2 h3 hGO
    go_wp2_with fail
    refine HOw.out.mono ?_
    rintro r w3 ⟨v3, rfl, hmo, hb3⟩
    have HC3 := hide (HStp.out _ _ hmo hb3)
    have HB3 := hide hb3
    clear hmo hb3 HOw HStp
    go_wp2_with fail
    refine HC3.out.mono ?_
    rintro r w4 hgo
    obtain ⟨v', m', rfl, hsm, hm1, hb4, -⟩ := hgo
    have hB4 : Below wr.heap.size wr w4 := HB3.out.trans hb4
    have HM1 := hide hm1
    obtain ⟨d9, p9, e9, x9, fs9, vs9, bs9⟩ := m'
    have HSM := hide hsm
    obtain ⟨af9, cf9, av9, cv9, ab9, cb9, rfl, -, -, -⟩ := hsm
    simp only at HSM HM1
    clear hm1 hb4 HB3 HC3 cx
    obtain ⟨CN, hCN⟩ : ∃ CN, CN = canOf GO := ⟨_, rfl⟩
    obtain ⟨RM, hRM⟩ : ∃ RM, RM = roomOf GO := ⟨_, rfl⟩
    rw [← hCN, ← hRM]
    have HCN := hide hCN
    have HRM := hide hRM
    obtain ⟨w5, hw5⟩ : ∃ w5, w5 = w4.alloc (.cells #[.bool d9, .int .i64 p9, .int .i64 e9, .int .i64 x9, .slice af9 fs9.length cf9, .slice av9 vs9.length cv9, .slice ab9 bs9.length cb9] 28) := ⟨_, rfl⟩
    have hb5 : Below w4.heap.size w4 w5 := by rw [hw5]; exact (Below.refl _ _).alloc (Nat.le_refl _) _
    have hB5 : Below wr.heap.size wr w5 := hB4.trans (hb5.mono hB4.size)
    have HN5 : Hid (Bx w5 w4.heap.size #[.bool d9, .int .i64 p9, .int .i64 e9, .int .i64 x9, .slice af9 fs9.length cf9, .slice av9 vs9.length cv9, .slice ab9 bs9.length cb9] 28) := hide (by rw [hw5]; exact Bx.new _ _ _)
    have HX5 := hide (HX.out.below hB5 xl)
    have HY5 := hide (HY.out.below hB5 yl)
    have HM5 := hide (HM.out.below hB5)
    have HSM5 := hide (HSM.out.below hb5)
    have hBB : Below w.heap.size w w5 := hB.trans (hB5.mono hlo)
    have HW5 := hide hw5
    have nl5 : w4.heap.size < w5.heap.size := HN5.out.lt
    have xl4 : XB < w4.heap.size := Nat.lt_of_lt_of_le xl hB4.size
    have yl4 : w.heap.size < w4.heap.size := Nat.lt_of_lt_of_le yl hB4.size
    have cx := HX5.out.c
    have cn := HN5.out.c
    have fx := HX5.out.f
    have cy := HY5.out.c
    have fy := HY5.out.f
    clear hw5 hb5 hB4 hB5 HX HY HM HSM HSR HCl hB
    have HPS : Hid ((CN = false ∨ RM = false ∨ j = S) → PM = (⟨d, p, e, x, fs, vs, bs⟩, j)) := hide (by
      intro h
      rw [HP.out]
      cases hq : GO with
      | inl m1 =>
        rw [hq] at hCN hRM
        have : j = S := by
          rcases h with h | h | h
          · rw [h] at hCN; cases hCN
          · rw [h] at hRM; cases hRM
          · exact h
        rw [show S - j = 0 by omega]
        show (_, 0 + j) = _
        rw [Nat.zero_add]
        rfl
      | inr cc =>
        rw [playM_stop (HGO.out.symm.trans hq), Nat.zero_add])
    have HPG : Hid (CN = true → RM = true → j < S → ∃ m1, GO = .inl m1 ∧ PM = ((playM a l (S - (j + 1)) m1).1, (playM a l (S - (j + 1)) m1).2 + (j + 1))) := hide (by
      intro h1 h2 h3
      cases hq : GO with
      | inl m1 =>
        refine ⟨m1, rfl, ?_⟩
        rw [HP.out, show S - j = (S - (j + 1)) + 1 by omega, playM_go (HGO.out.symm.trans hq)]
        simp only [Prod.mk.injEq, true_and]
        omega
      | inr cc =>
        rw [hq, h1] at hCN
        rw [hq, h2] at hRM
        simp [canOf] at hCN
        simp [roomOf] at hRM
        exact absurd hCN hRM)
    clear hCN hRM
    cases CN with
    | false =>
      have HPP := hide (HPS.out (.inl rfl))
      go_upto_if 34 with fail
      rw [← HW5.out]
      go_wp2_with fail
      have cy' := HY5.out.c
      refine bodyPost_ret (v := .tuple #[.agg #[.bool d, .int .i64 p, .int .i64 e, .int .i64 x, .slice af fs.length cf, .slice av vs.length cv, .slice ab bs.length cb], .int .i64 (j : Int), .bool false, .bool RM]) (by simp [results, Try.results43, go_sem, cy']) rfl ?_
      rw [HPP.out]
      simp only
      rw [← HGO.out, ← HCN.out, ← HRM.out]
      refine ⟨_, rfl, ?_, ?_⟩
      · have q0 : Kp w5 w.heap.size w.heap.size (.slice af fs.length cf) (.slice av vs.length cv) (.slice ab bs.length cb) fs vs bs := by
          obtain ⟨af', cf', av', cv', ab', cb', he, o1, o2, o3⟩ := HM5.out
          simp only [Value.agg.injEq] at he
          cases he
          exact ⟨⟨_, HY5.out⟩, o1, o2, o3⟩
        exact ((((((((q0.set 0 _).set 1 _).set 2 _).set 3 _).set 4 _).set 5 _).set 6 _).own d p e x (by have := HG.out.nf; simp only at this; omega) (by have := HG.out.nv; simp only at this; omega) (by have := HG.out.nb; simp only at this; omega)).row
      · (repeat (with_reducible refine bsc0 ?_ _ _))
        exact hBB
    | true =>
      cases RM with
      | false =>
        have HPP := hide (HPS.out (.inr (.inl rfl)))
        go_upto_if 34 with fail
        rw [← HW5.out]
        go_wp2_with fail
        have cy' := HY5.out.c
        refine bodyPost_ret (v := .tuple #[.agg #[.bool d, .int .i64 p, .int .i64 e, .int .i64 x, .slice af fs.length cf, .slice av vs.length cv, .slice ab bs.length cb], .int .i64 (j : Int), .bool true, .bool false]) (by simp [results, Try.results43, go_sem, cy']) rfl ?_
        rw [HPP.out]
        simp only
        rw [← HGO.out, ← HCN.out, ← HRM.out]
        refine ⟨_, rfl, ?_, ?_⟩
        · have q0 : Kp w5 w.heap.size w.heap.size (.slice af fs.length cf) (.slice av vs.length cv) (.slice ab bs.length cb) fs vs bs := by
            obtain ⟨af', cf', av', cv', ab', cb', he, o1, o2, o3⟩ := HM5.out
            simp only [Value.agg.injEq] at he
            cases he
            exact ⟨⟨_, HY5.out⟩, o1, o2, o3⟩
          exact ((((((((q0.set 0 _).set 1 _).set 2 _).set 3 _).set 4 _).set 5 _).set 6 _).own d p e x (by have := HG.out.nf; simp only at this; omega) (by have := HG.out.nv; simp only at this; omega) (by have := HG.out.nb; simp only at this; omega)).row
        · (repeat (with_reducible refine bsc0 ?_ _ _))
          exact hBB
      | true =>
        by_cases hjS : j = S
        · subst hjS
          have HPP := hide (HPS.out (.inr (.inr rfl)))
          go_upto_if 34 with fail
          rw [← HW5.out]
          go_wp2_with fail
          have cy' := HY5.out.c
          refine bodyPost_ret (v := .tuple #[.agg #[.bool d, .int .i64 p, .int .i64 e, .int .i64 x, .slice af fs.length cf, .slice av vs.length cv, .slice ab bs.length cb], .int .i64 (j : Int), .bool true, .bool true]) (by simp [results, Try.results43, go_sem, cy']) rfl ?_
          rw [HPP.out]
          simp only
          rw [← HGO.out, ← HCN.out, ← HRM.out]
          refine ⟨_, rfl, ?_, ?_⟩
          · have q0 : Kp w5 w.heap.size w.heap.size (.slice af fs.length cf) (.slice av vs.length cv) (.slice ab bs.length cb) fs vs bs := by
              obtain ⟨af', cf', av', cv', ab', cb', he, o1, o2, o3⟩ := HM5.out
              simp only [Value.agg.injEq] at he
              cases he
              exact ⟨⟨_, HY5.out⟩, o1, o2, o3⟩
            exact ((((((((q0.set 0 _).set 1 _).set 2 _).set 3 _).set 4 _).set 5 _).set 6 _).own d p e x (by have := HG.out.nf; simp only at this; omega) (by have := HG.out.nv; simp only at this; omega) (by have := HG.out.nb; simp only at this; omega)).row
          · (repeat (with_reducible refine bsc0 ?_ _ _))
            exact hBB
        · have hlt : j < S := by omega
          have hne : ¬ ((j : Int) = (S : Int)) := by omega
          obtain ⟨m1, hm1, hPN⟩ := HPG.out rfl rfl hlt
          have hmm := HM1.out m1 hm1
          have hg1 := HGS.out m1 (HGO.out.symm.trans hm1)
          rw [← hmm] at hPN hg1
          have HPN := hide hPN
          have HG1 := hide hg1
          clear hPN hg1 hmm hm1
          go_upto_if 34 with fail
          rw [← HW5.out]
          go_wp2_with fail
          refine ⟨⟨⟨d9, p9, e9, x9, fs9, vs9, bs9⟩, j + 1, by omega, by go_num, HG1.out, HPN.out, ⟨_, _, _, _, _, _, ((((((HX5.out.set 0 (.bool d9)).set 1 (.int .i64 p9)).set 2 (.int .i64 e9)).set 3 (.int .i64 x9)).set 4 (.slice af9 fs9.length cf9)).set 5 (.slice av9 vs9.length cv9)).set 6 (.slice ab9 bs9.length cb9), ?_⟩, ?_, ?_⟩, by simp [intOf]; omega⟩
          · have q0 : Kp w5 XB w.heap.size (.slice af9 fs9.length cf9) (.slice av9 vs9.length cv9) (.slice ab9 bs9.length cb9) fs9 vs9 bs9 := by
              obtain ⟨af', cf', av', cv', ab', cb', he, o1, o2, o3⟩ := HSM5.out
              simp only [Value.agg.injEq] at he
              cases he
              exact ⟨⟨_, HX5.out⟩, own_lower o1 hlo, own_lower o2 hlo, own_lower o3 hlo⟩
            have q7 := ((((((q0.set 0 (.bool d9)).set 1 (.int .i64 p9)).set 2 (.int .i64 e9)).set 3 (.int .i64 x9)).set 4 (.slice af9 fs9.length cf9)).set 5 (.slice av9 vs9.length cv9)).set 6 (.slice ab9 bs9.length cb9)
            exact ⟨q7.f, q7.v, q7.b'⟩
          · exact ((((((HY5.out.setne XB 0 _ (by omega)).setne XB 1 _ (by omega)).setne XB 2 _ (by omega)).setne XB 3 _ (by omega)).setne XB 4 _ (by omega)).setne XB 5 _ (by omega)).setne XB 6 _ (by omega)
          · exact bsc (bsc (bsc (bsc (bsc (bsc (bsc hBB _ _ _ (by omega)) _ _ _ (by omega)) _ _ _ (by omega)) _ _ _ (by omega)) _ _ _ (by omega)) _ _ _ (by omega)) _ _ _ (by omega)
end Go.Proofs.Ytdajalchdbgooaa.W
