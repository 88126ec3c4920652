/-
  Some texts of this proof in one: MaY5, MaY8, MaZ0.
-/
import Derived.Test.YtnmkbpflbfhpnaaGreatJ35
import Derived.Test.YtnmkbpflbfhpnaaGreatJ27
import Derived.Deep.RegionHeld3
import Derived.Deep.RegionLaw
import Derived.Deep.AppendLies
import Derived.Deep.CutRange
import Derived.Test.YtnmkbpflbfhpnaaGreatJ28
/-
  The contract of l6Play. Conditions: closed terms, at most 2000 steps. Written by wip/build/mk_play.py.
-/
namespace Go.Proofs.YtnmkbpflbfhpnaaGreat.W
open Go.ChangeShapes Go.WideShapes Go.ChangeAt Go.RowKit
set_option linter.unusedVariables false
set_option linter.unusedSimpArgs false

theorem SR.up {w : World} {lo lo' cb : Nat} {ad : Option Addr} {c : Nat} {l : List Cc} {a : F} (h : SR w lo cb ad c l a) (h1 : lo ≤ lo') (h2 : lo' ≤ w.heap.size) : SR w lo' cb ad c l a := by
  obtain ⟨w00, e1, e2, e3, e4⟩ := h.base
  exact ⟨⟨w00, e1, e2, Nat.le_trans e3 h1, e4⟩, h2, Nat.lt_of_lt_of_le h.lt h1⟩
/-- A box that holds a machine. -/
def MB (w : World) (lo b : Nat) (m : Mc) : Prop := ∃ af cf av cv ab cb, Bx w b #[.bool m.done, .int .i64 m.pl, .int .i64 m.env, .int .i64 m.val, .slice af m.fs.length cf, .slice av m.vs.length cv, .slice ab m.bs.length cb] 61 ∧
  w.ownsRow lo 141 4 (.slice af m.fs.length cf) m.fs.length (rcells 4 Fm.c m.fs) ∧ w.ownsRow lo 69 4 (.slice av m.vs.length cv) m.vs.length (rcells 4 Vl.c m.vs) ∧ w.ownsRow lo 162 2 (.slice ab m.bs.length cb) m.bs.length (rcells 2 Bd.c m.bs)

set_option maxRecDepth 20000 in
set_option maxHeartbeats 4000000 in
theorem l6Play_any (cb0 : Nat) (ad : Option Addr) (c : Nat) (l : List Cc) (a : F) (S : Nat) (w : World) (hCl : Cl l a) (hS : S ≤ 2000) (hR : SR w w.heap.size cb0 ad c l a) :
    Calls Tryz.prog 43 #[.pointer (some ⟨cb0, 0, none⟩), .int .i64 (S : Int)] w fun e w' => ∃ v, e = .returned (.tuple #[v, .int .i64 ((playM a l S startM).2 : Int), .bool (canOf (stepM a l (playM a l S startM).1)), .bool (roomOf (stepM a l (playM a l S startM).1))]) ∧ MRow w' v (playM a l S startM).1 ∧ Below w.heap.size w w' := by
  obtain ⟨PM, hPM⟩ : ∃ PM, PM = playM a l S startM := ⟨_, rfl⟩
  rw [← hPM]
  have HPM := hide hPM
  have HCl := hide hCl
  have HSR := hide hR
  have HG0 := hide (start_good hCl)
  clear hPM hCl hR
  go_enter Tryz.func43, Tryz.ntmps43
  go_wp2_with fail
  refine (l6Start_any _).mono ?_
  rintro r w1 ⟨rfl, hb1⟩
  have HY1 := hide ((Bx.new w #[.bool false, .int .i64 0, .int .i64 0, .int .i64 0, .slice none 0 0, .slice none 0 0, .slice none 0 0] 61).below hb1 (by simp))
  have hB1 : Below w.heap.size w w1 := ((Below.refl _ _).alloc (Nat.le_refl _) _).trans (hb1.mono (by simp))
  have yl1 : w.heap.size < w1.heap.size := HY1.out.lt
  clear hb1
  go_upto_region 3 with fail
  have HX2 := hide (Bx.new w1 #[.bool false, .int .i64 0, .int .i64 (-1), .int .i64 (-1), .slice none 0 0, .slice none 0 0, .slice none 0 0] 61)
  have HY2 := hide (HY1.out.alloc (.cells #[.bool false, .int .i64 0, .int .i64 (-1), .int .i64 (-1), .slice none 0 0, .slice none 0 0, .slice none 0 0] 61))
  have hB2 : Below w.heap.size w (w1.alloc (.cells #[.bool false, .int .i64 0, .int .i64 (-1), .int .i64 (-1), .slice none 0 0, .slice none 0 0, .slice none 0 0] 61)) := hB1.alloc hB1.size _
  obtain ⟨w2, hw2⟩ : ∃ w2, w2 = w1.alloc (.cells #[.bool false, .int .i64 0, .int .i64 (-1), .int .i64 (-1), .slice none 0 0, .slice none 0 0, .slice none 0 0] 61) := ⟨_, rfl⟩
  obtain ⟨XB, hXB⟩ : ∃ XB, XB = w1.heap.size := ⟨_, rfl⟩
  rw [← hw2] at HX2 HY2 hB2 ⊢
  rw [← hXB] at HX2 yl1 ⊢
  clear hw2 hXB HY1 hB1
  go_loopw [9] (fun i w' => ∃ (M : Mc) (j : Nat), j ≤ S ∧ i = .int .i64 (j : Int) ∧ GM a l M ∧ PM = ((playM a l (S - j) M).1, (playM a l (S - j) M).2 + j) ∧ MB w' w.heap.size XB M ∧ Bx w' w.heap.size #[.bool false, .int .i64 0, .int .i64 0, .int .i64 0, .slice none 0 0, .slice none 0 0, .slice none 0 0] 61 ∧ Below w.heap.size w w') (fun i _ => S - (intOf i).toNat)
  case atStart => exact ⟨startM, 0, Nat.zero_le _, rfl, HG0.out, HPM.out, ⟨_, _, _, _, _, _, HX2.out, World.ownsRow_nil _ _ _ _, World.ownsRow_nil _ _ _ _, World.ownsRow_nil _ _ _ _⟩, HY2.out, hB2⟩
  case round =>
    obtain ⟨M, j, hj, rfl, hG, hP, ⟨af, cf, av, cv, ab, cb, hX, h1, h2, h3⟩, hY, hB⟩ := hrel
    clear HX2 HY2 HPM HG0 hB2
    have HG := hide hG
    have HP := hide hP
    have HX := hide hX
    have HY := hide hY
    have HM : Hid (SM wr w.heap.size (.agg #[.bool M.done, .int .i64 M.pl, .int .i64 M.env, .int .i64 M.val, .slice af M.fs.length cf, .slice av M.vs.length cv, .slice ab M.bs.length cb]) M) := hide ⟨_, _, _, _, _, _, rfl, h1, h2, h3⟩
    have HOw := hide (l6Own_any _ M wr (HM.out.row (by have := hG.nf; omega) (by have := hG.nv; omega) (by have := hG.nb; omega)))
    have hlo : w.heap.size ≤ wr.heap.size := hB.size
    have HStp : Hid (∀ (v : Value) (w' : World), MOwn wr.heap.size w'.heap.size w' v M → Below wr.heap.size wr w' → Calls Tryz.prog 72 #[.pointer (some ⟨cb0, 0, none⟩), v] w' (GoP wr.heap.size w' (stepM a l M))) := hide (fun v w' h1 h2 => l6Step_any wr.heap.size cb0 ad c l a v M w' HCl.out h1.sm (((HSR.out.below hB).below (h2.mono hlo)).up hlo h2.size) hG)
    have HGS := hide (fun m1 h => step_good (m' := m1) HCl.out hG h)
    obtain ⟨GO, hGO⟩ : ∃ GO, GO = stepM a l M := ⟨_, rfl⟩
    rw [← hGO] at HStp
    have HGO := hide hGO
    have xl : XB < wr.heap.size := hX.lt
    have yl : w.heap.size < wr.heap.size := hY.lt
    have cx := hX.c
    obtain ⟨d, p, e, x, fs, vs, bs⟩ := M
    simp only at HX HM HOw HStp cx
    clear hG hP hX hY h1 h2 h3 hGO
    go_wp2_with fail
    refine HOw.out.mono ?_
    rintro r w3 ⟨v3, rfl, hmo, hb3⟩
    have HC3 := hide (HStp.out _ _ hmo hb3)
    have HB3 := hide hb3
    clear hmo hb3 HOw HStp
    go_wp2_with fail
    refine HC3.out.mono ?_
    rintro r w4 hgo
    obtain ⟨v', m', rfl, hsm, hm1, hb4, -⟩ := hgo
    have hB4 : Below wr.heap.size wr w4 := HB3.out.trans hb4
    have HM1 := hide hm1
    obtain ⟨d9, p9, e9, x9, fs9, vs9, bs9⟩ := m'
    have HSM := hide hsm
    obtain ⟨af9, cf9, av9, cv9, ab9, cb9, rfl, -, -, -⟩ := hsm
    simp only at HSM HM1
    clear hm1 hb4 HB3 HC3 cx
    obtain ⟨CN, hCN⟩ : ∃ CN, CN = canOf GO := ⟨_, rfl⟩
    obtain ⟨RM, hRM⟩ : ∃ RM, RM = roomOf GO := ⟨_, rfl⟩
    rw [← hCN, ← hRM]
    have HCN := hide hCN
    have HRM := hide hRM
    obtain ⟨w5, hw5⟩ : ∃ w5, w5 = w4.alloc (.cells #[.bool d9, .int .i64 p9, .int .i64 e9, .int .i64 x9, .slice af9 fs9.length cf9, .slice av9 vs9.length cv9, .slice ab9 bs9.length cb9] 61) := ⟨_, rfl⟩
    have hb5 : Below w4.heap.size w4 w5 := by rw [hw5]; exact (Below.refl _ _).alloc (Nat.le_refl _) _
    have hB5 : Below wr.heap.size wr w5 := hB4.trans (hb5.mono hB4.size)
    have HN5 : Hid (Bx w5 w4.heap.size #[.bool d9, .int .i64 p9, .int .i64 e9, .int .i64 x9, .slice af9 fs9.length cf9, .slice av9 vs9.length cv9, .slice ab9 bs9.length cb9] 61) := hide (by rw [hw5]; exact Bx.new _ _ _)
    have HX5 := hide (HX.out.below hB5 xl)
    have HY5 := hide (HY.out.below hB5 yl)
    have HM5 := hide (HM.out.below hB5)
    have HSM5 := hide (HSM.out.below hb5)
    have hBB : Below w.heap.size w w5 := hB.trans (hB5.mono hlo)
    have HW5 := hide hw5
    have nl5 : w4.heap.size < w5.heap.size := HN5.out.lt
    have xl4 : XB < w4.heap.size := Nat.lt_of_lt_of_le xl hB4.size
    have yl4 : w.heap.size < w4.heap.size := Nat.lt_of_lt_of_le yl hB4.size
    have cx := HX5.out.c
    have cn := HN5.out.c
    have fx := HX5.out.f
    have cy := HY5.out.c
    have fy := HY5.out.f
    clear hw5 hb5 hB4 hB5 HX HY HM HSM HSR HCl hB
    have HPS : Hid ((CN = false ∨ RM = false ∨ j = S) → PM = (⟨d, p, e, x, fs, vs, bs⟩, j)) := hide (by
      intro h
      rw [HP.out]
      cases hq : GO with
      | inl m1 =>
        rw [hq] at hCN hRM
        have : j = S := by
          rcases h with h | h | h
          · rw [h] at hCN; cases hCN
          · rw [h] at hRM; cases hRM
          · exact h
        rw [show S - j = 0 by omega]
        show (_, 0 + j) = _
        rw [Nat.zero_add]
        rfl
      | inr cc =>
        rw [playM_stop (HGO.out.symm.trans hq), Nat.zero_add])
    have HPG : Hid (CN = true → RM = true → j < S → ∃ m1, GO = .inl m1 ∧ PM = ((playM a l (S - (j + 1)) m1).1, (playM a l (S - (j + 1)) m1).2 + (j + 1))) := hide (by
      intro h1 h2 h3
      cases hq : GO with
      | inl m1 =>
        refine ⟨m1, rfl, ?_⟩
        rw [HP.out, show S - j = (S - (j + 1)) + 1 by omega, playM_go (HGO.out.symm.trans hq)]
        simp only [Prod.mk.injEq, true_and]
        omega
      | inr cc =>
        rw [hq, h1] at hCN
        rw [hq, h2] at hRM
        simp [canOf] at hCN
        simp [roomOf] at hRM
        exact absurd hCN hRM)
    clear hCN hRM
    cases CN with
    | false =>
      have HPP := hide (HPS.out (.inl rfl))
      go_upto_if 34 with fail
      rw [← HW5.out]
      go_wp2_with fail
      have cy' := HY5.out.c
      refine bodyPost_ret (v := .tuple #[.agg #[.bool d, .int .i64 p, .int .i64 e, .int .i64 x, .slice af fs.length cf, .slice av vs.length cv, .slice ab bs.length cb], .int .i64 (j : Int), .bool false, .bool RM]) (by simp [results, Tryz.results43, go_sem, cy']) rfl ?_
      rw [HPP.out]
      simp only
      rw [← HGO.out, ← HCN.out, ← HRM.out]
      refine ⟨_, rfl, ?_, ?_⟩
      · have q0 : Kp w5 w.heap.size w.heap.size (.slice af fs.length cf) (.slice av vs.length cv) (.slice ab bs.length cb) fs vs bs := by
          obtain ⟨af', cf', av', cv', ab', cb', he, o1, o2, o3⟩ := HM5.out
          simp only [Value.agg.injEq] at he
          cases he
          exact ⟨⟨_, HY5.out⟩, o1, o2, o3⟩
        exact ((((((((q0.set 0 _).set 1 _).set 2 _).set 3 _).set 4 _).set 5 _).set 6 _).own d p e x (by have := HG.out.nf; simp only at this; omega) (by have := HG.out.nv; simp only at this; omega) (by have := HG.out.nb; simp only at this; omega)).row
      · (repeat (with_reducible refine bsc0 ?_ _ _))
        exact hBB
    | true =>
      cases RM with
      | false =>
        have HPP := hide (HPS.out (.inr (.inl rfl)))
        go_upto_if 34 with fail
        rw [← HW5.out]
        go_wp2_with fail
        have cy' := HY5.out.c
        refine bodyPost_ret (v := .tuple #[.agg #[.bool d, .int .i64 p, .int .i64 e, .int .i64 x, .slice af fs.length cf, .slice av vs.length cv, .slice ab bs.length cb], .int .i64 (j : Int), .bool true, .bool false]) (by simp [results, Tryz.results43, go_sem, cy']) rfl ?_
        rw [HPP.out]
        simp only
        rw [← HGO.out, ← HCN.out, ← HRM.out]
        refine ⟨_, rfl, ?_, ?_⟩
        · have q0 : Kp w5 w.heap.size w.heap.size (.slice af fs.length cf) (.slice av vs.length cv) (.slice ab bs.length cb) fs vs bs := by
            obtain ⟨af', cf', av', cv', ab', cb', he, o1, o2, o3⟩ := HM5.out
            simp only [Value.agg.injEq] at he
            cases he
            exact ⟨⟨_, HY5.out⟩, o1, o2, o3⟩
          exact ((((((((q0.set 0 _).set 1 _).set 2 _).set 3 _).set 4 _).set 5 _).set 6 _).own d p e x (by have := HG.out.nf; simp only at this; omega) (by have := HG.out.nv; simp only at this; omega) (by have := HG.out.nb; simp only at this; omega)).row
        · (repeat (with_reducible refine bsc0 ?_ _ _))
          exact hBB
      | true =>
        by_cases hjS : j = S
        · subst hjS
          have HPP := hide (HPS.out (.inr (.inr rfl)))
          go_upto_if 34 with fail
          rw [← HW5.out]
          go_wp2_with fail
          have cy' := HY5.out.c
          refine bodyPost_ret (v := .tuple #[.agg #[.bool d, .int .i64 p, .int .i64 e, .int .i64 x, .slice af fs.length cf, .slice av vs.length cv, .slice ab bs.length cb], .int .i64 (j : Int), .bool true, .bool true]) (by simp [results, Tryz.results43, go_sem, cy']) rfl ?_
          rw [HPP.out]
          simp only
          rw [← HGO.out, ← HCN.out, ← HRM.out]
          refine ⟨_, rfl, ?_, ?_⟩
          · have q0 : Kp w5 w.heap.size w.heap.size (.slice af fs.length cf) (.slice av vs.length cv) (.slice ab bs.length cb) fs vs bs := by
              obtain ⟨af', cf', av', cv', ab', cb', he, o1, o2, o3⟩ := HM5.out
              simp only [Value.agg.injEq] at he
              cases he
              exact ⟨⟨_, HY5.out⟩, o1, o2, o3⟩
            exact ((((((((q0.set 0 _).set 1 _).set 2 _).set 3 _).set 4 _).set 5 _).set 6 _).own d p e x (by have := HG.out.nf; simp only at this; omega) (by have := HG.out.nv; simp only at this; omega) (by have := HG.out.nb; simp only at this; omega)).row
          · (repeat (with_reducible refine bsc0 ?_ _ _))
            exact hBB
        · have hlt : j < S := by omega
          have hne : ¬ ((j : Int) = (S : Int)) := by omega
          obtain ⟨m1, hm1, hPN⟩ := HPG.out rfl rfl hlt
          have hmm := HM1.out m1 hm1
          have hg1 := HGS.out m1 (HGO.out.symm.trans hm1)
          rw [← hmm] at hPN hg1
          have HPN := hide hPN
          have HG1 := hide hg1
          clear hPN hg1 hmm hm1
          go_upto_if 34 with fail
          rw [← HW5.out]
          go_wp2_with fail
          refine ⟨⟨⟨d9, p9, e9, x9, fs9, vs9, bs9⟩, j + 1, by omega, by go_num, HG1.out, HPN.out, ⟨_, _, _, _, _, _, ((((((HX5.out.set 0 (.bool d9)).set 1 (.int .i64 p9)).set 2 (.int .i64 e9)).set 3 (.int .i64 x9)).set 4 (.slice af9 fs9.length cf9)).set 5 (.slice av9 vs9.length cv9)).set 6 (.slice ab9 bs9.length cb9), ?_⟩, ?_, ?_⟩, by simp [intOf]; omega⟩
          · have q0 : Kp w5 XB w.heap.size (.slice af9 fs9.length cf9) (.slice av9 vs9.length cv9) (.slice ab9 bs9.length cb9) fs9 vs9 bs9 := by
              obtain ⟨af', cf', av', cv', ab', cb', he, o1, o2, o3⟩ := HSM5.out
              simp only [Value.agg.injEq] at he
              cases he
              exact ⟨⟨_, HX5.out⟩, own_lower o1 hlo, own_lower o2 hlo, own_lower o3 hlo⟩
            have q7 := ((((((q0.set 0 (.bool d9)).set 1 (.int .i64 p9)).set 2 (.int .i64 e9)).set 3 (.int .i64 x9)).set 4 (.slice af9 fs9.length cf9)).set 5 (.slice av9 vs9.length cv9)).set 6 (.slice ab9 bs9.length cb9)
            exact ⟨q7.f, q7.v, q7.b'⟩
          · exact ((((((HY5.out.setne XB 0 _ (by omega)).setne XB 1 _ (by omega)).setne XB 2 _ (by omega)).setne XB 3 _ (by omega)).setne XB 4 _ (by omega)).setne XB 5 _ (by omega)).setne XB 6 _ (by omega)
          · exact bsc (bsc (bsc (bsc (bsc (bsc (bsc hBB _ _ _ (by omega)) _ _ _ (by omega)) _ _ _ (by omega)) _ _ _ (by omega)) _ _ _ (by omega)) _ _ _ (by omega)) _ _ _ (by omega)
end Go.Proofs.YtnmkbpflbfhpnaaGreat.W

/-
  The specification's PlayMachine, and both as the law wants them. Conditions: at most 1048576 cells. Written by wip/build/mk_specplay.py.
-/
namespace Go.Proofs.YtnmkbpflbfhpnaaGreat.W
open Go.ChangeShapes Go.WideShapes Go.ChangeAt Go.RowKit
set_option linter.unusedVariables false
set_option linter.unusedSimpArgs false

theorem CD.sr {w : World} {cb : Nat} {ad : Option Addr} {c : Nat} {l : List Cc} {a : F} (h : CD w cb (.slice ad l.length c) l.length a) (hr : CRow w ad l) : SR w w.heap.size cb ad c l a :=
  ⟨⟨w, h, hr, Nat.le_refl _, Below.refl _ _⟩, Nat.le_refl _, h.lt⟩
end Go.Proofs.YtnmkbpflbfhpnaaGreat.W

/-
  The specification's RunTerm. Conditions: at most 1048576 cells. Written by wip/build/mk_run.py.
-/
namespace Go.Proofs.YtnmkbpflbfhpnaaGreat.W
open Go.ChangeShapes Go.WideShapes Go.ChangeAt Go.RowKit
set_option linter.unusedVariables false
set_option linter.unusedSimpArgs false

set_option maxRecDepth 20000 in
set_option maxHeartbeats 4000000 in
theorem specRun_bad (ad : Option Addr) (c : Nat) (l : List Cc) (q : Int) (w : World) (hl : l.length ≤ 1048576) (h : CRow w ad l) (hp : pmO l q = false) :
    Calls Tryz.prog 17 #[.slice ad l.length c, .int .i64 q] w fun e w' => e = .returned (.tuple #[.int .i64 0, .int .i64 0, .int .i64 0, .bool false]) ∧ Below w.heap.size w w' := by
  cases hc : closedT l with
  | none =>
    have HC := hide (l6Of_none ad c l w hl h hc)
    clear h hc hp
    go_enter Tryz.func17, Tryz.ntmps17
    go_wp2_with fail
    refine HC.out.mono ?_
    rintro e w1 ⟨rfl, hb1⟩
    go_wp2_with fail
    refine bodyPost_ret (v := .tuple #[.int .i64 0, .int .i64 0, .int .i64 0, .bool false]) (by simp [results, Tryz.results17, go_sem]) rfl ⟨rfl, hb1⟩
  | some a =>
    have hq : inB q 0 2000 = false := by unfold pmO closed at hp; rw [hc] at hp; simpa using hp
    have HC := hide (l6Of_some ad c l a w h hc)
    have HI := hide (l1In_any q 0 2000)
    rw [hq] at HI
    clear h hc hp hq
    go_enter Tryz.func17, Tryz.ntmps17
    go_wp2_with fail
    refine HC.out.mono ?_
    rintro e w1 ⟨cb, rfl, hcd, -, hb1⟩
    clear hcd
    go_wp2_with fail
    refine (HI.out _).mono ?_
    rintro e w' ⟨rfl, hw'⟩
    subst hw'
    go_wp2_with fail
    refine bodyPost_ret (v := .tuple #[.int .i64 0, .int .i64 0, .int .i64 0, .bool false]) (by simp [results, Tryz.results17, go_sem]) rfl ⟨rfl, hb1⟩

set_option maxRecDepth 20000 in
set_option maxHeartbeats 4000000 in
theorem specRun_good (ad : Option Addr) (c : Nat) (l : List Cc) (a : F) (S : Nat) (w : World) (h : CRow w ad l) (hc : closedT l = some a) (hS : S ≤ 2000) :
    Calls Tryz.prog 17 #[.slice ad l.length c, .int .i64 (S : Int)] w fun e w' => e = .returned (.tuple #[.int .i64 (runM a l S).1, .int .i64 (runM a l S).2.1, .int .i64 (runM a l S).2.2, .bool true]) ∧ Below w.heap.size w w' := by
  have hCl := (closedT_some hc).1
  have HC := hide (l6Of_some ad c l a w h hc)
  have HI := hide (l1In_any (S : Int) 0 2000)
  rw [show inB (S : Int) 0 2000 = true by simp [inB]; omega] at HI
  have HP := hide (fun (w' : World) (cb : Nat) (h1 : CD w' cb (.slice ad l.length c) l.length a) (h2 : Below w.heap.size w w') => l6Play_any cb ad c l a S w' hCl hS (h1.sr (h.below h2)))
  obtain ⟨PM, hPM⟩ : ∃ PM, PM = playM a l S startM := ⟨_, rfl⟩
  obtain ⟨RN, hRN⟩ : ∃ RN, RN = runM a l S := ⟨_, rfl⟩
  rw [← hRN]
  have hG : GM a l PM.1 := by rw [hPM]; exact playM_good hCl S _ (start_good hCl)
  have HRI : Hid (∀ m1, stepM a l PM.1 = .inl m1 → RN = (4, 0, (PM.2 : Int))) := hide (fun m1 h1 => by
    have := playM_full S startM m1 (by rw [← hPM]; exact h1)
    rw [hRN]; unfold runM; rw [← hPM, h1]
    rw [← hPM] at this
    rw [this])
  have HRR : Hid (∀ cc, stepM a l PM.1 = .inr cc → RN = (cc, if cc = 1 then (vlAt PM.1 PM.1.val).num else 0, (PM.2 : Int))) := hide (fun cc h1 => by rw [hRN]; unfold runM; rw [← hPM, h1])
  have HCo := hide (fun cc h => step_code (c := cc) hCl hG h)
  rw [← hPM] at HP
  obtain ⟨⟨d, p, e, x, fs, vs, bs⟩, n⟩ := PM
  obtain ⟨GO, hGO⟩ : ∃ GO, GO = stepM a l ⟨d, p, e, x, fs, vs, bs⟩ := ⟨_, rfl⟩
  simp only [← hGO] at HP HRI HRR HCo
  obtain ⟨CN, hCN⟩ : ∃ CN, CN = canOf GO := ⟨_, rfl⟩
  obtain ⟨RM, hRM⟩ : ∃ RM, RM = roomOf GO := ⟨_, rfl⟩
  simp only [← hCN, ← hRM] at HP
  have HG := hide hG
  have HCN := hide hCN
  have HRM := hide hRM
  have HGO := hide hGO
  clear h hc hCl hPM hCN hRM hRN hG hGO
  go_enter Tryz.func17, Tryz.ntmps17
  go_wp2_with fail
  refine HC.out.mono ?_
  rintro r w1 ⟨cb, rfl, hcd, -, hB1⟩
  have HC1 := hide (HP.out w1 cb hcd hB1)
  clear hcd HP HC
  go_wp2_with fail
  refine (HI.out _).mono ?_
  rintro r w' ⟨rfl, hw'⟩
  subst hw'
  clear HI
  go_wp2_with fail
  refine HC1.out.mono ?_
  rintro r w2 ⟨v2, rfl, hm2, hb2⟩
  obtain ⟨af, cf, av, cv, ab, cb', rfl, -, m2, -, -, m5, -, -, -, -⟩ := hm2
  simp only at m2 m5
  have hB2 : Below w.heap.size w w2 := hB1.trans (hb2.mono hB1.size)
  clear hb2 HC1 hB1
  go_upto_region 5 with fail
  have ba := (Below.refl w2.heap.size w2).alloc (Nat.le_refl _) (.cells #[.bool d, .int .i64 p, .int .i64 e, .int .i64 x, .slice af fs.length cf, .slice av vs.length cv, .slice ab bs.length cb'] 61)
  have HN3 := hide (Bx.new w2 #[.bool d, .int .i64 p, .int .i64 e, .int .i64 x, .slice af fs.length cf, .slice av vs.length cv, .slice ab bs.length cb'] 61)
  have hB3 := hB2.trans (ba.mono hB2.size)
  obtain ⟨w3, hw3⟩ : ∃ w3, w3 = w2.alloc (.cells #[.bool d, .int .i64 p, .int .i64 e, .int .i64 x, .slice af fs.length cf, .slice av vs.length cv, .slice ab bs.length cb'] 61) := ⟨_, rfl⟩
  rw [← hw3] at HN3 hB3 ba ⊢
  obtain ⟨XB, hXB⟩ : ∃ XB, XB = w2.heap.size := ⟨_, rfl⟩
  rw [← hXB] at HN3 ⊢
  have HM2 := hide (m2.below ba)
  clear hw3 hB2 hXB m2 ba
  cases d with
  | true =>
    by_cases hf : fs = []
    · have hGO : GO = .inr (if (vlAt ⟨true, p, e, x, fs, vs, bs⟩ x).fn = true then 2 else 1) := by
        rw [HGO.out]; unfold stepM; rw [if_pos rfl, hf]; rfl
      obtain ⟨d1, d2, d3, d4⟩ := nOk_done HG.out.now rfl
      simp only at d3 d4
      obtain ⟨i, hi⟩ := Int.eq_ofNat_of_zero_le d3
      subst hi
      have hil : i < vs.length := by omega
      have e5 : vlAt ⟨true, p, e, (i : Int), fs, vs, bs⟩ (i : Int) = vs[i] := by unfold vlAt; rw [List.getD_eq_getElem?_getD]; simp [hil]
      have hRNe := HRR.out _ hGO
      simp only [e5] at hRNe
      obtain ⟨b, o, rfl, -, q0, q1, -, -⟩ := VlRow.tok HM2.out (Below.refl _ _) hil
      subst hf
      obtain ⟨y, hy⟩ : ∃ y, y = vs[i] := ⟨_, rfl⟩
      rw [← hy] at q0 q1 hRNe
      have HRN := hide hRNe
      have u0 := HN3.out.c
      have k0 : w3.cell? ⟨XB, 0, none⟩ = some (.bool true) := u0 0
      have k3 : w3.cell? ⟨XB, 3, none⟩ = some (.int .i64 (i : Int)) := u0 3
      have k4 : w3.cell? ⟨XB, 4, none⟩ = some (.slice af 0 cf) := u0 4
      have k5 : w3.cell? ⟨XB, 5, none⟩ = some (.slice (some ⟨b, o, none⟩) vs.length cv) := u0 5
      simp only [List.length_nil]
      have hp0 : (0 : Int) ≤ (i : Int) := by omega
      have hp' : (i : Int) < (vs.length : Int) := by omega
      clear hRNe hy e5 d1 d2 d3 d4 hGO HRI HRR HCo HCN HRM HGO HG HM2 u0 HN3
      obtain ⟨y0, y1, y2, y3⟩ := y
      cases y0 with
      | true =>
        simp only [if_true] at HRN
        go_wp2_with fail
        refine bodyPost_ret (v := .tuple #[.int .i64 2, .int .i64 0, .int .i64 (n : Int), .bool true]) (by simp [results, Tryz.results17, go_sem]) rfl ?_
        rw [HRN.out]
        exact ⟨rfl, hB3⟩
      | false =>
        simp only [Bool.false_eq_true, if_false, if_true] at HRN
        go_upto_region 8 with fail
        go_region_held3 (fun w' => w'.cell? ⟨XB, 5, none⟩ = some (.slice (some ⟨b, o, none⟩) vs.length cv) ∧ w'.cell? ⟨XB, 3, none⟩ = some (.int .i64 (i : Int)) ∧ w'.cell? ⟨b, o + i * 4 + 1, none⟩ = some (.int .i64 y1)) (go_keep)
          (first | fail)
        all_goals
          go_wp2_with fail
          refine bodyPost_ret (v := .tuple #[.int .i64 1, .int .i64 y1, .int .i64 (n : Int), .bool true]) (by simp [results, Tryz.results17, go_sem]) rfl ?_
          rw [HRN.out]
          first | exact ⟨rfl, hB3⟩ | exact ⟨rfl, belowDrew hB3⟩
    · have hlen : ¬ ((fs.length : Nat) : Int) = 0 := by
        intro h0
        exact hf (List.eq_nil_of_length_eq_zero (by omega))
      have HRes : Hid ((RM = false → RN = (5, 0, (n : Int))) ∧ (RM = true → CN = false → RN = (3, 0, (n : Int))) ∧ (RM = true → CN = true → RN = (4, 0, (n : Int)))) := hide (by
        rw [HCN.out, HRM.out]
        cases hq : GO with
        | inl m1 => exact ⟨fun h => (by cases h), fun _ h => (by cases h), fun _ _ => HRI.out m1 hq⟩
        | inr cc =>
          have hR := HRR.out cc hq
          rcases HCo.out cc hq with ⟨-, h, -⟩ | ⟨-, rfl | rfl⟩
          · exact absurd h hf
          · exact ⟨fun h => (by cases h), fun _ _ => hR, fun _ h => (by cases h)⟩
          · exact ⟨fun _ => hR, fun h => (by cases h), fun h => (by cases h)⟩)
      have u0 := HN3.out.c
      clear HRI HRR HCo HCN HRM HGO HG HM2
      cases RM with
      | false =>
        have HRN := hide (HRes.out.1 rfl)
        go_wp2_with fail
        refine bodyPost_ret (v := .tuple #[.int .i64 5, .int .i64 0, .int .i64 (n : Int), .bool true]) (by simp [results, Tryz.results17, go_sem]) rfl ?_
        rw [HRN.out]
        exact ⟨rfl, hB3⟩
      | true =>
        cases CN with
        | false =>
          have HRN := hide (HRes.out.2.1 rfl rfl)
          go_wp2_with fail
          refine bodyPost_ret (v := .tuple #[.int .i64 3, .int .i64 0, .int .i64 (n : Int), .bool true]) (by simp [results, Tryz.results17, go_sem]) rfl ?_
          rw [HRN.out]
          exact ⟨rfl, hB3⟩
        | true =>
          have HRN := hide (HRes.out.2.2 rfl rfl)
          go_wp2_with fail
          refine bodyPost_ret (v := .tuple #[.int .i64 4, .int .i64 0, .int .i64 (n : Int), .bool true]) (by simp [results, Tryz.results17, go_sem]) rfl ?_
          rw [HRN.out]
          exact ⟨rfl, hB3⟩
  | false =>
    have HRes : Hid ((RM = false → RN = (5, 0, (n : Int))) ∧ (RM = true → CN = false → RN = (3, 0, (n : Int))) ∧ (RM = true → CN = true → RN = (4, 0, (n : Int)))) := hide (by
      rw [HCN.out, HRM.out]
      cases hq : GO with
      | inl m1 => exact ⟨fun h => (by cases h), fun _ h => (by cases h), fun _ _ => HRI.out m1 hq⟩
      | inr cc =>
        have hR := HRR.out cc hq
        rcases HCo.out cc hq with ⟨h, -, -⟩ | ⟨-, rfl | rfl⟩
        · cases h
        · exact ⟨fun h => (by cases h), fun _ _ => hR, fun _ h => (by cases h)⟩
        · exact ⟨fun _ => hR, fun h => (by cases h), fun h => (by cases h)⟩)
    have u0 := HN3.out.c
    clear HRI HRR HCo HCN HRM HGO HG HM2
    cases RM with
    | false =>
      have HRN := hide (HRes.out.1 rfl)
      go_wp2_with fail
      refine bodyPost_ret (v := .tuple #[.int .i64 5, .int .i64 0, .int .i64 (n : Int), .bool true]) (by simp [results, Tryz.results17, go_sem]) rfl ?_
      rw [HRN.out]
      exact ⟨rfl, hB3⟩
    | true =>
      cases CN with
      | false =>
        have HRN := hide (HRes.out.2.1 rfl rfl)
        go_wp2_with fail
        refine bodyPost_ret (v := .tuple #[.int .i64 3, .int .i64 0, .int .i64 (n : Int), .bool true]) (by simp [results, Tryz.results17, go_sem]) rfl ?_
        rw [HRN.out]
        exact ⟨rfl, hB3⟩
      | true =>
        have HRN := hide (HRes.out.2.2 rfl rfl)
        go_wp2_with fail
        refine bodyPost_ret (v := .tuple #[.int .i64 4, .int .i64 0, .int .i64 (n : Int), .bool true]) (by simp [results, Tryz.results17, go_sem]) rfl ?_
        rw [HRN.out]
        exact ⟨rfl, hB3⟩
theorem specRun_any (ad : Option Addr) (c : Nat) (l : List Cc) (q : Int) (w : World) (hl : l.length ≤ 1048576) (h : CRow w ad l) :
    Calls Tryz.prog 17 #[.slice ad l.length c, .int .i64 q] w fun e w' => e = .returned (.tuple #[.int .i64 (rnR l q).1, .int .i64 (rnR l q).2.1, .int .i64 (rnR l q).2.2, .bool (pmO l q)]) ∧ Below w.heap.size w w' := by
  cases hp : pmO l q with
  | false => rw [rn_not hp]; exact specRun_bad ad c l q w hl h hp
  | true =>
    obtain ⟨a, S, h1, h2, rfl, h4, h5⟩ := rn_is hp
    rw [h5]
    exact specRun_good ad c l a S w h h1 h4
end Go.Proofs.YtnmkbpflbfhpnaaGreat.W
