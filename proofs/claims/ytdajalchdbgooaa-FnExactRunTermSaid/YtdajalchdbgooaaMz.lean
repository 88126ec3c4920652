/-
  Some texts of this proof in one: MaY9, MaZ0.
-/
import Derived.Test.YtdajalchdbgooaaMy
import Derived.Deep.RegionHeld3
import Derived.Deep.RegionLaw
import Derived.Deep.AppendLies
import Derived.Deep.CutRange
/-
  The program's RunTerm. Conditions: at most 1048576 cells. Written by wip/build/mk_run.py.
-/
namespace Go.Proofs.Ytdajalchdbgooaa.W
open Go.ChangeShapes Go.WideShapes Go.ChangeAt Go.RowKit
set_option linter.unusedVariables false
set_option linter.unusedSimpArgs false

/-- What RunTerm tells. -/
def rnR (l : List Cc) (q : Int) : Int × Int × Int := if inB q 0 2000 = true then (match closedT l with | some a => runM a l q.toNat | none => (0, 0, 0)) else (0, 0, 0)
theorem rn_not {l : List Cc} {q : Int} (h : pmO l q = false) : rnR l q = (0, 0, 0) := by
  unfold rnR
  unfold pmO closed at h
  by_cases hq : inB q 0 2000 = true
  · rw [if_pos hq]
    cases hc : closedT l with
    | none => rfl
    | some a => rw [hc, hq] at h; cases h
  · rw [if_neg hq]
theorem rn_is {l : List Cc} {q : Int} (h : pmO l q = true) : ∃ a S, closedT l = some a ∧ Cl l a ∧ q = ((S : Nat) : Int) ∧ S ≤ 2000 ∧ rnR l q = runM a l S := by
  obtain ⟨a, S, h1, h2, rfl, h4, -⟩ := pm_is h
  refine ⟨a, S, h1, h2, rfl, h4, ?_⟩
  unfold rnR
  rw [if_pos (by simp [inB]; omega), h1]
  rfl
theorem fieldVal1 : ∀ (d : Bool) (a b c : Int) (w : World), (Instr.field 74 (.agg #[.bool d, .int .i64 a, .int .i64 b, .int .i64 c]) 1).run Try.prog w = .ok (.int .i64 a) w := fun _ _ _ _ _ => by kernel_rfl

set_option maxRecDepth 20000 in
set_option maxHeartbeats 4000000 in
theorem implRun_bad (ad : Option Addr) (c : Nat) (l : List Cc) (q : Int) (w : World) (hl : l.length ≤ 1048576) (hcap : l.length ≤ c) (h : CRow w ad l) (hp : pmO l q = false) :
    Calls Try.prog 18 #[.slice ad l.length c, .int .i64 q] w fun e w' => e = .returned (.tuple #[.int .i64 0, .int .i64 0, .int .i64 0, .bool false]) ∧ Below w.heap.size w w' := by
  have HC := hide (implStart_any ad c l w hl hcap h)
  have HI := hide (isFuel_any q)
  have HP := hide hp
  clear h hp
  cases hc : closed l with
  | false =>
    rw [hc] at HC
    simp only [Bool.false_eq_true, if_false] at HC
    clear hc HP HI
    go_enter Try.func18, Try.ntmps18
    go_wp2_with fail
    refine HC.out.mono ?_
    rintro e w1 ⟨rfl, hb1⟩
    go_wp2_with fail
    refine bodyPost_ret (v := .tuple #[.int .i64 0, .int .i64 0, .int .i64 0, .bool false]) (by simp [results, Try.results18, go_sem]) rfl ⟨rfl, hb1.alloc hb1.size _⟩
  | true =>
    rw [hc] at HC
    have hq : inB q 0 2000 = false := by have := HP.out; unfold pmO at this; rw [hc] at this; simpa using this
    rw [hq] at HI
    simp only [if_true] at HC
    clear hc HP hq
    go_enter Try.func18, Try.ntmps18
    go_wp2_with fail
    refine HC.out.mono ?_
    rintro e w1 ⟨rfl, hb1⟩
    go_wp2_with fail
    refine (HI.out _).mono ?_
    rintro e w' ⟨rfl, hw'⟩
    obtain rfl := hw'.symm
    go_wp2_with fail
    refine bodyPost_ret (v := .tuple #[.int .i64 0, .int .i64 0, .int .i64 0, .bool false]) (by simp [results, Try.results18, go_sem]) rfl ⟨rfl, hb1.alloc hb1.size _⟩

set_option maxRecDepth 20000 in
set_option maxHeartbeats 4000000 in
theorem implRun_good (ad : Option Addr) (c : Nat) (l : List Cc) (a : F) (S : Nat) (w : World) (hl : l.length ≤ 1048576) (hcap : l.length ≤ c) (hmax : c ≤ maxLen) (h : CRow w ad l) (hc : closedT l = some a) (hS : S ≤ 2000) :
    Calls Try.prog 18 #[.slice ad l.length c, .int .i64 (S : Int)] w fun e w' => e = .returned (.tuple #[.int .i64 (runM a l S).1, .int .i64 (runM a l S).2.1, .int .i64 (runM a l S).2.2, .bool true]) ∧ Below w.heap.size w w' := by
  have hCl := (closedT_some hc).1
  have hcl : closed l = true := by unfold closed; rw [hc]; rfl
  have HC := hide (implStart_any ad c l w hl hcap h)
  rw [hcl] at HC
  simp only [if_true] at HC
  have HI := hide (isFuel_any (S : Int))
  rw [show inB (S : Int) 0 2000 = true by simp [inB]; omega] at HI
  have HTR : Hid (∀ (w' : World) (lo : Nat), w.heap.size ≤ lo → lo ≤ w'.heap.size → Below w.heap.size w w' → TR w' lo ad c l) := hide (fun w' lo h1 h2 h3 => ⟨fun w2 hb => h.below (h3.trans (hb.mono h1)), hcap, hmax, h2⟩)
  obtain ⟨PM, hPM⟩ : ∃ PM, PM = playM a l S startM := ⟨_, rfl⟩
  obtain ⟨RN, hRN⟩ : ∃ RN, RN = runM a l S := ⟨_, rfl⟩
  rw [← hRN]
  have HRI : Hid (∀ m1, stepM a l PM.1 = .inl m1 → RN = (4, 0, (S : Int))) := hide (fun m1 h1 => by rw [hRN]; unfold runM; rw [← hPM, h1])
  have HRR : Hid (∀ cc, stepM a l PM.1 = .inr cc → RN = (cc, if cc = 1 then (vlAt PM.1 PM.1.val).num else 0, (PM.2 : Int))) := hide (fun cc h1 => by rw [hRN]; unfold runM; rw [← hPM, h1])
  have HPM := hide hPM
  have HG0 := hide (start_good hCl)
  have HCl := hide hCl
  clear hPM hRN hCl hcl hc h hcap hmax
  go_enter Try.func18, Try.ntmps18
  go_wp2_with fail
  refine HC.out.mono ?_
  rintro e w1 ⟨rfl, hB1⟩
  clear HC
  go_wp2_with fail
  refine (HI.out _).mono ?_
  rintro e w' ⟨rfl, hw'⟩
  subst hw'
  have HX2 := hide (Bx.new w1 #[.bool false, .int .i64 0, .int .i64 (-1), .int .i64 (-1), .slice none 0 0, .slice none 0 0, .slice none 0 0] 28)
  have hB2 : Below w.heap.size w (w1.alloc (.cells #[.bool false, .int .i64 0, .int .i64 (-1), .int .i64 (-1), .slice none 0 0, .slice none 0 0, .slice none 0 0] 28)) := hB1.alloc hB1.size _
  obtain ⟨w2, hw2⟩ : ∃ w2, w2 = w1.alloc (.cells #[.bool false, .int .i64 0, .int .i64 (-1), .int .i64 (-1), .slice none 0 0, .slice none 0 0, .slice none 0 0] 28) := ⟨_, rfl⟩
  rw [← hw2] at HX2 hB2 ⊢
  have cx := HX2.out.c
  clear hw2 hB1 HI
  go_upto_region 6 with fail
  have HR3 := hide (Bx.new w2 #[.slice ad l.length c, .bool false, .int .i64 0, .int .i64 (-1), .int .i64 (-1), .slice none 0 0, .slice none 0 0, .slice none 0 0] 77)
  have hB3 : Below w.heap.size w (w2.alloc (.cells #[.slice ad l.length c, .bool false, .int .i64 0, .int .i64 (-1), .int .i64 (-1), .slice none 0 0, .slice none 0 0, .slice none 0 0] 77)) := hB2.alloc hB2.size _
  have rl3 : w2.heap.size < (w2.alloc (.cells #[.slice ad l.length c, .bool false, .int .i64 0, .int .i64 (-1), .int .i64 (-1), .slice none 0 0, .slice none 0 0, .slice none 0 0] 77)).heap.size := HR3.out.lt
  have hwl := hB2.size
  obtain ⟨w3, hw3⟩ : ∃ w3, w3 = w2.alloc (.cells #[.slice ad l.length c, .bool false, .int .i64 0, .int .i64 (-1), .int .i64 (-1), .slice none 0 0, .slice none 0 0, .slice none 0 0] 77) := ⟨_, rfl⟩
  obtain ⟨RBk, hRBk⟩ : ∃ RBk, RBk = w2.heap.size := ⟨_, rfl⟩
  rw [← hw3] at HR3 hB3 rl3 ⊢
  rw [← hRBk] at HR3 rl3 hwl ⊢
  clear hw3 hRBk HX2 hB2 cx
  have HT3 := hide (HTR.out w3 RBk (by omega) (by omega) hB3)
  clear HTR
  have e29 : IntKind.i64.wrap ((S : Int) + 1) = (S : Int) + 1 := IntWalk.i64_in _ ⟨by omega, by omega⟩
  try rw [e29]
  clear e29
  go_loopw [30] (fun i w' => ∃ (M : Mc) (j : Nat), j ≤ S + 1 ∧ i = .int .i64 (j : Int) ∧ GM a l M ∧ (j ≤ S → PM = ((playM a l (S - j) M).1, (playM a l (S - j) M).2 + j)) ∧ (j = S + 1 → RN = (4, 0, (S : Int))) ∧ RB w' RBk RBk (.slice ad l.length c) M ∧ Below RBk w3 w') (fun i _ => S + 1 - (intOf i).toNat)
  case atStart => exact ⟨startM, 0, Nat.zero_le _, rfl, HG0.out, fun _ => HPM.out, fun h => by omega, ⟨_, _, _, HR3.out, World.ownsRow_nil _ _ _ _, World.ownsRow_nil _ _ _ _, World.ownsRow_nil _ _ _ _, Nat.le_refl _⟩, Below.refl _ _⟩
  case round =>
    obtain ⟨M, j, hj, rfl, hG, hP, hE, hR, hB⟩ := hrel
    clear HPM HG0 HR3
    by_cases hlt : j ≤ S
    · have hlt' : (j : Int) < (S : Int) + 1 := by omega
      have HP := hide (hP hlt)
      have HT := hide (HT3.out.below hB)
      have HSt := hide (step_any RBk RBk ad c l a M wr HCl.out hR HT.out hG)
      have HGS := hide (fun m1 h => step_good (m' := m1) HCl.out hG h)
      have HCo := hide (fun cc h => step_code (c := cc) HCl.out hG h)
      have HB := hide hB
      have HG := hide hG
      obtain ⟨GO, hGO⟩ : ∃ GO, GO = stepM a l M := ⟨_, rfl⟩
      rw [← hGO] at HSt
      have HGO := hide hGO
      clear hG hP hR hB hGO HT hE
      cases hq : GO with
      | inl m1 =>
        rw [hq] at HSt
        have e1 := HGO.out.symm.trans hq
        have HG1 := hide (HGS.out m1 e1)
        have HPN : Hid (j + 1 ≤ S → PM = ((playM a l (S - (j + 1)) m1).1, (playM a l (S - (j + 1)) m1).2 + (j + 1))) := hide (fun hjs => by
          rw [HP.out, show S - j = (S - (j + 1)) + 1 by omega, playM_go e1]
          simp only [Prod.mk.injEq, true_and]
          omega)
        have HRE : Hid (j + 1 = S + 1 → RN = (4, 0, (S : Int))) := hide (fun hjs => HRI.out m1 (by
          rw [HP.out, show S - j = 0 by omega]
          exact e1))
        simp only [cdOf, mcOf] at HSt
        clear hq e1 HGS HCo HGO HRI HRR
        go_wp2_with fail
        refine HSt.out.mono ?_
        rintro r w4 ⟨rfl, hr4, hb4⟩
        have HR4 := hide hr4
        have HB4 := hide (HB.out.trans hb4)
        clear hr4 hb4
        go_wp2_with fail
        exact ⟨⟨m1, j + 1, by omega, by go_num, HG1.out, HPN.out, HRE.out, HR4.out, HB4.out⟩, by simp [intOf]; omega⟩
      | inr cc =>
        rw [hq] at HSt
        have e1 := HGO.out.symm.trans hq
        have hcc : ¬ cc = 0 := by
          rcases HCo.out cc e1 with ⟨-, -, h⟩ | ⟨-, h⟩
          · split at h <;> omega
          · omega
        have hPS : PM = (M, j) := by rw [HP.out, playM_stop e1, Nat.zero_add]
        have hRNe := HRR.out cc (by rw [hPS]; exact e1)
        rw [hPS] at hRNe
        simp only [cdOf, mcOf] at HSt
        by_cases hc1 : cc = 1
        · subst hc1
          rw [if_pos rfl] at hRNe
          obtain ⟨k1, k2, k3⟩ : M.done = true ∧ M.fs = [] ∧ (vlAt M M.val).fn = false := by
            rcases HCo.out 1 e1 with ⟨h1, h2, h⟩ | ⟨-, h⟩
            · refine ⟨h1, h2, ?_⟩
              split at h
              · omega
              · rename_i hx; simpa using hx
            · omega
          obtain ⟨d1, d2, d3, d4⟩ := nOk_done HG.out.now k1
          obtain ⟨i, hi⟩ := Int.eq_ofNat_of_zero_le d3
          have hil : i < M.vs.length := by omega
          have e5 : vlAt M M.val = M.vs[i] := by unfold vlAt; rw [hi, List.getD_eq_getElem?_getD]; simp [hil]
          rw [e5] at hRNe
          have HRN := hide hRNe
          have hnv : M.vs.length ≤ 1048576 := by have := HG.out.nv; omega
          clear hq e1 HGS HCo HGO HRI HRR hPS hRNe k1 k2 k3 e5 d1 d2 d4
          go_wp2_with fail
          refine HSt.out.mono ?_
          rintro r w4 ⟨rfl, hr4, hb4⟩
          have hBB : Below w.heap.size w w4 := hB3.trans ((HB.out.trans hb4).mono hwl)
          obtain ⟨af, cf, av, cv, ab, cb, g1, g2, g3, g4, -⟩ := hr4.slots
          rw [hi] at g1
          have cr := g1.c
          have HCm := hide (cameTo_any M.done M.pl M.env i (.slice af M.fs.length cf) (.slice ab M.bs.length cb) av cv M.vs w4 (RRow.ofOwn g3 rfl) hil hnv)
          obtain ⟨y, hy⟩ : ∃ y, y = M.vs[i] := ⟨_, rfl⟩
          rw [← hy] at HCm HRN
          clear g1 g2 g3 g4 hr4 hb4 hy
          have hf1 := fieldVal1
          obtain ⟨y0, y1, y2, y3⟩ := y
          go_wp2_with fail
          refine HCm.out.mono ?_
          rintro r w5 ⟨rfl, hb5⟩
          have hB5 : Below w.heap.size w w5 := hBB.trans (hb5.mono hBB.size)
          clear hb5 cr
          simp only [Vl.v] at *
          go_wp2_with fail
          refine bodyPost_ret (v := .tuple #[.int .i64 1, .int .i64 y1, .int .i64 (j : Int), .bool true]) (by simp [results, Try.results18, go_sem]) rfl ?_
          rw [HRN.out]
          exact ⟨rfl, hB5⟩
        · rw [if_neg hc1] at hRNe
          have HRN := hide hRNe
          clear hq e1 HGS HCo HGO HRI HRR hPS hRNe
          go_wp2_with fail
          refine HSt.out.mono ?_
          rintro r w4 ⟨rfl, hr4, hb4⟩
          have hBB : Below w.heap.size w w4 := hB3.trans ((HB.out.trans hb4).mono hwl)
          clear hr4 hb4
          go_wp2_with fail
          refine bodyPost_ret (v := .tuple #[.int .i64 cc, .int .i64 0, .int .i64 (j : Int), .bool true]) (by simp [results, Try.results18, go_sem]) rfl ?_
          rw [HRN.out]
          exact ⟨rfl, hBB⟩
    · have hlt' : ¬ (j : Int) < (S : Int) + 1 := by omega
      have HE := hide (hE (by omega))
      have hBB : Below w.heap.size w wr := hB3.trans (hB.mono hwl)
      clear hG hP hR hB hE
      go_wp2_with fail
      refine bodyPost_ret (v := .tuple #[.int .i64 4, .int .i64 0, .int .i64 (S : Int), .bool true]) (by simp [results, Try.results18, go_sem]) rfl ?_
      rw [HE.out]
      exact ⟨rfl, hBB⟩
theorem implRun_any (ad : Option Addr) (c : Nat) (l : List Cc) (q : Int) (w : World) (hl : l.length ≤ 1048576) (hcap : c = l.length) (h : CRow w ad l) :
    Calls Try.prog 18 #[.slice ad l.length c, .int .i64 q] w fun e w' => e = .returned (.tuple #[.int .i64 (rnR l q).1, .int .i64 (rnR l q).2.1, .int .i64 (rnR l q).2.2, .bool (pmO l q)]) ∧ Below w.heap.size w w' := by
  cases hp : pmO l q with
  | false => rw [rn_not hp]; exact implRun_bad ad c l q w hl (by omega) h hp
  | true =>
    obtain ⟨a, S, h1, h2, rfl, h4, h5⟩ := rn_is hp
    rw [h5]
    exact implRun_good ad c l a S w hl (by omega) (by unfold maxLen; omega) h h1 h4
end Go.Proofs.Ytdajalchdbgooaa.W

/-
  The specification's RunTerm. Conditions: at most 1048576 cells. Written by wip/build/mk_run.py.
-/
namespace Go.Proofs.Ytdajalchdbgooaa.W
open Go.ChangeShapes Go.WideShapes Go.ChangeAt Go.RowKit
set_option linter.unusedVariables false
set_option linter.unusedSimpArgs false

set_option maxRecDepth 20000 in
set_option maxHeartbeats 4000000 in
theorem specRun_bad (ad : Option Addr) (c : Nat) (l : List Cc) (q : Int) (w : World) (hl : l.length ≤ 1048576) (h : CRow w ad l) (hp : pmO l q = false) :
    Calls Try.prog 17 #[.slice ad l.length c, .int .i64 q] w fun e w' => e = .returned (.tuple #[.int .i64 0, .int .i64 0, .int .i64 0, .bool false]) ∧ Below w.heap.size w w' := by
  cases hc : closedT l with
  | none =>
    have HC := hide (l6Of_none ad c l w hl h hc)
    clear h hc hp
    go_enter Try.func17, Try.ntmps17
    go_wp2_with fail
    refine HC.out.mono ?_
    rintro e w1 ⟨rfl, hb1⟩
    go_wp2_with fail
    refine bodyPost_ret (v := .tuple #[.int .i64 0, .int .i64 0, .int .i64 0, .bool false]) (by simp [results, Try.results17, go_sem]) rfl ⟨rfl, hb1⟩
  | some a =>
    have hq : inB q 0 2000 = false := by unfold pmO closed at hp; rw [hc] at hp; simpa using hp
    have HC := hide (l6Of_some ad c l a w h hc)
    have HI := hide (l1In_any q 0 2000)
    rw [hq] at HI
    clear h hc hp hq
    go_enter Try.func17, Try.ntmps17
    go_wp2_with fail
    refine HC.out.mono ?_
    rintro e w1 ⟨cb, rfl, hcd, -, hb1⟩
    clear hcd
    go_wp2_with fail
    refine (HI.out _).mono ?_
    rintro e w' ⟨rfl, hw'⟩
    subst hw'
    go_wp2_with fail
    refine bodyPost_ret (v := .tuple #[.int .i64 0, .int .i64 0, .int .i64 0, .bool false]) (by simp [results, Try.results17, go_sem]) rfl ⟨rfl, hb1⟩

set_option maxRecDepth 20000 in
set_option maxHeartbeats 4000000 in
theorem specRun_good (ad : Option Addr) (c : Nat) (l : List Cc) (a : F) (S : Nat) (w : World) (h : CRow w ad l) (hc : closedT l = some a) (hS : S ≤ 2000) :
    Calls Try.prog 17 #[.slice ad l.length c, .int .i64 (S : Int)] w fun e w' => e = .returned (.tuple #[.int .i64 (runM a l S).1, .int .i64 (runM a l S).2.1, .int .i64 (runM a l S).2.2, .bool true]) ∧ Below w.heap.size w w' := by
  have hCl := (closedT_some hc).1
  have HC := hide (l6Of_some ad c l a w h hc)
  have HI := hide (l1In_any (S : Int) 0 2000)
  rw [show inB (S : Int) 0 2000 = true by simp [inB]; omega] at HI
  have HP := hide (fun (w' : World) (cb : Nat) (h1 : CD w' cb (.slice ad l.length c) l.length a) (h2 : Below w.heap.size w w') => l6Play_any cb ad c l a S w' hCl hS (h1.sr (h.below h2)))
  obtain ⟨PM, hPM⟩ : ∃ PM, PM = playM a l S startM := ⟨_, rfl⟩
  obtain ⟨RN, hRN⟩ : ∃ RN, RN = runM a l S := ⟨_, rfl⟩
  rw [← hRN]
  have hG : GM a l PM.1 := by rw [hPM]; exact playM_good hCl S _ (start_good hCl)
  have HRI : Hid (∀ m1, stepM a l PM.1 = .inl m1 → RN = (4, 0, (PM.2 : Int))) := hide (fun m1 h1 => by
    have := playM_full S startM m1 (by rw [← hPM]; exact h1)
    rw [hRN]; unfold runM; rw [← hPM, h1]
    rw [← hPM] at this
    rw [this])
  have HRR : Hid (∀ cc, stepM a l PM.1 = .inr cc → RN = (cc, if cc = 1 then (vlAt PM.1 PM.1.val).num else 0, (PM.2 : Int))) := hide (fun cc h1 => by rw [hRN]; unfold runM; rw [← hPM, h1])
  have HCo := hide (fun cc h => step_code (c := cc) hCl hG h)
  rw [← hPM] at HP
  obtain ⟨⟨d, p, e, x, fs, vs, bs⟩, n⟩ := PM
  obtain ⟨GO, hGO⟩ : ∃ GO, GO = stepM a l ⟨d, p, e, x, fs, vs, bs⟩ := ⟨_, rfl⟩
  simp only [← hGO] at HP HRI HRR HCo
  obtain ⟨CN, hCN⟩ : ∃ CN, CN = canOf GO := ⟨_, rfl⟩
  obtain ⟨RM, hRM⟩ : ∃ RM, RM = roomOf GO := ⟨_, rfl⟩
  simp only [← hCN, ← hRM] at HP
  have HG := hide hG
  have HCN := hide hCN
  have HRM := hide hRM
  have HGO := hide hGO
  clear h hc hCl hPM hCN hRM hRN hG hGO
  go_enter Try.func17, Try.ntmps17
  go_wp2_with fail
  refine HC.out.mono ?_
  rintro r w1 ⟨cb, rfl, hcd, -, hB1⟩
  have HC1 := hide (HP.out w1 cb hcd hB1)
  clear hcd HP HC
  go_wp2_with fail
  refine (HI.out _).mono ?_
  rintro r w' ⟨rfl, hw'⟩
  subst hw'
  clear HI
  go_wp2_with fail
  refine HC1.out.mono ?_
  rintro r w2 ⟨v2, rfl, hm2, hb2⟩
  obtain ⟨af, cf, av, cv, ab, cb', rfl, -, m2, -, -, m5, -, -, -, -⟩ := hm2
  simp only at m2 m5
  have hB2 : Below w.heap.size w w2 := hB1.trans (hb2.mono hB1.size)
  clear hb2 HC1 hB1
  go_upto_region 5 with fail
  have ba := (Below.refl w2.heap.size w2).alloc (Nat.le_refl _) (.cells #[.bool d, .int .i64 p, .int .i64 e, .int .i64 x, .slice af fs.length cf, .slice av vs.length cv, .slice ab bs.length cb'] 28)
  have HN3 := hide (Bx.new w2 #[.bool d, .int .i64 p, .int .i64 e, .int .i64 x, .slice af fs.length cf, .slice av vs.length cv, .slice ab bs.length cb'] 28)
  have hB3 := hB2.trans (ba.mono hB2.size)
  obtain ⟨w3, hw3⟩ : ∃ w3, w3 = w2.alloc (.cells #[.bool d, .int .i64 p, .int .i64 e, .int .i64 x, .slice af fs.length cf, .slice av vs.length cv, .slice ab bs.length cb'] 28) := ⟨_, rfl⟩
  rw [← hw3] at HN3 hB3 ba ⊢
  obtain ⟨XB, hXB⟩ : ∃ XB, XB = w2.heap.size := ⟨_, rfl⟩
  rw [← hXB] at HN3 ⊢
  have HM2 := hide (m2.below ba)
  clear hw3 hB2 hXB m2 ba
  cases d with
  | true =>
    by_cases hf : fs = []
    · have hGO : GO = .inr (if (vlAt ⟨true, p, e, x, fs, vs, bs⟩ x).fn = true then 2 else 1) := by
        rw [HGO.out]; unfold stepM; rw [if_pos rfl, hf]; rfl
      obtain ⟨d1, d2, d3, d4⟩ := nOk_done HG.out.now rfl
      simp only at d3 d4
      obtain ⟨i, hi⟩ := Int.eq_ofNat_of_zero_le d3
      subst hi
      have hil : i < vs.length := by omega
      have e5 : vlAt ⟨true, p, e, (i : Int), fs, vs, bs⟩ (i : Int) = vs[i] := by unfold vlAt; rw [List.getD_eq_getElem?_getD]; simp [hil]
      have hRNe := HRR.out _ hGO
      simp only [e5] at hRNe
      obtain ⟨b, o, rfl, -, q0, q1, -, -⟩ := VlRow.tok HM2.out (Below.refl _ _) hil
      subst hf
      obtain ⟨y, hy⟩ : ∃ y, y = vs[i] := ⟨_, rfl⟩
      rw [← hy] at q0 q1 hRNe
      have HRN := hide hRNe
      have u0 := HN3.out.c
      have k0 : w3.cell? ⟨XB, 0, none⟩ = some (.bool true) := u0 0
      have k3 : w3.cell? ⟨XB, 3, none⟩ = some (.int .i64 (i : Int)) := u0 3
      have k4 : w3.cell? ⟨XB, 4, none⟩ = some (.slice af 0 cf) := u0 4
      have k5 : w3.cell? ⟨XB, 5, none⟩ = some (.slice (some ⟨b, o, none⟩) vs.length cv) := u0 5
      simp only [List.length_nil]
      have hp0 : (0 : Int) ≤ (i : Int) := by omega
      have hp' : (i : Int) < (vs.length : Int) := by omega
      clear hRNe hy e5 d1 d2 d3 d4 hGO HRI HRR HCo HCN HRM HGO HG HM2 u0 HN3
      obtain ⟨y0, y1, y2, y3⟩ := y
      cases y0 with
      | true =>
        simp only [if_true] at HRN
        go_wp2_with fail
        refine bodyPost_ret (v := .tuple #[.int .i64 2, .int .i64 0, .int .i64 (n : Int), .bool true]) (by simp [results, Try.results17, go_sem]) rfl ?_
        rw [HRN.out]
        exact ⟨rfl, hB3⟩
      | false =>
        simp only [Bool.false_eq_true, if_false, if_true] at HRN
        go_upto_region 8 with fail
        go_region_held3 (fun w' => w'.cell? ⟨XB, 5, none⟩ = some (.slice (some ⟨b, o, none⟩) vs.length cv) ∧ w'.cell? ⟨XB, 3, none⟩ = some (.int .i64 (i : Int)) ∧ w'.cell? ⟨b, o + i * 4 + 1, none⟩ = some (.int .i64 y1)) (go_keep)
          (first | fail)
        all_goals
          go_wp2_with fail
          refine bodyPost_ret (v := .tuple #[.int .i64 1, .int .i64 y1, .int .i64 (n : Int), .bool true]) (by simp [results, Try.results17, go_sem]) rfl ?_
          rw [HRN.out]
          first | exact ⟨rfl, hB3⟩ | exact ⟨rfl, belowDrew hB3⟩
    · have hlen : ¬ ((fs.length : Nat) : Int) = 0 := by
        intro h0
        exact hf (List.eq_nil_of_length_eq_zero (by omega))
      have HRes : Hid ((RM = false → RN = (5, 0, (n : Int))) ∧ (RM = true → CN = false → RN = (3, 0, (n : Int))) ∧ (RM = true → CN = true → RN = (4, 0, (n : Int)))) := hide (by
        rw [HCN.out, HRM.out]
        cases hq : GO with
        | inl m1 => exact ⟨fun h => (by cases h), fun _ h => (by cases h), fun _ _ => HRI.out m1 hq⟩
        | inr cc =>
          have hR := HRR.out cc hq
          rcases HCo.out cc hq with ⟨-, h, -⟩ | ⟨-, rfl | rfl⟩
          · exact absurd h hf
          · exact ⟨fun h => (by cases h), fun _ _ => hR, fun _ h => (by cases h)⟩
          · exact ⟨fun _ => hR, fun h => (by cases h), fun h => (by cases h)⟩)
      have u0 := HN3.out.c
      clear HRI HRR HCo HCN HRM HGO HG HM2
      cases RM with
      | false =>
        have HRN := hide (HRes.out.1 rfl)
        go_wp2_with fail
        refine bodyPost_ret (v := .tuple #[.int .i64 5, .int .i64 0, .int .i64 (n : Int), .bool true]) (by simp [results, Try.results17, go_sem]) rfl ?_
        rw [HRN.out]
        exact ⟨rfl, hB3⟩
      | true =>
        cases CN with
        | false =>
          have HRN := hide (HRes.out.2.1 rfl rfl)
          go_wp2_with fail
          refine bodyPost_ret (v := .tuple #[.int .i64 3, .int .i64 0, .int .i64 (n : Int), .bool true]) (by simp [results, Try.results17, go_sem]) rfl ?_
          rw [HRN.out]
          exact ⟨rfl, hB3⟩
        | true =>
          have HRN := hide (HRes.out.2.2 rfl rfl)
          go_wp2_with fail
          refine bodyPost_ret (v := .tuple #[.int .i64 4, .int .i64 0, .int .i64 (n : Int), .bool true]) (by simp [results, Try.results17, go_sem]) rfl ?_
          rw [HRN.out]
          exact ⟨rfl, hB3⟩
  | false =>
    have HRes : Hid ((RM = false → RN = (5, 0, (n : Int))) ∧ (RM = true → CN = false → RN = (3, 0, (n : Int))) ∧ (RM = true → CN = true → RN = (4, 0, (n : Int)))) := hide (by
      rw [HCN.out, HRM.out]
      cases hq : GO with
      | inl m1 => exact ⟨fun h => (by cases h), fun _ h => (by cases h), fun _ _ => HRI.out m1 hq⟩
      | inr cc =>
        have hR := HRR.out cc hq
        rcases HCo.out cc hq with ⟨h, -, -⟩ | ⟨-, rfl | rfl⟩
        · cases h
        · exact ⟨fun h => (by cases h), fun _ _ => hR, fun _ h => (by cases h)⟩
        · exact ⟨fun _ => hR, fun h => (by cases h), fun h => (by cases h)⟩)
    have u0 := HN3.out.c
    clear HRI HRR HCo HCN HRM HGO HG HM2
    cases RM with
    | false =>
      have HRN := hide (HRes.out.1 rfl)
      go_wp2_with fail
      refine bodyPost_ret (v := .tuple #[.int .i64 5, .int .i64 0, .int .i64 (n : Int), .bool true]) (by simp [results, Try.results17, go_sem]) rfl ?_
      rw [HRN.out]
      exact ⟨rfl, hB3⟩
    | true =>
      cases CN with
      | false =>
        have HRN := hide (HRes.out.2.1 rfl rfl)
        go_wp2_with fail
        refine bodyPost_ret (v := .tuple #[.int .i64 3, .int .i64 0, .int .i64 (n : Int), .bool true]) (by simp [results, Try.results17, go_sem]) rfl ?_
        rw [HRN.out]
        exact ⟨rfl, hB3⟩
      | true =>
        have HRN := hide (HRes.out.2.2 rfl rfl)
        go_wp2_with fail
        refine bodyPost_ret (v := .tuple #[.int .i64 4, .int .i64 0, .int .i64 (n : Int), .bool true]) (by simp [results, Try.results17, go_sem]) rfl ?_
        rw [HRN.out]
        exact ⟨rfl, hB3⟩
theorem specRun_any (ad : Option Addr) (c : Nat) (l : List Cc) (q : Int) (w : World) (hl : l.length ≤ 1048576) (h : CRow w ad l) :
    Calls Try.prog 17 #[.slice ad l.length c, .int .i64 q] w fun e w' => e = .returned (.tuple #[.int .i64 (rnR l q).1, .int .i64 (rnR l q).2.1, .int .i64 (rnR l q).2.2, .bool (pmO l q)]) ∧ Below w.heap.size w w' := by
  cases hp : pmO l q with
  | false => rw [rn_not hp]; exact specRun_bad ad c l q w hl h hp
  | true =>
    obtain ⟨a, S, h1, h2, rfl, h4, h5⟩ := rn_is hp
    rw [h5]
    exact specRun_good ad c l a S w h h1 h4
end Go.Proofs.Ytdajalchdbgooaa.W
