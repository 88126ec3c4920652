/-
  Some texts of this proof in one: MaY7, MaY9, HnY.
-/
import Derived.Test.YtnmkbpflbfhpnaaGreatJ27
import Derived.Test.YtnmkbpflbfhpnaaGreatJ17
import Derived.Test.YtnmkbpflbfhpnaaGreatJ18
/-
  The program's PlayMachine. Conditions: closed terms, at most 2000 steps. Written by wip/build/mk_implplay.py.
-/
namespace Go.Proofs.YtnmkbpflbfhpnaaGreat.W
open Go.ChangeShapes Go.WideShapes Go.ChangeAt Go.RowKit
set_option linter.unusedVariables false
set_option linter.unusedSimpArgs false

end Go.Proofs.YtnmkbpflbfhpnaaGreat.W

/-
  The program's RunTerm. Conditions: at most 1048576 cells. Written by wip/build/mk_run.py.
-/
namespace Go.Proofs.YtnmkbpflbfhpnaaGreat.W
open Go.ChangeShapes Go.WideShapes Go.ChangeAt Go.RowKit
set_option linter.unusedVariables false
set_option linter.unusedSimpArgs false

/-- What RunTerm tells. -/
def rnR (l : List Cc) (q : Int) : Int × Int × Int := if inB q 0 2000 = true then (match closedT l with | some a => runM a l q.toNat | none => (0, 0, 0)) else (0, 0, 0)
theorem rn_not {l : List Cc} {q : Int} (h : pmO l q = false) : rnR l q = (0, 0, 0) := by
  unfold rnR
  unfold pmO closed at h
  by_cases hq : inB q 0 2000 = true
  · rw [if_pos hq]
    cases hc : closedT l with
    | none => rfl
    | some a => rw [hc, hq] at h; cases h
  · rw [if_neg hq]
theorem rn_is {l : List Cc} {q : Int} (h : pmO l q = true) : ∃ a S, closedT l = some a ∧ Cl l a ∧ q = ((S : Nat) : Int) ∧ S ≤ 2000 ∧ rnR l q = runM a l S := by
  obtain ⟨a, S, h1, h2, rfl, h4, -⟩ := pm_is h
  refine ⟨a, S, h1, h2, rfl, h4, ?_⟩
  unfold rnR
  rw [if_pos (by simp [inB]; omega), h1]
  rfl
theorem fieldVal1 : ∀ (d : Bool) (a b c : Int) (w : World), (Instr.field 69 (.agg #[.bool d, .int .i64 a, .int .i64 b, .int .i64 c]) 1).run Tryz.prog w = .ok (.int .i64 a) w := fun _ _ _ _ _ => by kernel_rfl

set_option maxRecDepth 20000 in
set_option maxHeartbeats 4000000 in
theorem implRun_bad (ad : Option Addr) (c : Nat) (l : List Cc) (q : Int) (w : World) (hl : l.length ≤ 1048576) (hcap : l.length ≤ c) (h : CRow w ad l) (hp : pmO l q = false) :
    Calls Tryz.prog 8 #[.slice ad l.length c, .int .i64 q] w fun e w' => e = .returned (.tuple #[.int .i64 0, .int .i64 0, .int .i64 0, .bool false]) ∧ Below w.heap.size w w' := by
  have HC := hide (implStart_any ad c l w hl hcap h)
  have HI := hide (isFuel_any q)
  have HP := hide hp
  clear h hp
  cases hc : closed l with
  | false =>
    rw [hc] at HC
    simp only [Bool.false_eq_true, if_false] at HC
    clear hc HP HI
    go_enter Tryz.func8, Tryz.ntmps8
    go_wp2_with fail
    refine HC.out.mono ?_
    rintro e w1 ⟨rfl, hb1⟩
    go_wp2_with fail
    refine bodyPost_ret (v := .tuple #[.int .i64 0, .int .i64 0, .int .i64 0, .bool false]) (by simp [results, Tryz.results8, go_sem]) rfl ⟨rfl, hb1.alloc hb1.size _⟩
  | true =>
    rw [hc] at HC
    have hq : inB q 0 2000 = false := by have := HP.out; unfold pmO at this; rw [hc] at this; simpa using this
    rw [hq] at HI
    simp only [if_true] at HC
    clear hc HP hq
    go_enter Tryz.func8, Tryz.ntmps8
    go_wp2_with fail
    refine HC.out.mono ?_
    rintro e w1 ⟨rfl, hb1⟩
    go_wp2_with fail
    refine (HI.out _).mono ?_
    rintro e w' ⟨rfl, hw'⟩
    obtain rfl := hw'.symm
    go_wp2_with fail
    refine bodyPost_ret (v := .tuple #[.int .i64 0, .int .i64 0, .int .i64 0, .bool false]) (by simp [results, Tryz.results8, go_sem]) rfl ⟨rfl, hb1.alloc hb1.size _⟩

set_option maxRecDepth 20000 in
set_option maxHeartbeats 4000000 in
theorem implRun_good (ad : Option Addr) (c : Nat) (l : List Cc) (a : F) (S : Nat) (w : World) (hl : l.length ≤ 1048576) (hcap : l.length ≤ c) (hmax : c ≤ maxLen) (h : CRow w ad l) (hc : closedT l = some a) (hS : S ≤ 2000) :
    Calls Tryz.prog 8 #[.slice ad l.length c, .int .i64 (S : Int)] w fun e w' => e = .returned (.tuple #[.int .i64 (runM a l S).1, .int .i64 (runM a l S).2.1, .int .i64 (runM a l S).2.2, .bool true]) ∧ Below w.heap.size w w' := by
  have hCl := (closedT_some hc).1
  have hcl : closed l = true := by unfold closed; rw [hc]; rfl
  have HC := hide (implStart_any ad c l w hl hcap h)
  rw [hcl] at HC
  simp only [if_true] at HC
  have HI := hide (isFuel_any (S : Int))
  rw [show inB (S : Int) 0 2000 = true by simp [inB]; omega] at HI
  have HTR : Hid (∀ (w' : World) (lo : Nat), w.heap.size ≤ lo → lo ≤ w'.heap.size → Below w.heap.size w w' → TR w' lo ad c l) := hide (fun w' lo h1 h2 h3 => ⟨fun w2 hb => h.below (h3.trans (hb.mono h1)), hcap, hmax, h2⟩)
  obtain ⟨PM, hPM⟩ : ∃ PM, PM = playM a l S startM := ⟨_, rfl⟩
  obtain ⟨RN, hRN⟩ : ∃ RN, RN = runM a l S := ⟨_, rfl⟩
  rw [← hRN]
  have HRI : Hid (∀ m1, stepM a l PM.1 = .inl m1 → RN = (4, 0, (S : Int))) := hide (fun m1 h1 => by rw [hRN]; unfold runM; rw [← hPM, h1])
  have HRR : Hid (∀ cc, stepM a l PM.1 = .inr cc → RN = (cc, if cc = 1 then (vlAt PM.1 PM.1.val).num else 0, (PM.2 : Int))) := hide (fun cc h1 => by rw [hRN]; unfold runM; rw [← hPM, h1])
  have HPM := hide hPM
  have HG0 := hide (start_good hCl)
  have HCl := hide hCl
  clear hPM hRN hCl hcl hc h hcap hmax
  go_enter Tryz.func8, Tryz.ntmps8
  go_wp2_with fail
  refine HC.out.mono ?_
  rintro e w1 ⟨rfl, hB1⟩
  clear HC
  go_wp2_with fail
  refine (HI.out _).mono ?_
  rintro e w' ⟨rfl, hw'⟩
  subst hw'
  have HX2 := hide (Bx.new w1 #[.bool false, .int .i64 0, .int .i64 (-1), .int .i64 (-1), .slice none 0 0, .slice none 0 0, .slice none 0 0] 61)
  have hB2 : Below w.heap.size w (w1.alloc (.cells #[.bool false, .int .i64 0, .int .i64 (-1), .int .i64 (-1), .slice none 0 0, .slice none 0 0, .slice none 0 0] 61)) := hB1.alloc hB1.size _
  obtain ⟨w2, hw2⟩ : ∃ w2, w2 = w1.alloc (.cells #[.bool false, .int .i64 0, .int .i64 (-1), .int .i64 (-1), .slice none 0 0, .slice none 0 0, .slice none 0 0] 61) := ⟨_, rfl⟩
  rw [← hw2] at HX2 hB2 ⊢
  have cx := HX2.out.c
  clear hw2 hB1 HI
  go_upto_region 6 with fail
  have HR3 := hide (Bx.new w2 #[.slice ad l.length c, .bool false, .int .i64 0, .int .i64 (-1), .int .i64 (-1), .slice none 0 0, .slice none 0 0, .slice none 0 0] 66)
  have hB3 : Below w.heap.size w (w2.alloc (.cells #[.slice ad l.length c, .bool false, .int .i64 0, .int .i64 (-1), .int .i64 (-1), .slice none 0 0, .slice none 0 0, .slice none 0 0] 66)) := hB2.alloc hB2.size _
  have rl3 : w2.heap.size < (w2.alloc (.cells #[.slice ad l.length c, .bool false, .int .i64 0, .int .i64 (-1), .int .i64 (-1), .slice none 0 0, .slice none 0 0, .slice none 0 0] 66)).heap.size := HR3.out.lt
  have hwl := hB2.size
  obtain ⟨w3, hw3⟩ : ∃ w3, w3 = w2.alloc (.cells #[.slice ad l.length c, .bool false, .int .i64 0, .int .i64 (-1), .int .i64 (-1), .slice none 0 0, .slice none 0 0, .slice none 0 0] 66) := ⟨_, rfl⟩
  obtain ⟨RBk, hRBk⟩ : ∃ RBk, RBk = w2.heap.size := ⟨_, rfl⟩
  rw [← hw3] at HR3 hB3 rl3 ⊢
  rw [← hRBk] at HR3 rl3 hwl ⊢
  clear hw3 hRBk HX2 hB2 cx
  have HT3 := hide (HTR.out w3 RBk (by omega) (by omega) hB3)
  clear HTR
  have e29 : IntKind.i64.wrap ((S : Int) + 1) = (S : Int) + 1 := IntWalk.i64_in _ ⟨by omega, by omega⟩
  try rw [e29]
  clear e29
  go_loopw [30] (fun i w' => ∃ (M : Mc) (j : Nat), j ≤ S + 1 ∧ i = .int .i64 (j : Int) ∧ GM a l M ∧ (j ≤ S → PM = ((playM a l (S - j) M).1, (playM a l (S - j) M).2 + j)) ∧ (j = S + 1 → RN = (4, 0, (S : Int))) ∧ RB w' RBk RBk (.slice ad l.length c) M ∧ Below RBk w3 w') (fun i _ => S + 1 - (intOf i).toNat)
  case atStart => exact ⟨startM, 0, Nat.zero_le _, rfl, HG0.out, fun _ => HPM.out, fun h => by omega, ⟨_, _, _, HR3.out, World.ownsRow_nil _ _ _ _, World.ownsRow_nil _ _ _ _, World.ownsRow_nil _ _ _ _, Nat.le_refl _⟩, Below.refl _ _⟩
  case round =>
    obtain ⟨M, j, hj, rfl, hG, hP, hE, hR, hB⟩ := hrel
    clear HPM HG0 HR3
    by_cases hlt : j ≤ S
    · have hlt' : (j : Int) < (S : Int) + 1 := by omega
      have HP := hide (hP hlt)
      have HT := hide (HT3.out.below hB)
      have HSt := hide (step_any RBk RBk ad c l a M wr HCl.out hR HT.out hG)
      have HGS := hide (fun m1 h => step_good (m' := m1) HCl.out hG h)
      have HCo := hide (fun cc h => step_code (c := cc) HCl.out hG h)
      have HB := hide hB
      have HG := hide hG
      obtain ⟨GO, hGO⟩ : ∃ GO, GO = stepM a l M := ⟨_, rfl⟩
      rw [← hGO] at HSt
      have HGO := hide hGO
      clear hG hP hR hB hGO HT hE
      cases hq : GO with
      | inl m1 =>
        rw [hq] at HSt
        have e1 := HGO.out.symm.trans hq
        have HG1 := hide (HGS.out m1 e1)
        have HPN : Hid (j + 1 ≤ S → PM = ((playM a l (S - (j + 1)) m1).1, (playM a l (S - (j + 1)) m1).2 + (j + 1))) := hide (fun hjs => by
          rw [HP.out, show S - j = (S - (j + 1)) + 1 by omega, playM_go e1]
          simp only [Prod.mk.injEq, true_and]
          omega)
        have HRE : Hid (j + 1 = S + 1 → RN = (4, 0, (S : Int))) := hide (fun hjs => HRI.out m1 (by
          rw [HP.out, show S - j = 0 by omega]
          exact e1))
        simp only [cdOf, mcOf] at HSt
        clear hq e1 HGS HCo HGO HRI HRR
        go_wp2_with fail
        refine HSt.out.mono ?_
        rintro r w4 ⟨rfl, hr4, hb4⟩
        have HR4 := hide hr4
        have HB4 := hide (HB.out.trans hb4)
        clear hr4 hb4
        go_wp2_with fail
        exact ⟨⟨m1, j + 1, by omega, by go_num, HG1.out, HPN.out, HRE.out, HR4.out, HB4.out⟩, by simp [intOf]; omega⟩
      | inr cc =>
        rw [hq] at HSt
        have e1 := HGO.out.symm.trans hq
        have hcc : ¬ cc = 0 := by
          rcases HCo.out cc e1 with ⟨-, -, h⟩ | ⟨-, h⟩
          · split at h <;> omega
          · omega
        have hPS : PM = (M, j) := by rw [HP.out, playM_stop e1, Nat.zero_add]
        have hRNe := HRR.out cc (by rw [hPS]; exact e1)
        rw [hPS] at hRNe
        simp only [cdOf, mcOf] at HSt
        by_cases hc1 : cc = 1
        · subst hc1
          rw [if_pos rfl] at hRNe
          obtain ⟨k1, k2, k3⟩ : M.done = true ∧ M.fs = [] ∧ (vlAt M M.val).fn = false := by
            rcases HCo.out 1 e1 with ⟨h1, h2, h⟩ | ⟨-, h⟩
            · refine ⟨h1, h2, ?_⟩
              split at h
              · omega
              · rename_i hx; simpa using hx
            · omega
          obtain ⟨d1, d2, d3, d4⟩ := nOk_done HG.out.now k1
          obtain ⟨i, hi⟩ := Int.eq_ofNat_of_zero_le d3
          have hil : i < M.vs.length := by omega
          have e5 : vlAt M M.val = M.vs[i] := by unfold vlAt; rw [hi, List.getD_eq_getElem?_getD]; simp [hil]
          rw [e5] at hRNe
          have HRN := hide hRNe
          have hnv : M.vs.length ≤ 1048576 := by have := HG.out.nv; omega
          clear hq e1 HGS HCo HGO HRI HRR hPS hRNe k1 k2 k3 e5 d1 d2 d4
          go_wp2_with fail
          refine HSt.out.mono ?_
          rintro r w4 ⟨rfl, hr4, hb4⟩
          have hBB : Below w.heap.size w w4 := hB3.trans ((HB.out.trans hb4).mono hwl)
          obtain ⟨af, cf, av, cv, ab, cb, g1, g2, g3, g4, -⟩ := hr4.slots
          rw [hi] at g1
          have cr := g1.c
          have HCm := hide (cameTo_any M.done M.pl M.env i (.slice af M.fs.length cf) (.slice ab M.bs.length cb) av cv M.vs w4 (RRow.ofOwn g3 rfl) hil hnv)
          obtain ⟨y, hy⟩ : ∃ y, y = M.vs[i] := ⟨_, rfl⟩
          rw [← hy] at HCm HRN
          clear g1 g2 g3 g4 hr4 hb4 hy
          have hf1 := fieldVal1
          obtain ⟨y0, y1, y2, y3⟩ := y
          go_wp2_with fail
          refine HCm.out.mono ?_
          rintro r w5 ⟨rfl, hb5⟩
          have hB5 : Below w.heap.size w w5 := hBB.trans (hb5.mono hBB.size)
          clear hb5 cr
          simp only [Vl.v] at *
          go_wp2_with fail
          refine bodyPost_ret (v := .tuple #[.int .i64 1, .int .i64 y1, .int .i64 (j : Int), .bool true]) (by simp [results, Tryz.results8, go_sem]) rfl ?_
          rw [HRN.out]
          exact ⟨rfl, hB5⟩
        · rw [if_neg hc1] at hRNe
          have HRN := hide hRNe
          clear hq e1 HGS HCo HGO HRI HRR hPS hRNe
          go_wp2_with fail
          refine HSt.out.mono ?_
          rintro r w4 ⟨rfl, hr4, hb4⟩
          have hBB : Below w.heap.size w w4 := hB3.trans ((HB.out.trans hb4).mono hwl)
          clear hr4 hb4
          go_wp2_with fail
          refine bodyPost_ret (v := .tuple #[.int .i64 cc, .int .i64 0, .int .i64 (j : Int), .bool true]) (by simp [results, Tryz.results8, go_sem]) rfl ?_
          rw [HRN.out]
          exact ⟨rfl, hBB⟩
    · have hlt' : ¬ (j : Int) < (S : Int) + 1 := by omega
      have HE := hide (hE (by omega))
      have hBB : Below w.heap.size w wr := hB3.trans (hB.mono hwl)
      clear hG hP hR hB hE
      go_wp2_with fail
      refine bodyPost_ret (v := .tuple #[.int .i64 4, .int .i64 0, .int .i64 (S : Int), .bool true]) (by simp [results, Tryz.results8, go_sem]) rfl ?_
      rw [HE.out]
      exact ⟨rfl, hBB⟩
theorem implRun_any (ad : Option Addr) (c : Nat) (l : List Cc) (q : Int) (w : World) (hl : l.length ≤ 1048576) (hcap : c = l.length) (h : CRow w ad l) :
    Calls Tryz.prog 8 #[.slice ad l.length c, .int .i64 q] w fun e w' => e = .returned (.tuple #[.int .i64 (rnR l q).1, .int .i64 (rnR l q).2.1, .int .i64 (rnR l q).2.2, .bool (pmO l q)]) ∧ Below w.heap.size w w' := by
  cases hp : pmO l q with
  | false => rw [rn_not hp]; exact implRun_bad ad c l q w hl (by omega) h hp
  | true =>
    obtain ⟨a, S, h1, h2, rfl, h4, h5⟩ := rn_is hp
    rw [h5]
    exact implRun_good ad c l a S w hl (by omega) (by unfold maxLen; omega) h h1 h4
end Go.Proofs.YtnmkbpflbfhpnaaGreat.W

/-
  RunHanded of the program. Conditions: at most 1048576 cells.
-/
namespace Go.Proofs.YtnmkbpflbfhpnaaGreat.W
open Go.ChangeShapes Go.WideShapes Go.ChangeAt Go.RowKit
set_option linter.unusedVariables false

theorem implRun_wide (ad : Option Addr) (c : Nat) (l : List Cc) (q : Int) (w : World) (hl : l.length ≤ 1048576) (hcap : l.length ≤ c) (hmax : c ≤ maxLen) (h : CRow w ad l) :
    Calls Tryz.prog 8 #[.slice ad l.length c, .int .i64 q] w fun e w' => e = .returned (.tuple #[.int .i64 (rnR l q).1, .int .i64 (rnR l q).2.1, .int .i64 (rnR l q).2.2, .bool (pmO l q)]) ∧ Below w.heap.size w w' := by
  cases hp : pmO l q with
  | false => rw [rn_not hp]; exact implRun_bad ad c l q w hl hcap h hp
  | true =>
    obtain ⟨a, S, h1, h2, rfl, h4, h5⟩ := rn_is hp
    rw [h5]
    exact implRun_good ad c l a S w hl hcap hmax h h1 h4
theorem cOwn_wide {w : World} {base : Nat} {e : TypeId} {v : Value} {l : List Cc} (h : w.ownsRow base e 2 v l.length (cv l)) (hp : 0 < l.length) : ∃ g c, v = .slice (some ⟨g, 0, none⟩) l.length c ∧ l.length ≤ c ∧ c ≤ maxLen ∧ base ≤ g ∧ g < w.heap.size ∧ CRow w (some ⟨g, 0, none⟩) l := by
  obtain ⟨ad, c, e1, h1, h2⟩ := cOwn_row h
  rcases h.2 with ⟨_, h3⟩ | ⟨g, cap, cur, hv, hg, hh, h4, h5, h6, h7⟩
  · omega
  · rw [hv] at e1
    simp only [Value.slice.injEq, true_and] at e1
    obtain ⟨rfl, rfl⟩ := e1
    exact ⟨g, cap, hv, h4, h5, hg, (Array.getElem?_eq_some_iff.1 hh).1, h2⟩
/-- The term that is run: what hands on, with what hands back what it is handed. -/
def rhL (l : List Cc) : List Cc := [⟨4, 0⟩] ++ hoL l ++ [⟨3, 0⟩, ⟨1, 0⟩]
def rhB (l : List Cc) (q : Int) : Bool := hoB l && pmO (rhL l) q
def rhC (l : List Cc) (q : Int) : Int := if rhB l q = true then (rnR (rhL l) q).1 else 0
def rhN (l : List Cc) (q : Int) : Int := if rhB l q = true then (rnR (rhL l) q).2.1 else 0
theorem rhL_len (l : List Cc) : (rhL l).length ≤ 603 := by have := hoL_len l; simp [rhL]; omega
theorem rh_yes {l : List Cc} {q : Int} (h : hoB l = true) : rhC l q = (rnR (rhL l) q).1 ∧ rhN l q = (rnR (rhL l) q).2.1 ∧ rhB l q = pmO (rhL l) q := by
  unfold rhC rhN rhB
  rw [h, Bool.true_and]
  cases hp : pmO (rhL l) q with
  | true => exact ⟨rfl, rfl, rfl⟩
  | false => rw [rn_not hp]; exact ⟨rfl, rfl, rfl⟩
theorem rh_no {l : List Cc} {q : Int} (h : hoB l = false) : rhC l q = 0 ∧ rhN l q = 0 ∧ rhB l q = false := by
  unfold rhC rhN rhB
  rw [h]
  exact ⟨rfl, rfl, rfl⟩
theorem ho_pos {l : List Cc} (h : hoB l = true) : 0 < (hoL l).length := by
  unfold hoL
  unfold hoB at h
  cases hR : hoR l with
  | none => rw [hR] at h; cases h
  | some b =>
    rw [hR] at h
    simp only at h ⊢
    unfold gd
    rw [if_pos h]
    unfold goodT at h
    cases ht : treeT b.flat with
    | none => rw [ht] at h; cases h
    | some a =>
      obtain ⟨t1, t2, t3, t4, -⟩ := treeT_flat ht
      have := F.len_flat a
      rw [t3, ← t1] at this
      omega

set_option maxRecDepth 20000 in
set_option maxHeartbeats 2000000 in
theorem implRunHanded_any (ad : Option Addr) (c : Nat) (l : List Cc) (q : Int) (w : World) (hl : l.length ≤ 1048576) (hc : l.length ≤ c) (h : CRow w ad l) :
    Calls Tryz.prog 6 #[.slice ad l.length c, .int .i64 q] w fun e w' => e = .returned (.tuple #[.int .i64 (rhC l q), .int .i64 (rhN l q), .bool (rhB l q)]) ∧ Below w.heap.size w w' := by
  have HC := hide (implHandOn_any ad c l w hl hc h)
  have HLn := hide (hoL_len l)
  clear h
  cases hB : hoB l with
  | false =>
    obtain ⟨e1, e2, e3⟩ := rh_no (q := q) hB
    rw [e1, e2, e3]
    rw [hB] at HC
    clear e1 e2 e3 hB
    go_enter Tryz.func6, Tryz.ntmps6
    go_wp2_with fail
    refine Calls.mono HC.out ?_
    rintro e w1 ⟨s', rfl, hown, hb1⟩
    obtain ⟨sa, sc, rfl⟩ := own_form hown
    clear HC hown
    go_wp2_with fail
    exact bodyPost_ret (v := .tuple #[.int .i64 0, .int .i64 0, .bool false]) (by simp [results, Tryz.results6, go_sem]) rfl ⟨rfl, hb1⟩
  | true =>
    obtain ⟨e1, e2, e3⟩ := rh_yes (q := q) hB
    rw [e1, e2, e3]
    rw [hB] at HC
    have HPos := hide (ho_pos hB)
    have HRL := hide (rhL_len l)
    have HRn := hide (fun (ad : Option Addr) (c : Nat) (w : World) (h1 : (rhL l).length ≤ c) (h2 : c ≤ maxLen) (h3 : CRow w ad (rhL l)) => implRun_wide ad c (rhL l) q w (by have := HRL.out; omega) h1 h2 h3)
    have hrl : (rhL l).length = 1 + (hoL l).length + 2 := by simp [rhL]; omega
    obtain ⟨R1, hR1⟩ : ∃ R1, R1 = (rnR (rhL l) q).1 := ⟨_, rfl⟩
    obtain ⟨R2, hR2⟩ : ∃ R2, R2 = (rnR (rhL l) q).2.1 := ⟨_, rfl⟩
    obtain ⟨R3, hR3⟩ : ∃ R3, R3 = (rnR (rhL l) q).2.2 := ⟨_, rfl⟩
    obtain ⟨R4, hR4⟩ : ∃ R4, R4 = pmO (rhL l) q := ⟨_, rfl⟩
    rw [← hR1, ← hR2, ← hR3, ← hR4] at HRn
    rw [← hR1, ← hR2, ← hR4]
    have HRl := hide hrl
    clear e1 e2 e3 hB hR1 hR2 hR3 hR4 hrl
    go_enter Tryz.func6, Tryz.ntmps6
    go_wp2_with fail
    refine Calls.mono HC.out ?_
    rintro e w1 ⟨s', rfl, hown, hb1⟩
    obtain ⟨g2, c2, rfl, hc2, -, hg2, hg2l, hrow2⟩ := cOwn_wide hown HPos.out
    have HB1 := hide hb1
    have HR2 := hide hrow2
    obtain ⟨NL, hNL⟩ : ∃ NL, NL = (hoL l).length := ⟨_, rfl⟩
    rw [← hNL]
    have HNL := hide hNL
    clear HC hown hb1 hrow2 hNL
    go_wp2_with fail
    obtain ⟨wd, hwd⟩ : ∃ wd, wd = ((w1.alloc (.cells #[.int .i64 3, .int .i64 0, .int .i64 1, .int .i64 0] 46)).alloc (.cells #[.int .i64 4, .int .i64 0] 46)).alloc (.cells #[.slice (some ⟨w1.heap.size + 1, 0, none⟩) 1 1, .slice (some ⟨g2, 0, none⟩) NL c2, .slice (some ⟨w1.heap.size, 0, none⟩) 2 2] 23) := ⟨_, rfl⟩
    rw [← hwd]
    have hBd : Below w1.heap.size w1 wd := by rw [hwd]; exact bel3 _ _ _ _
    have hsd : wd.heap.size = w1.heap.size + 1 + 1 + 1 := by rw [hwd]; simp
    have hk3 : wd.heap[w1.heap.size]? = some (.cells #[.int .i64 3, .int .i64 0, .int .i64 1, .int .i64 0] 46) := by rw [hwd, heap_alloc_old _ _ (by simp; omega), heap_alloc_old _ _ (by simp)]; exact heap_alloc_new _ _
    have hk1 : wd.heap[w1.heap.size + 1]? = some (.cells #[.int .i64 4, .int .i64 0] 46) := by
      rw [hwd, heap_alloc_old _ _ (by simp)]
      have := heap_alloc_new (w1.alloc (.cells #[.int .i64 3, .int .i64 0, .int .i64 1, .int .i64 0] 46)) (.cells #[.int .i64 4, .int .i64 0] 46)
      simpa using this
    have hkg : wd.heap[w1.heap.size + 1 + 1]? = some (.cells #[.slice (some ⟨w1.heap.size + 1, 0, none⟩) 1 1, .slice (some ⟨g2, 0, none⟩) NL c2, .slice (some ⟨w1.heap.size, 0, none⟩) 2 2] 23) := by
      rw [hwd]
      have := heap_alloc_new ((w1.alloc (.cells #[.int .i64 3, .int .i64 0, .int .i64 1, .int .i64 0] 46)).alloc (.cells #[.int .i64 4, .int .i64 0] 46)) (.cells #[.slice (some ⟨w1.heap.size + 1, 0, none⟩) 1 1, .slice (some ⟨g2, 0, none⟩) NL c2, .slice (some ⟨w1.heap.size, 0, none⟩) 2 2] 23)
      simpa using this
    have hr1 : CRow wd (some ⟨w1.heap.size + 1, 0, none⟩) [⟨4, 0⟩] := .inr ⟨_, 0, rfl, by omega, fun i hi => by
      obtain rfl : i = 0 := by simp at hi; omega
      exact ⟨(cell_of_blk hk1 0).trans rfl, (cell_of_blk hk1 1).trans rfl⟩⟩
    have hr3 : CRow wd (some ⟨w1.heap.size, 0, none⟩) [⟨3, 0⟩, ⟨1, 0⟩] := .inr ⟨_, 0, rfl, by omega, fun i hi => by
      have hi2 : i = 0 ∨ i = 1 := by simp at hi; omega
      rcases hi2 with rfl | rfl
      · exact ⟨(cell_of_blk hk3 0).trans rfl, (cell_of_blk hk3 1).trans rfl⟩
      · exact ⟨(cell_of_blk hk3 2).trans rfl, (cell_of_blk hk3 3).trans rfl⟩⟩
    have hlen := HLn.out
    have HCt := hide (concatC_any (w1.heap.size + 1 + 1) (w1.heap.size + 1) 0 1 g2 0 c2 w1.heap.size 0 2 [⟨4, 0⟩] (hoL l) [⟨3, 0⟩, ⟨1, 0⟩] wd (by simp) (by simp; omega) (by omega) ((cell_of_blk hkg 0).trans rfl) ((cell_of_blk hkg 1).trans (by rw [← HNL.out]; rfl)) ((cell_of_blk hkg 2).trans rfl) hr1 (HR2.out.below hBd) hr3)
    have HBd := hide (HB1.out.trans (hBd.mono HB1.out.size))
    clear hwd hBd hsd hk3 hk1 hkg hr1 hr3 hlen
    refine Calls.mono HCt.out ?_
    rintro e w2 ⟨v2, rfl, ho2, hb2⟩
    have ho2' : w2.ownsRow wd.heap.size 46 2 v2 (rhL l).length (cv (rhL l)) := by
      rw [HRl.out]
      exact ho2
    obtain ⟨g4, c4, rfl, hc4, hm4, hg4, -, hrow4⟩ := cOwn_wide ho2' (by rw [HRl.out]; omega)
    have HB2 := hide (HBd.out.trans (hb2.mono HBd.out.size))
    have HRc := hide (HRn.out _ _ w2 hc4 hm4 hrow4)
    obtain ⟨ML, hML⟩ : ∃ ML, ML = (rhL l).length := ⟨_, rfl⟩
    rw [← hML] at HRc ⊢
    clear HCt ho2 ho2' hb2 hrow4 hML HRn hc4 hm4
    go_wp2_with fail
    refine Calls.mono HRc.out ?_
    rintro e w3 ⟨rfl, hb3⟩
    have HB3 := hide (HB2.out.trans (hb3.mono HB2.out.size))
    clear hb3 HRc
    go_wp2_with fail
    exact bodyPost_ret (v := .tuple #[.int .i64 R1, .int .i64 R2, .bool R4]) (by simp [results, Tryz.results6, go_sem]) rfl ⟨rfl, HB3.out⟩
end Go.Proofs.YtnmkbpflbfhpnaaGreat.W
