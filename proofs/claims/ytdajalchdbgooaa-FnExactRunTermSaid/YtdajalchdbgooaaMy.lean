/-
  Some texts of this proof in one: MaY6, MaY7, MaY8.
-/
import Derived.Test.YtdajalchdbgooaaMaS7
import Derived.Test.YtdajalchdbgooaaMx
import Derived.Test.YtdajalchdbgooaaMm
import Derived.Deep.RegionHeld3
import Derived.Deep.RegionLaw
import Derived.Deep.AppendLies
import Derived.Deep.CutRange
import Derived.Test.YtdajalchdbgooaaMaY5
/-
  Contracts of isFuel and of the program's PlayMachine. Conditions: at most 1048576 cells.
-/
namespace Go.Proofs.Ytdajalchdbgooaa.W
open Go.ChangeShapes Go.WideShapes Go.ChangeAt Go.RowKit
set_option linter.unusedVariables false
set_option linter.unusedSimpArgs false

theorem isFuel_any (q : Int) (w : World) : Calls Try.prog 44 #[.int .i64 q] w fun e w' => e = .returned (.bool (inB q 0 2000)) ∧ w' = w := by
  go_enter Try.func44, Try.ntmps44
  by_cases h1 : 0 ≤ q
  · by_cases h2 : q ≤ 2000
    · go_wp2_with fail
      go_ret
      simp [inB, h1, h2]
    · go_wp2_with fail
      go_ret
      simp [inB, h1, h2]
  · go_wp2_with fail
    go_ret
    simp [inB, h1]
    omega

/-- What PlayMachine tells. -/
def pmO (l : List Cc) (q : Int) : Bool := closed l && inB q 0 2000
def pmP (l : List Cc) (q : Int) : Mc × Nat := if inB q 0 2000 = true then (match closedT l with | some a => playM a l q.toNat startM | none => (zeroM, 0)) else (zeroM, 0)
theorem pm_not {l : List Cc} {q : Int} (h : pmO l q = false) : pmP l q = (zeroM, 0) := by
  unfold pmP
  unfold pmO closed at h
  by_cases hq : inB q 0 2000 = true
  · rw [if_pos hq]
    cases hc : closedT l with
    | none => rfl
    | some a => rw [hc, hq] at h; cases h
  · rw [if_neg hq]
theorem pm_is {l : List Cc} {q : Int} (h : pmO l q = true) : ∃ a S, closedT l = some a ∧ Cl l a ∧ q = ((S : Nat) : Int) ∧ S ≤ 2000 ∧ pmP l q = playM a l S startM := by
  unfold pmO closed at h
  rw [Bool.and_eq_true] at h
  obtain ⟨h1, h2⟩ := h
  cases hc : closedT l with
  | none => rw [hc] at h1; cases h1
  | some a =>
    have hq : 0 ≤ q ∧ q ≤ 2000 := by unfold inB at h2; simpa using h2
    obtain ⟨S, rfl⟩ := Int.eq_ofNat_of_zero_le hq.1
    refine ⟨a, S, rfl, (closedT_some hc).1, rfl, by omega, ?_⟩
    unfold pmP
    rw [if_pos h2, hc]
    rfl

set_option maxRecDepth 20000 in
set_option maxHeartbeats 4000000 in
theorem implPlay_bad (ad : Option Addr) (c : Nat) (l : List Cc) (q : Int) (w : World) (hl : l.length ≤ 1048576) (hcap : l.length ≤ c) (h : CRow w ad l) (hp : pmO l q = false) :
    Calls Try.prog 24 #[.slice ad l.length c, .int .i64 q] w fun e w' => ∃ v, e = .returned (.tuple #[v, .int .i64 0, .bool false]) ∧ MOwn w.heap.size w'.heap.size w' v zeroM ∧ Below w.heap.size w w' := by
  have HC := hide (fun (w' : World) (hb : Below w.heap.size w w') => implStart_any ad c l w' hl hcap (h.below hb))
  have HI := hide (isFuel_any q)
  have HP := hide hp
  clear h hp
  cases hc : closed l with
  | false =>
    rw [hc] at HC
    simp only [Bool.false_eq_true, if_false] at HC
    clear hc HP HI
    go_enter Try.func24, Try.ntmps24
    go_wp2_with fail
    refine (HC.out _ ((Below.refl _ _).alloc (Nat.le_refl _) _)).mono ?_
    rintro e w1 ⟨rfl, hb1⟩
    have hB1 : Below w.heap.size w w1 := ((Below.refl _ _).alloc (Nat.le_refl _) _).trans (hb1.mono (by simp))
    have hX := ((Bx.new w _ _).below hb1 (by simp)).alloc (.cells #[.bool false, .int .i64 0, .int .i64 0, .int .i64 0, .slice none 0 0, .slice none 0 0, .slice none 0 0] 28)
    have hcx := hX.c
    have hfx := hX.f
    clear hb1 hX
    go_wp2_with fail
    refine bodyPost_ret (v := .tuple #[.agg #[.bool false, .int .i64 0, .int .i64 0, .int .i64 0, .slice none 0 0, .slice none 0 0, .slice none 0 0], .int .i64 0, .bool false]) (by simp [results, Try.results24, go_sem, hcx]) rfl ⟨_, rfl, MOwn.empty _ _ _ _ _ _ _, ?_⟩
    (repeat (with_reducible refine bsc0 ?_ _ _))
    exact hB1.alloc hB1.size _
  | true =>
    rw [hc] at HC
    have hq : inB q 0 2000 = false := by have := HP.out; unfold pmO at this; rw [hc] at this; simpa using this
    rw [hq] at HI
    simp only [if_true] at HC
    clear hc HP hq
    go_enter Try.func24, Try.ntmps24
    go_wp2_with fail
    refine (HC.out _ ((Below.refl _ _).alloc (Nat.le_refl _) _)).mono ?_
    rintro e w1 ⟨rfl, hb1⟩
    have hB1 : Below w.heap.size w w1 := ((Below.refl _ _).alloc (Nat.le_refl _) _).trans (hb1.mono (by simp))
    have hX := ((Bx.new w _ _).below hb1 (by simp)).alloc (.cells #[.bool false, .int .i64 0, .int .i64 (-1), .int .i64 (-1), .slice none 0 0, .slice none 0 0, .slice none 0 0] 28)
    have HX := hide hX
    clear hb1 hX
    go_wp2_with fail
    refine (HI.out _).mono ?_
    rintro e w' ⟨rfl, hw'⟩
    obtain rfl := hw'.symm
    have hcx := HX.out.c
    have hfx := HX.out.f
    go_wp2_with fail
    refine bodyPost_ret (v := .tuple #[.agg #[.bool false, .int .i64 0, .int .i64 0, .int .i64 0, .slice none 0 0, .slice none 0 0, .slice none 0 0], .int .i64 0, .bool false]) (by simp [results, Try.results24, go_sem, hcx]) rfl ⟨_, rfl, MOwn.empty _ _ _ _ _ _ _, ?_⟩
    (repeat (with_reducible refine bsc0 ?_ _ _))
    exact hB1.alloc hB1.size _
end Go.Proofs.Ytdajalchdbgooaa.W

/-
  The program's PlayMachine. Conditions: closed terms, at most 2000 steps. Written by wip/build/mk_implplay.py.
-/
namespace Go.Proofs.Ytdajalchdbgooaa.W
open Go.ChangeShapes Go.WideShapes Go.ChangeAt Go.RowKit
set_option linter.unusedVariables false
set_option linter.unusedSimpArgs false

set_option maxRecDepth 20000 in
set_option maxHeartbeats 4000000 in
theorem implPlay_good (ad : Option Addr) (c : Nat) (l : List Cc) (a : F) (S : Nat) (w : World) (hl : l.length ≤ 1048576) (hcap : l.length ≤ c) (hmax : c ≤ maxLen) (h : CRow w ad l) (hc : closedT l = some a) (hS : S ≤ 2000) :
    Calls Try.prog 24 #[.slice ad l.length c, .int .i64 (S : Int)] w fun e w' => ∃ v, e = .returned (.tuple #[v, .int .i64 ((playM a l S startM).2 : Int), .bool true]) ∧ MOwn w.heap.size w'.heap.size w' v (playM a l S startM).1 ∧ Below w.heap.size w w' := by
  have hCl := (closedT_some hc).1
  have hcl : closed l = true := by unfold closed; rw [hc]; rfl
  have HC := hide (fun (w' : World) (hb : Below w.heap.size w w') => implStart_any ad c l w' hl hcap (h.below hb))
  rw [hcl] at HC
  simp only [if_true] at HC
  have HI := hide (isFuel_any (S : Int))
  rw [show inB (S : Int) 0 2000 = true by simp [inB]; omega] at HI
  have HTR : Hid (∀ (w' : World) (lo : Nat), w.heap.size ≤ lo → lo ≤ w'.heap.size → Below w.heap.size w w' → TR w' lo ad c l) := hide (fun w' lo h1 h2 h3 => ⟨fun w2 hb => h.below (h3.trans (hb.mono h1)), hcap, hmax, h2⟩)
  obtain ⟨PM, hPM⟩ : ∃ PM, PM = playM a l S startM := ⟨_, rfl⟩
  rw [← hPM]
  have HPM := hide hPM
  have HG0 := hide (start_good hCl)
  have HCl := hide hCl
  clear hPM hCl hcl hc h hcap hmax
  go_enter Try.func24, Try.ntmps24
  go_wp2_with fail
  refine (HC.out _ ((Below.refl _ _).alloc (Nat.le_refl _) _)).mono ?_
  rintro e w1 ⟨rfl, hb1⟩
  have hB1 : Below w.heap.size w w1 := ((Below.refl _ _).alloc (Nat.le_refl _) _).trans (hb1.mono (by simp))
  have HY1 := hide ((Bx.new w #[.bool false, .int .i64 0, .int .i64 0, .int .i64 0, .slice none 0 0, .slice none 0 0, .slice none 0 0] 28).below hb1 (by simp))
  have yl1 : w.heap.size < w1.heap.size := HY1.out.lt
  clear hb1 HC
  go_wp2_with fail
  refine (HI.out _).mono ?_
  rintro e w' ⟨rfl, hw'⟩
  subst hw'
  have HX2 := hide (Bx.new w1 #[.bool false, .int .i64 0, .int .i64 (-1), .int .i64 (-1), .slice none 0 0, .slice none 0 0, .slice none 0 0] 28)
  have HY2 := hide (HY1.out.alloc (.cells #[.bool false, .int .i64 0, .int .i64 (-1), .int .i64 (-1), .slice none 0 0, .slice none 0 0, .slice none 0 0] 28))
  have hB2 : Below w.heap.size w (w1.alloc (.cells #[.bool false, .int .i64 0, .int .i64 (-1), .int .i64 (-1), .slice none 0 0, .slice none 0 0, .slice none 0 0] 28)) := hB1.alloc hB1.size _
  have yl2 : w.heap.size < (w1.alloc (.cells #[.bool false, .int .i64 0, .int .i64 (-1), .int .i64 (-1), .slice none 0 0, .slice none 0 0, .slice none 0 0] 28)).heap.size := HY2.out.lt
  obtain ⟨w2, hw2⟩ : ∃ w2, w2 = w1.alloc (.cells #[.bool false, .int .i64 0, .int .i64 (-1), .int .i64 (-1), .slice none 0 0, .slice none 0 0, .slice none 0 0] 28) := ⟨_, rfl⟩
  rw [← hw2] at HX2 HY2 hB2 yl2 ⊢
  have cx := HX2.out.c
  clear hw2 HY1 hB1 HI
  go_upto_region 6 with fail
  have HR3 := hide (Bx.new w2 #[.slice ad l.length c, .bool false, .int .i64 0, .int .i64 (-1), .int .i64 (-1), .slice none 0 0, .slice none 0 0, .slice none 0 0] 77)
  have HY3 := hide (HY2.out.alloc (.cells #[.slice ad l.length c, .bool false, .int .i64 0, .int .i64 (-1), .int .i64 (-1), .slice none 0 0, .slice none 0 0, .slice none 0 0] 77))
  have hB3 : Below w.heap.size w (w2.alloc (.cells #[.slice ad l.length c, .bool false, .int .i64 0, .int .i64 (-1), .int .i64 (-1), .slice none 0 0, .slice none 0 0, .slice none 0 0] 77)) := hB2.alloc hB2.size _
  have rl3 : w2.heap.size < (w2.alloc (.cells #[.slice ad l.length c, .bool false, .int .i64 0, .int .i64 (-1), .int .i64 (-1), .slice none 0 0, .slice none 0 0, .slice none 0 0] 77)).heap.size := HR3.out.lt
  obtain ⟨w3, hw3⟩ : ∃ w3, w3 = w2.alloc (.cells #[.slice ad l.length c, .bool false, .int .i64 0, .int .i64 (-1), .int .i64 (-1), .slice none 0 0, .slice none 0 0, .slice none 0 0] 77) := ⟨_, rfl⟩
  obtain ⟨RBk, hRBk⟩ : ∃ RBk, RBk = w2.heap.size := ⟨_, rfl⟩
  rw [← hw3] at HR3 HY3 hB3 rl3 ⊢
  rw [← hRBk] at HR3 rl3 yl2 ⊢
  clear hw3 hRBk HX2 HY2 hB2 cx
  have HT3 := hide (HTR.out w3 RBk (by omega) (by omega) hB3)
  clear HTR
  go_loopw [10] (fun i w' => ∃ (M : Mc) (j : Nat), j ≤ S ∧ i = .int .i64 (j : Int) ∧ GM a l M ∧ PM = ((playM a l (S - j) M).1, (playM a l (S - j) M).2 + j) ∧ RB w' RBk RBk (.slice ad l.length c) M ∧ Below RBk w3 w') (fun i _ => S - (intOf i).toNat)
  case atStart => exact ⟨startM, 0, Nat.zero_le _, rfl, HG0.out, HPM.out, ⟨_, _, _, HR3.out, World.ownsRow_nil _ _ _ _, World.ownsRow_nil _ _ _ _, World.ownsRow_nil _ _ _ _, Nat.le_refl _⟩, Below.refl _ _⟩
  case round =>
    obtain ⟨M, j, hj, rfl, hG, hP, hR, hB⟩ := hrel
    clear HPM HG0 HR3
    have HG := hide hG
    have HP := hide hP
    have HR := hide hR
    have HT := hide (HT3.out.below hB)
    have hY := HY3.out.below hB yl2
    by_cases hlt : j < S
    · have hlt' : (j : Int) < (S : Int) := by omega
      have HSt := hide (step_any RBk RBk ad c l a M wr HCl.out hR HT.out hG)
      have HGS := hide (fun m1 h => step_good (m' := m1) HCl.out hG h)
      have HCo := hide (fun cc h => step_code (c := cc) HCl.out hG h)
      have HB := hide hB
      have HY := hide hY
      obtain ⟨GO, hGO⟩ : ∃ GO, GO = stepM a l M := ⟨_, rfl⟩
      rw [← hGO] at HSt
      have HGO := hide hGO
      clear hG hP hR hY hB hGO HT
      cases hq : GO with
      | inl m1 =>
        rw [hq] at HSt
        have e1 := HGO.out.symm.trans hq
        have HG1 := hide (HGS.out m1 e1)
        have HPN : Hid (PM = ((playM a l (S - (j + 1)) m1).1, (playM a l (S - (j + 1)) m1).2 + (j + 1))) := hide (by
          rw [HP.out, show S - j = (S - (j + 1)) + 1 by omega, playM_go e1]
          simp only [Prod.mk.injEq, true_and]
          omega)
        simp only [cdOf, mcOf] at HSt
        clear hq e1 HGS HCo HGO
        go_wp2_with fail
        refine HSt.out.mono ?_
        rintro r w4 ⟨rfl, hr4, hb4⟩
        have HR4 := hide hr4
        have HB4 := hide (HB.out.trans hb4)
        clear hr4 hb4
        go_wp2_with fail
        exact ⟨⟨m1, j + 1, by omega, by go_num, HG1.out, HPN.out, HR4.out, HB4.out⟩, by simp [intOf]; omega⟩
      | inr cc =>
        rw [hq] at HSt
        have e1 := HGO.out.symm.trans hq
        have hcc : ¬ cc = 0 := by
          rcases HCo.out cc e1 with ⟨-, -, h⟩ | ⟨-, h⟩
          · split at h <;> omega
          · omega
        have HPS : Hid (PM = (M, j)) := hide (by rw [HP.out, playM_stop e1, Nat.zero_add])
        simp only [cdOf, mcOf] at HSt
        clear hq e1 HGS HCo HGO
        go_wp2_with fail
        refine HSt.out.mono ?_
        rintro r w4 ⟨rfl, hr4, hb4⟩
        have hY := HY3.out.below (HB.out.trans hb4) yl2
        have hBB : Below w.heap.size w w4 := hB3.trans ((HB.out.trans hb4).mono (by omega))
        obtain ⟨d, p, e, x, fs, vs, bs⟩ := M
        obtain ⟨af, cf, av, cv, ab, cb, g1, g2, g3, g4, -⟩ := hr4.slots
        simp only at g1 g2 g3 g4
        have cr := g1.c
        have cy := hY.c
        have fy := hY.f
        clear cr
        have cr2 := g1.c
        go_wp2_with fail
        refine bodyPost_ret (v := .tuple #[.agg #[.bool d, .int .i64 p, .int .i64 e, .int .i64 x, .slice af fs.length cf, .slice av vs.length cv, .slice ab bs.length cb], .int .i64 (j : Int), .bool true]) (by simp [results, Try.results24, go_sem, cy, cr2]) rfl ?_
        rw [HPS.out]
        refine ⟨_, rfl, ?_, ?_⟩
        · have q0 : Kp w4 w.heap.size RBk (.slice af fs.length cf) (.slice av vs.length cv) (.slice ab bs.length cb) fs vs bs := ⟨⟨_, hY⟩, g2, g3, g4⟩
          exact ((((((((q0.set 0 _).set 1 _).set 2 _).set 3 _).set 4 _).set 5 _).set 6 _).own d p e x (by have := HG.out.nf; simp only at this; omega) (by have := HG.out.nv; simp only at this; omega) (by have := HG.out.nb; simp only at this; omega)).wide (by omega) (Nat.le_refl _)
        · (repeat (with_reducible refine bsc0 ?_ _ _))
          exact hBB

    · have hlt' : ¬ (j : Int) < (S : Int) := by omega
      have HPS : Hid (PM = (M, j)) := hide (by rw [hP, show S - j = 0 by omega]; show (_, 0 + j) = _; rw [Nat.zero_add]; rfl)
      have hBB : Below w.heap.size w wr := hB3.trans (hB.mono (by omega))
      obtain ⟨d, p, e, x, fs, vs, bs⟩ := M
      obtain ⟨af, cf, av, cv, ab, cb, g1, g2, g3, g4, -⟩ := hR.slots
      simp only at g1 g2 g3 g4
      have cr := g1.c
      have cy := hY.c
      have fy := hY.f
      clear hG hP hR hB
      clear cr
      have cr2 := g1.c
      go_wp2_with fail
      refine bodyPost_ret (v := .tuple #[.agg #[.bool d, .int .i64 p, .int .i64 e, .int .i64 x, .slice af fs.length cf, .slice av vs.length cv, .slice ab bs.length cb], .int .i64 (j : Int), .bool true]) (by simp [results, Try.results24, go_sem, cy, cr2]) rfl ?_
      rw [HPS.out]
      refine ⟨_, rfl, ?_, ?_⟩
      · have q0 : Kp wr w.heap.size RBk (.slice af fs.length cf) (.slice av vs.length cv) (.slice ab bs.length cb) fs vs bs := ⟨⟨_, hY⟩, g2, g3, g4⟩
        exact ((((((((q0.set 0 _).set 1 _).set 2 _).set 3 _).set 4 _).set 5 _).set 6 _).own d p e x (by have := HG.out.nf; simp only at this; omega) (by have := HG.out.nv; simp only at this; omega) (by have := HG.out.nb; simp only at this; omega)).wide (by omega) (Nat.le_refl _)
      · (repeat (with_reducible refine bsc0 ?_ _ _))
        exact hBB

end Go.Proofs.Ytdajalchdbgooaa.W

/-
  The specification's PlayMachine, and both as the law wants them. Conditions: at most 1048576 cells. Written by wip/build/mk_specplay.py.
-/
namespace Go.Proofs.Ytdajalchdbgooaa.W
open Go.ChangeShapes Go.WideShapes Go.ChangeAt Go.RowKit
set_option linter.unusedVariables false
set_option linter.unusedSimpArgs false

theorem CD.sr {w : World} {cb : Nat} {ad : Option Addr} {c : Nat} {l : List Cc} {a : F} (h : CD w cb (.slice ad l.length c) l.length a) (hr : CRow w ad l) : SR w w.heap.size cb ad c l a :=
  ⟨⟨w, h, hr, Nat.le_refl _, Below.refl _ _⟩, Nat.le_refl _, h.lt⟩

set_option maxRecDepth 20000 in
set_option maxHeartbeats 4000000 in
theorem specPlay_bad (ad : Option Addr) (c : Nat) (l : List Cc) (q : Int) (w : World) (hl : l.length ≤ 1048576) (h : CRow w ad l) (hp : pmO l q = false) :
    Calls Try.prog 23 #[.slice ad l.length c, .int .i64 q] w fun e w' => ∃ v, e = .returned (.tuple #[v, .int .i64 0, .bool false]) ∧ MRow w' v zeroM ∧ Below w.heap.size w w' := by
  cases hc : closedT l with
  | none =>
    have HC := hide (fun (w' : World) (hb : Below w.heap.size w w') => l6Of_none ad c l w' hl (h.below hb) hc)
    clear h hc hp
    go_enter Try.func23, Try.ntmps23
    go_wp2_with fail
    refine (HC.out _ ((Below.refl _ _).alloc (Nat.le_refl _) _)).mono ?_
    rintro e w1 ⟨rfl, hb1⟩
    have hB1 : Below w.heap.size w w1 := ((Below.refl _ _).alloc (Nat.le_refl _) _).trans (hb1.mono (by simp))
    have hX := (Bx.new w _ _).below hb1 (by simp)
    have hcx := hX.c
    have hfx := hX.f
    clear hb1 hX
    go_wp2_with fail
    refine bodyPost_ret (v := .tuple #[.agg #[.bool false, .int .i64 0, .int .i64 0, .int .i64 0, .slice none 0 0, .slice none 0 0, .slice none 0 0], .int .i64 0, .bool false]) (by simp [results, Try.results23, go_sem, hcx]) rfl ⟨_, rfl, (MOwn.empty 0 0 _ false 0 0 0).row, ?_⟩
    (repeat (with_reducible refine bsc0 ?_ _ _))
    exact hB1
  | some a =>
    have hq : inB q 0 2000 = false := by unfold pmO closed at hp; rw [hc] at hp; simpa using hp
    have HC := hide (fun (w' : World) (hb : Below w.heap.size w w') => l6Of_some ad c l a w' (h.below hb) hc)
    have HI := hide (l1In_any q 0 2000)
    rw [hq] at HI
    clear h hc hp hq
    go_enter Try.func23, Try.ntmps23
    go_wp2_with fail
    refine (HC.out _ ((Below.refl _ _).alloc (Nat.le_refl _) _)).mono ?_
    rintro e w1 ⟨cb, rfl, hcd, -, hb1⟩
    have hB1 : Below w.heap.size w w1 := ((Below.refl _ _).alloc (Nat.le_refl _) _).trans (hb1.mono (by simp))
    have hX := (Bx.new w _ _).below hb1 (by simp)
    have HX := hide hX
    clear hb1 hX hcd
    go_wp2_with fail
    refine (HI.out _).mono ?_
    rintro e w' ⟨rfl, hw'⟩
    subst hw'
    have hcx := HX.out.c
    have hfx := HX.out.f
    go_wp2_with fail
    refine bodyPost_ret (v := .tuple #[.agg #[.bool false, .int .i64 0, .int .i64 0, .int .i64 0, .slice none 0 0, .slice none 0 0, .slice none 0 0], .int .i64 0, .bool false]) (by simp [results, Try.results23, go_sem, hcx]) rfl ⟨_, rfl, (MOwn.empty 0 0 _ false 0 0 0).row, ?_⟩
    (repeat (with_reducible refine bsc0 ?_ _ _))
    exact hB1

set_option maxRecDepth 20000 in
set_option maxHeartbeats 4000000 in
theorem specPlay_good (ad : Option Addr) (c : Nat) (l : List Cc) (a : F) (S : Nat) (w : World) (h : CRow w ad l) (hc : closedT l = some a) (hS : S ≤ 2000) :
    Calls Try.prog 23 #[.slice ad l.length c, .int .i64 (S : Int)] w fun e w' => ∃ v, e = .returned (.tuple #[v, .int .i64 ((playM a l S startM).2 : Int), .bool true]) ∧ MRow w' v (playM a l S startM).1 ∧ Below w.heap.size w w' := by
  have hCl := (closedT_some hc).1
  have HC := hide (fun (w' : World) (hb : Below w.heap.size w w') => l6Of_some ad c l a w' (h.below hb) hc)
  have HI := hide (l1In_any (S : Int) 0 2000)
  rw [show inB (S : Int) 0 2000 = true by simp [inB]; omega] at HI
  have HP := hide (fun (w' : World) (cb : Nat) (h1 : CD w' cb (.slice ad l.length c) l.length a) (h2 : Below w.heap.size w w') => l6Play_any cb ad c l a S w' hCl hS (h1.sr (h.below h2)))
  obtain ⟨PM, hPM⟩ : ∃ PM, PM = playM a l S startM := ⟨_, rfl⟩
  rw [← hPM] at HP ⊢
  obtain ⟨CN, hCN⟩ : ∃ CN, CN = canOf (stepM a l PM.1) := ⟨_, rfl⟩
  obtain ⟨RM, hRM⟩ : ∃ RM, RM = roomOf (stepM a l PM.1) := ⟨_, rfl⟩
  rw [← hCN, ← hRM] at HP
  clear h hc hCl hPM hCN hRM
  obtain ⟨⟨d, p, e, x, fs, vs, bs⟩, n⟩ := PM
  go_enter Try.func23, Try.ntmps23
  go_wp2_with fail
  refine (HC.out _ ((Below.refl _ _).alloc (Nat.le_refl _) _)).mono ?_
  rintro r w1 ⟨cb, rfl, hcd, -, hb1⟩
  have hB1 : Below w.heap.size w w1 := ((Below.refl _ _).alloc (Nat.le_refl _) _).trans (hb1.mono (by simp))
  have HX1 := hide ((Bx.new w #[.bool false, .int .i64 0, .int .i64 0, .int .i64 0, .slice none 0 0, .slice none 0 0, .slice none 0 0] 28).below hb1 (by simp))
  have HC1 := hide (HP.out w1 cb hcd hB1)
  clear hb1 hcd HP HC
  go_wp2_with fail
  refine (HI.out _).mono ?_
  rintro r w' ⟨rfl, hw'⟩
  subst hw'
  clear HI
  go_wp2_with fail
  refine HC1.out.mono ?_
  rintro r w2 ⟨v2, rfl, hm2, hb2⟩
  have HM2 := hide hm2
  obtain ⟨af, cf, av, cv, ab, cb', rfl, -, -, -, -, -, -, -, -, -⟩ := hm2
  simp only at HM2
  have hB2 : Below w.heap.size w w2 := hB1.trans (hb2.mono hB1.size)
  have HX2 := hide (HX1.out.below hb2 HX1.out.lt)
  clear hb2 HC1 HX1 hB1
  go_upto_region 5 with fail
  have ba := (Below.refl w2.heap.size w2).alloc (Nat.le_refl _) (.cells #[.bool d, .int .i64 p, .int .i64 e, .int .i64 x, .slice af fs.length cf, .slice av vs.length cv, .slice ab bs.length cb'] 28)
  have HN3 := hide (Bx.new w2 #[.bool d, .int .i64 p, .int .i64 e, .int .i64 x, .slice af fs.length cf, .slice av vs.length cv, .slice ab bs.length cb'] 28)
  have HX3 := hide (HX2.out.alloc (.cells #[.bool d, .int .i64 p, .int .i64 e, .int .i64 x, .slice af fs.length cf, .slice av vs.length cv, .slice ab bs.length cb'] 28))
  have HM3 := hide (HM2.out.below ba)
  have hB3 := hB2.trans (ba.mono hB2.size)
  obtain ⟨w3, hw3⟩ : ∃ w3, w3 = w2.alloc (.cells #[.bool d, .int .i64 p, .int .i64 e, .int .i64 x, .slice af fs.length cf, .slice av vs.length cv, .slice ab bs.length cb'] 28) := ⟨_, rfl⟩
  rw [← hw3] at HN3 HX3 HM3 hB3 ⊢
  clear hw3 ba HM2 HX2 hB2
  have cn := HN3.out.c
  have HOw := hide (l6Own_any _ _ w3 HM3.out)
  go_wp2_with fail
  refine HOw.out.mono ?_
  rintro r w4 ⟨v4, rfl, ho4, hb4⟩
  have hB4 := hB3.trans (hb4.mono hB3.size)
  have HX4 := hide (HX3.out.below hb4 HX3.out.lt)
  have HO4 := hide ho4.sm
  obtain ⟨sf, sv, sb, -, -, -, -, n4, n5, n6⟩ := ho4
  obtain ⟨af9, cf9, av9, cv9, ab9, cb9, rfl, o1, o2, o3⟩ := HO4.out
  simp only at o1 o2 o3 n4 n5 n6
  have cy := HX4.out.c
  have fy := HX4.out.f
  clear cn hb4 HOw
  have O1 := hide o1
  have O2 := hide o2
  have O3 := hide o3
  clear o1 o2 o3
  go_wp2_with fail
  refine bodyPost_ret (v := .tuple #[.agg #[.bool d, .int .i64 p, .int .i64 e, .int .i64 x, .slice af9 fs.length cf9, .slice av9 vs.length cv9, .slice ab9 bs.length cb9], .int .i64 (n : Int), .bool true]) (by simp [results, Try.results23, go_sem, cy]) rfl ⟨_, rfl, ?_, ?_⟩
  · have q0 : Kp w4 w.heap.size w3.heap.size (.slice af9 fs.length cf9) (.slice av9 vs.length cv9) (.slice ab9 bs.length cb9) fs vs bs := ⟨⟨_, HX4.out⟩, O1.out, O2.out, O3.out⟩
    exact ((((((((q0.set 0 _).set 1 _).set 2 _).set 3 _).set 4 _).set 5 _).set 6 _).own d p e x n4 n5 n6).row
  · (repeat (with_reducible refine bsc0 ?_ _ _))
    exact hB4

theorem implPlay_own (ad : Option Addr) (c : Nat) (l : List Cc) (q : Int) (w : World) (hl : l.length ≤ 1048576) (hcap : c = l.length) (h : CRow w ad l) :
    Calls Try.prog 24 #[.slice ad l.length c, .int .i64 q] w fun e w' => ∃ v, e = .returned (.tuple #[v, .int .i64 ((pmP l q).2 : Int), .bool (pmO l q)]) ∧ MOwn w.heap.size w'.heap.size w' v (pmP l q).1 ∧ Below w.heap.size w w' := by
  cases hp : pmO l q with
  | false => rw [pm_not hp]; exact implPlay_bad ad c l q w hl (by omega) h hp
  | true =>
    obtain ⟨a, S, h1, h2, rfl, h4, h5⟩ := pm_is hp
    rw [h5]
    exact implPlay_good ad c l a S w hl (by omega) (by unfold maxLen; omega) h h1 h4
theorem specPlay_any (ad : Option Addr) (c : Nat) (l : List Cc) (q : Int) (w : World) (hl : l.length ≤ 1048576) (h : CRow w ad l) :
    Calls Try.prog 23 #[.slice ad l.length c, .int .i64 q] w fun e w' => ∃ v, e = .returned (.tuple #[v, .int .i64 ((pmP l q).2 : Int), .bool (pmO l q)]) ∧ MRow w' v (pmP l q).1 ∧ Below w.heap.size w w' := by
  cases hp : pmO l q with
  | false => rw [pm_not hp]; exact specPlay_bad ad c l q w hl h hp
  | true =>
    obtain ⟨a, S, h1, h2, rfl, h4, h5⟩ := pm_is hp
    rw [h5]
    exact specPlay_good ad c l a S w h h1 h4
end Go.Proofs.Ytdajalchdbgooaa.W
