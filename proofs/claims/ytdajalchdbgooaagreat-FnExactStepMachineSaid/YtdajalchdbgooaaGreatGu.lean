/-
  Some texts of this proof in one: SmB, SmC.
-/
import Derived.Test.YtdajalchdbgooaaGreatGt
import Derived.Test.YtdajalchdbgooaaGreatGmL
import Derived.Test.YtdajalchdbgooaaGreatMaS7
import Derived.Test.YtdajalchdbgooaaGreatGa
import Derived.Deep.RegionHeld3
import Derived.Deep.RegionLaw
import Derived.Deep.AppendLies
import Derived.Deep.CutRange
import Derived.Test.YtdajalchdbgooaaGreatGz
/-
  The program's StepMachine. Conditions: rows of at most 1048576. Written by wip/build/mk_stepm.py.
-/
namespace Go.Proofs.YtdajalchdbgooaaGreat.W
open Go.ChangeShapes Go.WideShapes Go.ChangeAt Go.RowKit
set_option linter.unusedVariables false
set_option linter.unusedSimpArgs false

/-- What StepMachine tells. -/
def smR (l : List Cc) (m : Mc) : Option Mc := match closedT l with | some a => (if gM a l m = true then (match stepM a l m with | .inl m' => some m' | .inr _ => none) else none) | none => none
theorem sm_bad {l : List Cc} {m : Mc} (h : goodM l m = false) : smR l m = none := by
  unfold goodM at h
  unfold smR
  cases hc : closedT l with
  | none => rfl
  | some a => rw [hc] at h; simp only at h ⊢; rw [h]; rfl
theorem sm_good {l : List Cc} {m : Mc} (h : goodM l m = true) : ∃ a, closedT l = some a ∧ GM a l m ∧ smR l m = (match stepM a l m with | .inl m' => some m' | .inr _ => none) := by
  unfold goodM at h
  cases hc : closedT l with
  | none => rw [hc] at h; cases h
  | some a =>
    rw [hc] at h
    simp only at h
    refine ⟨a, rfl, gM_iff.1 h, ?_⟩
    unfold smR
    rw [hc]
    simp only
    rw [if_pos h]
theorem MOwn.zero (lo hi : Nat) (w : World) : MOwn lo hi w (.agg #[.bool false, .int .i64 0, .int .i64 0, .int .i64 0, .slice none 0 0, .slice none 0 0, .slice none 0 0]) zeroM := MOwn.empty _ _ _ _ _ _ _

set_option maxRecDepth 20000 in
set_option maxHeartbeats 4000000 in
theorem implStep_bad (ad : Option Addr) (c : Nat) (l : List Cc) (v : Value) (m : Mc) (w : World) (hl : l.length ≤ 1048576) (hcap : l.length ≤ c) (h : CRow w ad l) (hm : MRow w v m) (hg : goodM l m = false) :
    Calls Tryz.prog 9 #[.slice ad l.length c, v] w fun r w' => ∃ v', r = .returned (.tuple #[v', .bool false]) ∧ MOwn w.heap.size w'.heap.size w' v' zeroM ∧ Below w.heap.size w w' := by
  have HGd := hide (fun (w' : World) (hb : Below w.heap.size w w') => implGoodM_any ad c l v m w' hl hcap (h.below hb) (hm.below hb))
  rw [hg] at HGd
  obtain ⟨af, cf, av, cv, ab, cb, rfl, -, -, -, -, -, -, -, -, -⟩ := hm
  obtain ⟨d, p, e, x, fs, vs, bs⟩ := m
  simp only at HGd ⊢
  clear h hg
  go_enter Tryz.func9, Tryz.ntmps9
  go_upto_region 1 with fail
  have hX := (Bx.new w #[.bool d, .int .i64 p, .int .i64 e, .int .i64 x, .slice af fs.length cf, .slice av vs.length cv, .slice ab bs.length cb] 34).alloc (.cells #[.bool false, .int .i64 0, .int .i64 0, .int .i64 0, .slice none 0 0, .slice none 0 0, .slice none 0 0] 34)
  have hY := Bx.new (w.alloc (.cells #[.bool d, .int .i64 p, .int .i64 e, .int .i64 x, .slice af fs.length cf, .slice av vs.length cv, .slice ab bs.length cb] 34)) #[.bool false, .int .i64 0, .int .i64 0, .int .i64 0, .slice none 0 0, .slice none 0 0, .slice none 0 0] 34
  rw [World.size_alloc] at hY
  have hB0 : Below w.heap.size w ((w.alloc (.cells #[.bool d, .int .i64 p, .int .i64 e, .int .i64 x, .slice af fs.length cf, .slice av vs.length cv, .slice ab bs.length cb] 34)).alloc (.cells #[.bool false, .int .i64 0, .int .i64 0, .int .i64 0, .slice none 0 0, .slice none 0 0, .slice none 0 0] 34)) := ((Below.refl _ _).alloc (Nat.le_refl _) _).alloc (by simp) _
  obtain ⟨w0, hw0⟩ : ∃ w0, w0 = (w.alloc (.cells #[.bool d, .int .i64 p, .int .i64 e, .int .i64 x, .slice af fs.length cf, .slice av vs.length cv, .slice ab bs.length cb] 34)).alloc (.cells #[.bool false, .int .i64 0, .int .i64 0, .int .i64 0, .slice none 0 0, .slice none 0 0, .slice none 0 0] 34) := ⟨_, rfl⟩
  rw [← hw0] at hX hY hB0 ⊢
  clear hw0
  have HY := hide hY
  have c4 := hX.c
  clear hX hY
  go_wp2_with fail
  refine (HGd.out _ hB0).mono ?_
  rintro r w1 ⟨rfl, hb1⟩
  have hB1 : Below w.heap.size w w1 := hB0.trans (hb1.mono hB0.size)
  have hY1 := HY.out.below hb1 HY.out.lt
  have cy := hY1.c
  have fy := hY1.f
  clear hb1 c4 hY1
  go_wp2_with fail
  refine bodyPost_ret (v := .tuple #[.agg #[.bool false, .int .i64 0, .int .i64 0, .int .i64 0, .slice none 0 0, .slice none 0 0, .slice none 0 0], .bool false]) (by simp [results, Tryz.results9, go_sem, cy]) rfl ⟨_, rfl, MOwn.zero _ _ _, ?_⟩
  exact bsc (bsc (bsc (bsc (bsc (bsc (bsc hB1 _ _ _ (by omega)) _ _ _ (by omega)) _ _ _ (by omega)) _ _ _ (by omega)) _ _ _ (by omega)) _ _ _ (by omega)) _ _ _ (by omega)

set_option maxRecDepth 20000 in
set_option maxHeartbeats 4000000 in
theorem implStep_good (ad : Option Addr) (c : Nat) (l : List Cc) (a : F) (v : Value) (m : Mc) (w : World) (hl : l.length ≤ 1048576) (hcap : l.length ≤ c) (hmax : c ≤ maxLen) (h : CRow w ad l) (hm : MRow w v m) (hg : goodM l m = true) (hc : closedT l = some a) (hGm : GM a l m) :
    Calls Tryz.prog 9 #[.slice ad l.length c, v] w fun r w' => ∃ v', r = .returned (.tuple #[v', .bool (isL (stepM a l m))]) ∧ MOwn w.heap.size w'.heap.size w' v' (mcOf' zeroM (stepM a l m)) ∧ Below w.heap.size w w' := by
  have hCl := (closedT_some hc).1
  have HGd := hide (fun (w' : World) (hb : Below w.heap.size w w') => implGoodM_any ad c l v m w' hl hcap (h.below hb) (hm.below hb))
  rw [hg] at HGd
  have HCp := hide (fun (w' : World) (hb : Below w.heap.size w w') => copied_any v m w' (hm.below hb))
  have HTR : Hid (∀ (w' : World) (lo : Nat), w.heap.size ≤ lo → lo ≤ w'.heap.size → Below w.heap.size w w' → TR w' lo ad c l) := hide (fun w' lo h1 h2 h3 => ⟨fun w2 hb => h.below (h3.trans (hb.mono h1)), hcap, hmax, h2⟩)
  have HSt := hide (fun (w' : World) (rb lo : Nat) (hR : RB w' rb lo (.slice ad l.length c) m) (hT : TR w' lo ad c l) => step_any rb lo ad c l a m w' hCl hR hT hGm)
  have HCo := hide (fun cc hh => step_code (c := cc) hCl hGm hh)
  have HGs := hide (fun m1 hh => step_good (m' := m1) hCl hGm hh)
  obtain ⟨GO, hGO⟩ : ∃ GO, GO = stepM a l m := ⟨_, rfl⟩
  simp only [← hGO] at HSt HCo HGs ⊢
  have HGm := hide hGm
  obtain ⟨af, cf, av, cv, ab, cb, rfl, -, -, -, -, -, -, -, -, -⟩ := hm
  obtain ⟨d, p, e, x, fs, vs, bs⟩ := m
  simp only at HGd HCp HSt HGm ⊢
  clear h hg hc hCl hGO hGm hcap hmax
  go_enter Tryz.func9, Tryz.ntmps9
  go_upto_region 1 with fail
  have hX := (Bx.new w #[.bool d, .int .i64 p, .int .i64 e, .int .i64 x, .slice af fs.length cf, .slice av vs.length cv, .slice ab bs.length cb] 34).alloc (.cells #[.bool false, .int .i64 0, .int .i64 0, .int .i64 0, .slice none 0 0, .slice none 0 0, .slice none 0 0] 34)
  have hY := Bx.new (w.alloc (.cells #[.bool d, .int .i64 p, .int .i64 e, .int .i64 x, .slice af fs.length cf, .slice av vs.length cv, .slice ab bs.length cb] 34)) #[.bool false, .int .i64 0, .int .i64 0, .int .i64 0, .slice none 0 0, .slice none 0 0, .slice none 0 0] 34
  rw [World.size_alloc] at hY
  have hB0 : Below w.heap.size w ((w.alloc (.cells #[.bool d, .int .i64 p, .int .i64 e, .int .i64 x, .slice af fs.length cf, .slice av vs.length cv, .slice ab bs.length cb] 34)).alloc (.cells #[.bool false, .int .i64 0, .int .i64 0, .int .i64 0, .slice none 0 0, .slice none 0 0, .slice none 0 0] 34)) := ((Below.refl _ _).alloc (Nat.le_refl _) _).alloc (by simp) _
  obtain ⟨w0, hw0⟩ : ∃ w0, w0 = (w.alloc (.cells #[.bool d, .int .i64 p, .int .i64 e, .int .i64 x, .slice af fs.length cf, .slice av vs.length cv, .slice ab bs.length cb] 34)).alloc (.cells #[.bool false, .int .i64 0, .int .i64 0, .int .i64 0, .slice none 0 0, .slice none 0 0, .slice none 0 0] 34) := ⟨_, rfl⟩
  rw [← hw0] at hX hY hB0 ⊢
  clear hw0
  have HX := hide hX
  have HY := hide hY
  have c4 := hX.c
  clear hX hY
  go_wp2_with fail
  refine (HGd.out _ hB0).mono ?_
  rintro r w1 ⟨rfl, hb1⟩
  have hB1 : Below w.heap.size w w1 := hB0.trans (hb1.mono hB0.size)
  have HX1 := hide (HX.out.below hb1 HX.out.lt)
  have HY1 := hide (HY.out.below hb1 HY.out.lt)
  have yl1 : w.heap.size + 1 < w1.heap.size := HY1.out.lt
  clear hb1 c4 HX HY HGd
  have c4 := HX1.out.c
  go_wp2_with fail
  refine (HCp.out _ hB1).mono ?_
  rintro r w2 ⟨v2, rfl, ho2, hb2⟩
  have hB2 : Below w.heap.size w w2 := hB1.trans (hb2.mono hB1.size)
  have HY2 := hide (HY1.out.below hb2 yl1)
  have HO2 := hide ho2.sm
  obtain ⟨sf, sv, sb, -, -, -, -, n4, n5, n6⟩ := ho2
  obtain ⟨f9, g9, v9, u9, b9, h9, rfl, o1, o2, o3⟩ := HO2.out
  simp only at o1 o2 o3 n4 n5 n6
  have hz2 := hb2.size
  have O1 := hide o1
  have O2 := hide o2
  have O3 := hide o3
  clear o1 o2 o3 hb2 c4 HX1 HCp HY1 HO2
  go_upto_region 4 with fail
  have hbR : Below w2.heap.size w2 (w2.alloc (.cells #[.slice ad l.length c, .bool d, .int .i64 p, .int .i64 e, .int .i64 x, .slice f9 fs.length g9, .slice v9 vs.length u9, .slice b9 bs.length h9] 64)) := (Below.refl _ _).alloc (Nat.le_refl _) _
  have HR3 : Hid (RB (w2.alloc (.cells #[.slice ad l.length c, .bool d, .int .i64 p, .int .i64 e, .int .i64 x, .slice f9 fs.length g9, .slice v9 vs.length u9, .slice b9 bs.length h9] 64)) w2.heap.size w1.heap.size (.slice ad l.length c) ⟨d, p, e, x, fs, vs, bs⟩) := hide ⟨_, _, _, Bx.new w2 _ _, O1.out.alloc _, O2.out.alloc _, O3.out.alloc _, hz2⟩
  have HY3 := hide (HY2.out.alloc (.cells #[.slice ad l.length c, .bool d, .int .i64 p, .int .i64 e, .int .i64 x, .slice f9 fs.length g9, .slice v9 vs.length u9, .slice b9 bs.length h9] 64))
  have hB3 := hB2.trans (hbR.mono hB2.size)
  have hs3 : w2.heap.size < (w2.alloc (.cells #[.slice ad l.length c, .bool d, .int .i64 p, .int .i64 e, .int .i64 x, .slice f9 fs.length g9, .slice v9 vs.length u9, .slice b9 bs.length h9] 64)).heap.size := by simp
  obtain ⟨w3, hw3⟩ : ∃ w3, w3 = w2.alloc (.cells #[.slice ad l.length c, .bool d, .int .i64 p, .int .i64 e, .int .i64 x, .slice f9 fs.length g9, .slice v9 vs.length u9, .slice b9 bs.length h9] 64) := ⟨_, rfl⟩
  obtain ⟨RBk, hRBk⟩ : ∃ RBk, RBk = w2.heap.size := ⟨_, rfl⟩
  rw [← hw3] at HR3 HY3 hB3 hs3 ⊢
  rw [← hRBk] at HR3 hs3 hz2 ⊢
  clear hw3 hRBk hbR HY2 O1 O2 O3
  have HS3 := hide (HSt.out w3 RBk w1.heap.size HR3.out (HTR.out w3 w1.heap.size hB1.size (by omega) hB3))
  clear HSt HTR HR3
  go_wp2_with fail
  refine HS3.out.mono ?_
  rintro r w4 ⟨rfl, hr4, hb4⟩
  have hY4 := HY3.out.below hb4 yl1
  have cy := hY4.c
  have fy := hY4.f
  have HY4 := hide hY4
  have hB4 : Below w.heap.size w w4 := hB3.trans (hb4.mono hB1.size)
  have HR4 := hide hr4
  clear hb4 hr4 hY4 HS3
  cases hq : GO with
  | inl m1 =>
    subst hq
    have HG1 := hide (HGs.out m1 rfl)
    simp only [cdOf, mcOf, isL, mcOf'] at HR4 ⊢
    obtain ⟨d1, p1, e1, x1, fs1, vs1, bs1⟩ := m1
    obtain ⟨af1, cf1, av1, cv1, ab1, cb1, g1, g2, g3, g4, -⟩ := HR4.out.slots
    simp only at g1 g2 g3 g4
    have cr := g1.c
    have G2 := hide g2
    have G3 := hide g3
    have G4 := hide g4
    clear g1 g2 g3 g4
    go_wp2_with fail
    refine bodyPost_ret (v := .tuple #[.agg #[.bool d1, .int .i64 p1, .int .i64 e1, .int .i64 x1, .slice af1 fs1.length cf1, .slice av1 vs1.length cv1, .slice ab1 bs1.length cb1], .bool true]) (by simp [results, Tryz.results9, go_sem, cy]) rfl ⟨_, rfl, ?_, ?_⟩
    · have q0 : Kp w4 (w.heap.size + 1) w1.heap.size (.slice af1 fs1.length cf1) (.slice av1 vs1.length cv1) (.slice ab1 bs1.length cb1) fs1 vs1 bs1 := ⟨⟨_, HY4.out⟩, G2.out, G3.out, G4.out⟩
      exact ((((((((q0.set 0 _).set 1 _).set 2 _).set 3 _).set 4 _).set 5 _).set 6 _).own d1 p1 e1 x1 (by have := HG1.out.nf; simp only at this; omega) (by have := HG1.out.nv; simp only at this; omega) (by have := HG1.out.nb; simp only at this; omega)).wide (by omega) (Nat.le_refl _)
    · exact bsc (bsc (bsc (bsc (bsc (bsc (bsc hB4 _ _ _ (by omega)) _ _ _ (by omega)) _ _ _ (by omega)) _ _ _ (by omega)) _ _ _ (by omega)) _ _ _ (by omega)) _ _ _ (by omega)
  | inr cc =>
    subst hq
    have hcc : ¬ cc = 0 := by
      rcases HCo.out cc rfl with ⟨-, -, hh⟩ | ⟨-, hh⟩
      · split at hh <;> omega
      · omega
    simp only [cdOf, mcOf, isL, mcOf'] at HR4 ⊢
    clear HCo HGs
    go_wp2_with fail
    refine bodyPost_ret (v := .tuple #[.agg #[.bool false, .int .i64 0, .int .i64 0, .int .i64 0, .slice none 0 0, .slice none 0 0, .slice none 0 0], .bool false]) (by simp [results, Tryz.results9, go_sem, cy]) rfl ⟨_, rfl, MOwn.zero _ _ _, ?_⟩
    exact bsc (bsc (bsc (bsc (bsc (bsc (bsc hB4 _ _ _ (by omega)) _ _ _ (by omega)) _ _ _ (by omega)) _ _ _ (by omega)) _ _ _ (by omega)) _ _ _ (by omega)) _ _ _ (by omega)
theorem implStepM_any (ad : Option Addr) (c : Nat) (l : List Cc) (v : Value) (m : Mc) (w : World) (hl : l.length ≤ 1048576) (hcap : c = l.length) (h : CRow w ad l) (hm : MRow w v m) :
    Calls Tryz.prog 9 #[.slice ad l.length c, v] w fun r w' => ∃ v', r = .returned (.tuple #[v', .bool (smR l m).isSome]) ∧ MOwn w.heap.size w'.heap.size w' v' ((smR l m).getD zeroM) ∧ Below w.heap.size w w' := by
  cases hg : goodM l m with
  | false => rw [sm_bad hg]; exact implStep_bad ad c l v m w hl (by omega) h hm hg
  | true =>
    obtain ⟨a, h1, h2, h3⟩ := sm_good hg
    have := implStep_good ad c l a v m w hl (by omega) (by unfold maxLen; omega) h hm hg h1 h2
    rw [h3]
    cases hq : stepM a l m with
    | inl m1 => rw [hq] at this; exact this
    | inr cc => rw [hq] at this; exact this
end Go.Proofs.YtdajalchdbgooaaGreat.W

/-
  The specification's StepMachine. Conditions: rows of at most 1048576. Written by wip/build/mk_stepm.py.
-/
namespace Go.Proofs.YtdajalchdbgooaaGreat.W
open Go.ChangeShapes Go.WideShapes Go.ChangeAt Go.RowKit
set_option linter.unusedVariables false
set_option linter.unusedSimpArgs false

theorem CD.sr' {w : World} {cb : Nat} {ad : Option Addr} {c : Nat} {l : List Cc} {a : F} (h : CD w cb (.slice ad l.length c) l.length a) (hr : CRow w ad l) : SR w w.heap.size cb ad c l a :=
  ⟨⟨w, h, hr, Nat.le_refl _, Below.refl _ _⟩, Nat.le_refl _, h.lt⟩

set_option maxRecDepth 20000 in
set_option maxHeartbeats 4000000 in
theorem specStep_none (ad : Option Addr) (c : Nat) (l : List Cc) (d : Bool) (p e x : Int) (af av ab : Option Addr) (cf cv cb : Nat) (fs : List Fm) (vs : List Vl) (bs : List Bd) (w : World) (hl : l.length ≤ 1048576) (h : CRow w ad l) (hc : closedT l = none) :
    Calls Tryz.prog 6 #[.slice ad l.length c, .agg #[.bool d, .int .i64 p, .int .i64 e, .int .i64 x, .slice af fs.length cf, .slice av vs.length cv, .slice ab bs.length cb]] w fun r w' => ∃ v', r = .returned (.tuple #[v', .bool false]) ∧ MOwn w.heap.size w'.heap.size w' v' zeroM ∧ Below w.heap.size w w' := by
  have HC := hide (fun (w' : World) (hb : Below w.heap.size w w') => l6Of_none ad c l w' hl (h.below hb) hc)
  clear h hc
  go_enter Tryz.func6, Tryz.ntmps6
  go_upto_region 1 with fail
  have hX := (Bx.new w #[.bool d, .int .i64 p, .int .i64 e, .int .i64 x, .slice af fs.length cf, .slice av vs.length cv, .slice ab bs.length cb] 34).alloc (.cells #[.bool false, .int .i64 0, .int .i64 0, .int .i64 0, .slice none 0 0, .slice none 0 0, .slice none 0 0] 34)
  have hY := Bx.new (w.alloc (.cells #[.bool d, .int .i64 p, .int .i64 e, .int .i64 x, .slice af fs.length cf, .slice av vs.length cv, .slice ab bs.length cb] 34)) #[.bool false, .int .i64 0, .int .i64 0, .int .i64 0, .slice none 0 0, .slice none 0 0, .slice none 0 0] 34
  rw [World.size_alloc] at hY
  have hB0 : Below w.heap.size w ((w.alloc (.cells #[.bool d, .int .i64 p, .int .i64 e, .int .i64 x, .slice af fs.length cf, .slice av vs.length cv, .slice ab bs.length cb] 34)).alloc (.cells #[.bool false, .int .i64 0, .int .i64 0, .int .i64 0, .slice none 0 0, .slice none 0 0, .slice none 0 0] 34)) := ((Below.refl _ _).alloc (Nat.le_refl _) _).alloc (by simp) _
  obtain ⟨w0, hw0⟩ : ∃ w0, w0 = (w.alloc (.cells #[.bool d, .int .i64 p, .int .i64 e, .int .i64 x, .slice af fs.length cf, .slice av vs.length cv, .slice ab bs.length cb] 34)).alloc (.cells #[.bool false, .int .i64 0, .int .i64 0, .int .i64 0, .slice none 0 0, .slice none 0 0, .slice none 0 0] 34) := ⟨_, rfl⟩
  rw [← hw0] at hX hY hB0 ⊢
  clear hw0
  have HX := hide hX
  have HY := hide hY
  clear hX hY
  go_wp2_with fail
  refine (HC.out _ hB0).mono ?_
  rintro r w1 ⟨rfl, hb1⟩
  have hB1 : Below w.heap.size w w1 := hB0.trans (hb1.mono hB0.size)
  have hY1 := HY.out.below hb1 HY.out.lt
  have cy := hY1.c
  have fy := hY1.f
  clear hb1 hY1
  go_wp2_with fail
  refine bodyPost_ret (v := .tuple #[.agg #[.bool false, .int .i64 0, .int .i64 0, .int .i64 0, .slice none 0 0, .slice none 0 0, .slice none 0 0], .bool false]) (by simp [results, Tryz.results6, go_sem, cy]) rfl ⟨_, rfl, MOwn.zero _ _ _, ?_⟩
  exact bsc (bsc (bsc (bsc (bsc (bsc (bsc hB1 _ _ _ (by omega)) _ _ _ (by omega)) _ _ _ (by omega)) _ _ _ (by omega)) _ _ _ (by omega)) _ _ _ (by omega)) _ _ _ (by omega)

set_option maxRecDepth 20000 in
set_option maxHeartbeats 4000000 in
theorem specStep_bad (ad : Option Addr) (c : Nat) (l : List Cc) (a : F) (d : Bool) (p e x : Int) (af av ab : Option Addr) (cf cv cb : Nat) (fs : List Fm) (vs : List Vl) (bs : List Bd) (w : World) (h : CRow w ad l) (hm : MRow w (.agg #[.bool d, .int .i64 p, .int .i64 e, .int .i64 x, .slice af fs.length cf, .slice av vs.length cv, .slice ab bs.length cb]) ⟨d, p, e, x, fs, vs, bs⟩) (hc : closedT l = some a) (hg : gM a l ⟨d, p, e, x, fs, vs, bs⟩ = false) :
    Calls Tryz.prog 6 #[.slice ad l.length c, .agg #[.bool d, .int .i64 p, .int .i64 e, .int .i64 x, .slice af fs.length cf, .slice av vs.length cv, .slice ab bs.length cb]] w fun r w' => ∃ v', r = .returned (.tuple #[v', .bool false]) ∧ MOwn w.heap.size w'.heap.size w' v' zeroM ∧ Below w.heap.size w w' := by
  have hCl := (closedT_some hc).1
  have HC := hide (fun (w' : World) (hb : Below w.heap.size w w') => l6Of_some ad c l a w' (h.below hb) hc)
  have HG := hide (fun (w' : World) (cb0 : Nat) (hb : Below w.heap.size w w') (hcd : CD w' cb0 (.slice ad l.length c) l.length a) => l6Good_any cb0 ad c l a _ _ w' hCl hcd (h.below hb) (hm.below hb))
  rw [hg] at HG
  clear h hc hm hg hCl
  go_enter Tryz.func6, Tryz.ntmps6
  go_upto_region 1 with fail
  have hX := (Bx.new w #[.bool d, .int .i64 p, .int .i64 e, .int .i64 x, .slice af fs.length cf, .slice av vs.length cv, .slice ab bs.length cb] 34).alloc (.cells #[.bool false, .int .i64 0, .int .i64 0, .int .i64 0, .slice none 0 0, .slice none 0 0, .slice none 0 0] 34)
  have hY := Bx.new (w.alloc (.cells #[.bool d, .int .i64 p, .int .i64 e, .int .i64 x, .slice af fs.length cf, .slice av vs.length cv, .slice ab bs.length cb] 34)) #[.bool false, .int .i64 0, .int .i64 0, .int .i64 0, .slice none 0 0, .slice none 0 0, .slice none 0 0] 34
  rw [World.size_alloc] at hY
  have hB0 : Below w.heap.size w ((w.alloc (.cells #[.bool d, .int .i64 p, .int .i64 e, .int .i64 x, .slice af fs.length cf, .slice av vs.length cv, .slice ab bs.length cb] 34)).alloc (.cells #[.bool false, .int .i64 0, .int .i64 0, .int .i64 0, .slice none 0 0, .slice none 0 0, .slice none 0 0] 34)) := ((Below.refl _ _).alloc (Nat.le_refl _) _).alloc (by simp) _
  obtain ⟨w0, hw0⟩ : ∃ w0, w0 = (w.alloc (.cells #[.bool d, .int .i64 p, .int .i64 e, .int .i64 x, .slice af fs.length cf, .slice av vs.length cv, .slice ab bs.length cb] 34)).alloc (.cells #[.bool false, .int .i64 0, .int .i64 0, .int .i64 0, .slice none 0 0, .slice none 0 0, .slice none 0 0] 34) := ⟨_, rfl⟩
  rw [← hw0] at hX hY hB0 ⊢
  clear hw0
  have HX := hide hX
  have HY := hide hY
  clear hX hY
  go_wp2_with fail
  refine (HC.out _ hB0).mono ?_
  rintro r w1 ⟨cb0, rfl, hcd, -, hb1⟩
  have hB1 : Below w.heap.size w w1 := hB0.trans (hb1.mono hB0.size)
  have HY1 := hide (HY.out.below hb1 HY.out.lt)
  have yl1 : w.heap.size + 1 < w1.heap.size := HY1.out.lt
  have cx := (HX.out.below hb1 HX.out.lt).c
  have HG1 := hide (HG.out w1 cb0 hB1 hcd)
  clear hb1 hcd
  go_wp2_with fail
  refine HG1.out.mono ?_
  rintro r w2 ⟨rfl, hb2⟩
  have hB2 : Below w.heap.size w w2 := hB1.trans (hb2.mono hB1.size)
  have hY2 := HY1.out.below hb2 yl1
  have cy := hY2.c
  have fy := hY2.f
  clear hb2 cx hY2
  go_wp2_with fail
  refine bodyPost_ret (v := .tuple #[.agg #[.bool false, .int .i64 0, .int .i64 0, .int .i64 0, .slice none 0 0, .slice none 0 0, .slice none 0 0], .bool false]) (by simp [results, Tryz.results6, go_sem, cy]) rfl ⟨_, rfl, MOwn.zero _ _ _, ?_⟩
  exact bsc (bsc (bsc (bsc (bsc (bsc (bsc hB2 _ _ _ (by omega)) _ _ _ (by omega)) _ _ _ (by omega)) _ _ _ (by omega)) _ _ _ (by omega)) _ _ _ (by omega)) _ _ _ (by omega)

set_option maxRecDepth 20000 in
set_option maxHeartbeats 4000000 in
theorem specStep_good (ad : Option Addr) (c : Nat) (l : List Cc) (a : F) (d : Bool) (p e x : Int) (af av ab : Option Addr) (cf cv cb : Nat) (fs : List Fm) (vs : List Vl) (bs : List Bd) (w : World) (h : CRow w ad l) (hm : MRow w (.agg #[.bool d, .int .i64 p, .int .i64 e, .int .i64 x, .slice af fs.length cf, .slice av vs.length cv, .slice ab bs.length cb]) ⟨d, p, e, x, fs, vs, bs⟩) (hc : closedT l = some a) (hg : gM a l ⟨d, p, e, x, fs, vs, bs⟩ = true) :
    Calls Tryz.prog 6 #[.slice ad l.length c, .agg #[.bool d, .int .i64 p, .int .i64 e, .int .i64 x, .slice af fs.length cf, .slice av vs.length cv, .slice ab bs.length cb]] w fun r w' => ∃ v', r = .returned (.tuple #[v', .bool (isL (stepM a l ⟨d, p, e, x, fs, vs, bs⟩))]) ∧ MOwn w.heap.size w'.heap.size w' v' (mcOf' zeroM (stepM a l ⟨d, p, e, x, fs, vs, bs⟩)) ∧ Below w.heap.size w w' := by
  have hCl := (closedT_some hc).1
  have hGm := gM_iff.1 hg
  have HC := hide (fun (w' : World) (hb : Below w.heap.size w w') => l6Of_some ad c l a w' (h.below hb) hc)
  have HG := hide (fun (w' : World) (cb0 : Nat) (hb : Below w.heap.size w w') (hcd : CD w' cb0 (.slice ad l.length c) l.length a) => l6Good_any cb0 ad c l a _ _ w' hCl hcd (h.below hb) (hm.below hb))
  rw [hg] at HG
  have HOw := hide (fun (w' : World) (hb : Below w.heap.size w w') => l6Own_any _ _ w' (hm.below hb))
  have HSt := hide (fun (w' : World) (v : Value) (cb0 lo : Nat) (h1 : SM w' lo v ⟨d, p, e, x, fs, vs, bs⟩) (h2 : SR w' lo cb0 ad c l a) => l6Step_any lo cb0 ad c l a v _ w' hCl h1 h2 hGm)
  have HGs := hide (fun m1 hh => step_good (m' := m1) hCl hGm hh)
  have HCo := hide (fun cc hh => step_code (c := cc) hCl hGm hh)
  have HRw := hide h
  obtain ⟨GO, hGO⟩ : ∃ GO, GO = stepM a l ⟨d, p, e, x, fs, vs, bs⟩ := ⟨_, rfl⟩
  simp only [← hGO] at HSt HGs HCo ⊢
  clear h hc hm hg hCl hGm hGO
  go_enter Tryz.func6, Tryz.ntmps6
  go_upto_region 1 with fail
  have hX := (Bx.new w #[.bool d, .int .i64 p, .int .i64 e, .int .i64 x, .slice af fs.length cf, .slice av vs.length cv, .slice ab bs.length cb] 34).alloc (.cells #[.bool false, .int .i64 0, .int .i64 0, .int .i64 0, .slice none 0 0, .slice none 0 0, .slice none 0 0] 34)
  have hY := Bx.new (w.alloc (.cells #[.bool d, .int .i64 p, .int .i64 e, .int .i64 x, .slice af fs.length cf, .slice av vs.length cv, .slice ab bs.length cb] 34)) #[.bool false, .int .i64 0, .int .i64 0, .int .i64 0, .slice none 0 0, .slice none 0 0, .slice none 0 0] 34
  rw [World.size_alloc] at hY
  have hB0 : Below w.heap.size w ((w.alloc (.cells #[.bool d, .int .i64 p, .int .i64 e, .int .i64 x, .slice af fs.length cf, .slice av vs.length cv, .slice ab bs.length cb] 34)).alloc (.cells #[.bool false, .int .i64 0, .int .i64 0, .int .i64 0, .slice none 0 0, .slice none 0 0, .slice none 0 0] 34)) := ((Below.refl _ _).alloc (Nat.le_refl _) _).alloc (by simp) _
  obtain ⟨w0, hw0⟩ : ∃ w0, w0 = (w.alloc (.cells #[.bool d, .int .i64 p, .int .i64 e, .int .i64 x, .slice af fs.length cf, .slice av vs.length cv, .slice ab bs.length cb] 34)).alloc (.cells #[.bool false, .int .i64 0, .int .i64 0, .int .i64 0, .slice none 0 0, .slice none 0 0, .slice none 0 0] 34) := ⟨_, rfl⟩
  rw [← hw0] at hX hY hB0 ⊢
  clear hw0
  have HX := hide hX
  have HY := hide hY
  clear hX hY
  go_wp2_with fail
  refine (HC.out _ hB0).mono ?_
  rintro r w1 ⟨cb0, rfl, hcd, -, hb1⟩
  have hB1 : Below w.heap.size w w1 := hB0.trans (hb1.mono hB0.size)
  have HX1 := hide (HX.out.below hb1 HX.out.lt)
  have HY1 := hide (HY.out.below hb1 HY.out.lt)
  have yl1 : w.heap.size + 1 < w1.heap.size := HY1.out.lt
  have cx := HX1.out.c
  have HG1 := hide (HG.out w1 cb0 hB1 hcd)
  have HCd := hide hcd
  clear hb1 hcd HX HY HG HC
  go_wp2_with fail
  refine HG1.out.mono ?_
  rintro r w2 ⟨rfl, hb2⟩
  have hB2 : Below w.heap.size w w2 := hB1.trans (hb2.mono hB1.size)
  have HX2 := hide (HX1.out.below hb2 HX1.out.lt)
  have HY2 := hide (HY1.out.below hb2 yl1)
  have HS2 := hide ((HCd.out.below hb2).sr' (HRw.out.below hB2))
  have yl2 : w.heap.size + 1 < w2.heap.size := HY2.out.lt
  clear hb2 cx HX1 HY1 HG1
  have cx := HX2.out.c
  go_wp2_with fail
  refine (HOw.out _ hB2).mono ?_
  rintro r w3 ⟨v3, rfl, ho3, hb3⟩
  have HC3 := hide (HSt.out w3 v3 cb0 w2.heap.size ho3.sm (HS2.out.below hb3))
  have hB3 : Below w2.heap.size w2 w3 := hb3
  clear ho3 hb3 HOw HSt cx
  go_wp2_with fail
  refine HC3.out.mono ?_
  rintro r w4 hgo
  obtain ⟨v', m', rfl, hsm, hm1, hb4, -⟩ := hgo
  have hB4 : Below w2.heap.size w2 w4 := hB3.trans hb4
  have hBw4 : Below w.heap.size w w4 := hB2.trans (hB4.mono hB2.size)
  have HM1 := hide hm1
  have HY4 := hide (HY2.out.below hB4 yl2)
  have HSM := hide hsm
  obtain ⟨d9, p9, e9, x9, fs9, vs9, bs9⟩ := m'
  obtain ⟨af9, cf9, av9, cv9, ab9, cb9, rfl, -, -, -⟩ := hsm
  simp only at HSM HM1
  clear hm1 hb4 HC3 hB3
  have yl4 : w.heap.size + 1 < w4.heap.size := HY4.out.lt
  cases hq : GO with
  | inl m1 =>
    subst hq
    have hmm := HM1.out m1 rfl
    subst hmm
    have HG1' := hide (HGs.out _ rfl)
    simp only [canOf, roomOf, isL, mcOf']
    clear HM1 HGs HCo
    have hb5 : Below w4.heap.size w4 (w4.alloc (.cells #[.bool d9, .int .i64 p9, .int .i64 e9, .int .i64 x9, .slice af9 fs9.length cf9, .slice av9 vs9.length cv9, .slice ab9 bs9.length cb9] 34)) := (Below.refl _ _).alloc (Nat.le_refl _) _
    have hB5 := hBw4.trans (hb5.mono hBw4.size)
    have HM5 : Hid (MRow (w4.alloc (.cells #[.bool d9, .int .i64 p9, .int .i64 e9, .int .i64 x9, .slice af9 fs9.length cf9, .slice av9 vs9.length cv9, .slice ab9 bs9.length cb9] 34)) (.agg #[.bool d9, .int .i64 p9, .int .i64 e9, .int .i64 x9, .slice af9 fs9.length cf9, .slice av9 vs9.length cv9, .slice ab9 bs9.length cb9]) ⟨d9, p9, e9, x9, fs9, vs9, bs9⟩) := hide ((HSM.out.row (by have := HG1'.out.nf; simp only at this ⊢; omega) (by have := HG1'.out.nv; simp only at this ⊢; omega) (by have := HG1'.out.nb; simp only at this ⊢; omega)).below hb5)
    have HOw := hide (l6Own_any _ _ _ HM5.out)
    have cn := (Bx.new w4 #[.bool d9, .int .i64 p9, .int .i64 e9, .int .i64 x9, .slice af9 fs9.length cf9, .slice av9 vs9.length cv9, .slice ab9 bs9.length cb9] 34).c
    have HY5 := hide (HY4.out.alloc (.cells #[.bool d9, .int .i64 p9, .int .i64 e9, .int .i64 x9, .slice af9 fs9.length cf9, .slice av9 vs9.length cv9, .slice ab9 bs9.length cb9] 34))
    go_wp2_with fail
    refine HOw.out.mono ?_
    rintro r w6 ⟨v6, rfl, ho6, hb6⟩
    have hB6 : Below w.heap.size w w6 := hB5.trans (hb6.mono hB5.size)
    have HY6 := hide (HY5.out.below hb6 HY5.out.lt)
    have HO6 := hide ho6.sm
    obtain ⟨sf, sv, sb, -, -, -, -, n4, n5, n6⟩ := ho6
    obtain ⟨af8, cf8, av8, cv8, ab8, cb8, rfl, o1, o2, o3⟩ := HO6.out
    simp only at o1 o2 o3 n4 n5 n6
    have cy := HY6.out.c
    have fy := HY6.out.f
    have O1 := hide o1
    have O2 := hide o2
    have O3 := hide o3
    clear o1 o2 o3 hb6 cn HOw
    go_wp2_with fail
    refine bodyPost_ret (v := .tuple #[.agg #[.bool d9, .int .i64 p9, .int .i64 e9, .int .i64 x9, .slice af8 fs9.length cf8, .slice av8 vs9.length cv8, .slice ab8 bs9.length cb8], .bool true]) (by simp [results, Tryz.results6, go_sem, cy]) rfl ⟨_, rfl, ?_, ?_⟩
    · have q0 : Kp w6 (w.heap.size + 1) _ (.slice af8 fs9.length cf8) (.slice av8 vs9.length cv8) (.slice ab8 bs9.length cb8) fs9 vs9 bs9 := ⟨⟨_, HY6.out⟩, O1.out, O2.out, O3.out⟩
      exact ((((((((q0.set 0 _).set 1 _).set 2 _).set 3 _).set 4 _).set 5 _).set 6 _).own d9 p9 e9 x9 n4 n5 n6).wide hB5.size (Nat.le_refl _)
    · exact bsc (bsc (bsc (bsc (bsc (bsc (bsc hB6 _ _ _ (by omega)) _ _ _ (by omega)) _ _ _ (by omega)) _ _ _ (by omega)) _ _ _ (by omega)) _ _ _ (by omega)) _ _ _ (by omega)
  | inr cc =>
    subst hq
    have hcr : canOf (.inr cc : Mc ⊕ Int) = false ∨ canOf (.inr cc : Mc ⊕ Int) = true ∧ roomOf (.inr cc : Mc ⊕ Int) = false := by
      by_cases h5 : cc = 5
      · right; simp [canOf, roomOf, h5]
      · left; simp [canOf, h5]
    obtain ⟨CN, hCN⟩ : ∃ CN, CN = canOf (.inr cc : Mc ⊕ Int) := ⟨_, rfl⟩
    obtain ⟨RM, hRM⟩ : ∃ RM, RM = roomOf (.inr cc : Mc ⊕ Int) := ⟨_, rfl⟩
    rw [← hCN, ← hRM] at hcr ⊢
    simp only [isL, mcOf']
    clear hCN hRM HM1 HGs HCo
    have hb5 : Below w4.heap.size w4 (w4.alloc (.cells #[.bool d9, .int .i64 p9, .int .i64 e9, .int .i64 x9, .slice af9 fs9.length cf9, .slice av9 vs9.length cv9, .slice ab9 bs9.length cb9] 34)) := (Below.refl _ _).alloc (Nat.le_refl _) _
    have hB5 := hBw4.trans (hb5.mono hBw4.size)
    have hY5 := HY4.out.alloc (.cells #[.bool d9, .int .i64 p9, .int .i64 e9, .int .i64 x9, .slice af9 fs9.length cf9, .slice av9 vs9.length cv9, .slice ab9 bs9.length cb9] 34)
    have HY5 := hide hY5
    have HW5 : Hid (∃ w5, w5 = w4.alloc (.cells #[.bool d9, .int .i64 p9, .int .i64 e9, .int .i64 x9, .slice af9 fs9.length cf9, .slice av9 vs9.length cv9, .slice ab9 bs9.length cb9] 34)) := hide ⟨_, rfl⟩
    clear hY5
    rcases hcr with rfl | ⟨rfl, rfl⟩
    · go_upto_if 38 with fail
      obtain ⟨w5, hw5⟩ : ∃ w5, w5 = w4.alloc (.cells #[.bool d9, .int .i64 p9, .int .i64 e9, .int .i64 x9, .slice af9 fs9.length cf9, .slice av9 vs9.length cv9, .slice ab9 bs9.length cb9] 34) := ⟨_, rfl⟩
      rw [← hw5] at HY5 hB5 ⊢
      have cy := HY5.out.c
      have fy := HY5.out.f
      clear hw5 hb5
      go_wp2_with fail
      refine bodyPost_ret (v := .tuple #[.agg #[.bool false, .int .i64 0, .int .i64 0, .int .i64 0, .slice none 0 0, .slice none 0 0, .slice none 0 0], .bool false]) (by simp [results, Tryz.results6, go_sem, cy]) rfl ⟨_, rfl, MOwn.zero _ _ _, ?_⟩
      exact bsc (bsc (bsc (bsc (bsc (bsc (bsc hB5 _ _ _ (by omega)) _ _ _ (by omega)) _ _ _ (by omega)) _ _ _ (by omega)) _ _ _ (by omega)) _ _ _ (by omega)) _ _ _ (by omega)
    · go_upto_if 38 with fail
      obtain ⟨w5, hw5⟩ : ∃ w5, w5 = w4.alloc (.cells #[.bool d9, .int .i64 p9, .int .i64 e9, .int .i64 x9, .slice af9 fs9.length cf9, .slice av9 vs9.length cv9, .slice ab9 bs9.length cb9] 34) := ⟨_, rfl⟩
      rw [← hw5] at HY5 hB5 ⊢
      have cy := HY5.out.c
      have fy := HY5.out.f
      clear hw5 hb5
      go_wp2_with fail
      refine bodyPost_ret (v := .tuple #[.agg #[.bool false, .int .i64 0, .int .i64 0, .int .i64 0, .slice none 0 0, .slice none 0 0, .slice none 0 0], .bool false]) (by simp [results, Tryz.results6, go_sem, cy]) rfl ⟨_, rfl, MOwn.zero _ _ _, ?_⟩
      exact bsc (bsc (bsc (bsc (bsc (bsc (bsc hB5 _ _ _ (by omega)) _ _ _ (by omega)) _ _ _ (by omega)) _ _ _ (by omega)) _ _ _ (by omega)) _ _ _ (by omega)) _ _ _ (by omega)
theorem specStepM_any (ad : Option Addr) (c : Nat) (l : List Cc) (v : Value) (m : Mc) (w : World) (hl : l.length ≤ 1048576) (h : CRow w ad l) (hm : MRow w v m) :
    Calls Tryz.prog 6 #[.slice ad l.length c, v] w fun r w' => ∃ v', r = .returned (.tuple #[v', .bool (smR l m).isSome]) ∧ MOwn w.heap.size w'.heap.size w' v' ((smR l m).getD zeroM) ∧ Below w.heap.size w w' := by
  have hm' := hm
  obtain ⟨af, cf, av, cv, ab, cb, rfl, -, -, -, -, -, -, -, -, -⟩ := hm
  obtain ⟨d, p, e, x, fs, vs, bs⟩ := m
  simp only at hm' ⊢
  cases hc : closedT l with
  | none =>
    rw [show smR l ⟨d, p, e, x, fs, vs, bs⟩ = none by unfold smR; rw [hc]]
    exact specStep_none ad c l d p e x af av ab cf cv cb fs vs bs w hl h hc
  | some a =>
    cases hg : gM a l ⟨d, p, e, x, fs, vs, bs⟩ with
    | false =>
      rw [sm_bad (show goodM l ⟨d, p, e, x, fs, vs, bs⟩ = false by unfold goodM; rw [hc]; exact hg)]
      exact specStep_bad ad c l a d p e x af av ab cf cv cb fs vs bs w h hm' hc hg
    | true =>
      obtain ⟨a', h1, h2, h3⟩ := sm_good (show goodM l ⟨d, p, e, x, fs, vs, bs⟩ = true by unfold goodM; rw [hc]; exact hg)
      rw [hc, Option.some.injEq] at h1
      subst h1
      have := specStep_good ad c l a d p e x af av ab cf cv cb fs vs bs w h hm' hc hg
      rw [h3]
      cases hq : stepM a l ⟨d, p, e, x, fs, vs, bs⟩ with
      | inl m1 => rw [hq] at this; exact this
      | inr cc => rw [hq] at this; exact this
end Go.Proofs.YtdajalchdbgooaaGreat.W
