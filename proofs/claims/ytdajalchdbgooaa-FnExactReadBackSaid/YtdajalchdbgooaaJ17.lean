/-
  Some texts of this proof in one: GmL, RbK, TeT.
-/
import Derived.Test.YtdajalchdbgooaaGmD
import Derived.Test.YtdajalchdbgooaaGmK
import Derived.Test.YtdajalchdbgooaaJ11
import Derived.Test.YtdajalchdbgooaaJ12
import Derived.Test.YtdajalchdbgooaaJ04
/-
  GoodMachine of both sides. Conditions: rows of at most 1048576.
-/
namespace Go.Proofs.Ytdajalchdbgooaa.W
open Go.ChangeShapes Go.WideShapes Go.ChangeAt Go.RowKit
set_option linter.unusedVariables false
set_option linter.unusedSimpArgs false

theorem l6Good_any (cb0 : Nat) (ad : Option Addr) (c : Nat) (l : List Cc) (a : F) (v : Value) (m : Mc) (w : World) (hCl : Cl l a) (hC : CD w cb0 (.slice ad l.length c) l.length a) (ht : CRow w ad l) (hm : MRow w v m) :
    Calls Try.prog 50 #[.pointer (some ⟨cb0, 0, none⟩), v] w fun r w' => r = .returned (.bool (gM a l m)) ∧ Below w.heap.size w w' := by
  obtain ⟨af, cf, av, cv, ab, cb, rfl, h1, h2, h3, h4, h5, h6, -, -, -⟩ := hm
  obtain ⟨d, p, e, x, fs, vs, bs⟩ := m
  simp only at h1 h2 h3 h4 h5 h6 ⊢
  by_cases hg : fs.length ≤ 500 ∧ vs.length ≤ 500 ∧ bs.length ≤ 500
  · have := l6Good_some cb0 ad c l a d p e x af av ab cf cv cb fs vs bs w hCl hC ht hg.1 hg.2.1 hg.2.2 h1 h2 h3
    unfold gM
    simp only [decide_eq_true hg, Bool.true_and]
    exact this
  · unfold gM
    simp only [decide_eq_false hg, Bool.false_and]
    exact l6Good_few cb0 d p e x af av ab cf cv cb fs vs bs w h4 h5 h6 hg
theorem implGoodM_any (ad : Option Addr) (c : Nat) (l : List Cc) (v : Value) (m : Mc) (w : World) (hl : l.length ≤ 1048576) (hcap : l.length ≤ c) (h : CRow w ad l) (hm : MRow w v m) :
    Calls Try.prog 22 #[.slice ad l.length c, v] w fun r w' => r = .returned (.bool (goodM l m)) ∧ Below w.heap.size w w' := by
  obtain ⟨af, cf, av, cv, ab, cb, rfl, h1, h2, h3, h4, h5, h6, -, -, -⟩ := hm
  obtain ⟨d, p, e, x, fs, vs, bs⟩ := m
  simp only at h1 h2 h3 h4 h5 h6 ⊢
  cases hc : closedT l with
  | none =>
    rw [show goodM l ⟨d, p, e, x, fs, vs, bs⟩ = false by unfold goodM; rw [hc]]
    exact implGood_few ad c l d p e x af av ab cf cv cb fs vs bs w hl hcap h h4 h5 h6 (.inl (by unfold closed; rw [hc]; rfl))
  | some a =>
    by_cases hg : fs.length ≤ 500 ∧ vs.length ≤ 500 ∧ bs.length ≤ 500
    · have := implGood_some ad c l a d p e x af av ab cf cv cb fs vs bs w hcap h hc hg.1 hg.2.1 hg.2.2 h1 h2 h3
      unfold goodM gM
      simp only [hc, decide_eq_true hg, Bool.true_and]
      exact this
    · rw [show goodM l ⟨d, p, e, x, fs, vs, bs⟩ = false by unfold goodM gM; simp only [hc, decide_eq_false hg, Bool.false_and]]
      exact implGood_few ad c l d p e x af av ab cf cv cb fs vs bs w hl hcap h h4 h5 h6 (.inr hg)

set_option maxHeartbeats 1000000 in
theorem specGoodM_any (ad : Option Addr) (c : Nat) (l : List Cc) (v : Value) (m : Mc) (w : World) (hl : l.length ≤ 1048576) (h : CRow w ad l) (hm : MRow w v m) :
    Calls Try.prog 20 #[.slice ad l.length c, v] w fun r w' => r = .returned (.bool (goodM l m)) ∧ Below w.heap.size w w' := by
  have HM := hide hm
  obtain ⟨af, cf, av, cv, ab, cb, rfl, -, -, -, -, -, -, -, -, -⟩ := hm
  obtain ⟨d, p, e, x, fs, vs, bs⟩ := m
  simp only at HM ⊢
  have hB0 : Below w.heap.size w (w.alloc (.cells #[.bool d, .int .i64 p, .int .i64 e, .int .i64 x, .slice af fs.length cf, .slice av vs.length cv, .slice ab bs.length cb] 28)) := (Below.refl _ _).alloc (Nat.le_refl _) _
  have HX := hide (Bx.new w #[.bool d, .int .i64 p, .int .i64 e, .int .i64 x, .slice af fs.length cf, .slice av vs.length cv, .slice ab bs.length cb] 28)
  cases hc : closedT l with
  | none =>
    have HC := hide (fun (w' : World) (hb : Below w.heap.size w w') => l6Of_none ad c l w' hl (h.below hb) hc)
    rw [show goodM l ⟨d, p, e, x, fs, vs, bs⟩ = false by unfold goodM; rw [hc]]
    clear h hc
    go_enter Try.func20, Try.ntmps20
    go_wp2_with fail
    refine (HC.out _ hB0).mono ?_
    rintro r w1 ⟨rfl, hb1⟩
    have hB1 : Below w.heap.size w w1 := hB0.trans (hb1.mono (by simp))
    clear hb1
    go_wp2_with fail
    go_ret
    exact ⟨rfl, hB1⟩
  | some a =>
    have HC := hide (fun (w' : World) (hb : Below w.heap.size w w') => l6Of_some ad c l a w' (h.below hb) hc)
    have HG := hide (fun (w' : World) (cb0 : Nat) (hb : Below w.heap.size w w') (hcd : CD w' cb0 (.slice ad l.length c) l.length a) => l6Good_any cb0 ad c l a _ _ w' (closedT_some hc).1 hcd (h.below hb) (HM.out.below hb))
    rw [show goodM l ⟨d, p, e, x, fs, vs, bs⟩ = gM a l ⟨d, p, e, x, fs, vs, bs⟩ by unfold goodM; rw [hc]]
    obtain ⟨G, hG⟩ : ∃ G, G = gM a l ⟨d, p, e, x, fs, vs, bs⟩ := ⟨_, rfl⟩
    rw [← hG] at HG ⊢
    clear h hc hG
    go_enter Try.func20, Try.ntmps20
    go_wp2_with fail
    refine (HC.out _ hB0).mono ?_
    rintro r w1 ⟨cb0, rfl, hcd, -, hb1⟩
    have hB1 : Below w.heap.size w w1 := hB0.trans (hb1.mono (by simp))
    have cx := (HX.out.below hb1 (by simp)).c
    have HG1 := hide (HG.out w1 cb0 hB1 hcd)
    clear hb1 hcd
    go_wp2_with fail
    refine HG1.out.mono ?_
    rintro r w2 ⟨rfl, hb2⟩
    have hB2 : Below w.heap.size w w2 := hB1.trans (hb2.mono hB1.size)
    clear hb2 cx
    go_wp2_with fail
    go_ret
    exact ⟨rfl, hB2⟩
end Go.Proofs.Ytdajalchdbgooaa.W

/-
  ReadBack of the program. Conditions: at most 1048576 cells.
-/
namespace Go.Proofs.Ytdajalchdbgooaa.W
open Go.ChangeShapes Go.WideShapes Go.ChangeAt Go.RowKit
set_option linter.unusedVariables false

set_option maxRecDepth 20000 in
set_option maxHeartbeats 4000000 in
theorem implBack_any (ad : Option Addr) (c : Nat) (l : List Cc) (v : Value) (m : Mc) (w : World) (hl : l.length ≤ 1048576) (hcap : l.length ≤ c) (h : CRow w ad l) (hm : MRow w v m) :
    Calls Try.prog 26 #[.slice ad l.length c, v] w fun e w' => ∃ s', e = .returned (.tuple #[s', .bool (bkB l m)]) ∧ w'.ownsRow w.heap.size 59 2 s' (bkL l m).length (cv (bkL l m)) ∧ Below w.heap.size w w' := by
  have HM := hide hm
  obtain ⟨af, cf, av, cv', ab, cb', rfl, h1, h2, h3, h4, h5, h6, h7, h8, h9⟩ := hm
  have hb0 : Below w.heap.size w (w.alloc (.cells #[.bool m.done, .int .i64 m.pl, .int .i64 m.env, .int .i64 m.val, .slice af m.fs.length cf, .slice av m.vs.length cv', .slice ab m.bs.length cb'] 28)) := (Below.refl _ _).alloc (Nat.le_refl _) _
  have HG := hide (implGoodM_any ad c l _ m _ hl hcap (h.below hb0) (HM.out.below hb0))
  by_cases hO : goodM l m = true ∧ m.done = true ∧ m.fs.length = 0
  · obtain ⟨g1, g2, g3⟩ := hO
    obtain ⟨a, hca, hC, hGM, j, hv, hjl⟩ := bk_good g1 g2
    obtain ⟨r1, r2, r3, r4⟩ := bk_run hC hGM hv hjl
    obtain ⟨tb, tof, rfl, hrow⟩ : ∃ tb tof, ad = some ⟨tb, tof, none⟩ ∧ CRowAt w tb tof l := by
      rcases h with h | h
      · have := hC.pos; rw [h] at this; simp at this
      · exact h
    have HGC := hide (fun (w' : World) (hs : (bkT l m).flat.length ≤ 600) => goodCells_any (pvT (bkT l m)) (bkT l m).flat (mcT (F.ok_fit r3) r4) (by omega) w')
    have HR1 := hide r1
    have HR2 := hide r2
    have HH1 := hide h1
    have HH2 := hide h2
    have HH3 := hide h3
    have HRow := hide hrow
    have HCl := hide hC
    have HGm := hide hGM
    have hbo : bkO l m = decide ((bkT l m).flat.length ≤ 600) := by unfold bkO; rw [g1, g2, decide_eq_true g3]; simp
    have HBO := hide hbo
    rw [g1] at HG
    have hvj : j < m.vs.length := hjl
    obtain ⟨T, u, hT⟩ := pvT_iface r4
    obtain ⟨TW, uW, hTW⟩ := pvT_iface (rbW_len l m.vs m.bs m.vs.length (j : Int) 0)
    have HT := hide hT
    have HTW := hide hTW
    rw [hT] at HGC
    have hfz : m.fs.length = 0 := g3
    rw [g2, hv, hfz] at HG hb0
    rw [g2, hv, hfz]
    have HF0 := hide hfz
    clear hca hC hGM r1 r2 r3 r4 h1 h2 h3 h hrow hbo hT hTW HM g1 g3 hfz
    go_enter Try.func26, Try.ntmps26
    go_wp2_with fail
    refine Calls.mono HG.out ?_
    rintro e w1 ⟨rfl, hb1⟩
    have hBm : Bx w1 w.heap.size #[.bool true, .int .i64 m.pl, .int .i64 m.env, .int .i64 (j : Int), .slice af 0 cf, .slice av m.vs.length cv', .slice ab m.bs.length cb'] 28 := (hb1.block _ (by simp)).trans (heap_alloc_new _ _)
    have hcm := hBm.c
    have HB1 := hide (hb0.trans (hb1.mono hb0.size))
    have hml := hBm.lt
    have HBm := hide hBm
    clear hb1 hBm HG hb0
    obtain ⟨B, hBd⟩ : ∃ B : RdB, B = ⟨w1, true, m.pl, m.env, (j : Int), af, 0, cf, av, cv', ab, cb', tb, tof, c, l, a, m⟩ := ⟨_, rfl⟩
    have HOk : Hid B.ok := hide (by
      rw [hBd]
      exact ⟨HCl.out, HGm.out, HH2.out.below HB1.out, HH3.out.below HB1.out, HRow.out.below HB1.out, hcap⟩)
    have HVP : Hid (∀ w', B.core 0 w' → Calls Try.prog 62 #[.pointer (some ⟨w1.heap.size, 0, none⟩), .int .i64 (j : Int)] w' fun e w'' => e = .returned (.iface TW uW) ∧ B.core (rbW l m.vs m.bs m.vs.length (j : Int) 0).2 w'' ∧ Oth w1.heap.size w' w'') := hide (fun w' hc => by
      have := vp_any B HOk.out m.vs.length j 0 w' hvj (by rw [hBd]; exact hvj) hc
      subst hBd
      simp only at this
      rw [HTW.out] at this
      exact this)
    have HCells : Hid (∀ s, B.cells s = #[.bool true, .int .i64 m.pl, .int .i64 m.env, .int .i64 (j : Int), .slice af 0 cf, .slice av m.vs.length cv', .slice ab m.bs.length cb', .slice (some ⟨tb, tof, none⟩) l.length c, .int .i64 s]) := hide (fun s => by rw [hBd]; rfl)
    have HWB : Hid (B.wB = w1) := hide (by rw [hBd])
    clear hBd
    obtain ⟨R2, hR2⟩ : ∃ R2, R2 = (rbW l m.vs m.bs m.vs.length (j : Int) 0).2 := ⟨_, rfl⟩
    rw [← hR2] at HVP
    have HR2e := hide hR2
    clear hR2
    go_wp2_with fail
    have hcore0 : B.core 0 (w1.alloc (.cells #[.bool true, .int .i64 m.pl, .int .i64 m.env, .int .i64 (j : Int), .slice af 0 cf, .slice av m.vs.length cv', .slice ab m.bs.length cb', .slice (some ⟨tb, tof, none⟩) l.length c, .int .i64 0] 107)) := by
      unfold RdB.core
      rw [HWB.out, HCells.out]
      exact ⟨Bx.new _ _ _, by simp, fun k hk => heap_alloc_old _ _ hk⟩
    refine Calls.mono (HVP.out _ hcore0) ?_
    rintro e w2 ⟨rfl, hc2, ho2⟩
    have hx2 := hc2.1
    rw [HWB.out, HCells.out] at hx2
    have hcx := hx2.c
    have HB2 : Hid (Below w.heap.size w w2) := hide ((HB1.out.alloc HB1.out.size _).trans (ho2.below (by have := HB1.out.size; simp; omega) HB1.out.size))
    clear hcore0 hc2 ho2 hx2 HVP hcm
    by_cases hs : (bkT l m).flat.length ≤ 600
    · have e1 := HR1.out hs
      have e2 : R2 = ((bkT l m).flat.length : Int) := by rw [HR2e.out, e1]
      have e3 : Value.iface TW uW = .iface T u := by rw [← HTW.out, e1, HT.out]
      simp only [Value.iface.injEq] at e3
      obtain ⟨rfl, rfl⟩ := e3
      have hr6 : ¬ 600 < R2 := by omega
      have hbb : bkB l m = goodT (bkT l m).flat := by unfold bkB; rw [HBO.out, decide_eq_true hs, Bool.true_and]
      have hbl : bkL l m = gd (bkT l m).flat := by unfold bkL; rw [HBO.out, decide_eq_true hs, if_pos rfl]
      have HBb := hide hbb
      have HBl := hide hbl
      have HGc := hide (fun w' => HGC.out w' hs)
      clear e1 e2 hbb hbl HGC
      go_wp2_with fail
      refine Calls.mono (HGc.out _) ?_
      rintro e w3 ⟨s', rfl, hown, hb3⟩
      obtain ⟨sa, sc, rfl⟩ := own_form hown
      have HO := hide (own_lower hown HB2.out.size)
      have HB3 := hide (HB2.out.trans (hb3.mono HB2.out.size))
      obtain ⟨NL, hNL⟩ : ∃ NL, NL = (gd (bkT l m).flat).length := ⟨_, rfl⟩
      obtain ⟨GB, hGB⟩ : ∃ GB, GB = goodT (bkT l m).flat := ⟨_, rfl⟩
      rw [← hNL] at HO ⊢
      rw [← hGB]
      have HNL := hide hNL
      have HGB := hide hGB
      clear hown hb3 hNL hGB HGc
      go_wp2_with fail
      refine bodyPost_ret (v := .tuple #[.slice sa NL sc, .bool GB]) (by simp [results, Try.results26, go_sem]) rfl ⟨_, by rw [HBb.out, ← HGB.out], ?_, HB3.out⟩
      rw [HBl.out, ← HNL.out]
      exact HO.out
    · have hr6 : 600 < R2 := by rw [HR2e.out]; exact HR2.out (by omega)
      have hbb : bkB l m = false := by unfold bkB; rw [HBO.out, decide_eq_false hs, Bool.false_and]
      have hbl : bkL l m = [] := by unfold bkL; rw [HBO.out, decide_eq_false hs]; rfl
      have HBb := hide hbb
      have HBl := hide hbl
      clear hbb hbl
      go_wp2_with fail
      refine bodyPost_ret (v := .tuple #[.slice none 0 0, .bool false]) (by simp [results, Try.results26, go_sem]) rfl ⟨_, by rw [HBb.out], ?_, HB2.out⟩
      rw [HBl.out]
      exact World.ownsRow_nil _ _ _ _
  · have hbo : bkO l m = false := by
      unfold bkO
      cases g1 : goodM l m with
      | false => rfl
      | true =>
        cases g2 : m.done with
        | false => rfl
        | true =>
          have g3 : ¬ m.fs.length = 0 := fun g3 => hO ⟨g1, g2, g3⟩
          rw [decide_eq_false g3]; rfl
    have hbb : bkB l m = false := by unfold bkB; rw [hbo]; rfl
    have hbl : bkL l m = [] := by unfold bkL; rw [hbo]; rfl
    rw [hbb, hbl]
    have HOn := hide hO
    obtain ⟨GD, hGD⟩ : ∃ GD, GD = goodM l m := ⟨_, rfl⟩
    rw [← hGD] at HG HOn
    obtain ⟨DN, hDN⟩ : ∃ DN, DN = m.done := ⟨_, rfl⟩
    rw [← hDN] at HG HOn hb0 ⊢
    obtain ⟨FN, hFN⟩ : ∃ FN, FN = m.fs.length := ⟨_, rfl⟩
    rw [← hFN] at HG HOn hb0 ⊢
    clear hbo hbb hbl hO hGD hDN hFN h h1 h2 h3 HM h4 h7
    cases GD with
    | false =>
      go_enter Try.func26, Try.ntmps26
      go_wp2_with fail
      refine Calls.mono HG.out ?_
      rintro e w1 ⟨rfl, hb1⟩
      have HB1 := hide (hb0.trans (hb1.mono hb0.size))
      clear hb1 HG
      go_wp2_with fail
      exact bodyPost_ret (v := .tuple #[.slice none 0 0, .bool false]) (by simp [results, Try.results26, go_sem]) rfl ⟨_, rfl, World.ownsRow_nil _ _ _ _, HB1.out⟩
    | true =>
      cases DN with
      | false =>
        go_enter Try.func26, Try.ntmps26
        go_wp2_with fail
        refine Calls.mono HG.out ?_
        rintro e w1 ⟨rfl, hb1⟩
        have hBm := (hb1.block w.heap.size (by simp)).trans (heap_alloc_new _ _)
        have hcm := cell_of_blk hBm
        have HB1 := hide (hb0.trans (hb1.mono hb0.size))
        clear hb1 HG hBm
        go_wp2_with fail
        exact bodyPost_ret (v := .tuple #[.slice none 0 0, .bool false]) (by simp [results, Try.results26, go_sem]) rfl ⟨_, rfl, World.ownsRow_nil _ _ _ _, HB1.out⟩
      | true =>
        have hfn : (0 : Int) < (FN : Int) := by
          have := HOn.out
          have h0 : ¬ FN = 0 := fun h => this ⟨rfl, rfl, h⟩
          omega
        clear HOn
        go_enter Try.func26, Try.ntmps26
        go_wp2_with fail
        refine Calls.mono HG.out ?_
        rintro e w1 ⟨rfl, hb1⟩
        have hBm := (hb1.block w.heap.size (by simp)).trans (heap_alloc_new _ _)
        have hcm := cell_of_blk hBm
        have HB1 := hide (hb0.trans (hb1.mono hb0.size))
        clear hb1 HG hBm
        go_wp2_with fail
        exact bodyPost_ret (v := .tuple #[.slice none 0 0, .bool false]) (by simp [results, Try.results26, go_sem]) rfl ⟨_, rfl, World.ownsRow_nil _ _ _ _, HB1.out⟩
end Go.Proofs.Ytdajalchdbgooaa.W

/-
  Trees told as cells by the specification: contracts of l3Flat and l3Tell. Conditions: at most 1048576 cells.
-/
namespace Go.Proofs.Ytdajalchdbgooaa.W
open Go.ChangeShapes Go.WideShapes Go.ChangeAt Go.RowKit
set_option linter.unusedVariables false

def L3TGoal (k : F) : Prop := ∀ (x : Cc) (s v : Value) (base n : Nat) (xs : List Value) (P : Nat → Prop) (w : World), (∀ g, P g → g < w.heap.size → v.ownBlock ≠ some g) → n + (k.flat.length + 1) ≤ 1048576 → base ≤ w.heap.size → KidT w P k s → w.ownsRow base 59 2 v n xs →
    Calls Try.prog 86 #[.agg #[.int .i64 x.k, .int .i64 x.n, s], v] w fun e w' => ∃ v', e = .returned v' ∧ w'.ownsRow base 59 2 v' (n + (k.flat.length + 1)) (xs ++ cv (x :: k.flat)) ∧ w.grownBy w' v.ownBlock ∧ Apart w v v'

set_option maxRecDepth 20000 in
set_option maxHeartbeats 2000000 in
theorem l3Flat_any : ∀ k, L3TGoal k := by
  apply F.rec_kids
  intro k ih x s v base n xs P w hsep hn hb hT hown
  have IH := hide ih
  have HT := hide hT
  have HO := hide hown
  have HSep := hide hsep
  obtain ⟨sad, sc, rfl⟩ := hT.form
  obtain ⟨ad, c, rfl⟩ := iOwn_form hown
  obtain ⟨i0, hi0, hz0, hz1, hz2⟩ := infoPartsT infoCe
  have Hi := hide hi0
  have M1 : Hid (n + 1 ≤ maxLen) := hide (by unfold maxLen; omega)
  clear ih hT hown hsep hi0
  have hkl := F.len_flat k
  obtain ⟨KL, hKL⟩ : ∃ KL, KL = k.len := ⟨_, rfl⟩
  rw [← hKL] at HT hkl ⊢
  have HKL := hide hKL
  clear hKL
  obtain ⟨xk, xn⟩ := x
  simp only
  go_enter Try.func86, Try.ntmps86
  go_wp2_with (at_builtin; refine wpList_append_sep rfl _ _ 31 rfl base 59 i0 (.agg #[.int .i64 0, .int .i64 0]) 2 16 Try.underlying31 Hi.out hz0 hz1 hz2 rfl (by decide) _ n xs rfl ((HO.out.alloc _).alloc _) ⟨w.heap.size + 1, 0, none⟩ 1 1 [.int .i64 xk, .int .i64 xn] rfl rfl (c2_news (by have := heap_alloc_new (w.alloc (.cells #[.int .i64 xk, .int .i64 xn, .slice sad KL sc] 102)) (.cells #[.int .i64 xk, .int .i64 xn] 59); simpa using this)) (c2_one _ _) M1.out (by omega) (by simp; omega) ?_)
  intro v1 w1 hown1 hgrow1 hap1
  obtain ⟨ad1, c1, rfl⟩ := iOwn_form hown1
  have hol : ∀ k, (Value.slice ad n c).ownBlock = some k → k < w.heap.size := fun k hk => (HO.out.lt k hk).2
  have HO1 := hide hown1
  have g1 : w.grownBy w1 (Value.slice ad n c).ownBlock := grownT (grownA w (.cells #[.int .i64 xk, .int .i64 xn, .slice sad KL sc] 102) _) (grownT (grownA _ (.cells #[.int .i64 xk, .int .i64 xn] 59) _) hgrow1 (fun k hk => .inl hk)) (fun k hk => .inl hk)
  have HG1 := hide g1
  have HA1 : Hid (Apart w (.slice ad n c) (.slice ad1 (n + 1) c1)) := hide (fun g hg => by
    rcases hap1 g hg with h | h
    · exact .inl h
    · right; simp at h; omega)
  have y2 : w1.cell? ⟨w.heap.size, 2, none⟩ = some (.slice sad KL sc) := hgrow1.cell (a := ⟨w.heap.size, 2, none⟩) (by simp) (fun e => by have := hol w.heap.size e.symm; omega)
  have HP : Hid (KidT w (fun g => P g ∧ g < w.heap.size) k (.slice sad KL sc)) := hide (HT.out.weak (fun g h1 h2 => ⟨h1, h2⟩))
  clear hown1 hgrow1 hap1 g1
  go_wp2_with fail
  clear y2
  go_loopw [1, 18] (fun v1 i w' => ∃ a b : F, k = a.app b ∧ i = .int .i64 (a.len : Int) ∧ w'.ownsRow base 59 2 v1 (n + (a.flat.length + 1)) (xs ++ cv (⟨xk, xn⟩ :: a.flat)) ∧ w.grownBy w' (Value.slice ad n c).ownBlock ∧ Apart w (.slice ad n c) v1) (fun _ i _ => KL - (intOf i).toNat)
  case atStart => exact ⟨.nil, k, rfl, rfl, HO1.out, HG1.out, HA1.out⟩
  case round =>
    obtain ⟨a, b, hk, rfl, hown, hg, hap⟩ := hrel
    obtain ⟨rad, rc, hform⟩ := iOwn_form hown
    subst hform
    have HOr := hide hown
    have HGr := hide hg
    have HAr := hide hap
    clear hown hg hap HO1 HG1 HA1
    cases b with
    | nil =>
      rw [F.app_nil] at hk
      subst hk
      have hKL := HKL.out
      rw [← hKL]
      clear hKL
      go_wp2_with fail
      go_ret
      exact ⟨_, rfl, HOr.out, HGr.out, HAr.out⟩
    | cons y ky b =>
      have hkl2 : KL = a.len + (b.len + 1) := by rw [HKL.out, hk, F.app_len]; rfl
      have hlt' : (a.len : Int) < (KL : Int) := by omega
      have hfk : k.flat.length = a.flat.length + (1 + ky.flat.length + b.flat.length) := by rw [hk, F.app_flat]; simp [F.flat]; omega
      have hI := IH.out
      rw [hk] at hI
      obtain ⟨g, cap, sy, he, hPg, hg, hTy, p0, p1, p2⟩ := KidT.kid (a := a) (k := ky) (r := b) (x := y) (s := .slice sad KL sc) (by rw [← hk]; exact HP.out)
      simp only [Value.slice.injEq] at he
      obtain ⟨rfl, -, rfl⟩ := he
      have hng : (Value.slice ad n c).ownBlock ≠ some g := HSep.out g hPg.1 hPg.2
      have q0 := HGr.out.cell p0 (fun e => hng e.symm)
      have q1 := HGr.out.cell p1 (fun e => hng e.symm)
      have q2 := HGr.out.cell p2 (fun e => hng e.symm)
      have hszr := HGr.out.size
      have hkeep : ∀ g, (P g ∧ g < w.heap.size) → g < w.heap.size → wr.heap[g]? = w.heap[g]? ∧ (P g ∧ g < w.heap.size) := fun g h1 h2 => ⟨HGr.out.block g h2 (fun e => HSep.out g h1.1 h1.2 e.symm), h1⟩
      have hTr : KidT wr (fun g => P g ∧ g < w.heap.size) ky sy := hTy.keep hszr hkeep
      have hse : ∀ g, (P g ∧ g < w.heap.size) → (Value.slice rad (n + (a.flat.length + 1)) rc).ownBlock ≠ some g := fun g h1 e => by
        rcases HAr.out g e with h | h
        · exact HSep.out g h1.1 h1.2 h
        · omega
      have HC := hide (F.all_at hI y sy (.slice rad (n + (a.flat.length + 1)) rc) base (n + (a.flat.length + 1)) (xs ++ cv (⟨xk, xn⟩ :: a.flat)) (fun g => P g ∧ g < w.heap.size) (wr.alloc (.cells #[.int .i64 y.k, .int .i64 y.n, sy] 102)) (fun g h1 _ => hse g h1) (by omega) (by simp; omega) (hTr.below ((Below.refl _ _).alloc (Nat.le_refl _) _)) (HOr.out.alloc _))
      obtain ⟨yad, yc, rfl⟩ := hTy.form
      have HSn := hide (hk.trans (F.app_snoc a ky b y))
      have HDl : Hid ((a.app (.cons y ky .nil)).len = a.len + 1) := hide (by rw [F.app_len]; rfl)
      have HDf : Hid ((a.app (.cons y ky .nil)).flat = a.flat ++ (y :: ky.flat)) := hide (by rw [F.app_flat]; simp [F.flat])
      have HKl2 := hide hkl2
      clear p0 p1 p2 hTy hTr hI hk hkl2 hfk hkeep hse
      obtain ⟨al, hal⟩ : ∃ al, al = a.len := ⟨_, rfl⟩
      obtain ⟨kn, hkn⟩ : ∃ kn, kn = ky.len := ⟨_, rfl⟩
      obtain ⟨NN, hNN⟩ : ∃ NN, NN = n + (a.flat.length + 1) := ⟨_, rfl⟩
      rw [← hal] at hlt' q0 q1 q2 HDl HKl2 ⊢
      rw [← hkn] at HC q2
      rw [← hNN] at HC HOr HAr ⊢
      have HNN := hide hNN
      clear hal hkn hNN
      go_wp2_with fail
      refine Calls.mono HC.out ?_
      rintro e w2 ⟨v2, rfl, ho2, hg2, ha2⟩
      obtain ⟨ad2, c2, rfl⟩ := iOwn_form ho2
      have HO2 := hide ho2
      have HG2 : Hid (w.grownBy w2 (Value.slice ad n c).ownBlock) := hide (grownT (grownT HGr.out (grownA wr _ _) (fun k hk => .inl hk)) hg2 (fun k hk => HAr.out k hk))
      have HA2 : Hid (Apart w (.slice ad n c) (.slice ad2 (NN + (ky.flat.length + 1)) c2)) := hide (apartT HAr.out ha2 (by simp; omega))
      clear ho2 hg2 ha2 HC q0 q1 q2
      go_wp2_with fail
      have hkl2 := HKl2.out
      refine ⟨⟨a.app (.cons y ky .nil), b, HSn.out, by rw [HDl.out]; go_num, ?_, HG2.out, HA2.out⟩, by simp [intOf]; omega⟩
      have h3 := HO2.out
      rw [HDf.out]
      have e1 : n + ((a.flat ++ (y :: ky.flat)).length + 1) = NN + (ky.flat.length + 1) := by rw [HNN.out]; simp; omega
      have e2 : xs ++ cv (⟨xk, xn⟩ :: (a.flat ++ (y :: ky.flat))) = xs ++ cv (⟨xk, xn⟩ :: a.flat) ++ cv (y :: ky.flat) := by rw [← List.cons_append, cv_app, List.append_assoc]
      rw [e1, e2]
      exact h3

set_option maxRecDepth 20000 in
set_option maxHeartbeats 1000000 in
theorem l3Tell_any (x : Cc) (k : F) (s : Value) (P : Nat → Prop) (w : World) (hl : k.flat.length + 1 ≤ 1048576) (hT : KidT w P k s) :
    Calls Try.prog 61 #[.agg #[.int .i64 x.k, .int .i64 x.n, s]] w fun e w' => ∃ s', e = .returned (.tuple #[s', .bool (goodT (x :: k.flat))]) ∧ w'.ownsRow w.heap.size 59 2 s' (gd (x :: k.flat)).length (cv (gd (x :: k.flat))) ∧ Below w.heap.size w w' := by
  obtain ⟨sad, sc, rfl⟩ := hT.form
  have HT := hide hT
  obtain ⟨cs, hcs⟩ : ∃ cs, cs = x :: k.flat := ⟨_, rfl⟩
  have hlc : cs.length ≤ 1048576 := by rw [hcs]; simpa using hl
  have HC := hide (fun (w' : World) (hw : Below w.heap.size w w') => l3Flat_any k x (.slice sad k.len sc) (.slice none 0 0) w.heap.size 0 [] P w' (fun g _ _ => by simp [Value.ownBlock]) (by omega) hw.size (HT.out.below hw) (World.ownsRow_nil _ _ _ _))
  have hlen : 0 + (k.flat.length + 1) = cs.length := by rw [hcs]; simp
  rw [hlen, List.nil_append, ← hcs] at HC
  rw [← hcs]
  have HG := hide (fun (ad : Option Addr) (c : Nat) (w : World) (h : CRow w ad cs) => specGoodT_any ad c cs w hlc h)
  obtain ⟨KL, hKL⟩ : ∃ KL, KL = k.len := ⟨_, rfl⟩
  rw [← hKL] at HT HC ⊢
  clear hT hcs hlen hKL
  by_cases hgd : goodT cs = true
  · have e1 : gd cs = cs := if_pos hgd
    rw [e1, hgd]
    rw [hgd] at HG
    clear hgd e1
    go_enter Try.func61, Try.ntmps61
    go_wp2_with fail
    refine Calls.mono (HC.out _ ((Below.refl _ _).alloc (Nat.le_refl _) _)) ?_
    rintro e w1 ⟨v1, rfl, ho1, hg1, -⟩
    obtain ⟨ad, c, rfl, hlc2, hR⟩ := cOwn_row ho1
    have HO := hide ho1
    have HR := hide hR
    have hB1 : Below w.heap.size w w1 := ((Below.refl _ _).alloc (Nat.le_refl _) _).trans ⟨hg1.os, hg1.tape, hg1.output, hg1.size, fun k hk => hg1.block k (by simp; omega) (by simp [Value.ownBlock])⟩
    clear ho1 hR hg1
    go_wp2_with fail
    refine (HG.out _ _ _ HR.out).mono ?_
    rintro e w2 ⟨rfl, hb2⟩
    have hB2 : Below w.heap.size w w2 := hB1.trans (hb2.mono hB1.size)
    have HO2 := hide (tOwn_keep HO.out (fun k _ hk => hb2.block k hk))
    clear hb2
    go_wp2_with fail
    exact bodyPost_ret (v := .tuple #[.slice ad cs.length c, .bool true]) (by simp [results, Try.results61, go_sem]) rfl ⟨_, rfl, HO2.out, hB2⟩
  · have e1 : gd cs = [] := if_neg hgd
    rw [Bool.not_eq_true] at hgd
    rw [e1, hgd]
    rw [hgd] at HG
    clear hgd e1
    go_enter Try.func61, Try.ntmps61
    go_wp2_with fail
    refine Calls.mono (HC.out _ ((Below.refl _ _).alloc (Nat.le_refl _) _)) ?_
    rintro e w1 ⟨v1, rfl, ho1, hg1, -⟩
    obtain ⟨ad, c, rfl, hlc2, hR⟩ := cOwn_row ho1
    have HO := hide ho1
    have HR := hide hR
    have hB1 : Below w.heap.size w w1 := ((Below.refl _ _).alloc (Nat.le_refl _) _).trans ⟨hg1.os, hg1.tape, hg1.output, hg1.size, fun k hk => hg1.block k (by simp; omega) (by simp [Value.ownBlock])⟩
    clear ho1 hR hg1
    go_wp2_with fail
    refine (HG.out _ _ _ HR.out).mono ?_
    rintro e w2 ⟨rfl, hb2⟩
    have hB2 : Below w.heap.size w w2 := hB1.trans (hb2.mono hB1.size)
    have HO2 := hide (tOwn_keep HO.out (fun k _ hk => hb2.block k hk))
    clear hb2
    go_wp2_with fail
    exact bodyPost_ret (v := .tuple #[.slice none 0 0, .bool false]) (by simp [results, Try.results61, go_sem]) rfl ⟨_, rfl, World.ownsRow_nil _ _ _ _, hB2⟩
end Go.Proofs.Ytdajalchdbgooaa.W
