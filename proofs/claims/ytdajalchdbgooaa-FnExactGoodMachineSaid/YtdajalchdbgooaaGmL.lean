/-
  GoodMachine of both sides. Conditions: rows of at most 1048576.
-/
import Derived.Test.YtdajalchdbgooaaGmD
import Derived.Test.YtdajalchdbgooaaGmK
namespace Go.Proofs.Ytdajalchdbgooaa.W
open Go.ChangeShapes Go.WideShapes Go.ChangeAt Go.RowKit
set_option linter.unusedVariables false
set_option linter.unusedSimpArgs false

theorem l6Good_any (cb0 : Nat) (ad : Option Addr) (c : Nat) (l : List Cc) (a : F) (v : Value) (m : Mc) (w : World) (hCl : Cl l a) (hC : CD w cb0 (.slice ad l.length c) l.length a) (ht : CRow w ad l) (hm : MRow w v m) :
    Calls Try.prog 50 #[.pointer (some ⟨cb0, 0, none⟩), v] w fun r w' => r = .returned (.bool (gM a l m)) ∧ Below w.heap.size w w' := by
  obtain ⟨af, cf, av, cv, ab, cb, rfl, h1, h2, h3, h4, h5, h6, -, -, -⟩ := hm
  obtain ⟨d, p, e, x, fs, vs, bs⟩ := m
  simp only at h1 h2 h3 h4 h5 h6 ⊢
  by_cases hg : fs.length ≤ 500 ∧ vs.length ≤ 500 ∧ bs.length ≤ 500
  · have := l6Good_some cb0 ad c l a d p e x af av ab cf cv cb fs vs bs w hCl hC ht hg.1 hg.2.1 hg.2.2 h1 h2 h3
    unfold gM
    simp only [decide_eq_true hg, Bool.true_and]
    exact this
  · unfold gM
    simp only [decide_eq_false hg, Bool.false_and]
    exact l6Good_few cb0 d p e x af av ab cf cv cb fs vs bs w h4 h5 h6 hg
theorem implGoodM_any (ad : Option Addr) (c : Nat) (l : List Cc) (v : Value) (m : Mc) (w : World) (hl : l.length ≤ 1048576) (hcap : l.length ≤ c) (h : CRow w ad l) (hm : MRow w v m) :
    Calls Try.prog 22 #[.slice ad l.length c, v] w fun r w' => r = .returned (.bool (goodM l m)) ∧ Below w.heap.size w w' := by
  obtain ⟨af, cf, av, cv, ab, cb, rfl, h1, h2, h3, h4, h5, h6, -, -, -⟩ := hm
  obtain ⟨d, p, e, x, fs, vs, bs⟩ := m
  simp only at h1 h2 h3 h4 h5 h6 ⊢
  cases hc : closedT l with
  | none =>
    rw [show goodM l ⟨d, p, e, x, fs, vs, bs⟩ = false by unfold goodM; rw [hc]]
    exact implGood_few ad c l d p e x af av ab cf cv cb fs vs bs w hl hcap h h4 h5 h6 (.inl (by unfold closed; rw [hc]; rfl))
  | some a =>
    by_cases hg : fs.length ≤ 500 ∧ vs.length ≤ 500 ∧ bs.length ≤ 500
    · have := implGood_some ad c l a d p e x af av ab cf cv cb fs vs bs w hcap h hc hg.1 hg.2.1 hg.2.2 h1 h2 h3
      unfold goodM gM
      simp only [hc, decide_eq_true hg, Bool.true_and]
      exact this
    · rw [show goodM l ⟨d, p, e, x, fs, vs, bs⟩ = false by unfold goodM gM; simp only [hc, decide_eq_false hg, Bool.false_and]]
      exact implGood_few ad c l d p e x af av ab cf cv cb fs vs bs w hl hcap h h4 h5 h6 (.inr hg)

set_option maxHeartbeats 1000000 in
theorem specGoodM_any (ad : Option Addr) (c : Nat) (l : List Cc) (v : Value) (m : Mc) (w : World) (hl : l.length ≤ 1048576) (h : CRow w ad l) (hm : MRow w v m) :
    Calls Try.prog 20 #[.slice ad l.length c, v] w fun r w' => r = .returned (.bool (goodM l m)) ∧ Below w.heap.size w w' := by
  have HM := hide hm
  obtain ⟨af, cf, av, cv, ab, cb, rfl, -, -, -, -, -, -, -, -, -⟩ := hm
  obtain ⟨d, p, e, x, fs, vs, bs⟩ := m
  simp only at HM ⊢
  have hB0 : Below w.heap.size w (w.alloc (.cells #[.bool d, .int .i64 p, .int .i64 e, .int .i64 x, .slice af fs.length cf, .slice av vs.length cv, .slice ab bs.length cb] 28)) := (Below.refl _ _).alloc (Nat.le_refl _) _
  have HX := hide (Bx.new w #[.bool d, .int .i64 p, .int .i64 e, .int .i64 x, .slice af fs.length cf, .slice av vs.length cv, .slice ab bs.length cb] 28)
  cases hc : closedT l with
  | none =>
    have HC := hide (fun (w' : World) (hb : Below w.heap.size w w') => l6Of_none ad c l w' hl (h.below hb) hc)
    rw [show goodM l ⟨d, p, e, x, fs, vs, bs⟩ = false by unfold goodM; rw [hc]]
    clear h hc
    go_enter Try.func20, Try.ntmps20
    go_wp2_with fail
    refine (HC.out _ hB0).mono ?_
    rintro r w1 ⟨rfl, hb1⟩
    have hB1 : Below w.heap.size w w1 := hB0.trans (hb1.mono (by simp))
    clear hb1
    go_wp2_with fail
    go_ret
    exact ⟨rfl, hB1⟩
  | some a =>
    have HC := hide (fun (w' : World) (hb : Below w.heap.size w w') => l6Of_some ad c l a w' (h.below hb) hc)
    have HG := hide (fun (w' : World) (cb0 : Nat) (hb : Below w.heap.size w w') (hcd : CD w' cb0 (.slice ad l.length c) l.length a) => l6Good_any cb0 ad c l a _ _ w' (closedT_some hc).1 hcd (h.below hb) (HM.out.below hb))
    rw [show goodM l ⟨d, p, e, x, fs, vs, bs⟩ = gM a l ⟨d, p, e, x, fs, vs, bs⟩ by unfold goodM; rw [hc]]
    obtain ⟨G, hG⟩ : ∃ G, G = gM a l ⟨d, p, e, x, fs, vs, bs⟩ := ⟨_, rfl⟩
    rw [← hG] at HG ⊢
    clear h hc hG
    go_enter Try.func20, Try.ntmps20
    go_wp2_with fail
    refine (HC.out _ hB0).mono ?_
    rintro r w1 ⟨cb0, rfl, hcd, -, hb1⟩
    have hB1 : Below w.heap.size w w1 := hB0.trans (hb1.mono (by simp))
    have cx := (HX.out.below hb1 (by simp)).c
    have HG1 := hide (HG.out w1 cb0 hB1 hcd)
    clear hb1 hcd
    go_wp2_with fail
    refine HG1.out.mono ?_
    rintro r w2 ⟨rfl, hb2⟩
    have hB2 : Below w.heap.size w w2 := hB1.trans (hb2.mono hB1.size)
    clear hb2 cx
    go_wp2_with fail
    go_ret
    exact ⟨rfl, hB2⟩
end Go.Proofs.Ytdajalchdbgooaa.W
