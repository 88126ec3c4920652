/-
  GoodMachine of both sides. Conditions: rows of at most 1048576.
-/
import Derived.Test.YtdajalchdbgooaaGreatGmD
import Derived.Test.YtdajalchdbgooaaGreatGmK
namespace Go.Proofs.YtdajalchdbgooaaGreat.W
open Go.ChangeShapes Go.WideShapes Go.ChangeAt Go.RowKit
set_option linter.unusedVariables false
set_option linter.unusedSimpArgs false

theorem l6Good_any (cb0 : Nat) (ad : Option Addr) (c : Nat) (l : List Cc) (a : F) (v : Value) (m : Mc) (w : World) (hCl : Cl l a) (hC : CD w cb0 (.slice ad l.length c) l.length a) (ht : CRow w ad l) (hm : MRow w v m) :
    Calls Tryz.prog 19 #[.pointer (some ⟨cb0, 0, none⟩), v] w fun r w' => r = .returned (.bool (gM a l m)) ∧ Below w.heap.size w w' := by
  obtain ⟨af, cf, av, cv, ab, cb, rfl, h1, h2, h3, h4, h5, h6, -, -, -⟩ := hm
  obtain ⟨d, p, e, x, fs, vs, bs⟩ := m
  simp only at h1 h2 h3 h4 h5 h6 ⊢
  by_cases hg : fs.length ≤ 500 ∧ vs.length ≤ 500 ∧ bs.length ≤ 500
  · have := l6Good_some cb0 ad c l a d p e x af av ab cf cv cb fs vs bs w hCl hC ht hg.1 hg.2.1 hg.2.2 h1 h2 h3
    unfold gM
    simp only [decide_eq_true hg, Bool.true_and]
    exact this
  · unfold gM
    simp only [decide_eq_false hg, Bool.false_and]
    exact l6Good_few cb0 d p e x af av ab cf cv cb fs vs bs w h4 h5 h6 hg
theorem implGoodM_any (ad : Option Addr) (c : Nat) (l : List Cc) (v : Value) (m : Mc) (w : World) (hl : l.length ≤ 1048576) (hcap : l.length ≤ c) (h : CRow w ad l) (hm : MRow w v m) :
    Calls Tryz.prog 26 #[.slice ad l.length c, v] w fun r w' => r = .returned (.bool (goodM l m)) ∧ Below w.heap.size w w' := by
  obtain ⟨af, cf, av, cv, ab, cb, rfl, h1, h2, h3, h4, h5, h6, -, -, -⟩ := hm
  obtain ⟨d, p, e, x, fs, vs, bs⟩ := m
  simp only at h1 h2 h3 h4 h5 h6 ⊢
  cases hc : closedT l with
  | none =>
    rw [show goodM l ⟨d, p, e, x, fs, vs, bs⟩ = false by unfold goodM; rw [hc]]
    exact implGood_few ad c l d p e x af av ab cf cv cb fs vs bs w hl hcap h h4 h5 h6 (.inl (by unfold closed; rw [hc]; rfl))
  | some a =>
    by_cases hg : fs.length ≤ 500 ∧ vs.length ≤ 500 ∧ bs.length ≤ 500
    · have := implGood_some ad c l a d p e x af av ab cf cv cb fs vs bs w hcap h hc hg.1 hg.2.1 hg.2.2 h1 h2 h3
      unfold goodM gM
      simp only [hc, decide_eq_true hg, Bool.true_and]
      exact this
    · rw [show goodM l ⟨d, p, e, x, fs, vs, bs⟩ = false by unfold goodM gM; simp only [hc, decide_eq_false hg, Bool.false_and]]
      exact implGood_few ad c l d p e x af av ab cf cv cb fs vs bs w hl hcap h h4 h5 h6 (.inr hg)
end Go.Proofs.YtdajalchdbgooaaGreat.W
