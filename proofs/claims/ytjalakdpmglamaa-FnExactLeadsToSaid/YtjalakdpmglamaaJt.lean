/-
  Some texts of this proof in one: WkP, WkQ.
-/
import Derived.Test.YtjalakdpmglamaaJf
import Derived.Test.YtjalakdpmglamaaJe
import Derived.Test.YtjalakdpmglamaaJj
/-
  Terms whose variables may be up to 900000: what development and its like make on the way. No program here.
-/
namespace Go.Proofs.Ytjalakdpmglamaa.V
open Go.Proofs.Ytjalakdpmglamaa.W
def goodC (x : Cc) : Bool :=
  if x.k = 1 then inB x.n 0 900000 else if x.k = 2 then inB x.n (-1000000) 1000000 else decide (x.n = 0) && inB x.k 3 7
end Go.Proofs.Ytjalakdpmglamaa.V
namespace Go.Proofs.Ytjalakdpmglamaa.W
def F.okw : F → Prop
  | .nil => True
  | .cons x k r => V.goodC x = true ∧ k.len = ar x.k ∧ k.okw ∧ r.okw
end Go.Proofs.Ytjalakdpmglamaa.W
namespace Go.Proofs.Ytjalakdpmglamaa.V
open Go.Proofs.Ytjalakdpmglamaa.W
set_option linter.unusedVariables false
theorem F.app_okw : ∀ a b : F, (a.app b).okw ↔ a.okw ∧ b.okw
  | .nil, b => by simp [F.app, F.okw]
  | .cons x k r, b => by simp [F.app, F.okw, F.app_okw r b, and_assoc]
theorem ok_cons {x : Cc} {k r : F} (h : (F.cons x k r).okw) : goodC x = true ∧ k.len = ar x.k ∧ k.okw ∧ r.okw := h
theorem good_n {x : Cc} (h : goodC x = true) : -1000000 ≤ x.n ∧ x.n ≤ 1000000 := by
  unfold goodC at h
  unfold inB at h
  split at h
  · simp at h; omega
  · split at h
    · simp at h; omega
    · simp at h; omega
theorem good_ar {x : Cc} (h : goodC x = true) : inB x.k 1 7 = true := by
  unfold goodC at h
  split at h
  · rename_i h1; rw [h1]; rfl
  · split at h
    · rename_i h1; rw [h1]; rfl
    · unfold inB at h ⊢; simp at h ⊢; omega
def okT (x : Cc) (k : F) : Prop := goodC x = true ∧ k.len = ar x.k ∧ k.okw
theorem F.okw_fit : ∀ {a : F}, a.okw → a.fit
  | .nil, _ => trivial
  | .cons x k r, h => by
    obtain ⟨h1, h2, h3, h4⟩ := ok_cons h
    refine ⟨good_ar h1, fun h => ?_, h2, F.okw_fit h3, F.okw_fit h4⟩
    unfold goodC at h1
    rw [if_neg (by omega), if_neg (by omega)] at h1
    simp at h1
    exact h1.1
theorem good_w {x : Cc} (h : W.goodC x = true) : goodC x = true := by
  unfold W.goodC at h
  unfold goodC
  by_cases h1 : x.k = 1
  · rw [if_pos h1] at h ⊢; unfold inB at h ⊢; simp at h ⊢; omega
  · rw [if_neg h1] at h ⊢; exact h
theorem ok_w : ∀ {a : F}, a.ok → a.okw
  | .nil, _ => trivial
  | .cons x k r, h => ⟨good_w h.1, h.2.1, ok_w h.2.2.1, ok_w h.2.2.2⟩
end Go.Proofs.Ytjalakdpmglamaa.V

/-
  Cells that are such terms, and where they end. No program here.
-/
namespace Go.Proofs.Ytjalakdpmglamaa.V
open Go.Proofs.Ytjalakdpmglamaa.W
set_option linter.unusedVariables false
/-- Cells that are a term in this sense. -/
def treeW (l : List Cc) (a : F) : Prop := l = a.flat ∧ a.okw ∧ a.len = 1 ∧ l.length ≤ 600
theorem treeW_flat {l : List Cc} {a : F} (h : treeW l a) : l = a.flat ∧ a.okw ∧ a.len = 1 ∧ l.length ≤ 600 ∧ True := ⟨h.1, h.2.1, h.2.2.1, h.2.2.2, trivial⟩
theorem tree_one {y : Cc} {ky : F} (h : okT y ky) (hl : ky.flat.length + 1 ≤ 600) : treeW (y :: ky.flat) (.cons y ky .nil) := ⟨by simp [F.flat], ⟨h.1, h.2.1, h.2.2, trivial⟩, rfl, by simpa using hl⟩
def sz : List Cc → Nat → Nat → Option Nat
  | [], m, i => if m = 0 then some i else none
  | x :: l, m, i => if m = 0 then some i else if goodC x = true then sz l (m - 1 + ar x.k) (i + 1) else none
theorem sz_0 (l : List Cc) (i : Nat) : sz l 0 i = some i := by cases l <;> rfl
theorem sz_flat : ∀ (a : F) (r : List Cc) (m i : Nat), a.okw → sz (a.flat ++ r) (m + a.len) i = sz r m (i + a.flat.length)
  | .nil, r, m, i, _ => by simp [F.flat, F.len]
  | .cons x k s, r, m, i, ⟨h1, h2, h3, h4⟩ => by
    show sz (x :: (k.flat ++ s.flat) ++ r) (m + (s.len + 1)) i = _
    rw [List.cons_append, List.append_assoc, sz, if_neg (by omega), if_pos h1, show m + (s.len + 1) - 1 + ar x.k = (m + s.len) + k.len by rw [h2]; omega, sz_flat k _ _ _ h3, sz_flat s r m _ h4]
    congr 1
    simp [F.flat]; omega
end Go.Proofs.Ytjalakdpmglamaa.V
