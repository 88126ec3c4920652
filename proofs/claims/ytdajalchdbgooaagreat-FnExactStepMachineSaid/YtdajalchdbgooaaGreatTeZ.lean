/-
  How many cells a term has: contracts of l3Size and of both SizeAt. Conditions: at most 1048576 cells.
-/
import Derived.Test.YtdajalchdbgooaaGreatTeS
namespace Go.Proofs.YtdajalchdbgooaaGreat.W
open Go.ChangeShapes Go.WideShapes Go.ChangeAt Go.RowKit
set_option linter.unusedVariables false

/-- What holds of each kid's kids. -/
def F.all (Q : F → Prop) : F → Prop
  | .nil => True
  | .cons _ k r => Q k ∧ r.all Q
theorem F.all_app {Q : F → Prop} : ∀ {a b : F}, (a.app b).all Q ↔ a.all Q ∧ b.all Q
  | .nil, b => by simp [F.app, F.all]
  | .cons _ k r, b => by simp [F.app, F.all, F.all_app (a := r), and_assoc]
theorem F.all_of {Q : F → Prop} (h : ∀ a : F, a.all Q → Q a) : ∀ a : F, a.all Q
  | .nil => trivial
  | .cons _ k r => ⟨h k (F.all_of h k), F.all_of h r⟩
/-- A term from its kids on. -/
theorem F.rec_kids {Q : F → Prop} (h : ∀ a : F, a.all Q → Q a) (a : F) : Q a := h a (F.all_of h a)
theorem F.all_at {Q : F → Prop} {a k r : F} {x : Cc} (h : (a.app (.cons x k r)).all Q) : Q k := (F.all_app.1 h).2.1
theorem F.app_snoc (a k r : F) (x : Cc) : a.app (.cons x k r) = (a.app (.cons x k .nil)).app r := by rw [F.app_assoc]; rfl

/-- How many cells the term at a place has. -/
def szT (l : List Cc) (p : Int) : Option Nat := if goodT l = true ∧ 0 ≤ p ∧ p < l.length then sz (l.drop p.toNat) 1 0 else none

theorem szT_within {l : List Cc} (hg : goodT l = true) {q : Nat} (hq : q < l.length) : ∃ x k r, rt 1 (l.drop q) = some (.cons x k .nil, r) ∧ szT l (q : Int) = some (k.flat.length + 1) ∧ k.flat.length < l.length := by
  unfold goodT at hg
  cases ht : treeT l with
  | none => rw [ht] at hg; cases hg
  | some a =>
    obtain ⟨h1, h2, h3, h4, h5⟩ := treeT_flat ht
    obtain ⟨b, r, hr⟩ := rt_within a [] q h2 (by rw [← h1]; exact hq)
    rw [List.append_nil, ← h1] at hr
    obtain ⟨e, o, n⟩ := rt_flat hr
    obtain ⟨x, k, rfl⟩ := F.len_1 n
    refine ⟨x, k, r, hr, ?_, ?_⟩
    · unfold szT
      rw [if_pos ⟨by unfold goodT; rw [ht]; rfl, by omega, by omega⟩, Int.toNat_natCast, sz_rd, hr]
      simp [F.flat]
    · have := congrArg List.length e
      simp [F.flat] at this
      omega
end Go.Proofs.YtdajalchdbgooaaGreat.W
