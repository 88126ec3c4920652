/-
  Types in the place of a type's variables: the model of IsInstance. No program here.
-/
import Derived.Test.YtjffignbiabmaabTyB
namespace Go.Proofs.Ytjffignbiabmaab.Y
open Go.Proofs.Ytjffignbiabmaab.W
set_option linter.unusedVariables false

/-- The same cells. -/
def sameC : List Cc → List Cc → Bool
  | [], [] => true
  | x :: a, y :: b => decide (x.k = y.k) && decide (x.n = y.n) && sameC a b
  | _, _ => false
theorem sameC_iff : ∀ a b : List Cc, sameC a b = true ↔ a = b
  | [], [] => by simp [sameC]
  | [], y :: b => by simp [sameC]
  | x :: a, [] => by simp [sameC]
  | ⟨k, n⟩ :: a, ⟨k', n'⟩ :: b => by simp [sameC, sameC_iff a b, and_assoc]
theorem sameC_refl (a : List Cc) : sameC a a = true := (sameC_iff a a).2 rfl

/-- What stands in the place of each variable. -/
abbrev Sg := Int → Option (List Cc)
def upd (σ : Sg) (n : Int) (v : List Cc) : Sg := fun m => if m = n then some v else σ m
def bind1 (σ : Sg) (n : Int) (v : List Cc) : Option Sg :=
  match σ n with
  | none => some (upd σ n v)
  | some u => if sameC u v = true then some σ else none
theorem upd_same {σ : Sg} {n : Int} {v : List Cc} (h : σ n = some v) : upd σ n v = σ := by
  funext m
  unfold upd
  split
  · rename_i e; rw [e, h]
  · rfl
/-- Types one by one in the place of others: what stands in the place of each variable. -/
def mtF : F → F → Sg → Option Sg
  | .cons x ka ra, .cons y kb rb, σ =>
    match (if y.k = 1 then bind1 σ y.n (x :: ka.flat) else if x.k = y.k then mtF ka kb σ else none) with
    | none => none
    | some σ' => mtF ra rb σ'
  | _, _, σ => some σ
def mt1 (x : Cc) (ka : F) (y : Cc) (kb : F) (σ : Sg) : Option Sg := if y.k = 1 then bind1 σ y.n (x :: ka.flat) else if x.k = y.k then mtF ka kb σ else none
theorem mtF_cons (x : Cc) (ka ra : F) (y : Cc) (kb rb : F) (σ : Sg) : mtF (.cons x ka ra) (.cons y kb rb) σ = (mt1 x ka y kb σ).bind (mtF ra rb) := by
  show (match mt1 x ka y kb σ with | none => none | some σ' => mtF ra rb σ') = _
  cases mt1 x ka y kb σ <;> rfl
theorem mtF_nil (σ : Sg) : mtF .nil .nil σ = some σ := rfl
theorem mtF_app : ∀ (ka kb ra rb : F) (σ : Sg), ka.len = kb.len → mtF (ka.app ra) (kb.app rb) σ = (mtF ka kb σ).bind (mtF ra rb)
  | .nil, .nil, ra, rb, σ, _ => rfl
  | .nil, .cons _ _ _, ra, rb, σ, h => by simp [F.len] at h
  | .cons _ _ _, .nil, ra, rb, σ, h => by simp [F.len] at h
  | .cons x k r, .cons y k' r', ra, rb, σ, h => by
    have hl : r.len = r'.len := by simpa [F.len] using h
    show mtF (.cons x k (r.app ra)) (.cons y k' (r'.app rb)) σ = _
    rw [mtF_cons, mtF_cons]
    cases mt1 x k y k' σ with
    | none => rfl
    | some σ' => simp only [Option.bind_some]; exact mtF_app r r' ra rb σ' hl
def noS : Sg := fun _ => none
/-- Whether types in the place of b's variables make a of it. -/
def inst (a b : F) : Bool := (mtF a b noS).isSome
theorem good_k {x : Cc} (h : goodC x = true) (h1 : x.k ≠ 1) : x.n = 0 ∧ (x.k = 2 ∨ x.k = 3) := by
  unfold goodC at h
  rw [if_neg h1] at h
  simp only [inB, Bool.and_eq_true, decide_eq_true_eq] at h
  omega
theorem good_v {x : Cc} (h : goodC x = true) (h1 : x.k = 1) : 0 ≤ x.n ∧ x.n ≤ 30 := by
  unfold goodC at h
  rw [if_pos h1] at h
  simpa [inB] using h
end Go.Proofs.Ytjffignbiabmaab.Y
