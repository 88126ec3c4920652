/-
  The model of dominators: no program here.
-/
import Derived.Test.YtgmablmkjngkkaaGrY
namespace Go.Proofs.Ytgmablmkjngkkaa.W
open Go.ChangeShapes Go.WideShapes Go.ChangeAt Go.RowKit Go.Joins
set_option linter.unusedVariables false
set_option maxRecDepth 20000

/-- d dominates b: b is reached, and not without d. -/
def Dom (L : List (List Int)) (b d : Nat) : Prop := Rc L (-1) 0 b ∧ ¬ Rc L (d : Int) 0 b
open Classical in
noncomputable def dm (L : List (List Int)) (b d : Nat) : Bool := decide (Dom L b d)
theorem dm_iff {L : List (List Int)} {b d : Nat} : dm L b d = true ↔ Dom L b d := by simp [dm]
theorem Rc.any {L : List (List Int)} {no : Int} {s x : Nat} (h : Rc L no s x) : Rc L (-1) s x := by
  induction h with
  | start h => exact .start (by omega)
  | step _ h2 _ ih => exact ih.step h2 (by omega)
/-- What is not reached bars nobody. -/
theorem Dom.reached {L : List (List Int)} {b d : Nat} (h : Dom L b d) : Rc L (-1) 0 d := by
  refine Classical.byContradiction (fun hd => h.2 ?_)
  have := h.1
  clear h
  induction this with
  | start h => exact .start (fun e => hd (by obtain rfl : d = 0 := (by omega); exact .start h))
  | step h1 h2 h3 ih => exact ih.step h2 (fun e => hd (by
      rename_i x y
      obtain rfl : d = y := by omega
      exact h1.step h2 h3))
theorem Dom.self {L : List (List Int)} {b : Nat} (h : Rc L (-1) 0 b) : Dom L b b := ⟨h, fun h2 => h2.ne rfl⟩
theorem Dom.lt {L : List (List Int)} {b d : Nat} (hg : GG L) (h : Dom L b d) : b < L.length ∧ d < L.length := ⟨h.1.lt hg hg.1, h.reached.lt hg hg.1⟩
theorem Dom.zero {L : List (List Int)} {d : Nat} : Dom L 0 d ↔ d = 0 := by
  constructor
  · intro h
    refine Classical.byContradiction (fun hd => h.2 (.start (by omega)))
  · rintro rfl
    exact Dom.self (.start (by omega))
theorem Dom.ofZero {L : List (List Int)} {b : Nat} (h : Rc L (-1) 0 b) : Dom L b 0 := ⟨h, fun h2 => h2.first (by omega)⟩
/-- A dominator of what is gone on to is it, or a dominator of what goes on. -/
theorem Dom.back {L : List (List Int)} {b y d : Nat} (hb : Rc L (-1) 0 b) (he : Edge L b y) (h : Dom L y d) : d = y ∨ Dom L b d := by
  by_cases e : d = y
  · exact .inl e
  · exact .inr ⟨hb, fun h2 => h.2 (h2.step he (by omega))⟩
/-- What is closed from below is all that dominates. -/
theorem dom_of_fixed {L : List (List Int)} {f : Nat → Nat → Bool} (h0 : ∀ d, f 0 d = true → d = 0) (hc : ∀ b y, Rc L (-1) 0 b → Edge L b y → ∀ d, f y d = true → d = y ∨ f b d = true)
    {b d : Nat} (hb : Rc L (-1) 0 b) (h : f b d = true) : Dom L b d := by
  refine ⟨hb, fun h2 => ?_⟩
  clear hb
  induction h2 with
  | start h1 => exact h1 (by have := h0 d h; omega)
  | step h1 h2 h3 ih =>
    rename_i x y
    rcases hc x y h1.any h2 d h with e | e
    · omega
    · exact ih e
theorem Dom.trans {L : List (List Int)} {a b c : Nat} (h1 : Dom L a b) (h2 : Dom L b c) : Dom L a c := by
  refine ⟨h1.1, fun h3 => ?_⟩
  -- a is reached without c; then b lies on that way
  have key : ∀ x, Rc L (c : Int) 0 x → Rc L (b : Int) 0 x := by
    intro x hx
    induction hx with
    | start h => exact .start (fun e => h2.2 (by obtain rfl : b = 0 := (by omega); exact .start h))
    | step h4 h5 h6 ih => exact ih.step h5 (fun e => h2.2 (by
        rename_i y z
        obtain rfl : b = z := by omega
        exact h4.step h5 h6))
  exact h1.2 (key a h3)
theorem Dom.antisymm {L : List (List Int)} {a b : Nat} (h1 : Dom L a b) (h2 : Dom L b a) : a = b := by
  refine Classical.byContradiction (fun hn => ?_)
  -- no way comes to a or to b first
  have key : ∀ x, Rc L (-1) 0 x → x ≠ a ∧ x ≠ b ∧ Rc L (a : Int) 0 x ∧ Rc L (b : Int) 0 x := by
    intro x hx
    induction hx with
    | start h =>
      have ha : a ≠ 0 := fun e => by
        subst e
        have := (Dom.zero.1 h1)
        omega
      have hb : b ≠ 0 := fun e => by
        subst e
        have := (Dom.zero.1 h2)
        omega
      exact ⟨fun e => ha e.symm, fun e => hb e.symm, .start (by omega), .start (by omega)⟩
    | step h3 h4 h5 ih =>
      rename_i y z
      obtain ⟨i1, i2, i3, i4⟩ := ih
      have ha : z ≠ a := fun e => by
        subst e
        exact h1.2 (i4.step h4 (by omega))
      have hb : z ≠ b := fun e => by
        subst e
        exact h2.2 (i3.step h4 (by omega))
      exact ⟨ha, hb, i3.step h4 (by omega), i4.step h4 (by omega)⟩
  exact (key a h1.1).1 rfl
/-- Of two dominators one dominates the other. -/
theorem Dom.row {L : List (List Int)} {b d e : Nat} (h1 : Dom L b d) (h2 : Dom L b e) : Dom L d e ∨ Dom L e d := by
  refine Classical.byContradiction (fun hn => ?_)
  have hde : d ≠ e := fun x => hn (.inl (by subst x; exact Dom.self h1.reached))
  have n1 : Rc L (e : Int) 0 d := Classical.byContradiction (fun h => hn (.inl ⟨h1.reached, h⟩))
  have n2 : Rc L (d : Int) 0 e := Classical.byContradiction (fun h => hn (.inr ⟨h2.reached, h⟩))
  have key : ∀ x, Rc L (-1) 0 x → Rc L (d : Int) 0 x ∨ Rc L (e : Int) 0 x := by
    intro x hx
    induction hx with
    | start h =>
      by_cases hd : d = 0
      · exact .inr (.start (by omega))
      · exact .inl (.start (by omega))
    | step h3 h4 h5 ih =>
      rename_i y z
      rcases ih with ih | ih
      · by_cases hz : z = d
        · subst hz; exact .inr n1
        · exact .inl (ih.step h4 (by omega))
      · by_cases hz : z = e
        · subst hz; exact .inl n2
        · exact .inr (ih.step h4 (by omega))
  rcases key b h1.1 with h | h
  · exact h1.2 h
  · exact h2.2 h
/-- The dominators of a block, rising. -/
noncomputable def dl (L : List (List Int)) (b : Nat) : List Int := lst (dm L b) 12
theorem dl_len (L : List (List Int)) (b : Nat) : (dl L b).length ≤ 12 := lst_len _ _
theorem dl_mem {L : List (List Int)} (hg : GG L) {b d : Nat} : (d : Int) ∈ dl L b ↔ Dom L b d := by
  unfold dl
  rw [lst_mem]
  constructor
  · rintro ⟨k, e, -, h⟩
    obtain rfl : d = k := by omega
    exact dm_iff.1 h
  · intro h
    have := (h.lt hg).2
    have := hg.2.1
    exact ⟨d, rfl, by omega, dm_iff.2 h⟩
end Go.Proofs.Ytgmablmkjngkkaa.W
