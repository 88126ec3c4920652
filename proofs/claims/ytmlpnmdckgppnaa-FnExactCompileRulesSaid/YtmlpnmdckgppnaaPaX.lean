/-
  Rows of numbers as values of a law's walk: a slice with what it holds. No program of its own.
-/
import Derived.Test.YtmlpnmdckgppnaaRwI
namespace Go.Proofs.Ytmlpnmdckgppnaa.W
open Go.ChangeShapes Go.WideShapes Go.ChangeAt Go.RowKit
set_option linter.unusedVariables false

/-- v is a slice of these numbers. -/
def IV (w : World) (v : Value) (l : List Int) : Prop := ∃ ad c, v = .slice ad l.length c ∧ IRow w ad l ∧ l.length ≤ 1048576
theorem IV.below {w w' : World} {v : Value} {l : List Int} (h : IV w v l) (hb : Below w.heap.size w w') : IV w' v l := by
  obtain ⟨ad, c, h1, h2, h3⟩ := h
  exact ⟨ad, c, h1, RRow.below h2 hb, h3⟩
theorem toIntS_v (v : Value) (l : List Int) (w : World) (h : IV w v l) :
    Calls Try.prog 22 #[v] w fun e w' => ∃ v', e = .returned v' ∧ IV w' v' l ∧ Below w.heap.size w w' := by
  obtain ⟨ad, c, rfl, h2, h3⟩ := h
  refine (toIntS_any ad c l w h3 h2).mono ?_
  rintro e w' ⟨rfl, h4, h5⟩
  exact ⟨_, rfl, ⟨_, _, rfl, h4.row, h3⟩, h5⟩
theorem eqIntS_v (v1 v2 : Value) (l : List Int) (w : World) (h1 : IV w v1 l) (h2 : IV w v2 l) :
    Calls Try.prog 28 #[v1, v2] w fun e w' => e = .returned (.bool true) ∧ Below w.heap.size w w' := by
  obtain ⟨a1, c1, rfl, r1, hl⟩ := h1
  obtain ⟨a2, c2, rfl, r2, -⟩ := h2
  exact eqIntS_row a1 a2 c1 c2 l w hl r1 r2
end Go.Proofs.Ytmlpnmdckgppnaa.W
