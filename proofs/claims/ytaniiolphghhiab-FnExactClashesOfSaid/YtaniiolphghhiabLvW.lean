/-
  A flow's copy as a law's walk wants it. No conditions of its own.
-/
import Derived.Test.YtaniiolphghhiabLvH
namespace Go.Proofs.Ytaniiolphghhiab.W
open Go.ChangeShapes Go.WideShapes Go.ChangeAt Go.RowKit Go.Joins
set_option linter.unusedVariables false

/-- A flow's rows fill blocks of their own. -/
def FX (w : World) (g b : Nat) (D F : List (List Int)) : Prop := QBlk w g D ∧ FBk w b F
theorem FX.below {w w' : World} {g b : Nat} {D F : List (List Int)} (h : FX w g b D F) (hb : Below w.heap.size w w') : FX w' g b D F := ⟨h.1.below hb, h.2.below hb⟩
theorem FX.fm {w : World} {g b lo : Nat} {D F : List (List Int)} (h : FX w g b D F) (hm : FMg w lo g b D) (hl : lo ≤ b) : FM w lo w.heap.size g b D F :=
  ⟨hm.1, h.2.qmt (Nat.le_refl _), hl, Nat.le_of_lt hm.2, hm.2⟩
theorem toFlow_x (v : Value) (D : List (List Int)) (n : Nat) (F : List (List Int)) (w : World) (h : FRow w v D n F) :
    Calls Try.prog 6 #[v] w fun e w' => ∃ g b, e = .returned (.agg #[.slice (some ⟨g, 0, none⟩) D.length D.length, .slice (some ⟨b, 0, none⟩) n n]) ∧ FX w' g b D F ∧ FM w' w.heap.size w'.heap.size g b D F ∧ Below w.heap.size w w' := by
  refine (toFlow_any v D n F w h).mono ?_
  rintro e w' ⟨g, b, rfl, h1, h2, h3, h4, h5, h6⟩
  exact ⟨g, b, rfl, ⟨h3, h4⟩, FX.fm ⟨h3, h4⟩ h6 h2, h5⟩
theorem FM.stay {w w' : World} {lo hi g b : Nat} {D F : List (List Int)} (h : FM w lo hi g b D F) (hb : Below w.heap.size w w') : FM w' lo hi g b D F := h.below hb
end Go.Proofs.Ytaniiolphghhiab.W
