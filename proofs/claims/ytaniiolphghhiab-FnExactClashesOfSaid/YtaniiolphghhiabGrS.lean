/-
  What stays while other blocks are turned. No program here.
-/
import Derived.Test.YtaniiolphghhiabGrP
import Derived.Test.YtaniiolphghhiabGrL
namespace Go.Proofs.Ytaniiolphghhiab.W
open Go.ChangeShapes Go.WideShapes Go.ChangeAt Go.RowKit Go.Joins
set_option linter.unusedVariables false

/-- P holds here and wherever the blocks below S are as they are here. -/
def Stay (S : Nat) (P : World → Prop) (w : World) : Prop := ∀ w', (∀ k, k < S → w'.heap[k]? = w.heap[k]?) → P w'
theorem Stay.here {S : Nat} {P : World → Prop} {w : World} (h : Stay S P w) : P w := h w (fun _ _ => rfl)
theorem Stay.keep {S : Nat} {P : World → Prop} {w w' : World} (h : Stay S P w) (hk : ∀ k, k < S → w'.heap[k]? = w.heap[k]?) : Stay S P w' :=
  fun w'' h2 => h w'' (fun k hk' => (h2 k hk').trans (hk k hk'))
theorem NV.stay {w : World} {v : Value} {l : List Int} (h : NV w v l) : Stay w.heap.size (fun w' => NV w' v l) w := by
  intro w' hk
  rcases h with h | ⟨g, o, c, h1, h2, h3, h4⟩
  · exact .inl h
  · have hg : g < w'.heap.size := by
      have := hk g h3
      rw [Array.getElem?_eq_getElem h3] at this
      exact (Array.getElem?_eq_some_iff.1 this).1
    exact .inr ⟨g, o, c, h1, h2, hg, fun i hi => (World.cell?_of_block (a := ⟨g, o + i, none⟩) (hk g h3)).trans (h4 i hi)⟩
theorem iv_own {w : World} {base n : Nat} {v : Value} {l : List Int} (h : w.ownsRow base 3 1 v n (ic l)) (hn : n = l.length) (hl : l.length ≤ 1048576) : IV w v l := (NV.ofOwn h hn).iv hl
end Go.Proofs.Ytaniiolphghhiab.W
