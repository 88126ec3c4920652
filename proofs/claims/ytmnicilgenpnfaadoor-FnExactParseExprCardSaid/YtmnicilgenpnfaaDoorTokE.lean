/-
  Contracts of eqToken and eqTokenS at equal tokens: true; nothing that was there is written. Conditions: rows that are owned, of at most 1000000 tokens.
-/
import Derived.Test.YtmnicilgenpnfaaDoorLex3
namespace Go.Proofs.YtmnicilgenpnfaaDoor.W
open Go.ChangeShapes Go.WideShapes Go.ChangeAt Go.RowKit

theorem toksC_get (l : Toks) (i : Nat) (h : i < l.length) : (toksC l)[i * 4]? = some (.int .i64 l[i].1.kind) ∧ (toksC l)[i * 4 + 1]? = some (.int .i64 l[i].1.num) ∧ (toksC l)[i * 4 + 2]? = some (.string l[i].1.text) ∧ (toksC l)[i * 4 + 3]? = some (.int .i64 l[i].2) := by
  induction l generalizing i with
  | nil => simp at h
  | cons x l ih =>
    cases i with
    | zero => exact ⟨rfl, rfl, rfl, rfl⟩
    | succ i =>
      have := ih i (by simpa using h)
      have e : ∀ r, (toksC (x :: l))[(i + 1) * 4 + r]? = (toksC l)[i * 4 + r]? := by
        intro r
        have : toksC (x :: l) = tokC x ++ toksC l := by simp [toksC]
        rw [this, List.getElem?_append_right (by simp [tokC]; omega)]
        congr 1
        simp [tokC]; omega
      refine ⟨?_, ?_, ?_, ?_⟩
      · have := e 0; simp only [Nat.add_zero] at this; rw [this]; exact (ih i (by simpa using h)).1
      · rw [e 1]; exact (ih i (by simpa using h)).2.1
      · rw [e 2]; exact (ih i (by simpa using h)).2.2.1
      · rw [e 3]; exact (ih i (by simpa using h)).2.2.2

/-- A token's four cells in a row that is owned. -/
theorem own_tok {w : World} {base : Nat} {e : TypeId} {v : Value} {l : Toks} (h : w.ownsRow base e 4 v l.length (toksC l)) {i : Nat} (hi : i < l.length) :
    ∃ g c, v = .slice (some ⟨g, 0, none⟩) l.length c ∧ base ≤ g ∧ g < w.heap.size ∧ w.cell? ⟨g, i * 4, none⟩ = some (.int .i64 l[i].1.kind) ∧ w.cell? ⟨g, i * 4 + 1, none⟩ = some (.int .i64 l[i].1.num) ∧ w.cell? ⟨g, i * 4 + 2, none⟩ = some (.string l[i].1.text) ∧ w.cell? ⟨g, i * 4 + 3, none⟩ = some (.int .i64 l[i].2) := by
  rcases h.2 with ⟨_, h0⟩ | ⟨g, cap, cur, hv, hg, hh, h1, h2, h3, h4⟩
  · omega
  · have ht := toksC_get l i hi
    have e : ∀ j, j < l.length * 4 → w.cell? ⟨g, j, none⟩ = (toksC l)[j]? := by
      intro j hj
      rw [cell_of_blk hh, ← h4, List.getElem?_take_of_lt hj]
      simp
    refine ⟨g, cap, hv, hg, (Array.getElem?_eq_some_iff.1 hh).1, ?_, ?_, ?_, ?_⟩
    · rw [e _ (by omega)]; exact ht.1
    · rw [e _ (by omega)]; exact ht.2.1
    · rw [e _ (by omega)]; exact ht.2.2.1
    · rw [e _ (by omega)]; exact ht.2.2.2
end Go.Proofs.YtmnicilgenpnfaaDoor.W
