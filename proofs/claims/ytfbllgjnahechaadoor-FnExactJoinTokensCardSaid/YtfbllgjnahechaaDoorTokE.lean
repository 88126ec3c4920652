/-
  Contracts of eqToken and eqTokenS at equal tokens: true; nothing that was there is written. Conditions: rows that are owned, of at most 1000000 tokens.
-/
import Derived.Test.YtfbllgjnahechaaDoorLex3
namespace Go.Proofs.YtfbllgjnahechaaDoor.W
open Go.ChangeShapes Go.WideShapes Go.ChangeAt Go.RowKit

set_option maxHeartbeats 400000 in
theorem eqToken_same (k n a : Int) (t : ByteArray) (w : World) :
    Calls Tryd.prog 28 #[.agg #[.int .i64 k, .int .i64 n, .string t, .int .i64 a], .agg #[.int .i64 k, .int .i64 n, .string t, .int .i64 a]] w fun e w' => e = .returned (.bool true) ∧ Below w.heap.size w w' := by
  go_enter Tryd.func28, Tryd.ntmps28
  go_wp2
  go_ret
  exact ⟨rfl, ((Below.refl _ _).alloc (Nat.le_refl _) _).alloc (by simp) _⟩

theorem toksC_get (l : Toks) (i : Nat) (h : i < l.length) : (toksC l)[i * 4]? = some (.int .i64 l[i].1.kind) ∧ (toksC l)[i * 4 + 1]? = some (.int .i64 l[i].1.num) ∧ (toksC l)[i * 4 + 2]? = some (.string l[i].1.text) ∧ (toksC l)[i * 4 + 3]? = some (.int .i64 l[i].2) := by
  induction l generalizing i with
  | nil => simp at h
  | cons x l ih =>
    cases i with
    | zero => exact ⟨rfl, rfl, rfl, rfl⟩
    | succ i =>
      have := ih i (by simpa using h)
      have e : ∀ r, (toksC (x :: l))[(i + 1) * 4 + r]? = (toksC l)[i * 4 + r]? := by
        intro r
        have : toksC (x :: l) = tokC x ++ toksC l := by simp [toksC]
        rw [this, List.getElem?_append_right (by simp [tokC]; omega)]
        congr 1
        simp [tokC]; omega
      refine ⟨?_, ?_, ?_, ?_⟩
      · have := e 0; simp only [Nat.add_zero] at this; rw [this]; exact (ih i (by simpa using h)).1
      · rw [e 1]; exact (ih i (by simpa using h)).2.1
      · rw [e 2]; exact (ih i (by simpa using h)).2.2.1
      · rw [e 3]; exact (ih i (by simpa using h)).2.2.2

/-- A token's four cells in a row that is owned. -/
theorem own_tok {w : World} {base : Nat} {e : TypeId} {v : Value} {l : Toks} (h : w.ownsRow base e 4 v l.length (toksC l)) {i : Nat} (hi : i < l.length) :
    ∃ g c, v = .slice (some ⟨g, 0, none⟩) l.length c ∧ base ≤ g ∧ g < w.heap.size ∧ w.cell? ⟨g, i * 4, none⟩ = some (.int .i64 l[i].1.kind) ∧ w.cell? ⟨g, i * 4 + 1, none⟩ = some (.int .i64 l[i].1.num) ∧ w.cell? ⟨g, i * 4 + 2, none⟩ = some (.string l[i].1.text) ∧ w.cell? ⟨g, i * 4 + 3, none⟩ = some (.int .i64 l[i].2) := by
  rcases h.2 with ⟨_, h0⟩ | ⟨g, cap, cur, hv, hg, hh, h1, h2, h3, h4⟩
  · omega
  · have ht := toksC_get l i hi
    have e : ∀ j, j < l.length * 4 → w.cell? ⟨g, j, none⟩ = (toksC l)[j]? := by
      intro j hj
      rw [cell_of_blk hh, ← h4, List.getElem?_take_of_lt hj]
      simp
    refine ⟨g, cap, hv, hg, (Array.getElem?_eq_some_iff.1 hh).1, ?_, ?_, ?_, ?_⟩
    · rw [e _ (by omega)]; exact ht.1
    · rw [e _ (by omega)]; exact ht.2.1
    · rw [e _ (by omega)]; exact ht.2.2.1
    · rw [e _ (by omega)]; exact ht.2.2.2

set_option maxHeartbeats 400000 in
theorem eqTokenS_same (v1 v2 : Value) (b1 b2 : Nat) (l : Toks) (w : World) (hl : l.length ≤ 1000000) (h1 : w.ownsRow b1 27 4 v1 l.length (toksC l)) (h2 : w.ownsRow b2 27 4 v2 l.length (toksC l)) :
    Calls Tryd.prog 14 #[v1, v2] w fun e w' => e = .returned (.bool true) ∧ Below w.heap.size w w' := by
  obtain ⟨a1, c1, rfl⟩ := own_form h1
  obtain ⟨a2, c2, rfl⟩ := own_form h2
  have H1 := hide h1
  have H2 := hide h2
  clear h1 h2
  go_enter Tryd.func14, Tryd.ntmps14
  go_wp2
  go_loopw [5] (fun i w' => ∃ j : Nat, j ≤ l.length ∧ i = .int .i64 j ∧ Below w.heap.size w w') (fun i _ => l.length - (intOf i).toNat)
  case atStart => exact ⟨0, by omega, rfl, Below.refl _ _⟩
  case round =>
    obtain ⟨j, hj, rfl, hB⟩ := hrel
    by_cases hlt : j < l.length
    · have hlt' : (j : Int) < (l.length : Int) := by omega
      obtain ⟨g1, d1, he1, -, hg1, p0, p1, p2, p3⟩ := own_tok H1.out hlt
      obtain ⟨g2, d2, he2, -, hg2, q0, q1, q2, q3⟩ := own_tok H2.out hlt
      obtain ⟨k, n, t, a, ht⟩ : ∃ (k n : Int) (t : ByteArray) (a : Int), k = l[j].1.kind ∧ n = l[j].1.num ∧ t = l[j].1.text ∧ a = l[j].2 := ⟨_, _, _, _, rfl, rfl, rfl, rfl⟩
      rw [← ht.1] at p0 q0
      rw [← ht.2.1] at p1 q1
      rw [← ht.2.2.1] at p2 q2
      rw [← ht.2.2.2] at p3 q3
      clear ht
      rw [← hB.cell (p := ⟨g1, j * 4, none⟩) hg1] at p0
      rw [← hB.cell (p := ⟨g1, j * 4 + 1, none⟩) hg1] at p1
      rw [← hB.cell (p := ⟨g1, j * 4 + 2, none⟩) hg1] at p2
      rw [← hB.cell (p := ⟨g1, j * 4 + 3, none⟩) hg1] at p3
      rw [← hB.cell (p := ⟨g2, j * 4, none⟩) hg2] at q0
      rw [← hB.cell (p := ⟨g2, j * 4 + 1, none⟩) hg2] at q1
      rw [← hB.cell (p := ⟨g2, j * 4 + 2, none⟩) hg2] at q2
      rw [← hB.cell (p := ⟨g2, j * 4 + 3, none⟩) hg2] at q3
      simp only [Value.slice.injEq] at he1 he2
      obtain ⟨rfl, -, rfl⟩ := he1
      obtain ⟨rfl, -, rfl⟩ := he2
      clear H1 H2
      go_wp2_with fail
      go_region_with (go_at_call 28; refine (eqToken_same _ _ _ _ _).mono ?_; rintro e w1 ⟨rfl, hb1⟩)
      all_goals
        have hB1 : Below w.heap.size w w1 := hB.trans ((show Below wr.heap.size wr w1 from ⟨hb1.os, hb1.tape, hb1.output, hb1.size, hb1.block⟩).mono hB.size)
        clear p0 p1 p2 p3 q0 q1 q2 q3 hb1
        go_wp2_with fail
        exact ⟨⟨j + 1, by omega, by go_num, hB1⟩, by simp [intOf]; omega⟩
    · go_wp2_with fail
      go_ret
      exact ⟨rfl, hB⟩
end Go.Proofs.YtfbllgjnahechaaDoor.W
