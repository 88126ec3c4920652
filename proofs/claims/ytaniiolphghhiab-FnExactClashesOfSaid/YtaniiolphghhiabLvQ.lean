/-
  Rows of numbers in a block of slices, whatever their type. No program here. Written by wip/build/mk_lvq.py.
-/
import Derived.Test.YtaniiolphghhiabGrP
namespace Go.Proofs.Ytaniiolphghhiab.W
open Go.ChangeShapes Go.WideShapes Go.ChangeAt Go.RowKit Go.Joins
set_option linter.unusedVariables false
set_option linter.unusedSimpArgs false

/-- The rows of block S. -/
def QST (T : TypeId) (w : World) (S : Nat) (Ls : List (List Int)) : Prop :=
  ∃ cur, w.heap[S]? = some (.cells cur T (0, 0)) ∧ cur.size = Ls.length ∧ ∀ q (h : q < Ls.length), ∃ x, cur[q]? = some x ∧ NV w x Ls[q]
theorem QST.lt {T : TypeId} {w : World} {S : Nat} {Ls : List (List Int)} (h : QST T w S Ls) : S < w.heap.size := by
  obtain ⟨cur, h1, -⟩ := h
  exact (Array.getElem?_eq_some_iff.1 h1).1
theorem QST.below {T : TypeId} {w w' : World} {S : Nat} {Ls : List (List Int)} (h : QST T w S Ls) (hb : Below w.heap.size w w') : QST T w' S Ls := by
  obtain ⟨cur, h1, h2, h3⟩ := h
  refine ⟨cur, (hb.block S (Array.getElem?_eq_some_iff.1 h1).1).trans h1, h2, fun q hq => ?_⟩
  obtain ⟨x, h4, h5⟩ := h3 q hq
  exact ⟨x, h4, h5.below hb⟩
theorem QST.at {T : TypeId} {w : World} {S : Nat} {Ls : List (List Int)} (h : QST T w S Ls) {q : Nat} (hq : q < Ls.length) : ∃ x, w.cell? ⟨S, q, none⟩ = some x ∧ NV w x Ls[q] := by
  obtain ⟨cur, h1, h2, h3⟩ := h
  obtain ⟨x, h4, h5⟩ := h3 q hq
  exact ⟨x, (cell_of_blk h1 q).trans h4, h5⟩
theorem QST.f {T : TypeId} {w : World} {S : Nat} {Ls : List (List Int)} (h : QST T w S Ls) : ∀ i, w.frozen? ⟨S, i, none⟩ = false := by
  obtain ⟨cur, h1, h2, h3⟩ := h
  exact fun i => unfrozen_of_blk h1 i
/-- A row of numbers does not lie in a block of slices. -/
theorem NV.setT {T : TypeId} {w : World} {v : Value} {l : List Int} (h : NV w v l) {S : Nat} {Ls : List (List Int)} (hS : QST T w S Ls) (i : Nat) (y : Value) : NV (w.setCell ⟨S, i, none⟩ y) v l := by
  rcases h with h | ⟨g, o, c, h1, h2, h3, h4⟩
  · exact .inl h
  · refine .inr ⟨g, o, c, h1, h2, by simpa [World.setCell] using h3, fun k hk => ?_⟩
    have hne : g ≠ S := by
      rintro rfl
      obtain ⟨cur, c1, c2, c3⟩ := hS
      have := h4 k hk
      rw [cell_of_blk c1] at this
      have hlt := (Array.getElem?_eq_some_iff.1 this).1
      obtain ⟨x, x1, x2⟩ := c3 (o + k) (by omega)
      rw [this] at x1
      obtain ⟨a, b, e, -⟩ := x2.form
      simp only [Option.some.injEq] at x1
      rw [e] at x1
      cases x1
    exact (World.cell?_of_block (a := ⟨g, o + k, none⟩) (Below.heap_setCell _ _ _ _ hne)).trans (h4 k hk)
theorem QST.set {T : TypeId} {w : World} {S : Nat} {Ls : List (List Int)} (h : QST T w S Ls) {i : Nat} (hi : i < Ls.length) {y : Value} {l : List Int} (hy : NV w y l) : QST T (w.setCell ⟨S, i, none⟩ y) S (Ls.set i l) := by
  have h0 := h
  obtain ⟨cur, h1, h2, h3⟩ := h
  refine ⟨_, blk_setCell h1 _, by simp [h2], fun q hq => ?_⟩
  rw [List.length_set] at hq
  rw [Array.getElem?_setIfInBounds]
  by_cases e : i = q
  · subst e
    refine ⟨y, by rw [if_pos rfl, if_pos (by omega)], ?_⟩
    rw [List.getElem_set_self]
    exact hy.setT h0 _ _
  · obtain ⟨x, x1, x2⟩ := h3 q hq
    refine ⟨x, by rw [if_neg e]; exact x1, ?_⟩
    rw [List.getElem_set_ne e]
    exact x2.setT h0 _ _
theorem QST.new (T : TypeId) (w : World) (n : Nat) : QST T (w.alloc (.cells (madeCells #[.slice none 0 0] n) T)) w.heap.size (List.replicate n []) := by
  refine ⟨_, heap_alloc_new w _, by simp [madeCells], fun q hq => ?_⟩
  have hq' : q < n := by simpa using hq
  refine ⟨.slice none 0 0, ?_, .inl ⟨rfl, by simp⟩⟩
  simp [madeCells, hq', Nat.mod_one]

theorem NV.othT {T : TypeId} {w w' : World} {v : Value} {l : List Int} (h : NV w v l) {S : Nat} {Ls : List (List Int)} (hS : QST T w S Ls) (ho : Oth S w w') : NV w' v l := by
  rcases h with h | ⟨g, o, c, h1, h2, h3, h4⟩
  · exact .inl h
  · refine .inr ⟨g, o, c, h1, h2, Nat.lt_of_lt_of_le h3 ho.size, fun k hk => ?_⟩
    have hne : g ≠ S := by
      rintro rfl
      obtain ⟨cur, c1, c2, c3⟩ := hS
      have := h4 k hk
      rw [cell_of_blk c1] at this
      have hlt := (Array.getElem?_eq_some_iff.1 this).1
      obtain ⟨x, x1, x2⟩ := c3 (o + k) (by omega)
      rw [this] at x1
      obtain ⟨a, b, e, -⟩ := x2.form
      simp only [Option.some.injEq] at x1
      rw [e] at x1
      cases x1
    exact (World.cell?_of_block (a := ⟨g, o + k, none⟩) (ho.block g h3 hne)).trans (h4 k hk)
theorem QST.oth {T : TypeId} {w w' : World} {S3 S : Nat} {L3 Ls : List (List Int)} (h : QST T w S3 L3) (hS : QST T w S Ls) (hne : S3 ≠ S) (ho : Oth S w w') : QST T w' S3 L3 := by
  have hlt := h.lt
  obtain ⟨cur, h1, h2, h3⟩ := h
  refine ⟨cur, (ho.block S3 hlt hne).trans h1, h2, fun q hq => ?_⟩
  obtain ⟨x, x1, x2⟩ := h3 q hq
  exact ⟨x, x1, x2.othT hS ho⟩

theorem NV.pt {w : World} {v : Value} {l : List Int} (h : NV w v l) : PtI w v l.length (ic l) := by
  rcases h with ⟨rfl, rfl⟩ | ⟨g, o, c, h1, h2, h3, h4⟩
  · exact .inl ⟨rfl, rfl, rfl⟩
  · refine .inr ⟨_, c, h1, by rw [ic_len, Nat.mul_one], fun q x hx => ?_, ic_one _⟩
    have hq : q < l.length := by have := (List.getElem?_eq_some_iff.1 hx).1; rwa [ic_len] at this
    rw [ic_at l q hq] at hx
    rw [Addr.add_lit, h4 q hq, hx]

end Go.Proofs.Ytaniiolphghhiab.W
