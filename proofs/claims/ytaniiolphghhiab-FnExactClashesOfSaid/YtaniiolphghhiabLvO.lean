/-
  Rows of rows of numbers that are one's own, and what stays while other blocks are turned. No program but the types' numbers. Written by wip/build/mk_lvo.py.
-/
import Derived.Test.YtaniiolphghhiabGrO
import Derived.Test.YtaniiolphghhiabLvQ
namespace Go.Proofs.Ytaniiolphghhiab.W
open Go.ChangeShapes Go.WideShapes Go.ChangeAt Go.RowKit Go.Joins
set_option linter.unusedVariables false
set_option maxRecDepth 20000

theorem PV.stay {w : World} {v : Value} {l : List Int} (h : PV w v l) : Stay w.heap.size (fun w' => PV w' v l) w := by
  intro w' hk
  obtain ⟨ad, c, h1, h2, h3⟩ := h
  refine ⟨ad, c, h1, ?_, h3⟩
  rcases h2 with h2 | ⟨b, o, h4, h5, h6⟩
  · exact .inl h2
  · have hb : b < w'.heap.size := by
      have := hk b h5
      rw [Array.getElem?_eq_getElem h5] at this
      exact (Array.getElem?_eq_some_iff.1 this).1
    exact .inr ⟨b, o, h4, hb, fun i hi r hr => (World.cell?_of_block (a := ⟨b, o + i * 1 + r, none⟩) (hk b h5)).trans (h6 i hi r hr)⟩
theorem QV.stay {w : World} {v : Value} {L : List (List Int)} (h : QV w v L) : Stay w.heap.size (fun w' => QV w' v L) w := by
  intro w' hk
  obtain ⟨ad, c, h1, h2, h3⟩ := h
  refine ⟨ad, c, h1, ?_, h3⟩
  rcases h2 with h2 | ⟨b, o, h4, h5, h6⟩
  · exact .inl h2
  · have hb : b < w'.heap.size := by
      have := hk b h5
      rw [Array.getElem?_eq_getElem h5] at this
      exact (Array.getElem?_eq_some_iff.1 this).1
    refine .inr ⟨b, o, h4, hb, fun i hi => ?_⟩
    obtain ⟨x, x1, x2⟩ := h6 i hi
    exact ⟨x, (World.cell?_of_block (a := ⟨b, o + i, none⟩) (hk b h5)).trans x1, x2.stay w' hk⟩
theorem QST.qv {T : TypeId} {w : World} {S : Nat} {L : List (List Int)} (h : QST T w S L) (hs : QSm L) : QV w (.slice (some ⟨S, 0, none⟩) L.length L.length) L := by
  have hlt := h.lt
  refine ⟨_, _, rfl, .inr ⟨S, 0, rfl, hlt, fun i hi => ?_⟩, hs, Nat.le_refl _⟩
  obtain ⟨x, h1, h2⟩ := h.at hi
  exact ⟨x, by rw [Nat.zero_add]; exact h1, h2.pv⟩
theorem OO.qv {w : World} {base : Nat} {v : Value} {L : List (List Int)} (h : OO w base v L) (hs : QSm L) : QV w v L := by
  by_cases h0 : L.length = 0
  · obtain ⟨a, c, rfl⟩ := h.form
    exact ⟨a, c, rfl, .inl (List.eq_nil_of_length_eq_zero h0), hs, by omega⟩
  · obtain ⟨vs, h⟩ := h
    rcases h.own.2 with ⟨h1, h2⟩ | ⟨g, cap, cur, h1, hg, hh, h2, h3, h4, h5⟩
    · omega
    · refine ⟨_, cap, h1, .inr ⟨g, 0, rfl, (Array.getElem?_eq_some_iff.1 hh).1, fun i hi => ?_⟩, hs, h2⟩
      obtain ⟨x, x1, x2⟩ := h.at_ i hi
      refine ⟨x, ?_, (NV.ofOwn x2 rfl).pv⟩
      rw [cell_of_blk hh, Nat.zero_add, ← x1, ← h5, List.getElem?_take_of_lt (by omega)]
      simp
/-- A new row in the place of one. -/
theorem OOv.put {w w1 : World} {base S n c : Nat} {Ls : List (List Int)} {vs : List Value} {l : List Int} {x : Value} {j : Nat} (h : OOv w base (.slice (some ⟨S, 0, none⟩) n c) Ls vs) (hn : n = Ls.length) (hj : j < Ls.length) (hb : base ≤ w.heap.size) (hb1 : Below w.heap.size w w1)
    (hx : w1.ownsRow w.heap.size 3 1 x l.length (ic l)) : OOv (w1.setCell ⟨S, j, none⟩ x) base (.slice (some ⟨S, 0, none⟩) n c) (Ls.set j l) (vs.set j x) := by
  subst hn
  obtain ⟨hlen, ⟨h1, h2⟩ | ⟨g, cap, cur, h1, hg, hh, h2, h3, h4, h5⟩⟩ := h.own
  · cases h1
  simp only [Value.slice.injEq, Option.some.injEq, Addr.mk.injEq, and_true] at h1
  obtain ⟨rfl, -, rfl⟩ := h1
  have hSl : S < w.heap.size := (Array.getElem?_eq_some_iff.1 hh).1
  have hh1 : w1.heap[S]? = some (.cells cur 45 (0, 0)) := (hb1.block S hSl).trans hh
  have hxk : ∀ k, x.ownBlock = some k → w.heap.size ≤ k := own_ge hx
  have hvl : vs.length = Ls.length := by rw [hlen, Nat.mul_one]
  refine ⟨?_, fun q hq => ?_, fun q y k hy hk e => ?_, fun p q y z k hpq hy hz hk e => ?_⟩
  · rw [List.length_set]
    refine ⟨by rw [List.length_set, Nat.mul_one, hvl], .inr ⟨S, c, _, rfl, hg, blk_setCell hh1 x, h2, h3, by rw [Array.size_setIfInBounds]; exact h4, ?_⟩⟩
    rw [Array.toList_setIfInBounds, List.take_set, h5]
  · rw [List.length_set] at hq
    by_cases e : j = q
    · subst e
      refine ⟨x, List.getElem?_set_self (by omega), ?_⟩
      rw [List.getElem_set_self]
      exact own_lower (own_blk hx (fun k hk => Below.heap_setCell _ _ _ _ (by show k ≠ S; have := hxk k hk; omega))) hb
    · obtain ⟨y, y1, y2⟩ := h.at_ q hq
      refine ⟨y, by rw [List.getElem?_set_ne e]; exact y1, ?_⟩
      rw [List.getElem_set_ne e]
      refine own_blk y2 (fun k hk => ?_)
      have hkS : k ≠ S := fun e' => h.far q y k y1 hk (by rw [e']; rfl)
      rw [Below.heap_setCell _ _ _ _ hkS]
      exact hb1.block k (y2.lt k hk).2
  · by_cases e2 : j = q
    · subst e2
      rw [List.getElem?_set_self (by omega)] at hy
      cases hy
      have := hxk k hk
      have e3 : S = k := by simpa [Value.ownBlock] using e
      omega
    · rw [List.getElem?_set_ne e2] at hy
      exact h.far q y k hy hk e
  · have old : ∀ (q : Nat) (y : Value) (k : Nat), j ≠ q → vs[q]? = some y → y.ownBlock = some k → k < w.heap.size := fun q y k _ hy hk => by
      have hq : q < Ls.length := by have := (List.getElem?_eq_some_iff.1 hy).1; omega
      obtain ⟨y', y1, y2⟩ := h.at_ q hq
      rw [hy] at y1
      cases y1
      exact (y2.lt k hk).2
    by_cases e1 : j = p
    · subst e1
      rw [List.getElem?_set_self (by omega)] at hy
      cases hy
      rw [List.getElem?_set_ne hpq] at hz
      have := hxk k hk
      have := old q z k hpq hz e
      omega
    · rw [List.getElem?_set_ne e1] at hy
      by_cases e2 : j = q
      · subst e2
        rw [List.getElem?_set_self (by omega)] at hz
        cases hz
        have := hxk k e
        have := old p y k e1 hy hk
        omega
      · rw [List.getElem?_set_ne e2] at hz
        exact h.apart p q y z k hpq hy hz hk e
theorem OOv.new (w : World) (base n : Nat) (hn : n ≤ 1048576) (hb : base ≤ w.heap.size) : OOv (w.alloc (.cells (madeCells #[.slice none 0 0] n) 45)) base (.slice (some ⟨w.heap.size, 0, none⟩) n n) (List.replicate n []) (List.replicate n (.slice none 0 0)) := by
  refine ⟨⟨by simp, .inr ⟨w.heap.size, n, _, by simp, hb, heap_alloc_new w _, by simp, by unfold maxLen; omega, by simp [madeCells], ?_⟩⟩, fun j hj => ?_, fun j x k hx hk => ?_, fun i j x y k _ hx _ hk => ?_⟩
  · simp only [List.length_replicate, Nat.mul_one]
    apply List.ext_getElem?
    intro i
    by_cases hi : i < n
    · rw [List.getElem?_take_of_lt hi]
      simp [madeCells, hi, Nat.mod_one]
    · rw [List.getElem?_eq_none (by simp; omega), List.getElem?_eq_none (by simp; omega)]
  · have hj' : j < n := by simpa using hj
    exact ⟨.slice none 0 0, by simp [hj'], by simp only [List.getElem_replicate]; exact World.ownsRow_nil _ _ _ _⟩
  · rw [List.getElem?_replicate] at hx
    split at hx
    · cases hx; cases hk
    · cases hx
  · rw [List.getElem?_replicate] at hx
    split at hx
    · cases hx; cases hk
    · cases hx

end Go.Proofs.Ytaniiolphghhiab.W
