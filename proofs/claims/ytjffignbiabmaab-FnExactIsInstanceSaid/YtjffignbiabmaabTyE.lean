/-
  Types in the place of a type's variables, by the specification: the contract of l5Match. Conditions: as the theorem states.
-/
import Derived.Test.YtjffignbiabmaabTyD
namespace Go.Proofs.Ytjffignbiabmaab.Y
open Go.Proofs.Ytjffignbiabmaab.W
open Go.ChangeShapes Go.WideShapes Go.ChangeAt Go.RowKit
set_option linter.unusedVariables false

/-- Blocks H and K tell what stands in the place of each variable. -/
def ST (w : World) (H K : Nat) (σ : Sg) : Prop :=
  (∃ cur : Array Value, w.heap[H]? = some (.cells cur 64 (0, 0)) ∧ cur.size = 93) ∧ (∃ ck : Array Value, w.heap[K]? = some (.cells ck 4 (0, 0)) ∧ ck.size = 31) ∧
  (∀ n : Nat, n < 31 → w.cell? ⟨K, n, none⟩ = some (.bool (σ (n : Int)).isSome)) ∧
  ∀ n : Nat, n < 31 → ∀ v, σ (n : Int) = some v → ∃ x k s, v = x :: k.flat ∧ (F.cons x k .nil).ok ∧ k.flat.length ≤ 60 ∧ w.cell? ⟨H, n * 3, none⟩ = some (.int .i64 x.k) ∧ w.cell? ⟨H, n * 3 + 1, none⟩ = some (.int .i64 x.n) ∧ w.cell? ⟨H, n * 3 + 2, none⟩ = some s ∧ KidT w (fun g => g ≠ H ∧ g ≠ K) k s
theorem ST.ltH {w : World} {H K : Nat} {σ : Sg} (h : ST w H K σ) : H < w.heap.size := by obtain ⟨⟨cur, hh, -⟩, -⟩ := h; exact (Array.getElem?_eq_some_iff.1 hh).1
theorem ST.ltK {w : World} {H K : Nat} {σ : Sg} (h : ST w H K σ) : K < w.heap.size := by obtain ⟨-, ⟨cur, hh, -⟩, -⟩ := h; exact (Array.getElem?_eq_some_iff.1 hh).1
theorem ST.below {w w' : World} {H K : Nat} {σ : Sg} (h : ST w H K σ) (hb : Below w.heap.size w w') : ST w' H K σ := by
  have hH := h.ltH
  have hK := h.ltK
  obtain ⟨⟨cur, h1, h2⟩, ⟨ck, h3, h4⟩, h5, h6⟩ := h
  refine ⟨⟨cur, (hb.block H hH).trans h1, h2⟩, ⟨ck, (hb.block K hK).trans h3, h4⟩, fun n hn => (hb.cell (p := ⟨K, n, none⟩) hK).trans (h5 n hn), fun n hn v hv => ?_⟩
  obtain ⟨x, k, s, e1, e2, e3, e4, e5, e6, e7⟩ := h6 n hn v hv
  exact ⟨x, k, s, e1, e2, e3, (hb.cell (p := ⟨H, n * 3, none⟩) hH).trans e4, (hb.cell (p := ⟨H, n * 3 + 1, none⟩) hH).trans e5, (hb.cell (p := ⟨H, n * 3 + 2, none⟩) hH).trans e6, e7.below hb⟩

/-- But for H and K all is as it was. -/
structure Ot (H K : Nat) (w w' : World) : Prop where
  os : w'.os = w.os
  tape : w'.tape = w.tape
  output : w'.output = w.output
  size : w.heap.size ≤ w'.heap.size
  block : ∀ k, k < w.heap.size → k ≠ H → k ≠ K → w'.heap[k]? = w.heap[k]?
theorem Ot.refl (H K : Nat) (w : World) : Ot H K w w := ⟨rfl, rfl, rfl, Nat.le_refl _, fun _ _ _ _ => rfl⟩
theorem Ot.trans {H K : Nat} {x y z : World} (h : Ot H K x y) (k : Ot H K y z) : Ot H K x z :=
  ⟨k.os.trans h.os, k.tape.trans h.tape, k.output.trans h.output, Nat.le_trans h.size k.size, fun i hi h1 h2 => (k.block i (Nat.lt_of_lt_of_le hi h.size) h1 h2).trans (h.block i hi h1 h2)⟩
theorem Ot.ofBelow {H K : Nat} {x y : World} (h : Below x.heap.size x y) : Ot H K x y := ⟨h.os, h.tape, h.output, h.size, fun k hk _ _ => h.block k hk⟩
theorem Ot.setH {H K : Nat} {x y : World} (h : Ot H K x y) (i : Nat) (v : Value) : Ot H K x (y.setCell ⟨H, i, none⟩ v) := h.trans ⟨rfl, rfl, rfl, by simp [World.setCell], fun k _ h1 _ => Below.heap_setCell _ _ _ _ h1⟩
theorem Ot.setK {H K : Nat} {x y : World} (h : Ot H K x y) (i : Nat) (v : Value) : Ot H K x (y.setCell ⟨K, i, none⟩ v) := h.trans ⟨rfl, rfl, rfl, by simp [World.setCell], fun k _ _ h2 => Below.heap_setCell _ _ _ _ h2⟩
theorem Ot.cell {H K : Nat} {x y : World} (h : Ot H K x y) {p : Addr} (hp : p.block < x.heap.size) (h1 : p.block ≠ H) (h2 : p.block ≠ K) : y.cell? p = x.cell? p := World.cell?_of_block (h.block _ hp h1 h2)
theorem Ot.kid {H K : Nat} {x y : World} (h : Ot H K x y) {k : F} {s : Value} (hk : KidT x (fun g => g ≠ H ∧ g ≠ K) k s) : KidT y (fun g => g ≠ H ∧ g ≠ K) k s := hk.keep h.size (fun g h1 h2 => ⟨h.block g h2 h1.1 h1.2, h1⟩)

theorem set_cell {w : World} {g i : Nat} {cs : Array Value} {t : TypeId} {fr : Nat × Nat} (h : w.heap[g]? = some (.cells cs t fr)) (v : Value) (g' j : Nat) : (w.setCell ⟨g, i, none⟩ v).cell? ⟨g', j, none⟩ = if g' = g ∧ j = i ∧ i < cs.size then some v else w.cell? ⟨g', j, none⟩ := by
  by_cases hg : g' = g
  · subst hg
    rw [cell_of_blk (blk_setCell h v), cell_of_blk h, Array.getElem?_setIfInBounds]
    by_cases hj : i = j
    · subst hj
      rw [if_pos rfl]
      by_cases hs : i < cs.size
      · rw [if_pos hs, if_pos ⟨rfl, rfl, hs⟩]
      · rw [if_neg hs, if_neg (fun e => hs e.2.2), Array.getElem?_eq_none (by omega)]
    · rw [if_neg hj, if_neg (fun e => hj e.2.1.symm)]
  · rw [if_neg (fun e => hg e.1)]
    exact World.cell?_of_block (Below.heap_setCell _ _ _ _ hg)

/-- A type put in the place of a variable. -/
theorem ST.put {w : World} {H K : Nat} {σ : Sg} (h : ST w H K σ) (hHK : H ≠ K) {m : Nat} (hm : m < 31) (x : Cc) (k : F) (s : Value) (hok : (F.cons x k .nil).ok) (hl : k.flat.length ≤ 60) (hT : KidT w (fun g => g ≠ H ∧ g ≠ K) k s) :
    ST ((((w.setCell ⟨K, m, none⟩ (.bool true)).setCell ⟨H, m * 3, none⟩ (.int .i64 x.k)).setCell ⟨H, m * 3 + 1, none⟩ (.int .i64 x.n)).setCell ⟨H, m * 3 + 2, none⟩ s) H K (upd σ (m : Int) (x :: k.flat)) := by
  obtain ⟨⟨cur, h1, h2⟩, ⟨ck, h3, h4⟩, h5, h6⟩ := h
  have o1 : Ot H K w (w.setCell ⟨K, m, none⟩ (.bool true)) := (Ot.refl H K w).setK _ _
  have o2 : Ot H K w ((((w.setCell ⟨K, m, none⟩ (.bool true)).setCell ⟨H, m * 3, none⟩ (.int .i64 x.k)).setCell ⟨H, m * 3 + 1, none⟩ (.int .i64 x.n)).setCell ⟨H, m * 3 + 2, none⟩ s) := ((o1.setH _ _).setH _ _).setH _ _
  have a1 : (w.setCell ⟨K, m, none⟩ (.bool true)).heap[H]? = some (.cells cur 64 (0, 0)) := (Below.heap_setCell _ _ _ _ hHK).trans h1
  have a2 := blk_setCell (i := m * 3) a1 (.int .i64 x.k)
  have a3 := blk_setCell (i := m * 3 + 1) a2 (.int .i64 x.n)
  have a4 := blk_setCell (i := m * 3 + 2) a3 s
  have b1 := blk_setCell (i := m) h3 (.bool true)
  have hKH : K ≠ H := fun e => hHK e.symm
  have b4 : ((((w.setCell ⟨K, m, none⟩ (.bool true)).setCell ⟨H, m * 3, none⟩ (.int .i64 x.k)).setCell ⟨H, m * 3 + 1, none⟩ (.int .i64 x.n)).setCell ⟨H, m * 3 + 2, none⟩ s).heap[K]? = some (.cells (ck.setIfInBounds m (.bool true)) 4 (0, 0)) := by
    rw [Below.heap_setCell _ _ _ _ hKH, Below.heap_setCell _ _ _ _ hKH, Below.heap_setCell _ _ _ _ hKH]; exact b1
  have cH : ∀ j, ((((w.setCell ⟨K, m, none⟩ (.bool true)).setCell ⟨H, m * 3, none⟩ (.int .i64 x.k)).setCell ⟨H, m * 3 + 1, none⟩ (.int .i64 x.n)).setCell ⟨H, m * 3 + 2, none⟩ s).cell? ⟨H, j, none⟩ = if j = m * 3 + 2 then some s else if j = m * 3 + 1 then some (.int .i64 x.n) else if j = m * 3 then some (.int .i64 x.k) else w.cell? ⟨H, j, none⟩ := fun j => by
    rw [set_cell a3, set_cell a2, set_cell a1]
    simp only [Array.size_setIfInBounds, h2, true_and]
    by_cases e2 : j = m * 3 + 2
    · rw [if_pos ⟨e2, by omega⟩, if_pos e2]
    · rw [if_neg (fun e => e2 e.1), if_neg e2]
      by_cases e1 : j = m * 3 + 1
      · rw [if_pos ⟨e1, by omega⟩, if_pos e1]
      · rw [if_neg (fun e => e1 e.1), if_neg e1]
        by_cases e0 : j = m * 3
        · rw [if_pos ⟨e0, by omega⟩, if_pos e0]
        · rw [if_neg (fun e => e0 e.1), if_neg e0]
          exact World.cell?_of_block (Below.heap_setCell _ _ _ _ hHK)
  refine ⟨⟨_, a4, by simp [h2]⟩, ⟨_, b4, by simp [h4]⟩, fun n hn => ?_, fun n hn v hv => ?_⟩
  · rw [cell_of_blk b4, Array.getElem?_setIfInBounds]
    by_cases e : m = n
    · subst e; rw [if_pos rfl, if_pos (by omega)]; simp [upd]
    · rw [if_neg e, ← cell_of_blk h3, h5 n hn]
      have : (n : Int) ≠ (m : Int) := by omega
      simp [upd, this]
  · by_cases e : n = m
    · subst e
      simp only [upd, if_true, Option.some.injEq] at hv
      refine ⟨x, k, s, hv.symm, hok, hl, ?_, ?_, ?_, o2.kid hT⟩
      · rw [cH, if_neg (by omega), if_neg (by omega), if_pos rfl]
      · rw [cH, if_neg (by omega), if_pos rfl]
      · rw [cH, if_pos rfl]
    · have hne : (n : Int) ≠ (m : Int) := by omega
      simp only [upd, hne, if_false] at hv
      obtain ⟨x', k', s', e1, e2, e3, e4, e5, e6, e7⟩ := h6 n hn v hv
      refine ⟨x', k', s', e1, e2, e3, ?_, ?_, ?_, o2.kid e7⟩
      · rw [cH, if_neg (by omega), if_neg (by omega), if_neg (by omega)]; exact e4
      · rw [cH, if_neg (by omega), if_neg (by omega), if_neg (by omega)]; exact e5
      · rw [cH, if_neg (by omega), if_neg (by omega), if_neg (by omega)]; exact e6

def L5MGoal (kb : F) : Prop := ∀ (x y : Cc) (ka : F) (s1 s2 : Value) (H K : Nat) (σ : Sg) (w : World), (F.cons x ka .nil).ok → (F.cons y kb .nil).ok → ka.flat.length ≤ 60 → kb.flat.length ≤ 60 → H ≠ K → KidT w (fun g => g ≠ H ∧ g ≠ K) ka s1 → KidT w (fun g => g ≠ H ∧ g ≠ K) kb s2 → ST w H K σ →
    Calls Try.prog 79 #[.agg #[.int .i64 x.k, .int .i64 x.n, s1], .agg #[.int .i64 y.k, .int .i64 y.n, s2], .slice (some ⟨H, 0, none⟩) 31 31, .slice (some ⟨K, 0, none⟩) 31 31] w fun e w' => e = .returned (.bool (mt1 x ka y kb σ).isSome) ∧ Ot H K w w' ∧ ∀ σ', mt1 x ka y kb σ = some σ' → ST w' H K σ'
end Go.Proofs.Ytjffignbiabmaab.Y
