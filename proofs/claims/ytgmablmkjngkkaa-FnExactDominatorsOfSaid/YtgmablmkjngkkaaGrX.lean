/-
  Sets of blocks as arrays of twelve truths. No program here.
-/
import Derived.Test.YtgmablmkjngkkaaGrG
import Derived.Laws.Rows
import Derived.Laws.Tables
import Derived.Deep.WholeRow
namespace Go.Proofs.Ytgmablmkjngkkaa.W
open Go.ChangeShapes Go.WideShapes Go.ChangeAt Go.RowKit Go.Joins
set_option linter.unusedVariables false

/-- Twelve truths as cells. -/
def sA (f : Nat → Bool) : Array Value := ((List.range 12).map fun i => Value.bool (f i)).toArray
theorem sA_size (f : Nat → Bool) : (sA f).size = 12 := by simp [sA]
theorem sA_at (f : Nat → Bool) {i : Nat} (h : i < 12) : (sA f)[i]? = some (.bool (f i)) := by simp [sA, h]
theorem sA_one (f : Nat → Bool) : (sA f).all (·.oneCell') = true := by
  rw [Array.all_eq_true_iff_forall_mem]
  intro x hx
  simp [sA] at hx
  obtain ⟨a, -, rfl⟩ := hx
  rfl
theorem sA_congr {f g : Nat → Bool} (h : ∀ i, i < 12 → f i = g i) : sA f = sA g := by
  unfold sA
  congr 1
  refine List.map_congr_left (fun i hi => ?_)
  rw [h i (List.mem_range.1 hi)]
theorem sA_inj {f g : Nat → Bool} (h : sA f = sA g) : ∀ i, i < 12 → f i = g i := by
  intro i hi
  have h1 := sA_at f hi
  rw [h, sA_at g hi] at h1
  simpa using h1.symm
def upd (f : Nat → Bool) (i : Nat) (b : Bool) : Nat → Bool := fun k => if k = i then b else f k
theorem upd_same (f : Nat → Bool) (i : Nat) (b : Bool) : upd f i b i = b := by simp [upd]
theorem upd_other (f : Nat → Bool) (i : Nat) (b : Bool) {k : Nat} (h : k ≠ i) : upd f i b k = f k := by simp [upd, h]
theorem sA_set (f : Nat → Bool) (i : Nat) (b : Bool) : (sA f).setIfInBounds i (.bool b) = sA (upd f i b) := by
  apply Array.ext_getElem?
  intro k
  rw [Array.getElem?_setIfInBounds, sA_size]
  by_cases e : i = k
  · subst e
    by_cases h : i < 12
    · rw [if_pos rfl, if_pos h, sA_at _ h, upd_same]
    · rw [if_pos rfl, if_neg h, Array.getElem?_eq_none (by rw [sA_size]; omega)]
  · rw [if_neg e]
    by_cases h : k < 12
    · rw [sA_at _ h, sA_at _ h, upd_other _ _ _ (fun x => e x.symm)]
    · rw [Array.getElem?_eq_none (by rw [sA_size]; omega), Array.getElem?_eq_none (by rw [sA_size]; omega)]
/-- How many are not marked. -/
def nF (f : Nat → Bool) (n : Nat) : Nat := (List.range n).countP (fun i => !f i)
def isF : Value → Bool
  | .bool b => !b
  | _ => false
def cntF (w : World) (b : Nat) : Nat :=
  match w.heap[b]? with
  | some (.cells cs _ _) => cs.toList.countP isF
  | _ => 0
theorem cntF_bx {w : World} {b : Nat} {f : Nat → Bool} {T : TypeId} (h : Bx w b (sA f) T) : cntF w b = nF f 12 := by
  unfold cntF nF
  rw [show w.heap[b]? = some (.cells (sA f) T (0, 0)) from h]
  simp only [sA, List.countP_map]
  rfl
theorem nF_upd (f : Nat → Bool) {i : Nat} (hf : f i = false) : ∀ n, i < n → nF (upd f i true) n + 1 = nF f n
  | 0, h => by omega
  | n + 1, h => by
    unfold nF
    rw [List.range_succ, List.countP_append, List.countP_append]
    by_cases e : i = n
    · subst e
      have : (List.range i).countP (fun k => !upd f i true k) = (List.range i).countP (fun k => !f k) := by
        refine List.countP_congr (fun k hk => ?_)
        rw [upd_other _ _ _ (by have := List.mem_range.1 hk; omega)]
      rw [this]
      simp [upd_same, hf]
    · have ih := nF_upd f hf n (by omega)
      unfold nF at ih
      have e2 : upd f i true n = f n := upd_other _ _ _ (fun x => e x.symm)
      simp only [List.countP_singleton, e2]
      omega
theorem setRow_same {w : World} {g : Nat} {old : Array Value} {t : TypeId} {fr : Nat × Nat} (h : w.heap[g]? = some (.cells old t fr)) (cs : Array Value) : (w.setRow g cs).heap[g]? = some (.cells cs t fr) := by
  simp [World.setRow, Array.getElem?_modify, h]
theorem setRow_ne {w : World} {g k : Nat} (cs : Array Value) (h : k ≠ g) : (w.setRow g cs).heap[k]? = w.heap[k]? := Go.setRow_other w g k cs h
theorem setRow_below {B : Nat} {x w : World} {g : Nat} (cs : Array Value) (h : Below B x w) (hg : B ≤ g) : Below B x (w.setRow g cs) :=
  ⟨h.os, h.tape, h.output, by simpa [World.setRow] using h.size, fun k hk => (setRow_ne cs (by omega)).trans (h.block k hk)⟩
theorem bsInfo : (Try.prog.info? 60).map (·.size) = some 12 := by kernel_rfl
end Go.Proofs.Ytgmablmkjngkkaa.W
