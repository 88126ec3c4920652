/-
  Terms shifted by the specification: a contract of l3Shift. Conditions: as the theorem states.
-/
import Derived.Test.YtdajalchdbgooaaJ17
import Derived.Deep.RegionLaw
namespace Go.Proofs.Ytdajalchdbgooaa.W
open Go.ChangeShapes Go.WideShapes Go.ChangeAt Go.RowKit
set_option linter.unusedVariables false

def shc (by_ : Int) (f : Nat) (x : Cc) : Cc := if x.k = 1 ∧ (f : Int) ≤ x.n then ⟨x.k, x.n + by_⟩ else x
/-- Terms shifted: the kids from i on of a term of kind pk. -/
def shf (by_ : Int) (pk : Int) (f : Nat) : Nat → F → F
  | _, .nil => .nil
  | i, .cons x k r => .cons (shc by_ (f + binds pk i) x) (shf by_ x.k (f + binds pk i) 0 k) (shf by_ pk f (i + 1) r)
theorem shf_app (by_ pk : Int) (f : Nat) : ∀ (a b : F) (i : Nat), shf by_ pk f i (a.app b) = (shf by_ pk f i a).app (shf by_ pk f (i + a.len) b)
  | .nil, b, i => rfl
  | .cons x k r, b, i => by
    simp only [F.app, shf, shf_app by_ pk f r b, F.len]
    rw [show i + 1 + r.len = i + (r.len + 1) by omega]
theorem shf_len (by_ pk : Int) (f : Nat) : ∀ (a : F) (i : Nat), (shf by_ pk f i a).len = a.len
  | .nil, _ => rfl
  | .cons x k r, i => by simp [shf, F.len, shf_len by_ pk f r]
theorem shf_flat (by_ : Int) : ∀ (a : F) (pk : Int) (f i : Nat), (shf by_ pk f i a).flat.length = a.flat.length
  | .nil, _, _, _ => rfl
  | .cons x k r, pk, f, i => by simp [shf, F.flat, shf_flat by_ k, shf_flat by_ r]

/-- A kid more behind a tree's kids. -/
theorem row_step {wr w5 w6 : World} {B : Obj} {b0 O al g6 cap6 : Nat} {own : Option Nat} {F1 kk : F} {cs : List Value} {zz : Cc} {s5 : Value} {T : TypeId} {x0 x1 sO : Value}
    (h5 : Below wr.heap.size wr w5) (hK : KidsAt wr (fun g => b0 ≤ g ∧ own ≠ some g) F1 cs) (hT : KidT w5 (fun g => wr.heap.size ≤ g) kk s5)
    (ho : w6.ownsRow b0 T 3 (.slice (some ⟨g6, 0, none⟩) (al + 1) cap6) (al + 1) (cs ++ tC zz s5)) (hg : (w5.alloc B).grownBy w6 own) (hat : own = some g6 ∨ g6 = (w5.alloc B).heap.size)
    (hl : ∀ k, own = some k → b0 ≤ k ∧ k < wr.heap.size) (hO : O < b0) (hb : b0 ≤ wr.heap.size) (hOc : wr.heap[O]? = some (.cells #[x0, x1, sO] T (0, 0))) :
    KidsAt (w6.setCell ⟨O, 2, none⟩ (.slice (some ⟨g6, 0, none⟩) (al + 1) cap6)) (fun g => b0 ≤ g ∧ (Value.slice (some ⟨g6, 0, none⟩) (al + 1) cap6).ownBlock ≠ some g) (F1.app (.cons zz kk .nil)) (cs ++ tC zz s5) ∧
    (w6.setCell ⟨O, 2, none⟩ (.slice (some ⟨g6, 0, none⟩) (al + 1) cap6)).ownsRow b0 T 3 (.slice (some ⟨g6, 0, none⟩) (al + 1) cap6) (al + 1) (cs ++ tC zz s5) ∧
    Holds (w6.setCell ⟨O, 2, none⟩ (.slice (some ⟨g6, 0, none⟩) (al + 1) cap6)) (fun g => b0 ≤ g) (.slice (some ⟨g6, 0, none⟩) (al + 1) cap6) (al + 1) (cs ++ tC zz s5) ∧
    (∀ k, k < b0 → k ≠ O → (w6.setCell ⟨O, 2, none⟩ (.slice (some ⟨g6, 0, none⟩) (al + 1) cap6)).heap[k]? = wr.heap[k]?) ∧
    (w6.setCell ⟨O, 2, none⟩ (.slice (some ⟨g6, 0, none⟩) (al + 1) cap6)).heap[O]? = some (.cells #[x0, x1, .slice (some ⟨g6, 0, none⟩) (al + 1) cap6] T (0, 0)) ∧
    wr.heap.size ≤ (w6.setCell ⟨O, 2, none⟩ (.slice (some ⟨g6, 0, none⟩) (al + 1) cap6)).heap.size ∧ Below O wr (w6.setCell ⟨O, 2, none⟩ (.slice (some ⟨g6, 0, none⟩) (al + 1) cap6)) := by
  have hs5 := h5.size
  have hs6 : w5.heap.size + 1 ≤ w6.heap.size := by have := hg.size; simpa using this
  have hbf : ∀ k, k ≠ O → (w6.setCell ⟨O, 2, none⟩ (.slice (some ⟨g6, 0, none⟩) (al + 1) cap6)).heap[k]? = w6.heap[k]? := fun k hk => Below.heap_setCell _ _ _ _ hk
  have hss : (w6.setCell ⟨O, 2, none⟩ (.slice (some ⟨g6, 0, none⟩) (al + 1) cap6)).heap.size = w6.heap.size := by simp [World.setCell]
  have hk6 : ∀ k, own ≠ some k → k < w5.heap.size → w6.heap[k]? = w5.heap[k]? := fun k hn hlt => by
    rw [hg.block k (by simp; omega) (fun e => hn e.symm), heap_alloc_old _ _ hlt]
  have hg6 : ∀ k, k < w5.heap.size → own ≠ some k → (Value.slice (some ⟨g6, 0, none⟩) (al + 1) cap6).ownBlock ≠ some k := fun k hlt hn e => by
    simp only [Value.ownBlock, Option.some.injEq] at e
    subst e
    rcases hat with h | h
    · exact hn h
    · simp at h; omega
  have hgl : b0 ≤ g6 ∧ g6 < w6.heap.size := ho.lt g6 rfl
  have k1 : KidsAt (w6.setCell ⟨O, 2, none⟩ (.slice (some ⟨g6, 0, none⟩) (al + 1) cap6)) (fun g => b0 ≤ g ∧ (Value.slice (some ⟨g6, 0, none⟩) (al + 1) cap6).ownBlock ≠ some g) F1 cs := by
    refine hK.keep (by rw [hss]; omega) (fun k hk1 hk2 => ⟨?_, hk1.1, hg6 k (by omega) hk1.2⟩)
    rw [hbf k (by omega), hk6 k hk1.2 (by omega), h5.block k hk2]
  have hown : ∀ k, wr.heap.size ≤ k → own ≠ some k := fun k hk e => by have := (hl k e).2; omega
  have k2 : KidT (w6.setCell ⟨O, 2, none⟩ (.slice (some ⟨g6, 0, none⟩) (al + 1) cap6)) (fun g => b0 ≤ g ∧ (Value.slice (some ⟨g6, 0, none⟩) (al + 1) cap6).ownBlock ≠ some g) kk s5 := by
    refine hT.keep (by rw [hss]; omega) (fun k hk1 hk2 => ⟨?_, by omega, hg6 k hk2 (hown k hk1)⟩)
    rw [hbf k (by omega), hk6 k (hown k hk1) hk2]
  have hall : ∀ k, k < b0 → k ≠ O → (w6.setCell ⟨O, 2, none⟩ (.slice (some ⟨g6, 0, none⟩) (al + 1) cap6)).heap[k]? = wr.heap[k]? := fun k hk1 hk2 => by
    rw [hbf k hk2, hk6 k (fun e => by have := (hl k e).1; omega) (by omega), h5.block k (by omega)]
  have hO6 : w6.heap[O]? = some (.cells #[x0, x1, sO] T (0, 0)) := by
    rw [hk6 O (fun e => by have := (hl O e).1; omega) (by omega), h5.block O (by omega)]; exact hOc
  refine ⟨KidsAt.app k1 ⟨s5, [], (List.append_nil _).symm, k2, rfl⟩, tOwn_keep ho (fun k hk1 hk2 => hbf k (by omega)), ?_, hall, ?_, by rw [hss]; omega, ?_⟩
  · obtain ⟨g, cap, he, hgb, hgs, hgc⟩ := tOwn_lies ho (by omega)
    simp only [Value.slice.injEq, Option.some.injEq, Addr.mk.injEq, and_true, true_and] at he
    obtain ⟨rfl, rfl⟩ := he
    refine .inr ⟨by omega, _, _, rfl, hgb, by rw [hss]; exact hgs, fun j v hj => ?_⟩
    rw [World.cell?_of_block (w := w6) (hbf _ (by dsimp only; omega))]
    exact hgc j v hj
  · rw [blk_setCell hO6]; rfl
  · refine ⟨?_, ?_, ?_, by rw [hss]; omega, fun k hk => hall k (by omega) (by omega)⟩
    · exact hg.os.trans h5.os
    · exact hg.tape.trans h5.tape
    · exact hg.output.trans h5.output
end Go.Proofs.Ytdajalchdbgooaa.W
