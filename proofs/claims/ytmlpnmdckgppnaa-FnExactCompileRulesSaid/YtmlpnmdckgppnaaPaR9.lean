/-
  The specification's reader of patterns: a row is read as a tree that lies in new memory. Conditions: good data, at most 1048576 cells. Written by wip/build/mk_pard.py.
-/
import Derived.Test.YtmlpnmdckgppnaaPaS
namespace Go.Proofs.Ytmlpnmdckgppnaa.W
open Go.ChangeShapes Go.WideShapes Go.ChangeAt Go.RowKit
set_option linter.unusedVariables false

/-- What stands at the loop's head: the data, the answer's place, the cell, the tree. -/
def RdP (w' : World) (B0 : Nat) (da : Option Addr) (dc : Nat) (D : List Int) (x : Pt) (s : Value) : Prop :=
  Bx w' (B0) #[.slice da D.length dc] 31 ∧ Bx w' (B0 + 1) #[.int .i64 0, .slice none 0 0] 50 ∧ Bx w' (B0 + 2) #[.int .i64 x.kd, .int .i64 x.con] 75 ∧ Bx w' (B0 + 3) #[.int .i64 x.con, s] 50
theorem RdP.keep {w w' : World} {B0 : Nat} {da : Option Addr} {dc : Nat} {D : List Int} {x : Pt} {s : Value} (h : RdP w B0 da dc D x s) (hb : ∀ k, k < B0 + 4 → w'.heap[k]? = w.heap[k]?) : RdP w' B0 da dc D x s := by
  obtain ⟨h0, h1, h2, h3⟩ := h
  exact ⟨(hb _ (by omega)).trans h0, (hb _ (by omega)).trans h1, (hb _ (by omega)).trans h2, (hb _ (by omega)).trans h3⟩
theorem RdP.lt {w : World} {B0 : Nat} {da : Option Addr} {dc : Nat} {D : List Int} {x : Pt} {s : Value} (h : RdP w B0 da dc D x s) : B0 + 3 < w.heap.size := (h.2.2.2 : Bx _ _ _ _).lt
theorem RdP.p {w : World} {B0 : Nat} {da : Option Addr} {dc : Nat} {D : List Int} {x : Pt} {s : Value} (h : RdP w B0 da dc D x s) : Bx w (B0 + 3) #[.int .i64 x.con, s] 50 := h.2.2.2

def RdIHp (f : Nat) (vd : Value) (D : List Int) (ad : Option Addr) (c : Nat) (l : List Pt) : Prop := ∀ (at' : Nat) (w' : World), DRow w' vd D → PtRow w' ad l → at' ≤ l.length → l.length - at' ≤ f → RdGoal 34 vd D (.slice ad l.length c) l at' w'

set_option maxRecDepth 20000 in
set_option maxHeartbeats 4000000 in
theorem l8ReadPat_none (vd : Value) (D : List Int) (ad : Option Addr) (c : Nat) (l : List Pt) (at_ : Nat) (w : World) (hl : l.length ≤ 1048576) (hD : DRow w vd D) (hge : l.length ≤ at_) (ha : at_ ≤ l.length) : RdGoal 34 vd D (.slice ad l.length c) l at_ w := by
  unfold RdGoal
  have hr : rt D 1 (l.drop at_) = none := by rw [List.drop_eq_nil_of_le hge]; rfl
  rw [hr]
  obtain ⟨da, dc, rfl, hDi, hDl⟩ := hD
  have hge' : (l.length : Int) ≤ (at_ : Int) := by omega
  have HB := hide (show Below w.heap.size w ((w.alloc (.cells #[.slice da D.length dc] 31)).alloc (.cells #[.int .i64 0, .slice none 0 0] 50)) from ((Below.refl _ _).alloc (Nat.le_refl _) _).alloc (by simp) _)
  clear hDi
  go_enter Try.func34, Try.ntmps34
  go_wp2_with fail
  refine bodyPost_ret (v := .tuple #[.agg #[.int .i64 0, .slice none 0 0], .int .i64 0]) (by simp [results, Try.results34, go_sem]) rfl ⟨?_, rfl⟩
  exact HB.out

end Go.Proofs.Ytmlpnmdckgppnaa.W
