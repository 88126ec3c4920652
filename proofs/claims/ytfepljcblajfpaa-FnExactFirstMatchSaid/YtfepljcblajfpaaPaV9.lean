/-
  The specification's reader of values: a row is read as a tree that lies in new memory. Conditions: good data, at most 1048576 cells. Written by wip/build/mk_pard.py.
-/
import Derived.Test.YtfepljcblajfpaaPaS
namespace Go.Proofs.Ytfepljcblajfpaa.W
open Go.ChangeShapes Go.WideShapes Go.ChangeAt Go.RowKit
set_option linter.unusedVariables false

/-- What stands at the loop's head: the data, the answer's place, the cell, the tree. -/
def RdV (w' : World) (B0 : Nat) (da : Option Addr) (dc : Nat) (D : List Int) (x : Pt) (s : Value) : Prop :=
  Bx w' (B0) #[.slice da D.length dc] 27 ∧ Bx w' (B0 + 1) #[.int .i64 0, .slice none 0 0] 71 ∧ Bx w' (B0 + 2) #[.int .i64 x.con, s] 71
theorem RdV.keep {w w' : World} {B0 : Nat} {da : Option Addr} {dc : Nat} {D : List Int} {x : Pt} {s : Value} (h : RdV w B0 da dc D x s) (hb : ∀ k, k < B0 + 3 → w'.heap[k]? = w.heap[k]?) : RdV w' B0 da dc D x s := by
  obtain ⟨h0, h1, h2⟩ := h
  exact ⟨(hb _ (by omega)).trans h0, (hb _ (by omega)).trans h1, (hb _ (by omega)).trans h2⟩
theorem RdV.lt {w : World} {B0 : Nat} {da : Option Addr} {dc : Nat} {D : List Int} {x : Pt} {s : Value} (h : RdV w B0 da dc D x s) : B0 + 2 < w.heap.size := (h.2.2 : Bx _ _ _ _).lt
theorem RdV.p {w : World} {B0 : Nat} {da : Option Addr} {dc : Nat} {D : List Int} {x : Pt} {s : Value} (h : RdV w B0 da dc D x s) : Bx w (B0 + 2) #[.int .i64 x.con, s] 71 := h.2.2

def RdIHv (f : Nat) (vd : Value) (D : List Int) (ad : Option Addr) (c : Nat) (v : List Int) (l : List Pt) : Prop := ∀ (at' : Nat) (w' : World), DRow w' vd D → IRow w' ad v → at' ≤ l.length → l.length - at' ≤ f → RdGoal 68 vd D (.slice ad v.length c) l at' w'

set_option maxRecDepth 20000 in
set_option maxHeartbeats 4000000 in
theorem l8ReadVal_none (vd : Value) (D : List Int) (ad : Option Addr) (c : Nat) (v : List Int) (l : List Pt) (hv : Hid (l = v.map oP)) (at_ : Nat) (w : World) (hl : v.length ≤ 1048576) (hD : DRow w vd D) (hge : v.length ≤ at_) (ha : at_ ≤ v.length) : RdGoal 68 vd D (.slice ad v.length c) l at_ w := by
  unfold RdGoal
  have hr : rt D 1 (l.drop at_) = none := by rw [List.drop_eq_nil_of_le (by rw [hv.out]; simpa using hge)]; rfl
  rw [hr]
  obtain ⟨da, dc, rfl, hDi, hDl⟩ := hD
  have hge' : (v.length : Int) ≤ (at_ : Int) := by omega
  have HB := hide (show Below w.heap.size w ((w.alloc (.cells #[.slice da D.length dc] 27)).alloc (.cells #[.int .i64 0, .slice none 0 0] 71)) from ((Below.refl _ _).alloc (Nat.le_refl _) _).alloc (by simp) _)
  clear hDi
  go_enter Try.func68, Try.ntmps68
  have hq1 : decide (v.length ≤ at_) = true := decide_eq_true hge
  have hq4 : decide ((v.length : Int) ≤ (at_ : Int)) = true := decide_eq_true hge'
  go_wp2_with fail
  go_quiet (fail)
  go_wp2_with fail
  refine bodyPost_ret (v := .tuple #[.agg #[.int .i64 0, .slice none 0 0], .int .i64 0]) (by simp [results, Try.results68, go_sem]) rfl ⟨?_, rfl⟩
  exact ((belowN8 HB.out _).setCell (p := ⟨w.heap.size + 1, 0, none⟩) (by simp) _).setCell (p := ⟨w.heap.size + 1, 1, none⟩) (by simp) _

end Go.Proofs.Ytfepljcblajfpaa.W
