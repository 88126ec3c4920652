/-
  What the specification's readers of patterns and values tell of what is read. No program here.
-/
import Derived.Test.YtmlpnmdckgppnaaPaM
import Derived.Test.YtmlpnmdckgppnaaPaI
import Derived.Test.YtmlpnmdckgppnaaApS
namespace Go.Proofs.Ytmlpnmdckgppnaa.W
open Go.ChangeShapes Go.WideShapes Go.ChangeAt Go.RowKit
set_option linter.unusedVariables false

theorem belowN8 {B : Nat} {x y : World} (h : Below B x y) (n : Nat) : Below B x (y.drewN n) := ⟨h.os, h.tape, h.output, h.size, h.block⟩
theorem Bx.drewN {w : World} {b : Nat} {cs : Array Value} {T : TypeId} (h : Bx w b cs T) (n : Nat) : Bx (w.drewN n) b cs T := h
/-- What a reader tells of what is read. -/
def TRdOut (w' : World) (lo n : Nat) (e : Ending) : Option (F × List Pt) → Prop
  | none => e = .returned (.tuple #[.agg #[.int .i64 0, .slice none 0 0], .int .i64 0])
  | some (a, r) => ∃ x k s, a = .cons x k .nil ∧ e = .returned (.tuple #[.agg #[.int .i64 (tcon x), s], .int .i64 ((n - r.length : Nat) : Int)]) ∧ KidT w' (fun g => lo ≤ g) k s

theorem rt_end {l a r : List Pt} {n : Nat} (h : l.drop n = a ++ r) : r = l.drop (l.length - r.length) := by
  have hl : (l.drop n).length = a.length + r.length := by rw [h]; simp
  rw [List.length_drop] at hl
  by_cases hn : n ≤ l.length
  · have : l.drop (n + a.length) = r := by rw [← List.drop_drop, h]; simp
    rw [← this]
    congr 1
    rw [List.length_drop]; omega
  · have h0 : r = [] := List.eq_nil_of_length_eq_zero (by omega)
    rw [h0]; simp
theorem rt_1v {D : List Int} {x : Pt} {l : List Pt} (h : goodC D x = true) (ha : ar D x = 0) : rt D 1 (x :: l) = some (.cons x .nil .nil, l) := by rw [rt_1 h, ha, rt_0]; rfl
theorem tcon2 {x : Pt} (h : x.kd = 2) : tcon x = x.con := by unfold tcon; rw [if_neg (by omega)]

def RdGoal (fn : Nat) (vd : Value) (D : List Int) (row : Value) (l : List Pt) (at_ : Nat) (w : World) : Prop :=
    Calls Try.prog fn #[vd, row, .int .i64 at_] w fun e w' => Below w.heap.size w w' ∧ TRdOut w' w.heap.size l.length e (rt D 1 (l.drop at_))
end Go.Proofs.Ytmlpnmdckgppnaa.W
