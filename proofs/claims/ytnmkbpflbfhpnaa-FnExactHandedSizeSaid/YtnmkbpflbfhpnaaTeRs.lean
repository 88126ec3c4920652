/-
  Redexes as the specification tells them: contracts of l4Is, l4Any, IsNormal. Conditions: good terms of at most 1048576 cells.
-/
import Derived.Test.YtnmkbpflbfhpnaaTeR
import Derived.Deep.RegionHeld3
namespace Go.Proofs.Ytnmkbpflbfhpnaa.W
open Go.ChangeShapes Go.WideShapes Go.ChangeAt Go.RowKit
set_option linter.unusedVariables false

theorem belowDrw {B : Nat} {x y : World} (h : Below B x y) : Below B x y.drew := ⟨h.os, h.tape, h.output, h.size, h.block⟩

/-- The first kid, as a walk wants it. -/
theorem KidT.first {w : World} {P : Nat → Prop} {k r : F} {x : Cc} {ad : Option Addr} {n c : Nat} (h : KidT w P (.cons x k r) (.slice ad n c)) : ∃ g, ad = some ⟨g, 0, none⟩ ∧ g < w.heap.size ∧ n = r.len + 1 ∧
    w.cell? ⟨g, 0, none⟩ = some (.int .i64 x.k) ∧ w.cell? ⟨g, 1, none⟩ = some (.int .i64 x.n) ∧ ∃ sx, w.cell? ⟨g, 2, none⟩ = some sx ∧ KidT w P k sx := by
  obtain ⟨g, cap, sx, he, hP, hg, hTy, p0, p1, p2⟩ := KidT.kid (a := .nil) h
  simp only [F.len, Nat.zero_mul, Nat.zero_add] at p0 p1 p2
  simp only [Value.slice.injEq] at he
  exact ⟨g, he.1, hg, he.2.1, p0, p1, sx, p2, hTy⟩
/-- The second kid, as a walk wants it. -/
theorem KidT.second {w : World} {P : Nat → Prop} {k r ky : F} {x y : Cc} {g n c : Nat} (h : KidT w P (.cons y ky (.cons x k r)) (.slice (some ⟨g, 0, none⟩) n c)) :
    w.cell? ⟨g, 3, none⟩ = some (.int .i64 x.k) ∧ w.cell? ⟨g, 4, none⟩ = some (.int .i64 x.n) ∧ ∃ sx, w.cell? ⟨g, 5, none⟩ = some sx ∧ KidT w P k sx := by
  obtain ⟨g', cap, sx, he, hP, hg, hTy, p0, p1, p2⟩ := KidT.kid (a := .cons y ky .nil) h
  simp only [Value.slice.injEq, Option.some.injEq, Addr.mk.injEq] at he
  obtain ⟨⟨rfl, -, -⟩, -, -⟩ := he
  simp only [F.len, Nat.zero_add, Nat.one_mul] at p0 p1 p2
  exact ⟨p0, p1, sx, p2, hTy⟩

/-- Whether what is read is normal. -/
def nrmT : Option F → Bool
  | some a => !anyR a
  | none => false
end Go.Proofs.Ytnmkbpflbfhpnaa.W
