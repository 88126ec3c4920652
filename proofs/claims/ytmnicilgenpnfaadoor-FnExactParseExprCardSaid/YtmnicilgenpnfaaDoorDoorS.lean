/-
  What the listed table of signs gives the walks: it reads as its text lays it, and a start that meets the condition.
-/
import Derived.Test.YtmnicilgenpnfaaDoorStr
import Derived.ChangeVars
import Derived.LaidMore
import Derived.Stop.Joined
import Derived.Stop.LaidErr
import Derived.Lib.LaidTab
import Derived.Below
import Derived.OpenShut
import Derived.OpenVars
import Derived.Deep.Strs
import Derived.WalkSmall
namespace Go.Proofs.YtmnicilgenpnfaaDoor.W
open Go.ChangeShapes Go.WideShapes Go.ChangeAt Go.RowKit

theorem own : ownKnob Tryd.prog.godebug = none := by kernel_rfl
theorem laidOut : laidOutB Tryd.prog = true := by kernel_rfl
theorem SgTab.below {w w' : World} (h : SgTab w) (hb : Below w.heap.size w w') : SgTab w' := by
  obtain ⟨t, fr, hr⟩ := h.row
  exact var?_below hb gSg (Array.getElem?_eq_some_iff.1 hr).1 h
def laidL : List (String × DataW Unit) := [("loop.example/g00339/impl.signRows", Rows.laid_loop_example_g00339_impl_signRows)]

theorem door_met (os : Os) (args : Array Value) : laidMetH Tryd.prog laidL ((World.doorLaid Tryd.prog 26 os).forCall (fun _ _ => 0) ⟨#[], args, []⟩).memory :=
  laidMetH_of_parts3 (fuel := 8) (laidMet_of_run' 8 (by kernel_rfl) (by kernel_rfl)) (by kernel_rfl) (by kernel_rfl)

theorem tSg : (Tryd.prog.globals[0]?).map (·.type) = some 73 := by kernel_rfl

set_option maxRecDepth 20000 in
theorem row3 {H : Type} {enc : TypeId × Value → H} {w : World} {base : Nat} {sp : Nat → Bool} {held : Bool} {m : Nat} {cs : List Value} {y : DataW H × List MemPlace} {b : List UInt8} {n : Int} {r : Bool}
    (h : DataW.trod enc Tryd.prog w base sp held m 72 cs = some y) (hy : y.1 = .agg [.lit (.string b), .lit (.int .i64 n), .lit (.bool r)]) : cs = [.string ⟨b.toArray⟩, .int .i64 n, .bool r] := by
  have c1 : Tryd.prog.cellsOf 9 = 1 := by kernel_rfl
  have c2 : Tryd.prog.cellsOf 3 = 1 := by kernel_rfl
  have c3 : Tryd.prog.cellsOf 4 = 1 := by kernel_rfl
  have c4 : Tryd.prog.cellsOf 72 = 3 := by kernel_rfl
  obtain ⟨y0, y1, y2, k, rfl, hl, h0, h1, h2⟩ := Go.Deep.trod_struct3 Tryd.underlying72 h
  rw [c4] at hl
  match cs, hl with
  | [v0, v1, v2], _ =>
    simp [c1, c2, c3] at h0 h1 h2
    obtain ⟨s0, e0, rfl, -⟩ := DataW.trod_string Tryd.underlying9 h0
    obtain ⟨n0, e1, rfl, -⟩ := DataW.trod_int Tryd.underlying3 h1
    obtain ⟨b0, e2, rfl⟩ := DataW.trod_bool Tryd.underlying4 h2
    simp at e0 e1 e2 hy
    obtain ⟨rfl, rfl, rfl⟩ := hy
    subst e0 e1 e2
    simp

set_option maxRecDepth 20000 in
theorem sg_of_head {W : World} {rest : List (String × DataW Unit)} (h : laidMet Tryd.prog (("loop.example/g00339/impl.signRows", Rows.laid_loop_example_g00339_impl_signRows) :: rest) W) : SgTab W := by
  obtain ⟨ps, ⟨g', t', cs, fuel, p, q, hg', ht', hvar, hd, _, _⟩, _⟩ := h
  obtain rfl := Option.some.inj (gSg.symm.trans hg')
  obtain rfl := Option.some.inj (tSg.symm.trans ht')
  unfold SgTab
  rw [hvar]
  have c3 : Tryd.prog.cellsOf 72 = 3 := by kernel_rfl
  have c36 : Tryd.prog.cellsOf 73 = 36 := by kernel_rfl
  obtain ⟨xs, m, -, hx, hl, hxl, hr⟩ := DataW.trod_array Tryd.underlying73 hd
  rw [c36] at hl
  have hx1 := congrArg Prod.fst hx
  match xs, hxl with
  | [x0, x1, x2, x3, x4, x5, x6, x7, x8, x9, x10, x11], _ =>
    simp only [Rows.laid_loop_example_g00339_impl_signRows, List.map_cons, List.map_nil, DataW.agg.injEq, List.cons.injEq, and_true] at hx1
    obtain ⟨e0, e1, e2, e3, e4, e5, e6, e7, e8, e9, e10, e11⟩ := hx1
    simp only [c3] at hr
    have q0 := row3 (hr 0 (by omega)) e0.symm
    have q1 := row3 (hr 1 (by omega)) e1.symm
    have q2 := row3 (hr 2 (by omega)) e2.symm
    have q3 := row3 (hr 3 (by omega)) e3.symm
    have q4 := row3 (hr 4 (by omega)) e4.symm
    have q5 := row3 (hr 5 (by omega)) e5.symm
    have q6 := row3 (hr 6 (by omega)) e6.symm
    have q7 := row3 (hr 7 (by omega)) e7.symm
    have q8 := row3 (hr 8 (by omega)) e8.symm
    have q9 := row3 (hr 9 (by omega)) e9.symm
    have q10 := row3 (hr 10 (by omega)) e10.symm
    have q11 := row3 (hr 11 (by omega)) e11.symm
    have hs : cs.toList = sgRows.toList := by
      have step : ∀ i (l : List Value), (l.drop (i * 3)) = (l.drop (i * 3)).take 3 ++ l.drop ((i + 1) * 3) := fun i l => by
        rw [show (i + 1) * 3 = i * 3 + 3 by omega, ← List.drop_drop, List.take_append_drop]
      have h0 : cs.toList = cs.toList.drop (0 * 3) := by simp
      have h12 : cs.toList.drop ((11 + 1) * 3) = [] := List.drop_eq_nil_of_le (by omega)
      rw [h0, step 0, q0, step 1, q1, step 2, q2, step 3, q3, step 4, q4, step 5, q5, step 6, q6, step 7, q7, step 8, q8, step 9, q9, step 10, q10, step 11, q11, h12]
      rfl
    rw [← Array.toArray_toList (xs := cs), hs]

theorem sg_of_laid {W : World} (h : laidMetH Tryd.prog laidL W) : SgTab W := by
  rw [MakeChecks.laidMetH_plain _ _ _ (by kernel_rfl)] at h
  exact sg_of_head h
end Go.Proofs.YtmnicilgenpnfaaDoor.W
