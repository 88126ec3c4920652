/-
  A machine as an argument of a law, opened. No program here.
-/
import Derived.Test.YtdajalchdbgooaaGreatMaL
import Derived.Lib.SmallJoins
import Derived.ChangeOld
import Derived.Below
namespace Go.Proofs.YtdajalchdbgooaaGreat.W
open Go.ChangeShapes Go.WideShapes Go.ChangeAt Go.RowKit Go.Joins
set_option linter.unusedVariables false

theorem open_slice1 {H : Type} {enc : TypeId × Value → H} {W : World} {sp : Nat → Bool} {held : Bool} {fuel : Nat} {t e : TypeId} {v : Value} {x : DataW H × List MemPlace} (ht : Tryz.prog.underlying t = some (.slice e))
    (h : DataW.trod enc Tryz.prog W 0 sp held fuel t [v] = some x) : ∃ ad len cap, v = .slice ad len cap ∧ len ≤ cap := by
  rcases Go.Deep.open_slice ht h with ⟨hcs, -⟩ | ⟨a, len, cap, m, n, D, Pl, hcs, hb, hl, -⟩
  · simp at hcs; exact ⟨none, 0, 0, hcs, Nat.le_refl _⟩
  · simp at hcs; exact ⟨some a, len, cap, hcs, hl⟩
set_option maxRecDepth 20000 in
theorem open_machine {H : Type} {enc : TypeId × Value → H} {W : World} {sp : Nat → Bool} {held : Bool} {base : Nat} {v : Value} {x : DataW H × List MemPlace} (hv : Value.okWide Tryz.prog W .any base 27 v)
    (h : ∃ fuel, DataW.trod enc Tryz.prog W 0 sp held fuel 27 v.cells.toList = some x) :
    ∃ (m : Mc) (af : Option Addr) (cf : Nat) (av : Option Addr) (cv : Nat) (ab : Option Addr) (cb : Nat), v = .agg #[.bool m.done, .int .i64 m.pl, .int .i64 m.env, .int .i64 m.val, .slice af m.fs.length cf, .slice av m.vs.length cv, .slice ab m.bs.length cb] ∧
      FmRow W af m.fs ∧ VlRow W av m.vs ∧ BdRow W ab m.bs ∧ m.fs.length ≤ maxLen ∧ m.vs.length ≤ maxLen ∧ m.bs.length ≤ maxLen ∧ m.fs.length ≤ cf ∧ m.vs.length ≤ cv ∧ m.bs.length ≤ cb := by
  obtain ⟨cs, rfl, hsz⟩ := okWide_struct Tryz.underlying27 hv
  obtain ⟨fuel, h⟩ := h
  obtain ⟨xs, k, hk, hxy, hl, hxl, hf⟩ := DataW.trod_struct Tryz.underlying27 h
  have hc : Tryz.prog.cellsOf 27 = 7 := by kernel_rfl
  have ci : Tryz.prog.cellsOf 3 = 1 := by kernel_rfl
  have cb : Tryz.prog.cellsOf 4 = 1 := by kernel_rfl
  have c1 : Tryz.prog.cellsOf 23 = 1 := by kernel_rfl
  have c2 : Tryz.prog.cellsOf 24 = 1 := by kernel_rfl
  have c3 : Tryz.prog.cellsOf 25 = 1 := by kernel_rfl
  obtain ⟨l, rfl⟩ : ∃ l : List Value, cs = l.toArray := ⟨cs.toList, by simp⟩
  rw [hc] at hsz
  have hsz' : l.length = 7 := by simpa using hsz
  match l, hsz' with
  | [v0, v1, v2, v3, v4, v5, v6], _ =>
    have g0 := hf 0 _ rfl
    have g1 := hf 1 _ rfl
    have g2 := hf 2 _ rfl
    have g3 := hf 3 _ rfl
    have g4 := hf 4 _ rfl
    have g5 := hf 5 _ rfl
    have g6 := hf 6 _ rfl
    simp [ci, cb, c1, c2, c3, Value.cells] at g0 g1 g2 g3 g4 g5 g6
    rw [List.getElem?_eq_getElem (by rw [hxl]; decide)] at g0 g1 g2 g3 g4 g5 g6
    obtain ⟨k0, e0, -⟩ := DataW.trod_bool Tryz.underlying4 g0
    obtain ⟨k1, e1, -, -⟩ := DataW.trod_int Tryz.underlying3 g1
    obtain ⟨k2, e2, -, -⟩ := DataW.trod_int Tryz.underlying3 g2
    obtain ⟨k3, e3, -, -⟩ := DataW.trod_int Tryz.underlying3 g3
    simp at e0 e1 e2 e3
    subst e0 e1 e2 e3
    obtain ⟨af, nf, cf, rfl, hf1⟩ := open_slice1 Tryz.underlying23 g4
    obtain ⟨av, nv, cv, rfl, hv1⟩ := open_slice1 Tryz.underlying24 g5
    obtain ⟨ab, nb, cb', rfl, hb1⟩ := open_slice1 Tryz.underlying25 g6
    obtain ⟨fs, rfl, m1, r1⟩ := open_Fm g4
    obtain ⟨vs, rfl, m2, r2⟩ := open_Vl g5
    obtain ⟨bs, rfl, m3, r3⟩ := open_Bd g6
    exact ⟨⟨k0, k1, k2, k3, fs, vs, bs⟩, af, cf, av, cv, ab, cb', rfl, r1, r2, r3, m1, m2, m3, hf1, hv1, hb1⟩
end Go.Proofs.YtdajalchdbgooaaGreat.W
