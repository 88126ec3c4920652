/-
  A row of cells of trees that came in as an argument, opened. No conditions.
-/
import Derived.Test.YtiphcjbmoekkkaaPlR
import Derived.Deep.Slices
import Derived.Lib.SmallJoins
import Derived.ChangeOld
namespace Go.Proofs.Ytiphcjbmoekkkaa.L
open Go.Proofs.Ytiphcjbmoekkkaa.W
open Go.ChangeShapes Go.WideShapes Go.ChangeAt Go.RowKit


set_option maxRecDepth 20000 in
theorem open_cells {H : Type} {enc : TypeId × Value → H} {W : World} {sp : Nat → Bool} {held : Bool} {fuel : Nat} {ad : Option Addr} {len cap : Nat} {x : DataW H × List MemPlace}
    (h : DataW.trod enc Try.prog W 0 sp held fuel 22 [.slice ad len cap] = some x) :
    ∃ l : List Cc, l.length = len ∧ len ≤ maxLen ∧ CRow W ad l := by
  rcases Go.Deep.open_slice Try.underlying22 h with ⟨hcs, -⟩ | ⟨a, len', cap', m, n, D, Pl, hcs, hb, hl, hm, hmm, -, hx⟩
  · simp at hcs
    exact ⟨[], by simp [hcs.2.1], by omega, .inl rfl⟩
  simp at hcs
  obtain ⟨rfl, rfl, rfl⟩ := hcs
  have hlm : len ≤ m := by rw [hmm]; split <;> omega
  have hc : Try.prog.cellsOf 57 = 2 := by kernel_rfl
  have ci : Try.prog.cellsOf 3 = 1 := by kernel_rfl
  haveI : Inhabited Cc := ⟨⟨0, 0⟩⟩
  obtain ⟨F, hF⟩ := Go.Deep.choose_lt (α := Cc) (n := len) (p := fun i q => W.cell? (a.add (i * 2)) = some (.int .i64 q.k) ∧ W.cell? (a.add (i * 2 + 1)) = some (.int .i64 q.n)) (fun i hi => by
    obtain ⟨cs', h1, h2⟩ := hx i (by omega)
    rw [hc] at h1
    obtain ⟨_, hlen, hcell⟩ := World.cells?_some h1
    obtain ⟨xs, k, hk, hxy, _, hxl, hf⟩ := DataW.trod_struct Try.underlying57 h2
    match cs', hlen with
    | [v0, v1], _ =>
      have g0 := hf 0 _ rfl
      have g1 := hf 1 _ rfl
      simp [ci] at g0 g1
      rw [List.getElem?_eq_getElem (by rw [hxl]; decide)] at g0 g1
      obtain ⟨k0, e0, -, -⟩ := DataW.trod_int Try.underlying3 g0
      obtain ⟨n0, e1, -, -⟩ := DataW.trod_int Try.underlying3 g1
      simp at e0 e1
      subst e0 e1
      have c0 := hcell 0 (by omega)
      have c1 := hcell 1 (by omega)
      rw [Go.Deep.add_add] at c0 c1
      exact ⟨⟨k0, n0⟩, by simpa using c0, by simpa using c1⟩)
  refine ⟨(List.range len).map F, by simp, by omega, ?_⟩
  · by_cases h0 : len = 0
    · left; simp [h0]
    · right
      obtain ⟨b, o, spot⟩ := a
      have hspot : spot = none := by simpa [Addr.add] using World.cell?_spot (hF 0 (by omega)).1
      subst hspot
      refine ⟨b, o, rfl, ?_, fun i hi => ?_⟩
      · have := World.block_lt_of_cell? _ _ (hF 0 (by omega)).1
        simpa [Addr.add] using this
      · have hi' : i < len := by simpa using hi
        obtain ⟨f0, f1⟩ := hF i hi'
        rw [Addr.add_lit] at f0 f1
        simp only [List.getElem_map, List.getElem_range]
        exact ⟨f0, f1⟩

end Go.Proofs.Ytiphcjbmoekkkaa.L
