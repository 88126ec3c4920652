/-
  A row of parts of expressions that came in as an argument, opened. No conditions.
-/
import Derived.Test.YtjffignbiabmaaaDoorExR
import Derived.Deep.Slices
import Derived.Lib.SmallJoins
import Derived.ChangeOld
namespace Go.Proofs.YtjffignbiabmaaaDoor.W
open Go.ChangeShapes Go.WideShapes Go.ChangeAt Go.RowKit


set_option maxRecDepth 20000 in
theorem open_exs {H : Type} {enc : TypeId × Value → H} {W : World} {sp : Nat → Bool} {held : Bool} {fuel : Nat} {ad : Option Addr} {len cap : Nat} {x : DataW H × List MemPlace}
    (h : DataW.trod enc Tryd.prog W 0 sp held fuel 38 [.slice ad len cap] = some x) :
    ∃ l : List Xx, l.length = len ∧ len ≤ maxLen ∧ (∀ x ∈ l, x.t.size ≤ maxLen) ∧ Row W ad l := by
  rcases Go.Deep.open_slice Tryd.underlying38 h with ⟨hcs, -⟩ | ⟨a, len', cap', m, n, D, Pl, hcs, hb, hl, hm, hmm, -, hx⟩
  · simp at hcs
    exact ⟨[], by simp [hcs.2.1], by omega, by simp, .inl rfl⟩
  simp at hcs
  obtain ⟨rfl, rfl, rfl⟩ := hcs
  have hlm : len ≤ m := by rw [hmm]; split <;> omega
  have hc : Tryd.prog.cellsOf 93 = 3 := by kernel_rfl
  have ci : Tryd.prog.cellsOf 3 = 1 := by kernel_rfl
  have cs : Tryd.prog.cellsOf 9 = 1 := by kernel_rfl
  haveI : Inhabited Xx := ⟨⟨0, 0, ⟨#[]⟩⟩⟩
  obtain ⟨F, hF⟩ := Go.Deep.choose_lt (α := Xx) (n := len) (p := fun i q => q.t.size ≤ maxLen ∧ W.cell? (a.add (i * 3)) = some (.int .i64 q.k) ∧ W.cell? (a.add (i * 3 + 1)) = some (.int .i64 q.n) ∧ W.cell? (a.add (i * 3 + 2)) = some (.string q.t)) (fun i hi => by
    obtain ⟨cs', h1, h2⟩ := hx i (by omega)
    rw [hc] at h1
    obtain ⟨_, hlen, hcell⟩ := World.cells?_some h1
    obtain ⟨xs, k, hk, hxy, _, hxl, hf⟩ := DataW.trod_struct Tryd.underlying93 h2
    match cs', hlen with
    | [v0, v1, v2], _ =>
      have g0 := hf 0 _ rfl
      have g1 := hf 1 _ rfl
      have g2 := hf 2 _ rfl
      simp [ci, cs] at g0 g1 g2
      rw [List.getElem?_eq_getElem (by rw [hxl]; decide)] at g0 g1 g2
      obtain ⟨k0, e0, -, -⟩ := DataW.trod_int Tryd.underlying3 g0
      obtain ⟨n0, e1, -, -⟩ := DataW.trod_int Tryd.underlying3 g1
      obtain ⟨t0, e2, -, wt⟩ := DataW.trod_string Tryd.underlying9 g2
      simp at e0 e1 e2
      subst e0 e1 e2
      have c0 := hcell 0 (by omega)
      have c1 := hcell 1 (by omega)
      have c2 := hcell 2 (by omega)
      rw [Go.Deep.add_add] at c0 c1 c2
      exact ⟨⟨k0, n0, t0⟩, wt, by simpa using c0, by simpa using c1, by simpa using c2⟩)
  refine ⟨(List.range len).map F, by simp, by omega, ?_, ?_⟩
  · intro x hx
    obtain ⟨i, hi, rfl⟩ := List.mem_map.1 hx
    exact (hF i (List.mem_range.1 hi)).1
  · by_cases h0 : len = 0
    · left; simp [h0]
    · right
      obtain ⟨b, o, spot⟩ := a
      have hspot : spot = none := by simpa [Addr.add] using World.cell?_spot (hF 0 (by omega)).2.1
      subst hspot
      refine ⟨b, o, rfl, ?_, fun i hi => ?_⟩
      · have := World.block_lt_of_cell? _ _ (hF 0 (by omega)).2.1
        simpa [Addr.add] using this
      · have hi' : i < len := by simpa using hi
        obtain ⟨-, f0, f1, f2⟩ := hF i hi'
        rw [Addr.add_lit] at f0 f1 f2
        simp only [List.getElem_map, List.getElem_range]
        exact ⟨f0, f1, f2⟩

end Go.Proofs.YtjffignbiabmaaaDoor.W
