/-
  Data in memory, and contracts of the laws' functions over them. Conditions: at most 1048576 constructors where they are copied.
-/
import Derived.Test.YtmlpnmdckgppnaaRwI
import Derived.Below
namespace Go.Proofs.Ytmlpnmdckgppnaa.W
open Go.ChangeShapes Go.WideShapes Go.ChangeAt Go.RowKit Go.Joins
set_option linter.unusedVariables false

theorem belowDrew8 {B : Nat} {x y : World} (h : Below B x y) : Below B x y.drew := ⟨h.os, h.tape, h.output, h.size, h.block⟩
/-- v is data with these constructors. -/
def DRow (w : World) (v : Value) (D : List Int) : Prop := ∃ ad c, v = .agg #[.slice ad D.length c] ∧ IRow w ad D ∧ D.length ≤ 1048576
theorem DRow.below {w w' : World} {v : Value} {D : List Int} (h : DRow w v D) (hb : Below w.heap.size w w') : DRow w' v D := by
  obtain ⟨ad, c, h1, h2, h3⟩ := h
  exact ⟨ad, c, h1, RRow.below h2 hb, h3⟩

set_option maxHeartbeats 1000000 in
theorem szData_any (ad : Option Addr) (c n : Nat) (left : Int) (w : World) (hl : n ≤ maxLen) (h0 : 0 ≤ left) (h1 : left ≤ 1048576) :
    Calls Try.prog 4 #[.agg #[.slice ad n c], .int .i64 left] w fun e w' => ∃ r : Int, e = .returned (.int .i64 r) ∧ (r < 0 ∨ 0 ≤ r ∧ r ≤ 1048576 ∧ n ≤ 1048576) ∧ Below w.heap.size w w' := by
  have HC := hide (fun w' => szIntS_any ad c n left w' hl h0 h1)
  clear hl h0 h1
  go_enter Try.func4, Try.ntmps4
  go_wp2_with fail
  refine Calls.mono (HC.out _) ?_
  rintro e w1 ⟨r, rfl, hr, hw⟩
  obtain rfl := hw.symm
  have hB : Below w.heap.size w (w.alloc (.cells #[.slice ad n c] 24)) := (Below.refl _ _).alloc (Nat.le_refl _) _
  by_cases hneg : r < 0
  · clear hr
    go_wp2_with fail
    go_ret
    exact ⟨_, rfl, .inl (by omega), hB⟩
  · have hr' := hr.resolve_left hneg
    clear hr
    go_wp2_with fail
    go_ret
    exact ⟨_, rfl, .inr hr', hB⟩

set_option maxHeartbeats 1000000 in
theorem toData_any (v : Value) (D : List Int) (w : World) (h : DRow w v D) :
    Calls Try.prog 7 #[v] w fun e w' => ∃ g, e = .returned (.agg #[.slice (some ⟨g, 0, none⟩) D.length D.length]) ∧ w.heap.size ≤ g ∧ IBlk w' g D ∧ Below w.heap.size w w' := by
  obtain ⟨ad, c, rfl, hR, hl⟩ := h
  have HC := hide (fun w' hb => toIntS_any ad c D w' hl (RRow.below (w' := w') hR hb))
  clear hR hl
  have HB := hide (show Below w.heap.size w (((w.alloc (.cells #[.slice ad D.length c] 24)).alloc (.cells #[.slice none 0 0] 31)).alloc (.cells #[.slice none 0 0] 31)) from (((Below.refl _ _).alloc (Nat.le_refl _) _).alloc (by simp) _).alloc (by simp; omega) _)
  go_enter Try.func7, Try.ntmps7
  go_wp2_with fail
  refine Calls.mono (HC.out _ HB.out) ?_
  rintro e w1 ⟨rfl, hI, hb⟩
  have hB1 : Below w.heap.size w w1 := HB.out.trans (hb.mono HB.out.size)
  have x1 : Bx w1 (w.heap.size + 1) #[.slice none 0 0] 31 := by
    have := ((Bx.new (w.alloc (.cells #[.slice ad D.length c] 24)) #[.slice none 0 0] 31).alloc (.cells #[.slice none 0 0] 31)).below hb (by simp)
    simpa using this
  have x2 : Bx w1 (w.heap.size + 2) #[.slice none 0 0] 31 := by
    have := (Bx.new ((w.alloc (.cells #[.slice ad D.length c] 24)).alloc (.cells #[.slice none 0 0] 31)) #[.slice none 0 0] 31).below hb (by simp)
    simpa using this
  have c1 := x1.c
  have f1 := x1.f
  have c2 := x2.c
  have f2 := x2.f
  have HI := hide hI
  clear hI HC hb
  obtain ⟨S, hS⟩ : ∃ S, S = (((w.alloc (.cells #[.slice ad D.length c] 24)).alloc (.cells #[.slice none 0 0] 31)).alloc (.cells #[.slice none 0 0] 31)).heap.size := ⟨_, rfl⟩
  rw [← hS] at HI ⊢
  have hSn : w.heap.size + 2 < S := by rw [hS]; simp
  clear hS HB
  go_wp2_with fail
  refine bodyPost_ret (v := .agg #[.slice (some ⟨S, 0, none⟩) D.length D.length]) (by simp [results, Try.results7, go_sem, *]) rfl ⟨S, rfl, by omega, ?_, ?_⟩
  · exact RBlk.setne (RBlk.setne HI.out _ _ _ (by omega)) _ _ _ (by omega)
  · exact (hB1.setCell (by simp; omega) _).setCell (by simp) _
theorem toData_row (v : Value) (D : List Int) (w : World) (h : DRow w v D) :
    Calls Try.prog 7 #[v] w fun e w' => ∃ v', e = .returned v' ∧ DRow w' v' D ∧ Below w.heap.size w w' := by
  obtain ⟨-, -, -, -, hl⟩ := id h
  refine (toData_any v D w h).mono ?_
  rintro e w' ⟨g, rfl, -, h1, h2⟩
  exact ⟨_, rfl, ⟨_, _, rfl, h1.row, hl⟩, h2⟩

set_option maxHeartbeats 1000000 in
theorem eqData_row (v1 v2 : Value) (D : List Int) (w : World) (h1 : DRow w v1 D) (h2 : DRow w v2 D) :
    Calls Try.prog 11 #[v1, v2] w fun e w' => e = .returned (.bool true) ∧ Below w.heap.size w w' := by
  obtain ⟨a1, c1, rfl, r1, hl⟩ := h1
  obtain ⟨a2, c2, rfl, r2, -⟩ := h2
  have HC := hide (fun w' (hb : Below w.heap.size w w') => eqIntS_row a1 a2 c1 c2 D w' hl (RRow.below r1 hb) (RRow.below r2 hb))
  clear r1 r2
  have HB := hide (show Below w.heap.size w ((w.alloc (.cells #[.slice a1 D.length c1] 31)).alloc (.cells #[.slice a2 D.length c2] 31)) from ((Below.refl _ _).alloc (Nat.le_refl _) _).alloc (by simp) _)
  go_enter Try.func11, Try.ntmps11
  go_wp2_with fail
  refine Calls.mono (HC.out _ HB.out) ?_
  rintro e w1 ⟨rfl, hb⟩
  have hB1 : Below w.heap.size w w1 := HB.out.trans (hb.mono HB.out.size)
  clear HC HB hb
  go_wp2_with fail
  go_ret
  exact ⟨rfl, hB1⟩

theorem open_slice1 {H : Type} {enc : TypeId × Value → H} {W : World} {sp : Nat → Bool} {held : Bool} {fuel : Nat} {t e : TypeId} {v : Value} {x : DataW H × List MemPlace} (ht : Try.prog.underlying t = some (.slice e))
    (h : DataW.trod enc Try.prog W 0 sp held fuel t [v] = some x) : ∃ ad len cap, v = .slice ad len cap ∧ len ≤ cap := by
  rcases Go.Deep.open_slice ht h with ⟨hcs, -⟩ | ⟨a, len, cap, m, n, D, Pl, hcs, hb, hl, -⟩
  · simp at hcs; exact ⟨none, 0, 0, hcs, Nat.le_refl _⟩
  · simp at hcs; exact ⟨some a, len, cap, hcs, hl⟩
set_option maxRecDepth 20000 in
theorem open_data {H : Type} {enc : TypeId × Value → H} {W : World} {sp : Nat → Bool} {held : Bool} {base : Nat} {v : Value} {x : DataW H × List MemPlace} (hv : Value.okWide Try.prog W .any base 24 v)
    (h : ∃ fuel, DataW.trod enc Try.prog W 0 sp held fuel 24 v.cells.toList = some x) :
    ∃ (D : List Int) (ad : Option Addr) (c : Nat), v = .agg #[.slice ad D.length c] ∧ IRow W ad D ∧ D.length ≤ maxLen := by
  obtain ⟨cs, rfl, hsz⟩ := okWide_struct Try.underlying24 hv
  obtain ⟨fuel, h⟩ := h
  obtain ⟨xs, k, hk, hxy, hl, hxl, hf⟩ := DataW.trod_struct Try.underlying24 h
  have hc : Try.prog.cellsOf 24 = 1 := by kernel_rfl
  have c1 : Try.prog.cellsOf 22 = 1 := by kernel_rfl
  obtain ⟨l, rfl⟩ : ∃ l : List Value, cs = l.toArray := ⟨cs.toList, by simp⟩
  rw [hc] at hsz
  have hsz' : l.length = 1 := by simpa using hsz
  match l, hsz' with
  | [v0], _ =>
    have g0 := hf 0 _ rfl
    simp [c1, Value.cells] at g0
    rw [List.getElem?_eq_getElem (by rw [hxl]; decide)] at g0
    obtain ⟨ad, n, c, rfl, -⟩ := open_slice1 Try.underlying22 g0
    obtain ⟨D, rfl, m1, r1⟩ := open_ints g0
    exact ⟨D, ad, c, rfl, r1, m1⟩
end Go.Proofs.Ytmlpnmdckgppnaa.W
