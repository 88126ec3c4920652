/-
  Graph in memory, and contracts of the laws' functions over them. Conditions: at most 1048576 blocks where they are copied.
-/
import Derived.Test.YtaniiolphghhiabGrQ
import Derived.Below
namespace Go.Proofs.Ytaniiolphghhiab.W
open Go.ChangeShapes Go.WideShapes Go.ChangeAt Go.RowKit Go.Joins
set_option linter.unusedVariables false

theorem QBlk.setne {w : World} {S : Nat} {L : List (List Int)} (h : QBlk w S L) (b' i : Nat) (v : Value) (hn : b' < S) : QBlk (w.setCell ⟨b', i, none⟩ v) S L := by
  obtain ⟨cur, hh, hs, hq⟩ := h
  refine ⟨cur, (Below.heap_setCell _ _ _ _ (by show S ≠ b'; omega)).trans hh, hs, fun q hqq => ?_⟩
  obtain ⟨g, h1, h2, h3⟩ := hq q hqq
  exact ⟨g, h1, h2, RBlk.setne h3 _ _ _ (by omega)⟩
theorem belowDrew8 {B : Nat} {x y : World} (h : Below B x y) : Below B x y.drew := ⟨h.os, h.tape, h.output, h.size, h.block⟩
/-- v is a graph with these rows. -/
def GRow (w : World) (v : Value) (D : List (List Int)) : Prop := ∃ ad c, v = .agg #[.slice ad D.length c] ∧ QRow w ad D ∧ QSm D ∧ D.length ≤ c
theorem GRow.below {w w' : World} {v : Value} {D : List (List Int)} (h : GRow w v D) (hb : Below w.heap.size w w') : GRow w' v D := by
  obtain ⟨ad, c, h1, h2, h3⟩ := h
  exact ⟨ad, c, h1, QRow.below h2 hb, h3⟩

set_option maxHeartbeats 1000000 in
theorem szGraph_any (ad : Option Addr) (c : Nat) (L : List (List Int)) (m : Int) {w : World} (hn : QFit L) (h : QRow w ad L) (h0 : 0 ≤ m) (h1 : m ≤ 1048576) (w0 : World) (hb : Below w.heap.size w w0) :
    Calls Try.prog 13 #[.agg #[.slice ad L.length c], .int .i64 m] w0 fun e w' => ∃ r : Int, e = .returned (.int .i64 r) ∧ (r < 0 ∨ QSm L) ∧ Below w0.heap.size w0 w' := by
  have HC := hide (fun w' hb => szIntSS_any ad c L m w' hn h hb h0 h1)
  have hB : Below w0.heap.size w0 (w0.alloc (.cells #[.slice ad L.length c] 24)) := (Below.refl _ _).alloc (Nat.le_refl _) _
  have hB2 := hb.trans (hB.mono hb.size)
  clear hn h h0 h1
  go_enter Try.func13, Try.ntmps13
  go_wp2_with fail
  refine Calls.mono (HC.out _ hB2) ?_
  rintro e w1 ⟨r, rfl, hr, hw⟩
  have hB3 := hB.trans (hw.mono hB.size)
  clear hw hB hB2 HC
  by_cases hneg : r < 0
  · clear hr
    go_wp2_with fail
    go_ret
    exact ⟨_, rfl, .inl (by omega), hB3⟩
  · have hr' := hr.resolve_left hneg
    clear hr
    go_wp2_with fail
    go_ret
    exact ⟨_, rfl, .inr hr', hB3⟩

set_option maxHeartbeats 1000000 in
theorem toGraph_any (v : Value) (D : List (List Int)) (w : World) (h : GRow w v D) :
    Calls Try.prog 18 #[v] w fun e w' => ∃ g, e = .returned (.agg #[.slice (some ⟨g, 0, none⟩) D.length D.length]) ∧ w.heap.size ≤ g ∧ QBlk w' g D ∧ Below w.heap.size w w' := by
  obtain ⟨ad, c, rfl, hR, hl, hlc⟩ := h
  have HC := hide (fun w' hb => toIntSS_any ad c D w' hl (QRow.below (w' := w') hR hb))
  clear hR hl hlc
  have HB := hide (show Below w.heap.size w (((w.alloc (.cells #[.slice ad D.length c] 24)).alloc (.cells #[.slice none 0 0] 31)).alloc (.cells #[.slice none 0 0] 31)) from (((Below.refl _ _).alloc (Nat.le_refl _) _).alloc (by simp) _).alloc (by simp; omega) _)
  go_enter Try.func18, Try.ntmps18
  go_wp2_with fail
  refine Calls.mono (HC.out _ HB.out) ?_
  rintro e w1 ⟨rfl, hI, hb⟩
  have hB1 : Below w.heap.size w w1 := HB.out.trans (hb.mono HB.out.size)
  have x1 : Bx w1 (w.heap.size + 1) #[.slice none 0 0] 31 := by
    have := ((Bx.new (w.alloc (.cells #[.slice ad D.length c] 24)) #[.slice none 0 0] 31).alloc (.cells #[.slice none 0 0] 31)).below hb (by simp)
    simpa using this
  have x2 : Bx w1 (w.heap.size + 2) #[.slice none 0 0] 31 := by
    have := (Bx.new ((w.alloc (.cells #[.slice ad D.length c] 24)).alloc (.cells #[.slice none 0 0] 31)) #[.slice none 0 0] 31).below hb (by simp)
    simpa using this
  have c1 := x1.c
  have f1 := x1.f
  have c2 := x2.c
  have f2 := x2.f
  have HI := hide hI
  clear hI HC hb
  obtain ⟨S, hS⟩ : ∃ S, S = (((w.alloc (.cells #[.slice ad D.length c] 24)).alloc (.cells #[.slice none 0 0] 31)).alloc (.cells #[.slice none 0 0] 31)).heap.size := ⟨_, rfl⟩
  rw [← hS] at HI ⊢
  have hSn : w.heap.size + 2 < S := by rw [hS]; simp
  clear hS HB
  go_wp2_with fail
  refine bodyPost_ret (v := .agg #[.slice (some ⟨S, 0, none⟩) D.length D.length]) (by simp [results, Try.results18, go_sem, *]) rfl ⟨S, rfl, by omega, ?_, ?_⟩
  · exact QBlk.setne (QBlk.setne HI.out _ _ _ (by omega)) _ _ _ (by omega)
  · exact (hB1.setCell (by simp; omega) _).setCell (by simp) _
theorem toGraph_row (v : Value) (D : List (List Int)) (w : World) (h : GRow w v D) :
    Calls Try.prog 18 #[v] w fun e w' => ∃ v', e = .returned v' ∧ GRow w' v' D ∧ Below w.heap.size w w' := by
  obtain ⟨-, -, -, -, hl, -⟩ := id h
  refine (toGraph_any v D w h).mono ?_
  rintro e w' ⟨g, rfl, -, h1, h2⟩
  exact ⟨_, rfl, ⟨_, _, rfl, h1.row, hl, Nat.le_refl _⟩, h2⟩

set_option maxHeartbeats 1000000 in
theorem eqGraph_row (v1 v2 : Value) (D : List (List Int)) (w : World) (h1 : GRow w v1 D) (h2 : GRow w v2 D) :
    Calls Try.prog 27 #[v1, v2] w fun e w' => e = .returned (.bool true) ∧ Below w.heap.size w w' := by
  obtain ⟨a1, c1, rfl, r1, hl, e1⟩ := h1
  obtain ⟨a2, c2, rfl, r2, -, e2⟩ := h2
  have HC := hide (fun w' (hb : Below w.heap.size w w') => eqIntSS_v _ _ D w' ⟨a1, c1, rfl, QRow.below r1 hb, hl, e1⟩ ⟨a2, c2, rfl, QRow.below r2 hb, hl, e2⟩)
  clear r1 r2
  have HB := hide (show Below w.heap.size w ((w.alloc (.cells #[.slice a1 D.length c1] 31)).alloc (.cells #[.slice a2 D.length c2] 31)) from ((Below.refl _ _).alloc (Nat.le_refl _) _).alloc (by simp) _)
  go_enter Try.func27, Try.ntmps27
  go_wp2_with fail
  refine Calls.mono (HC.out _ HB.out) ?_
  rintro e w1 ⟨rfl, hb⟩
  have hB1 : Below w.heap.size w w1 := HB.out.trans (hb.mono HB.out.size)
  clear HC HB hb
  go_wp2_with fail
  go_ret
  exact ⟨rfl, hB1⟩

theorem open_slice1 {H : Type} {enc : TypeId × Value → H} {W : World} {sp : Nat → Bool} {held : Bool} {fuel : Nat} {t e : TypeId} {v : Value} {x : DataW H × List MemPlace} (ht : Try.prog.underlying t = some (.slice e))
    (h : DataW.trod enc Try.prog W 0 sp held fuel t [v] = some x) : ∃ ad len cap, v = .slice ad len cap ∧ len ≤ cap := by
  rcases Go.Deep.open_slice ht h with ⟨hcs, -⟩ | ⟨a, len, cap, m, n, D, Pl, hcs, hb, hl, -⟩
  · simp at hcs; exact ⟨none, 0, 0, hcs, Nat.le_refl _⟩
  · simp at hcs; exact ⟨some a, len, cap, hcs, hl⟩
set_option maxRecDepth 20000 in
theorem open_graph {H : Type} {enc : TypeId × Value → H} {W : World} {sp : Nat → Bool} {held : Bool} {base : Nat} {v : Value} {x : DataW H × List MemPlace} (hv : Value.okWide Try.prog W .any base 24 v)
    (h : ∃ fuel, DataW.trod enc Try.prog W 0 sp held fuel 24 v.cells.toList = some x) :
    ∃ (D : List (List Int)) (ad : Option Addr) (c : Nat), v = .agg #[.slice ad D.length c] ∧ QRow W ad D ∧ QFit D ∧ D.length ≤ c := by
  obtain ⟨cs, rfl, hsz⟩ := okWide_struct Try.underlying24 hv
  obtain ⟨fuel, h⟩ := h
  obtain ⟨xs, k, hk, hxy, hl, hxl, hf⟩ := DataW.trod_struct Try.underlying24 h
  have hc : Try.prog.cellsOf 24 = 1 := by kernel_rfl
  have c1 : Try.prog.cellsOf 22 = 1 := by kernel_rfl
  obtain ⟨l, rfl⟩ : ∃ l : List Value, cs = l.toArray := ⟨cs.toList, by simp⟩
  rw [hc] at hsz
  have hsz' : l.length = 1 := by simpa using hsz
  match l, hsz' with
  | [v0], _ =>
    have g0 := hf 0 _ rfl
    simp [c1, Value.cells] at g0
    rw [List.getElem?_eq_getElem (by rw [hxl]; decide)] at g0
    obtain ⟨ad, n, c, rfl, hc1⟩ := open_slice1 Try.underlying22 g0
    obtain ⟨D, rfl, m1, r1⟩ := open_QRow g0
    exact ⟨D, ad, c, rfl, r1, m1, hc1⟩

set_option maxHeartbeats 1000000 in
theorem markGraph_w (S lo hi c k0 : Nat) (L : List (List Int)) (w : World) (hs : QSm L) (hk0 : k0 ≤ 100000000) (h : QM w lo hi S L) (hh : hi ≤ w.heap.size) :
    Calls Try.prog 29 #[.agg #[.slice (some ⟨S, 0, none⟩) L.length c], .int .i64 (k0 : Int)] w fun e w' => (∃ k : Nat, e = .returned (.int .i64 (k : Int))) ∧ Bet lo hi w w' := by
  obtain ⟨W1, hW1⟩ : ∃ W1, W1 = w.alloc (.cells #[.slice (some ⟨S, 0, none⟩) L.length c] 31) := ⟨_, rfl⟩
  have hb1 : Below w.heap.size w W1 := by rw [hW1]; exact (Below.refl _ _).alloc (Nat.le_refl _) _
  have HC := hide (markIntSS_w S lo hi c k0 L W1 hs hk0 (h.below hb1))
  have HB1 := hide hb1
  have HW1 := hide hW1
  clear hb1 hW1 h
  go_enter Try.func29, Try.ntmps29
  go_wp2_with fail
  rw [← HW1.out]
  refine Calls.mono HC.out ?_
  rintro e w2 ⟨⟨k, rfl⟩, hO⟩
  have hO2 : Bet lo hi w w2 := (Bet.ofBelow HB1.out).trans hO
  clear hO HC HW1
  go_wp2_with fail
  go_ret
  exact ⟨⟨k, rfl⟩, hO2⟩
end Go.Proofs.Ytaniiolphghhiab.W
