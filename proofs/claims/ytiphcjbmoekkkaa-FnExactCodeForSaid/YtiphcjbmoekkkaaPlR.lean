/-
  Rows of cells of trees, wherever they lie: contracts of szCellS, toCellS, and of eqCellS at equal rows. Conditions: at most 1048576 cells where a row is made.
-/
import Derived.Test.YtiphcjbmoekkkaaPlP
import Derived.Laws.MakeOwn
namespace Go.Proofs.Ytiphcjbmoekkkaa.L
open Go.Proofs.Ytiphcjbmoekkkaa.W
open Go.ChangeShapes Go.WideShapes Go.ChangeAt Go.RowKit

/-- A row of cells from a place of a block on. -/
def CRowAt (w : World) (b o : Nat) (l : List Cc) : Prop :=
  b < w.heap.size ∧ ∀ i (h : i < l.length), w.cell? ⟨b, o + i * 2, none⟩ = some (.int .i64 l[i].k) ∧ w.cell? ⟨b, o + i * 2 + 1, none⟩ = some (.int .i64 l[i].n)
theorem CRowAt.below {w w' : World} {b o : Nat} {l : List Cc} (h : CRowAt w b o l) (hb : Below w.heap.size w w') : CRowAt w' b o l := by
  refine ⟨Nat.lt_of_lt_of_le h.1 hb.size, fun i hi => ?_⟩
  obtain ⟨h0, h1⟩ := h.2 i hi
  exact ⟨(hb.cell (p := ⟨b, o + i * 2, none⟩) h.1).trans h0, (hb.cell (p := ⟨b, o + i * 2 + 1, none⟩) h.1).trans h1⟩

/-- A slice's row of cells: none, or a row that lies in a block. -/
def CRow (w : World) (ad : Option Addr) (l : List Cc) : Prop := l = [] ∨ ∃ b o, ad = some ⟨b, o, none⟩ ∧ CRowAt w b o l
theorem CRow.below {w w' : World} {ad : Option Addr} {l : List Cc} (h : CRow w ad l) (hb : Below w.heap.size w w') : CRow w' ad l := by
  rcases h with h | ⟨b, o, h1, h2⟩
  · exact .inl h
  · exact .inr ⟨b, o, h1, h2.below hb⟩
theorem CRow.tok {w w' : World} {ad : Option Addr} {l : List Cc} (h : CRow w ad l) (hb : Below w.heap.size w w') {i : Nat} (hi : i < l.length) :
    ∃ b o, ad = some ⟨b, o, none⟩ ∧ b < w.heap.size ∧ w'.cell? ⟨b, o + i * 2, none⟩ = some (.int .i64 l[i].k) ∧ w'.cell? ⟨b, o + i * 2 + 1, none⟩ = some (.int .i64 l[i].n) := by
  rcases h with rfl | ⟨b, o, h1, h2⟩
  · simp at hi
  · exact ⟨b, o, h1, h2.1, (h2.below hb).2 i hi⟩
theorem CRowAt.drop {w : World} {b o : Nat} {l : List Cc} (h : CRowAt w b o l) (i : Nat) : CRowAt w b (o + i * 2) (l.drop i) := by
  refine ⟨h.1, fun j hj => ?_⟩
  have hj' : i + j < l.length := by simp at hj; omega
  obtain ⟨h0, h1⟩ := h.2 (i + j) hj'
  simp only [List.getElem_drop]
  exact ⟨by rw [show o + i * 2 + j * 2 = o + (i + j) * 2 by omega]; exact h0, by rw [show o + i * 2 + j * 2 + 1 = o + (i + j) * 2 + 1 by omega]; exact h1⟩

set_option maxHeartbeats 400000 in
theorem toCell_any (k n : Int) (w : World) :
    Calls Try.prog 34 #[.agg #[.int .i64 k, .int .i64 n]] w fun e w' => e = .returned (.agg #[.int .i64 k, .int .i64 n]) ∧ Below w.heap.size w w' := by
  go_enter Try.func34, Try.ntmps34
  go_wp2
  exact bodyPost_ret (v := .agg #[.int .i64 k, .int .i64 n]) (by simp [results, Try.results34, go_sem]) rfl ⟨rfl, (((Below.refl _ _).alloc (Nat.le_refl _) _).alloc (by simp) _).alloc (by simp; omega) _⟩

set_option maxHeartbeats 400000 in
theorem eqCell_same (k n : Int) (w : World) :
    Calls Try.prog 37 #[.agg #[.int .i64 k, .int .i64 n], .agg #[.int .i64 k, .int .i64 n]] w fun e w' => e = .returned (.bool true) ∧ Below w.heap.size w w' := by
  go_enter Try.func37, Try.ntmps37
  go_wp2
  go_ret
  exact ⟨rfl, ((Below.refl _ _).alloc (Nat.le_refl _) _).alloc (by simp) _⟩

set_option maxHeartbeats 1000000 in
theorem szCellS_any (ad : Option Addr) (c n : Nat) (w : World) (hl : n ≤ maxLen) :
    Calls Try.prog 9 #[.slice ad n c, .int .i64 1048576] w fun e w' => ∃ r : Int, e = .returned (.int .i64 r) ∧ (r < 0 ∨ 0 ≤ r ∧ r + n = 1048576 ∧ n ≤ 1048576) ∧ w' = w := by
  have hl2 : (n : Int) ≤ 9223372036854775807 := by unfold maxLen at hl; omega
  clear hl
  by_cases hbig : (1048576 : Int) < n
  · go_enter Try.func9, Try.ntmps9
    go_wp2_with fail
    go_ret
    exact ⟨_, rfl, .inl (by omega), rfl⟩
  · go_enter Try.func9, Try.ntmps9
    go_wp2_with fail
    go_ret
    exact ⟨_, rfl, .inr ⟨by omega, by omega, by omega⟩, rfl⟩

/-- The first j cells of a block that is being filled. -/
def CFilled (cur : Array Value) (l : List Cc) (j : Nat) : Prop :=
  cur.size = l.length * 2 ∧ ∀ i (h : i < l.length), i < j → cur[i * 2]? = some (.int .i64 l[i].k) ∧ cur[i * 2 + 1]? = some (.int .i64 l[i].n)
theorem CFilled.step {cur : Array Value} {l : List Cc} {j : Nat} (h : CFilled cur l j) (hj : j < l.length) :
    CFilled ((cur.setIfInBounds (j * 2) (.int .i64 l[j].k)).setIfInBounds (j * 2 + 1) (.int .i64 l[j].n)) l (j + 1) := by
  have hs := h.1
  refine ⟨by simp [hs], fun i hi hij => ?_⟩
  simp only [Array.getElem?_setIfInBounds, Array.size_setIfInBounds]
  by_cases e : i = j
  · subst e
    refine ⟨?_, ?_⟩
    · rw [if_neg (by omega), if_pos rfl, if_pos (by omega)]
    · rw [if_pos rfl, if_pos (by omega)]
  · obtain ⟨h0, h1⟩ := h.2 i hi (by omega)
    refine ⟨?_, ?_⟩
    · rw [if_neg (by omega), if_neg (by omega)]; exact h0
    · rw [if_neg (by omega), if_neg (by omega)]; exact h1

theorem infoCe : (Try.prog.info? 55).map (fun i => (i.zero, i.size, i.bytes)) = some (some (.agg #[.int .i64 0, .int .i64 0]), 2, 16) := by kernel_rfl
theorem mk_cells (n : Nat) (hn : n ≤ 1048576) (w : World) :
    (Instr.makeSlice 25 (.int .i64 (n : Int)) (.int .i64 (n : Int))).run Try.prog w = .ok (.slice (some ⟨w.heap.size, 0, none⟩) n n) (w.alloc (.cells (madeCells #[.int .i64 0, .int .i64 0] (n * 2)) 55)) := by
  obtain ⟨i, hi, hzz⟩ := Option.map_eq_some_iff.1 infoCe
  simp only [Prod.mk.injEq] at hzz
  obtain ⟨hz, hs, hb⟩ := hzz
  have := run_make (P := Try.prog) w 25 55 i _ Try.underlying25 hi hz .i64 .i64 n n (by omega) (Int.le_refl _) (by rw [hb]; omega) (by omega)
  rw [hs, show (Value.agg #[.int .i64 0, .int .i64 0]).cells = #[.int .i64 0, .int .i64 0] from by simp [Value.cells]] at this
  simpa using this

/-- A row of cells that fills a block of its own. -/
def CBlk (w : World) (b : Nat) (l : List Cc) : Prop := ∃ cur, w.heap[b]? = some (.cells cur 55 (0, 0)) ∧ CFilled cur l l.length
theorem CBlk.row {w : World} {b : Nat} {l : List Cc} (h : CBlk w b l) : CRow w (some ⟨b, 0, none⟩) l := by
  obtain ⟨cur, hh, hF⟩ := h
  refine .inr ⟨_, 0, rfl, (Array.getElem?_eq_some_iff.1 hh).1, fun i hi => ?_⟩
  obtain ⟨h0, h1⟩ := hF.2 i hi hi
  refine ⟨?_, ?_⟩ <;> (rw [cell_of_blk hh, Nat.zero_add]; assumption)
theorem CBlk.below {w w' : World} {b : Nat} {l : List Cc} (h : CBlk w b l) (hb : Below w.heap.size w w') : CBlk w' b l := by
  obtain ⟨cur, hh, hF⟩ := h
  exact ⟨cur, (hb.block b (Array.getElem?_eq_some_iff.1 hh).1).trans hh, hF⟩

set_option maxHeartbeats 2000000 in
theorem toCellS_any (ad : Option Addr) (c : Nat) (l : List Cc) (w : World) (hl : l.length ≤ 1048576) (h : CRow w ad l) :
    Calls Try.prog 11 #[.slice ad l.length c] w fun e w' => e = .returned (.slice (some ⟨w.heap.size, 0, none⟩) l.length l.length) ∧ CBlk w' w.heap.size l ∧ Below w.heap.size w w' := by
  have HR := hide h
  clear h
  have hmk := mk_cells l.length hl
  go_enter Try.func11, Try.ntmps11
  go_wp2_with fail
  go_loopw [4] (fun i w' => ∃ (j : Nat) (cur : Array Value), j ≤ l.length ∧ i = .int .i64 j ∧ w'.heap[w.heap.size]? = some (.cells cur 55 (0, 0)) ∧ CFilled cur l j ∧ Below w.heap.size w w') (fun i _ => l.length - (intOf i).toNat)
  case atStart =>
    clear hmk
    exact ⟨0, _, by omega, rfl, heap_alloc_new w _, ⟨by simp [madeCells], by intros; omega⟩, (Below.refl _ _).alloc (Nat.le_refl _) _⟩
  case round =>
    clear hmk
    obtain ⟨j, cur, hj, rfl, hh, hF, hB⟩ := hrel
    have HF := hide hF
    have HH := hide hh
    clear hF hh
    by_cases hlt : j < l.length
    · have hlt' : (j : Int) < (l.length : Int) := by omega
      have hj0 : (0 : Int) ≤ (j : Int) := by omega
      obtain ⟨b, o, rfl, hb, p0, p1⟩ := HR.out.tok hB hlt
      have HFS := hide (HF.out.step hlt)
      obtain ⟨x, hx⟩ : ∃ x, x = l[j] := ⟨_, rfl⟩
      rw [← hx] at p0 p1 HFS
      clear hx
      go_wp2_with fail
      refine (toCell_any _ _ _).mono ?_
      rintro e w1 ⟨rfl, hb1⟩
      have hB1 : Below w.heap.size w w1 := hB.trans (hb1.mono hB.size)
      have hh1 : w1.heap[w.heap.size]? = some (.cells cur 55 (0, 0)) := (hb1.block _ (Array.getElem?_eq_some_iff.1 HH.out).1).trans HH.out
      have fz : ∀ i, w1.frozen? ⟨w.heap.size, i, none⟩ = false := fun i => unfrozen_of_blk hh1 i
      have cs : ∀ r, r < 2 → ∃ x, w1.cell? ⟨w.heap.size, j * 2 + r, none⟩ = some x := fun r hr => by
        rw [cell_of_blk hh1, Array.getElem?_eq_getElem (by have := HF.out.1; omega)]; exact ⟨_, rfl⟩
      obtain ⟨y0, hy0⟩ := cs 0 (by omega)
      obtain ⟨y1, hy1⟩ := cs 1 (by omega)
      rw [Nat.add_zero] at hy0
      have HH1 := hide hh1
      clear cs hh1 hb1 p0 p1
      go_wp2_with fail
      have hk := blk_setCell (i := j * 2 + 1) (blk_setCell (i := j * 2) HH1.out (.int .i64 x.k)) (.int .i64 x.n)
      exact ⟨⟨j + 1, _, by omega, by go_num, hk, HFS.out, (hB1.setCell (p := ⟨w.heap.size, j * 2, none⟩) (Nat.le_refl _) _).setCell (p := ⟨w.heap.size, j * 2 + 1, none⟩) (Nat.le_refl _) _⟩, by simp [intOf]; omega⟩
    · obtain rfl : j = l.length := by omega
      go_wp2_with fail
      go_ret
      exact ⟨rfl, ⟨cur, HH.out, HF.out⟩, hB⟩

set_option maxHeartbeats 1000000 in
theorem eqCellS_row (a1 a2 : Option Addr) (c1 c2 : Nat) (l : List Cc) (w : World) (hl : l.length ≤ 1048576) (h1 : CRow w a1 l) (h2 : CRow w a2 l) :
    Calls Try.prog 13 #[.slice a1 l.length c1, .slice a2 l.length c2] w fun e w' => e = .returned (.bool true) ∧ Below w.heap.size w w' := by
  have H1 := hide h1
  have H2 := hide h2
  clear h1 h2
  go_enter Try.func13, Try.ntmps13
  go_wp2
  go_loopw [5] (fun i w' => ∃ j : Nat, j ≤ l.length ∧ i = .int .i64 j ∧ Below w.heap.size w w') (fun i _ => l.length - (intOf i).toNat)
  case atStart => exact ⟨0, by omega, rfl, Below.refl _ _⟩
  case round =>
    obtain ⟨j, hj, rfl, hB⟩ := hrel
    by_cases hlt : j < l.length
    · have hlt' : (j : Int) < (l.length : Int) := by omega
      obtain ⟨b, o, rfl, hb, p0, p1⟩ := H1.out.tok hB hlt
      obtain ⟨b', o', rfl, hb', q0, q1⟩ := H2.out.tok hB hlt
      obtain ⟨x, hx⟩ : ∃ x, x = l[j] := ⟨_, rfl⟩
      rw [← hx] at p0 p1 q0 q1
      clear hx H1 H2
      go_wp2_with fail
      go_region_with (go_at_call 37; refine (eqCell_same _ _ _).mono ?_; rintro e w1 ⟨rfl, hb1⟩)
      all_goals
        have hB1 : Below w.heap.size w w1 := hB.trans ((show Below wr.heap.size wr w1 from ⟨hb1.os, hb1.tape, hb1.output, hb1.size, hb1.block⟩).mono hB.size)
        clear p0 p1 q0 q1 hb1
        go_wp2_with fail
        exact ⟨⟨j + 1, by omega, by go_num, hB1⟩, by simp [intOf]; omega⟩
    · go_wp2_with fail
      go_ret
      exact ⟨rfl, hB⟩
end Go.Proofs.Ytiphcjbmoekkkaa.L
