/-
  Rows of rows of computations' cells, wherever they lie: contracts of the laws' functions over them, such a slice opened as an argument, and marks. Conditions: at most 1048576 elements where a row is made. Written by wip/build/mk_coq.py.
-/
import Derived.Test.YtaddopoafaojdaaCoO
import Derived.Test.YtaddopoafaojdaaCoK
import Derived.Test.YtaddopoafaojdaaRwG
import Derived.Below
namespace Go.Proofs.Ytaddopoafaojdaa.C
open Go.Proofs.Ytaddopoafaojdaa.W
open Go.ChangeShapes Go.WideShapes Go.ChangeAt Go.RowKit Go.Joins
set_option linter.unusedVariables false

theorem CBlk.lt {w : World} {b : Nat} {l : List Cc} (h : CBlk w b l) : b < w.heap.size := by
  obtain ⟨cur, hh, -⟩ := h
  exact (Array.getElem?_eq_some_iff.1 hh).1
theorem CBlk.setne {w : World} {b : Nat} {l : List Cc} (h : CBlk w b l) (b' i : Nat) (v : Value) (hn : b ≠ b') : CBlk (w.setCell ⟨b', i, none⟩ v) b l := by
  obtain ⟨cur, hh, hF⟩ := h
  exact ⟨cur, (Below.heap_setCell _ _ _ _ hn).trans hh, hF⟩

set_option maxHeartbeats 1000000 in
theorem szCompS_any (ad : Option Addr) (c n : Nat) (m : Int) (w : World) (hl : n ≤ maxLen) (hm0 : 0 ≤ m) (hm1 : m ≤ 1048576) :
    Calls Try.prog 5 #[.slice ad n c, .int .i64 m] w fun e w' => ∃ r : Int, e = .returned (.int .i64 r) ∧ (r < 0 ∨ 0 ≤ r ∧ r ≤ 1048576 ∧ n ≤ 1048576) ∧ w' = w := by
  have hl2 : (n : Int) ≤ 9223372036854775807 := by unfold maxLen at hl; omega
  clear hl
  by_cases hbig : m < (n : Int)
  · go_enter Try.func5, Try.ntmps5
    go_wp2_with fail
    go_ret
    exact ⟨_, rfl, .inl (by omega), rfl⟩
  · have hge : ¬ m - (n : Int) < 0 := by omega
    have hn2 : (n : Int) ≤ 1048576 := by omega
    clear hl2
    go_enter Try.func5, Try.ntmps5
    go_wp2_with fail
    go_ret
    exact ⟨_, rfl, .inr ⟨by omega, by omega, by omega⟩, rfl⟩

/-- v is a slice of these cells. -/
def PV (w : World) (v : Value) (l : List Cc) : Prop := ∃ ad c, v = .slice ad l.length c ∧ CRow w ad l ∧ l.length ≤ c
theorem PV.below {w w' : World} {v : Value} {l : List Cc} (h : PV w v l) (hb : Below w.heap.size w w') : PV w' v l := by
  obtain ⟨ad, c, h1, h2, h3⟩ := h
  exact ⟨ad, c, h1, CRow.below h2 hb, h3⟩
/-- A row of slices of cells. -/
def QRow (w : World) (ad : Option Addr) (L : List (List Cc)) : Prop := L = [] ∨ ∃ b o, ad = some ⟨b, o, none⟩ ∧ b < w.heap.size ∧ ∀ i (h : i < L.length), ∃ v, w.cell? ⟨b, o + i, none⟩ = some v ∧ PV w v L[i]
theorem QRow.below {w w' : World} {ad : Option Addr} {L : List (List Cc)} (h : QRow w ad L) (hb : Below w.heap.size w w') : QRow w' ad L := by
  rcases h with h | ⟨b, o, h1, h2, h3⟩
  · exact .inl h
  · refine .inr ⟨b, o, h1, Nat.lt_of_lt_of_le h2 hb.size, fun i hi => ?_⟩
    obtain ⟨v, h4, h5⟩ := h3 i hi
    exact ⟨v, (hb.cell (p := ⟨b, o + i, none⟩) h2).trans h4, h5.below hb⟩
theorem QRow.at {w w' : World} {ad : Option Addr} {L : List (List Cc)} (h : QRow w ad L) (hb : Below w.heap.size w w') {i : Nat} (hi : i < L.length) :
    ∃ b o v, ad = some ⟨b, o, none⟩ ∧ b < w.heap.size ∧ w'.cell? ⟨b, o + i, none⟩ = some v ∧ PV w' v L[i] := by
  rcases h with rfl | ⟨b, o, h1, h2, h3⟩
  · simp at hi
  · obtain ⟨v, h4, h5⟩ := h3 i hi
    exact ⟨b, o, v, h1, h2, (hb.cell (p := ⟨b, o + i, none⟩) h2).trans h4, h5.below hb⟩
def QFit (L : List (List Cc)) : Prop := L.length ≤ maxLen ∧ ∀ l ∈ L, l.length ≤ maxLen
def QSm (L : List (List Cc)) : Prop := L.length ≤ 1048576 ∧ ∀ l ∈ L, l.length ≤ 1048576
/-- v is a slice of slices of cells. -/
def QV (w : World) (v : Value) (L : List (List Cc)) : Prop := ∃ ad c, v = .slice ad L.length c ∧ QRow w ad L ∧ (QSm L ∧ L.length ≤ c)
theorem QV.below {w w' : World} {v : Value} {L : List (List Cc)} (h : QV w v L) (hb : Below w.heap.size w w') : QV w' v L := by
  obtain ⟨ad, c, h1, h2, h3⟩ := h
  exact ⟨ad, c, h1, QRow.below h2 hb, h3⟩
/-- Rows that fill blocks of their own. -/
def QBlk (w : World) (S : Nat) (L : List (List Cc)) : Prop :=
  ∃ cur, w.heap[S]? = some (.cells cur 28 (0, 0)) ∧ cur.size = L.length ∧ ∀ q (h : q < L.length), ∃ g, cur[q]? = some (.slice (some ⟨g, 0, none⟩) L[q].length L[q].length) ∧ S < g ∧ CBlk w g L[q]
theorem QBlk.row {w : World} {S : Nat} {L : List (List Cc)} (h : QBlk w S L) : QRow w (some ⟨S, 0, none⟩) L := by
  obtain ⟨cur, hh, hs, hq⟩ := h
  refine .inr ⟨S, 0, rfl, (Array.getElem?_eq_some_iff.1 hh).1, fun i hi => ?_⟩
  obtain ⟨g, h1, h2, h3⟩ := hq i hi
  exact ⟨_, by rw [cell_of_blk hh, Nat.zero_add]; exact h1, _, _, rfl, h3.row, Nat.le_refl _⟩
theorem QBlk.below {w w' : World} {S : Nat} {L : List (List Cc)} (h : QBlk w S L) (hb : Below w.heap.size w w') : QBlk w' S L := by
  obtain ⟨cur, hh, hs, hq⟩ := h
  refine ⟨cur, (hb.block S (Array.getElem?_eq_some_iff.1 hh).1).trans hh, hs, fun q hqq => ?_⟩
  obtain ⟨g, h1, h2, h3⟩ := hq q hqq
  exact ⟨g, h1, h2, h3.below hb⟩

theorem infoCeS : (Try.prog.info? 28).map (fun i => (i.zero, i.size, i.bytes)) = some (some (.slice none 0 0), 1, 24) := by kernel_rfl
theorem mk_CcSS (n : Nat) (hn : n ≤ 1048576) (w : World) :
    (Instr.makeSlice 98 (.int .i64 (n : Int)) (.int .i64 (n : Int))).run Try.prog w = .ok (.slice (some ⟨w.heap.size, 0, none⟩) n n) (w.alloc (.cells (madeCells #[.slice none 0 0] n) 28)) := by
  obtain ⟨i, hi, hzz⟩ := Option.map_eq_some_iff.1 infoCeS
  simp only [Prod.mk.injEq] at hzz
  obtain ⟨hz, hs, hb⟩ := hzz
  have := run_make (P := Try.prog) w 98 28 i _ Try.underlying98 hi hz .i64 .i64 n n (by omega) (Int.le_refl _) (by rw [hb]; omega) (by omega)
  rw [hs, show (.slice none 0 0 : Value).cells = #[.slice none 0 0] from by simp [Value.cells]] at this
  simpa using this

/-- Blocks from lo up to hi may have turned, the others are as they were. -/
structure Bet (lo hi : Nat) (w w' : World) : Prop where
  os : w'.os = w.os
  tape : w'.tape = w.tape
  output : w'.output = w.output
  size : w.heap.size ≤ w'.heap.size
  block : ∀ k, k < w.heap.size → k < lo ∨ hi ≤ k → w'.heap[k]? = w.heap[k]?
theorem Bet.refl (lo hi : Nat) (w : World) : Bet lo hi w w := ⟨rfl, rfl, rfl, Nat.le_refl _, fun _ _ _ => rfl⟩
theorem Bet.trans {lo hi : Nat} {x y z : World} (h : Bet lo hi x y) (k : Bet lo hi y z) : Bet lo hi x z :=
  ⟨k.os.trans h.os, k.tape.trans h.tape, k.output.trans h.output, Nat.le_trans h.size k.size, fun i hi ho => (k.block i (Nat.lt_of_lt_of_le hi h.size) ho).trans (h.block i hi ho)⟩
theorem Bet.ofOth {lo hi g : Nat} {x y : World} (h : Oth g x y) (h1 : lo ≤ g) (h2 : g < hi) : Bet lo hi x y := ⟨h.os, h.tape, h.output, h.size, fun k hk ho => h.block k hk (by omega)⟩
theorem Bet.ofBelow {lo hi : Nat} {x y : World} (h : Below x.heap.size x y) : Bet lo hi x y := ⟨h.os, h.tape, h.output, h.size, fun k hk _ => h.block k hk⟩
theorem Bet.below {lo hi B : Nat} {x y : World} (h : Bet lo hi x y) (hB : B ≤ x.heap.size) (hl : B ≤ lo) : Below B x y := ⟨h.os, h.tape, h.output, h.size, fun k hk => h.block k (by omega) (.inl (by omega))⟩
/-- A block with room for so many cells. -/
def SBk (T : TypeId) (w : World) (g m : Nat) : Prop := ∃ cur, w.heap[g]? = some (.cells cur T (0, 0)) ∧ m ≤ cur.size
theorem SBk.below {T : TypeId} {w w' : World} {g m : Nat} (h : SBk T w g m) (hb : Below w.heap.size w w') : SBk T w' g m := by
  obtain ⟨cur, h1, h2⟩ := h
  exact ⟨cur, (hb.block g (Array.getElem?_eq_some_iff.1 h1).1).trans h1, h2⟩
theorem CBlk.sbk {w : World} {b : Nat} {l : List Cc} (h : CBlk w b l) : SBk 52 w b (l.length * 2) := by
  obtain ⟨cur, h1, h2⟩ := h
  exact ⟨cur, h1, by rw [h2.1]; exact Nat.le_refl _⟩

set_option maxHeartbeats 2000000 in
theorem markCompS_w (g n c k0 : Nat) (cur : Array Value) (w : World) (hn : n ≤ 1048576) (hk0 : k0 ≤ 1000000000000000) (hh : w.heap[g]? = some (.cells cur 52 (0, 0))) (h1 : n * 2 ≤ cur.size) :
    Calls Try.prog 13 #[.slice (some ⟨g, 0, none⟩) n c, .int .i64 (k0 : Int)] w fun e w' => e = .returned (.int .i64 ((k0 + n * 2 : Nat) : Int)) ∧ (∃ cur', w'.heap[g]? = some (.cells cur' 52 (0, 0)) ∧ cur'.size = cur.size) ∧ Oth g w w' := by
  have HH := hide hh
  clear hh
  go_enter Try.func13, Try.ntmps13
  go_wp2
  go_loopw [1, 5] (fun k i w' => ∃ (j : Nat) (cur' : Array Value), j ≤ n ∧ i = .int .i64 j ∧ k = .int .i64 ((k0 + j * 2 : Nat) : Int) ∧ w'.heap[g]? = some (.cells cur' 52 (0, 0)) ∧ cur'.size = cur.size ∧ Oth g w w') (fun _ i _ => n - (intOf i).toNat)
  case atStart => exact ⟨0, cur, by omega, rfl, rfl, HH.out, rfl, Oth.refl _ _⟩
  case round =>
    obtain ⟨j, cur', hj, rfl, rfl, hb, hs, hO⟩ := hrel
    have Hs := hide hs
    have Hb := hide hb
    clear hs hb
    by_cases hlt : j < n
    · have hlt' : (j : Int) < (n : Int) := by omega
      have hj0 : (0 : Int) ≤ (j : Int) := by omega
      have fz : ∀ i, wr.frozen? ⟨g, i, none⟩ = false := fun i => unfrozen_of_blk Hb.out i
      have cs : ∀ r, r < 2 → ∃ x, wr.cell? ⟨g, j * 2 + r, none⟩ = some x := fun r hr => by
        rw [cell_of_blk Hb.out, Array.getElem?_eq_getElem (by have := Hs.out; omega)]; exact ⟨_, rfl⟩
      obtain ⟨y0, hy0⟩ := cs 0 (by omega)
      obtain ⟨y1, hy1⟩ := cs 1 (by omega)
      rw [Nat.add_zero] at hy0
      clear cs
      obtain ⟨m, hm⟩ : ∃ m, m = k0 + j * 2 := ⟨_, rfl⟩
      rw [← hm]
      have hm1 : m ≤ 2000000000000000 := by omega
      have Hm := hide hm
      clear hm
      go_wp2_with fail
      have em := Hm.out
      exact ⟨⟨j + 1, _, by omega, by go_num, by rw [show k0 + (j + 1) * 2 = m + 2 by omega]; go_num, blk_setCell (blk_setCell (Hb.out) _) _, by have := Hs.out; simp; omega, ((hO).setCell _ _).setCell _ _⟩, by simp [intOf]; omega⟩
    · obtain rfl : j = n := by omega
      go_wp2
      go_ret
      exact ⟨rfl, ⟨cur', Hb.out, Hs.out⟩, hO⟩

/-- Rules in blocks of their own, from lo up to hi. -/
def QM (w : World) (lo hi S : Nat) (L : List (List Cc)) : Prop :=
  ∃ cur, w.heap[S]? = some (.cells cur 28 (0, 0)) ∧ ∀ q (h : q < L.length), ∃ g, cur[q]? = some (.slice (some ⟨g, 0, none⟩) L[q].length L[q].length) ∧ lo ≤ g ∧ g < hi ∧ S < g ∧ SBk 52 w g (L[q].length * 2)
theorem QBlk.qm {w : World} {lo S : Nat} {L : List (List Cc)} (h : QBlk w S L) (hl : lo ≤ S) : QM w lo w.heap.size S L := by
  obtain ⟨cur, h1, h2, h3⟩ := h
  refine ⟨cur, h1, fun q hq => ?_⟩
  obtain ⟨g, g1, g2, g3⟩ := h3 q hq
  exact ⟨g, g1, by omega, g3.lt, g2, CBlk.sbk g3⟩
theorem QM.below {w w' : World} {lo hi S : Nat} {L : List (List Cc)} (h : QM w lo hi S L) (hb : Below w.heap.size w w') : QM w' lo hi S L := by
  obtain ⟨cur, h1, h3⟩ := h
  refine ⟨cur, (hb.block S (Array.getElem?_eq_some_iff.1 h1).1).trans h1, fun q hq => ?_⟩
  obtain ⟨g, g1, g2, g3, g4, g5⟩ := h3 q hq
  exact ⟨g, g1, g2, g3, g4, g5.below hb⟩
theorem QM.keep {w w' : World} {lo hi S : Nat} {L : List (List Cc)} (h : QM w lo hi S L) (hk : ∀ k, S ≤ k → k < w.heap.size → w'.heap[k]? = w.heap[k]?) : QM w' lo hi S L := by
  obtain ⟨cur, h1, h3⟩ := h
  refine ⟨cur, (hk S (Nat.le_refl _) (Array.getElem?_eq_some_iff.1 h1).1).trans h1, fun q hq => ?_⟩
  obtain ⟨g, g1, g2, g3, g4, c2, k1, k2⟩ := h3 q hq
  exact ⟨g, g1, g2, g3, g4, c2, (hk g (by omega) (Array.getElem?_eq_some_iff.1 k1).1).trans k1, k2⟩
theorem QM.oth {w w' : World} {lo hi S g0 : Nat} {L : List (List Cc)} (h : QM w lo hi S L) (ho : Oth g0 w w') (hs : g0 ≠ S) (hk : ∀ m, SBk 52 w g0 m → SBk 52 w' g0 m) : QM w' lo hi S L := by
  obtain ⟨cur, h1, h3⟩ := h
  refine ⟨cur, (ho.block S (Array.getElem?_eq_some_iff.1 h1).1 (fun e => hs e.symm)).trans h1, fun q hq => ?_⟩
  obtain ⟨g, g1, g2, g3, g4, g5⟩ := h3 q hq
  refine ⟨g, g1, g2, g3, g4, ?_⟩
  by_cases e : g = g0
  · subst e; exact hk _ g5
  · obtain ⟨c2, k1, k2⟩ := g5
    exact ⟨c2, (ho.block g (Array.getElem?_eq_some_iff.1 k1).1 e).trans k1, k2⟩
end Go.Proofs.Ytaddopoafaojdaa.C
