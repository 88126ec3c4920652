/-
  Rows of rows of numbers, wherever they lie: contracts of the laws' functions over them, such a slice opened as an argument, and marks. Conditions: at most 1048576 elements where a row is made. Written by wip/build/mk_grq.py.
-/
import Derived.Test.YtaniiolphghhiabRwI
import Derived.Below
namespace Go.Proofs.Ytaniiolphghhiab.W
open Go.ChangeShapes Go.WideShapes Go.ChangeAt Go.RowKit Go.Joins
set_option linter.unusedVariables false

/-- v is a slice of these cells. -/
def PV (w : World) (v : Value) (l : List Int) : Prop := ∃ ad c, v = .slice ad l.length c ∧ IRow w ad l ∧ l.length ≤ c
theorem PV.below {w w' : World} {v : Value} {l : List Int} (h : PV w v l) (hb : Below w.heap.size w w') : PV w' v l := by
  obtain ⟨ad, c, h1, h2, h3⟩ := h
  exact ⟨ad, c, h1, RRow.below h2 hb, h3⟩
/-- A row of slices of cells. -/
def QRow (w : World) (ad : Option Addr) (L : List (List Int)) : Prop := L = [] ∨ ∃ b o, ad = some ⟨b, o, none⟩ ∧ b < w.heap.size ∧ ∀ i (h : i < L.length), ∃ v, w.cell? ⟨b, o + i, none⟩ = some v ∧ PV w v L[i]
theorem QRow.below {w w' : World} {ad : Option Addr} {L : List (List Int)} (h : QRow w ad L) (hb : Below w.heap.size w w') : QRow w' ad L := by
  rcases h with h | ⟨b, o, h1, h2, h3⟩
  · exact .inl h
  · refine .inr ⟨b, o, h1, Nat.lt_of_lt_of_le h2 hb.size, fun i hi => ?_⟩
    obtain ⟨v, h4, h5⟩ := h3 i hi
    exact ⟨v, (hb.cell (p := ⟨b, o + i, none⟩) h2).trans h4, h5.below hb⟩
theorem QRow.at {w w' : World} {ad : Option Addr} {L : List (List Int)} (h : QRow w ad L) (hb : Below w.heap.size w w') {i : Nat} (hi : i < L.length) :
    ∃ b o v, ad = some ⟨b, o, none⟩ ∧ b < w.heap.size ∧ w'.cell? ⟨b, o + i, none⟩ = some v ∧ PV w' v L[i] := by
  rcases h with rfl | ⟨b, o, h1, h2, h3⟩
  · simp at hi
  · obtain ⟨v, h4, h5⟩ := h3 i hi
    exact ⟨b, o, v, h1, h2, (hb.cell (p := ⟨b, o + i, none⟩) h2).trans h4, h5.below hb⟩
def QFit (L : List (List Int)) : Prop := L.length ≤ maxLen ∧ ∀ l ∈ L, l.length ≤ maxLen
def QSm (L : List (List Int)) : Prop := L.length ≤ 1048576 ∧ ∀ l ∈ L, l.length ≤ 1048576
/-- v is a slice of slices of cells. -/
def QV (w : World) (v : Value) (L : List (List Int)) : Prop := ∃ ad c, v = .slice ad L.length c ∧ QRow w ad L ∧ (QSm L ∧ L.length ≤ c)
theorem QV.below {w w' : World} {v : Value} {L : List (List Int)} (h : QV w v L) (hb : Below w.heap.size w w') : QV w' v L := by
  obtain ⟨ad, c, h1, h2, h3⟩ := h
  exact ⟨ad, c, h1, QRow.below h2 hb, h3⟩
/-- Rows that fill blocks of their own. -/
def QBlk (w : World) (S : Nat) (L : List (List Int)) : Prop :=
  ∃ cur, w.heap[S]? = some (.cells cur 45 (0, 0)) ∧ cur.size = L.length ∧ ∀ q (h : q < L.length), ∃ g, cur[q]? = some (.slice (some ⟨g, 0, none⟩) L[q].length L[q].length) ∧ S < g ∧ IBlk w g L[q]
theorem QBlk.row {w : World} {S : Nat} {L : List (List Int)} (h : QBlk w S L) : QRow w (some ⟨S, 0, none⟩) L := by
  obtain ⟨cur, hh, hs, hq⟩ := h
  refine .inr ⟨S, 0, rfl, (Array.getElem?_eq_some_iff.1 hh).1, fun i hi => ?_⟩
  obtain ⟨g, h1, h2, h3⟩ := hq i hi
  exact ⟨_, by rw [cell_of_blk hh, Nat.zero_add]; exact h1, _, _, rfl, h3.row, Nat.le_refl _⟩
theorem QBlk.below {w w' : World} {S : Nat} {L : List (List Int)} (h : QBlk w S L) (hb : Below w.heap.size w w') : QBlk w' S L := by
  obtain ⟨cur, hh, hs, hq⟩ := h
  refine ⟨cur, (hb.block S (Array.getElem?_eq_some_iff.1 hh).1).trans hh, hs, fun q hqq => ?_⟩
  obtain ⟨g, h1, h2, h3⟩ := hq q hqq
  exact ⟨g, h1, h2, h3.below hb⟩

set_option maxHeartbeats 2000000 in
theorem szIntSS_any (ad : Option Addr) (c : Nat) (L : List (List Int)) (m : Int) (w' : World) {w : World} (hn : QFit L) (h : QRow w ad L) (hb : Below w.heap.size w w') (hm0 : 0 ≤ m) (hm1 : m ≤ 1048576) :
    Calls Try.prog 33 #[.slice ad L.length c, .int .i64 m] w' fun e w'' => ∃ r : Int, e = .returned (.int .i64 r) ∧ (r < 0 ∨ QSm L) ∧ Below w'.heap.size w' w'' := by
  have hl2 : (L.length : Int) ≤ 9223372036854775807 := by have := hn.1; unfold maxLen at this; omega
  have HR := hide h
  have HS := hide hn.2
  have hB := hb
  clear h hn hb
  by_cases hbig : m < (L.length : Int)
  · go_enter Try.func33, Try.ntmps33
    go_wp2_with fail
    go_ret
    exact ⟨_, rfl, .inl (by omega), Below.refl _ _⟩
  · have hln : L.length ≤ 1048576 := by omega
    have hge : ¬ m - (L.length : Int) < 0 := by omega
    clear hl2
    go_enter Try.func33, Try.ntmps33
    go_wp2_with fail
    go_loopw [1, 5] (fun v1 i w1 => ∃ (j : Nat) (q : Int), j ≤ L.length ∧ i = .int .i64 j ∧ v1 = .int .i64 q ∧ 0 ≤ q ∧ q ≤ 1048576 ∧ (∀ k (hk : k < L.length), k < j → L[k].length ≤ 1048576) ∧ w1 = w') (fun _ i _ => L.length - (intOf i).toNat)
    case atStart => exact ⟨0, m - (L.length : Int), by omega, rfl, rfl, by omega, by omega, by intros; omega, rfl⟩
    case round =>
      obtain ⟨j, q, hj, rfl, rfl, hq0, hq1, hall, rfl⟩ := hrel
      have HA := hide hall
      clear hall
      by_cases hlt : j < L.length
      · have hlt' : (j : Int) < (L.length : Int) := by omega
        obtain ⟨b, o, v, rfl, hb, p0, pv⟩ := QRow.at HR.out hB hlt
        have hsz := HS.out _ (List.getElem_mem hlt)
        have HN := hide (fun (n : Nat) (h : n = L[j].length) => szIntS_any)
        obtain ⟨ad1, c1, rfl, -, -⟩ := pv
        obtain ⟨x, hx⟩ : ∃ x, x = L[j].length := ⟨_, rfl⟩
        rw [← hx] at p0 hsz
        have HX := hide hx
        clear hx HN
        go_wp2_with fail
        refine Calls.mono (szIntS_any ad1 c1 x q _ hsz hq0 hq1) ?_
        rintro e w2 ⟨r, rfl, hr, hw⟩
        obtain rfl := hw.symm
        clear p0
        by_cases hneg : r < 0
        · clear hr
          go_wp2_with fail
          go_ret
          exact ⟨_, rfl, .inl (by omega), Below.refl _ _⟩
        · obtain ⟨r0, r1, rx⟩ := hr.resolve_left hneg
          clear hr
          go_wp2_with fail
          refine ⟨⟨j + 1, r, by omega, by go_num, rfl, by omega, by omega, fun k hk hkj => ?_, trivial⟩, by simp [intOf]; omega⟩
          by_cases e : k = j
          · subst e; rw [← HX.out]; exact rx
          · exact HA.out k hk (by omega)
      · obtain rfl : j = L.length := by omega
        go_wp2_with fail
        go_ret
        refine ⟨_, rfl, .inr ⟨hln, fun l hl => ?_⟩, Below.refl _ _⟩
        obtain ⟨k, hk, rfl⟩ := List.getElem_of_mem hl
        exact HA.out k hk hk

theorem infoIS : (Try.prog.info? 45).map (fun i => (i.zero, i.size, i.bytes)) = some (some (.slice none 0 0), 1, 24) := by kernel_rfl
theorem mk_ISS (n : Nat) (hn : n ≤ 1048576) (w : World) :
    (Instr.makeSlice 22 (.int .i64 (n : Int)) (.int .i64 (n : Int))).run Try.prog w = .ok (.slice (some ⟨w.heap.size, 0, none⟩) n n) (w.alloc (.cells (madeCells #[.slice none 0 0] n) 45)) := by
  obtain ⟨i, hi, hzz⟩ := Option.map_eq_some_iff.1 infoIS
  simp only [Prod.mk.injEq] at hzz
  obtain ⟨hz, hs, hb⟩ := hzz
  have := run_make (P := Try.prog) w 22 45 i _ Try.underlying22 hi hz .i64 .i64 n n (by omega) (Int.le_refl _) (by rw [hb]; omega) (by omega)
  rw [hs, show (.slice none 0 0 : Value).cells = #[.slice none 0 0] from by simp [Value.cells]] at this
  simpa using this

set_option maxHeartbeats 4000000 in
theorem toIntSS_any (ad : Option Addr) (c : Nat) (L : List (List Int)) (w : World) (hs : QSm L) (h : QRow w ad L) :
    Calls Try.prog 39 #[.slice ad L.length c] w fun e w' => e = .returned (.slice (some ⟨w.heap.size, 0, none⟩) L.length L.length) ∧ QBlk w' w.heap.size L ∧ Below w.heap.size w w' := by
  have HR := hide h
  have HS := hide hs.2
  have hl := hs.1
  clear h hs
  have hmk := mk_ISS L.length hl
  go_enter Try.func39, Try.ntmps39
  go_wp2_with fail
  go_loopw [4] (fun i w' => ∃ (j : Nat) (cur : Array Value), j ≤ L.length ∧ i = .int .i64 j ∧ w'.heap[w.heap.size]? = some (.cells cur 45 (0, 0)) ∧ cur.size = L.length ∧ (∀ q (h : q < L.length), q < j → ∃ g, cur[q]? = some (.slice (some ⟨g, 0, none⟩) L[q].length L[q].length) ∧ w.heap.size < g ∧ IBlk w' g L[q]) ∧ Below w.heap.size w w') (fun i _ => L.length - (intOf i).toNat)
  case atStart =>
    clear hmk
    exact ⟨0, _, by omega, rfl, heap_alloc_new w _, by simp [madeCells], by intros; omega, (Below.refl _ _).alloc (Nat.le_refl _) _⟩
  case round =>
    clear hmk
    obtain ⟨j, cur, hj, rfl, hh, hsz, hF, hB⟩ := hrel
    have HF := hide hF
    have HH := hide hh
    have hSl : w.heap.size < wr.heap.size := (Array.getElem?_eq_some_iff.1 hh).1
    clear hF hh
    by_cases hlt : j < L.length
    · have hlt' : (j : Int) < (L.length : Int) := by omega
      have hj0 : (0 : Int) ≤ (j : Int) := by omega
      obtain ⟨b, o, v, rfl, hb, p0, pv⟩ := QRow.at HR.out hB hlt
      have hsx := HS.out _ (List.getElem_mem hlt)
      obtain ⟨ad1, c1, rfl, pr, -⟩ := pv
      have HC := hide (toIntS_any ad1 c1 L[j] wr hsx pr)
      obtain ⟨x, hx⟩ : ∃ x, x = L[j].length := ⟨_, rfl⟩
      rw [← hx] at p0 HC
      have HX := hide hx
      clear hx pr
      go_wp2_with fail
      refine Calls.mono HC.out ?_
      rintro e w1 ⟨rfl, hblk, hb1⟩
      have hB1 : Below w.heap.size w w1 := hB.trans (hb1.mono hB.size)
      have hh1 : w1.heap[w.heap.size]? = some (.cells cur 45 (0, 0)) := (hb1.block _ hSl).trans HH.out
      have HF1 : Hid (∀ q (h : q < L.length), q < j → ∃ g, cur[q]? = some (.slice (some ⟨g, 0, none⟩) L[q].length L[q].length) ∧ w.heap.size < g ∧ IBlk w1 g L[q]) := hide (fun q hq hqj => by
        obtain ⟨g, g1, g2, g3⟩ := HF.out q hq hqj
        exact ⟨g, g1, g2, g3.below hb1⟩)
      have HBl := hide hblk
      have fz : ∀ i, w1.frozen? ⟨w.heap.size, i, none⟩ = false := fun i => unfrozen_of_blk hh1 i
      obtain ⟨y0, hy0⟩ : ∃ x, w1.cell? ⟨w.heap.size, j, none⟩ = some x := by
        rw [cell_of_blk hh1, Array.getElem?_eq_getElem (by omega)]; exact ⟨_, rfl⟩
      have HH1 := hide hh1
      clear hb1 hh1 hblk HC p0 HF HH
      go_wp2_with fail
      refine ⟨⟨j + 1, _, by omega, by go_num, blk_setCell HH1.out _, by simp [hsz], fun q hq hqj => ?_, hB1.setCell (p := ⟨w.heap.size, j, none⟩) (Nat.le_refl _) _⟩, by simp [intOf]; omega⟩
      rw [Array.getElem?_setIfInBounds]
      by_cases e : j = q
      · subst e
        rw [if_pos rfl, if_pos (by omega), ← HX.out]
        exact ⟨_, rfl, hSl, HBl.out.setne _ _ _ (by omega)⟩
      · rw [if_neg e]
        obtain ⟨g, g1, g2, g3⟩ := HF1.out q hq (by omega)
        exact ⟨g, g1, g2, g3.setne _ _ _ (by omega)⟩
    · obtain rfl : j = L.length := by omega
      go_wp2_with fail
      go_ret
      exact ⟨rfl, ⟨cur, HH.out, hsz, fun q hq => HF.out q hq hq⟩, hB⟩
theorem toIntSS_v (v : Value) (L : List (List Int)) (w : World) (h : ∃ ad c, v = .slice ad L.length c ∧ QRow w ad L ∧ QSm L) :
    Calls Try.prog 39 #[v] w fun e w' => ∃ v', e = .returned v' ∧ QV w' v' L ∧ Below w.heap.size w w' := by
  obtain ⟨ad, c, rfl, h2, h3⟩ := h
  refine (toIntSS_any ad c L w h3 h2).mono ?_
  rintro e w' ⟨rfl, h4, h5⟩
  exact ⟨_, rfl, ⟨_, _, rfl, h4.row, h3, Nat.le_refl _⟩, h5⟩

set_option maxHeartbeats 2000000 in
theorem eqIntSS_v (v1 v2 : Value) (L : List (List Int)) (w : World) (h1 : QV w v1 L) (h2 : QV w v2 L) :
    Calls Try.prog 8 #[v1, v2] w fun e w' => e = .returned (.bool true) ∧ Below w.heap.size w w' := by
  obtain ⟨a1, c1, rfl, r1, hs, -⟩ := h1
  obtain ⟨a2, c2, rfl, r2, -, -⟩ := h2
  have H1 := hide r1
  have H2 := hide r2
  have H6 := hide hs.2
  have hl := hs.1
  clear r1 r2 hs
  go_enter Try.func8, Try.ntmps8
  go_wp2_with fail
  go_loopw [5] (fun i w' => ∃ j : Nat, j ≤ L.length ∧ i = .int .i64 j ∧ Below w.heap.size w w') (fun i _ => L.length - (intOf i).toNat)
  case atStart => exact ⟨0, by omega, rfl, Below.refl _ _⟩
  case round =>
    obtain ⟨j, hj, rfl, hB⟩ := hrel
    by_cases hlt : j < L.length
    · have hlt' : (j : Int) < (L.length : Int) := by omega
      obtain ⟨b1, o1, x1, rfl, hg1, q1, pv1⟩ := QRow.at H1.out hB hlt
      obtain ⟨b2, o2, x2, rfl, hg2, q2, pv2⟩ := QRow.at H2.out hB hlt
      have hs6 := H6.out L[j] (List.getElem_mem hlt)
      obtain ⟨ad1, k1, rfl, p1, -⟩ := pv1
      obtain ⟨ad2, k2, rfl, p2, -⟩ := pv2
      have HE := hide (fun (w1 : World) (hw : Below wr.heap.size wr w1) => eqIntS_row ad1 ad2 k1 k2 L[j] w1 hs6 (RRow.below p1 hw) (RRow.below p2 hw))
      obtain ⟨N, hN⟩ : ∃ N, N = L[j].length := ⟨_, rfl⟩
      rw [← hN] at q1 q2 HE
      clear p1 p2 H1 H2 H6 hN hs6
      go_wp2_with fail
      go_region_with (go_at_call 26; refine Calls.mono (HE.out _ ⟨rfl, rfl, rfl, Nat.le_refl _, fun _ _ => rfl⟩) ?_; rintro e w1 ⟨rfl, hb1⟩)
      all_goals
        have hB1 : Below w.heap.size w w1 := hB.trans ((show Below wr.heap.size wr w1 from ⟨hb1.os, hb1.tape, hb1.output, hb1.size, hb1.block⟩).mono hB.size)
        clear q1 q2 hb1
        go_wp2_with fail
        exact ⟨⟨j + 1, by omega, by go_num, hB1⟩, by simp [intOf]; omega⟩
    · go_wp2_with fail
      go_ret
      exact ⟨rfl, hB⟩

set_option maxRecDepth 20000 in
theorem open_QRow {H : Type} {enc : TypeId × Value → H} {W : World} {sp : Nat → Bool} {held : Bool} {fuel : Nat} {ad : Option Addr} {len cap : Nat} {x : DataW H × List MemPlace}
    (h : DataW.trod enc Try.prog W 0 sp held fuel 22 [.slice ad len cap] = some x) :
    ∃ L : List (List Int), L.length = len ∧ QFit L ∧ QRow W ad L := by
  rcases Go.Deep.open_slice Try.underlying22 h with ⟨hcs, -⟩ | ⟨a, len', cap', m, n, D, Pl, hcs, hb, hl, hm, hmm, -, hx⟩
  · simp at hcs
    exact ⟨[], by simp [hcs.2.1], ⟨by simp, by simp⟩, .inl rfl⟩
  simp at hcs
  obtain ⟨rfl, rfl, rfl⟩ := hcs
  have hlm : len ≤ m := by rw [hmm]; split <;> omega
  have hc : Try.prog.cellsOf 45 = 1 := by kernel_rfl
  obtain ⟨F, hF⟩ := Go.Deep.choose_lt (α := List Int) (n := len) (p := fun i l => l.length ≤ maxLen ∧ ∃ v, W.cell? (a.add i) = some v ∧ PV W v l) (fun i hi => by
    obtain ⟨cs', h1, h2⟩ := hx i (by omega)
    rw [hc] at h1
    obtain ⟨_, hlen, hcell⟩ := World.cells?_some h1
    match cs', hlen with
    | [v0], _ =>
      have hv : ∃ ad1 n1 c1, v0 = .slice ad1 n1 c1 ∧ n1 ≤ c1 := by
        rcases Go.Deep.open_slice Try.underlying45 h2 with ⟨hcs, -⟩ | ⟨a, len, cap, m, n, D, Pl, hcs, hb, hl, -⟩
        · simp at hcs; exact ⟨none, 0, 0, hcs, Nat.le_refl _⟩
        · simp at hcs; exact ⟨some a, len, cap, hcs, hl⟩
      obtain ⟨ad1, n1, c1, rfl, hn1⟩ := hv
      obtain ⟨l, rfl, hm1, hr⟩ := open_ints h2
      have c0 := hcell 0 (by omega)
      rw [Go.Deep.add_add] at c0
      exact ⟨l, hm1, _, by simpa using c0, _, _, rfl, hr, hn1⟩)
  refine ⟨(List.range len).map F, by simp, ⟨by simp; omega, ?_⟩, ?_⟩
  · intro l hl'
    obtain ⟨i, hi, rfl⟩ := List.mem_map.1 hl'
    exact (hF i (List.mem_range.1 hi)).1
  · by_cases h0 : len = 0
    · left; simp [h0]
    · right
      obtain ⟨b, o, spot⟩ := a
      obtain ⟨-, v0, f0, -⟩ := hF 0 (by omega)
      have hspot : spot = none := by simpa [Addr.add] using World.cell?_spot f0
      subst hspot
      refine ⟨b, o, rfl, ?_, fun i hi => ?_⟩
      · have := World.block_lt_of_cell? _ _ f0
        simpa [Addr.add] using this
      · have hi' : i < len := by simpa using hi
        obtain ⟨-, v, f, g⟩ := hF i hi'
        rw [Addr.add_lit] at f
        simp only [List.getElem_map, List.getElem_range]
        exact ⟨v, f, g⟩

/-- Blocks from lo up to hi may have turned, the others are as they were. -/
structure Bet (lo hi : Nat) (w w' : World) : Prop where
  os : w'.os = w.os
  tape : w'.tape = w.tape
  output : w'.output = w.output
  size : w.heap.size ≤ w'.heap.size
  block : ∀ k, k < w.heap.size → k < lo ∨ hi ≤ k → w'.heap[k]? = w.heap[k]?
theorem Bet.refl (lo hi : Nat) (w : World) : Bet lo hi w w := ⟨rfl, rfl, rfl, Nat.le_refl _, fun _ _ _ => rfl⟩
theorem Bet.trans {lo hi : Nat} {x y z : World} (h : Bet lo hi x y) (k : Bet lo hi y z) : Bet lo hi x z :=
  ⟨k.os.trans h.os, k.tape.trans h.tape, k.output.trans h.output, Nat.le_trans h.size k.size, fun i hi ho => (k.block i (Nat.lt_of_lt_of_le hi h.size) ho).trans (h.block i hi ho)⟩
theorem Bet.ofOth {lo hi g : Nat} {x y : World} (h : Oth g x y) (h1 : lo ≤ g) (h2 : g < hi) : Bet lo hi x y := ⟨h.os, h.tape, h.output, h.size, fun k hk ho => h.block k hk (by omega)⟩
theorem Bet.ofBelow {lo hi : Nat} {x y : World} (h : Below x.heap.size x y) : Bet lo hi x y := ⟨h.os, h.tape, h.output, h.size, fun k hk _ => h.block k hk⟩
theorem Bet.below {lo hi B : Nat} {x y : World} (h : Bet lo hi x y) (hB : B ≤ x.heap.size) (hl : B ≤ lo) : Below B x y := ⟨h.os, h.tape, h.output, h.size, fun k hk => h.block k (by omega) (.inl (by omega))⟩
/-- A block with room for so many cells. -/
def SBk (T : TypeId) (w : World) (g m : Nat) : Prop := ∃ cur, w.heap[g]? = some (.cells cur T (0, 0)) ∧ m ≤ cur.size
theorem SBk.below {T : TypeId} {w w' : World} {g m : Nat} (h : SBk T w g m) (hb : Below w.heap.size w w') : SBk T w' g m := by
  obtain ⟨cur, h1, h2⟩ := h
  exact ⟨cur, (hb.block g (Array.getElem?_eq_some_iff.1 h1).1).trans h1, h2⟩
theorem RBlk.sbk {α : Type} {T : TypeId} {z : Nat} {f : α → Nat → Value} {w : World} {b : Nat} {l : List α} (h : RBlk T z f w b l) : SBk T w b (l.length * z) := by
  obtain ⟨cur, h1, h2⟩ := h
  exact ⟨cur, h1, by rw [h2.1]; exact Nat.le_refl _⟩
def iM : Nat → Nat → Value := fun _ k => .int .i64 (k : Int)

set_option maxHeartbeats 2000000 in
theorem markIntS_w (g n c k0 : Nat) (cur : Array Value) (w : World) (hn : n ≤ 1048576) (hk0 : k0 ≤ 1000000000000000) (hh : w.heap[g]? = some (.cells cur 3 (0, 0))) (h1 : n ≤ cur.size) :
    Calls Try.prog 31 #[.slice (some ⟨g, 0, none⟩) n c, .int .i64 (k0 : Int)] w fun e w' => e = .returned (.int .i64 ((k0 + n : Nat) : Int)) ∧ (∃ cur', w'.heap[g]? = some (.cells cur' 3 (0, 0)) ∧ cur'.size = cur.size ∧ ∀ r, r < n → cur'[r]? = some (.int .i64 ((k0 + r : Nat) : Int))) ∧ Oth g w w' := by
  have HH := hide hh
  clear hh
  go_enter Try.func31, Try.ntmps31
  go_wp2
  go_loopw [1, 5] (fun k i w' => ∃ (j : Nat) (cur' : Array Value), j ≤ n ∧ i = .int .i64 j ∧ k = .int .i64 ((k0 + j : Nat) : Int) ∧ w'.heap[g]? = some (.cells cur' 3 (0, 0)) ∧ cur'.size = cur.size ∧ (∀ r, r < j → cur'[r]? = some (.int .i64 ((k0 + r : Nat) : Int))) ∧ Oth g w w') (fun _ i _ => n - (intOf i).toNat)
  case atStart => exact ⟨0, cur, by omega, rfl, rfl, HH.out, rfl, by omega, Oth.refl _ _⟩
  case round =>
    obtain ⟨j, cur', hj, rfl, rfl, hb, hs, hr, hO⟩ := hrel
    have Hr := hide hr
    have Hs := hide hs
    have Hb := hide hb
    clear hr hs hb
    by_cases hlt : j < n
    · have hlt' : (j : Int) < (n : Int) := by omega
      have hj0 : (0 : Int) ≤ (j : Int) := by omega
      have fz : ∀ i, wr.frozen? ⟨g, i, none⟩ = false := fun i => unfrozen_of_blk Hb.out i
      obtain ⟨y0, hy0⟩ : ∃ x, wr.cell? ⟨g, j, none⟩ = some x := by
        rw [cell_of_blk Hb.out, Array.getElem?_eq_getElem (by have := Hs.out; omega)]; exact ⟨_, rfl⟩
      obtain ⟨m, hm⟩ : ∃ m, m = k0 + j := ⟨_, rfl⟩
      rw [← hm]
      have hm1 : m ≤ 2000000000000000 := by omega
      have Hm := hide hm
      clear hm
      go_wp2_with fail
      have em := Hm.out
      refine ⟨⟨j + 1, _, by omega, by go_num, by rw [show k0 + (j + 1) = m + 1 by omega]; go_num, blk_setCell Hb.out _, by have := Hs.out; simp; omega, ?_, hO.setCell _ _⟩, by simp [intOf]; omega⟩
      intro r hr
      rw [Array.getElem?_setIfInBounds]
      by_cases e : j = r
      · subst e; rw [if_pos rfl, if_pos (by have := Hs.out; omega), em]
      · rw [if_neg e]; exact Hr.out r (by omega)
    · obtain rfl : j = n := by omega
      go_wp2
      go_ret
      exact ⟨rfl, ⟨cur', Hb.out, Hs.out, Hr.out⟩, hO⟩

/-- Rules in blocks of their own, from lo up to hi. -/
def QM (w : World) (lo hi S : Nat) (L : List (List Int)) : Prop :=
  ∃ cur, w.heap[S]? = some (.cells cur 45 (0, 0)) ∧ ∀ q (h : q < L.length), ∃ g, cur[q]? = some (.slice (some ⟨g, 0, none⟩) L[q].length L[q].length) ∧ lo ≤ g ∧ g < hi ∧ S < g ∧ SBk 3 w g (L[q].length * 1)
theorem QBlk.qm {w : World} {lo S : Nat} {L : List (List Int)} (h : QBlk w S L) (hl : lo ≤ S) : QM w lo w.heap.size S L := by
  obtain ⟨cur, h1, h2, h3⟩ := h
  refine ⟨cur, h1, fun q hq => ?_⟩
  obtain ⟨g, g1, g2, g3⟩ := h3 q hq
  exact ⟨g, g1, by omega, g3.lt, g2, RBlk.sbk g3⟩
theorem QM.below {w w' : World} {lo hi S : Nat} {L : List (List Int)} (h : QM w lo hi S L) (hb : Below w.heap.size w w') : QM w' lo hi S L := by
  obtain ⟨cur, h1, h3⟩ := h
  refine ⟨cur, (hb.block S (Array.getElem?_eq_some_iff.1 h1).1).trans h1, fun q hq => ?_⟩
  obtain ⟨g, g1, g2, g3, g4, g5⟩ := h3 q hq
  exact ⟨g, g1, g2, g3, g4, g5.below hb⟩
theorem QM.keep {w w' : World} {lo hi S : Nat} {L : List (List Int)} (h : QM w lo hi S L) (hk : ∀ k, S ≤ k → k < w.heap.size → w'.heap[k]? = w.heap[k]?) : QM w' lo hi S L := by
  obtain ⟨cur, h1, h3⟩ := h
  refine ⟨cur, (hk S (Nat.le_refl _) (Array.getElem?_eq_some_iff.1 h1).1).trans h1, fun q hq => ?_⟩
  obtain ⟨g, g1, g2, g3, g4, c2, k1, k2⟩ := h3 q hq
  exact ⟨g, g1, g2, g3, g4, c2, (hk g (by omega) (Array.getElem?_eq_some_iff.1 k1).1).trans k1, k2⟩
theorem QM.oth {w w' : World} {lo hi S g0 : Nat} {L : List (List Int)} (h : QM w lo hi S L) (ho : Oth g0 w w') (hs : g0 ≠ S) (hk : ∀ m, SBk 3 w g0 m → SBk 3 w' g0 m) : QM w' lo hi S L := by
  obtain ⟨cur, h1, h3⟩ := h
  refine ⟨cur, (ho.block S (Array.getElem?_eq_some_iff.1 h1).1 (fun e => hs e.symm)).trans h1, fun q hq => ?_⟩
  obtain ⟨g, g1, g2, g3, g4, g5⟩ := h3 q hq
  refine ⟨g, g1, g2, g3, g4, ?_⟩
  by_cases e : g = g0
  · subst e; exact hk _ g5
  · obtain ⟨c2, k1, k2⟩ := g5
    exact ⟨c2, (ho.block g (Array.getElem?_eq_some_iff.1 k1).1 e).trans k1, k2⟩

set_option maxHeartbeats 2000000 in
theorem markIntSS_w (S lo hi c k0 : Nat) (L : List (List Int)) (w : World) (hs : QSm L) (hk0 : k0 ≤ 100000000) (h : QM w lo hi S L) :
    Calls Try.prog 11 #[.slice (some ⟨S, 0, none⟩) L.length c, .int .i64 (k0 : Int)] w fun e w' => (∃ k : Nat, e = .returned (.int .i64 (k : Int))) ∧ Bet lo hi w w' := by
  have HQ := hide h
  have HS := hide hs.2
  have hl := hs.1
  clear h hs
  go_enter Try.func11, Try.ntmps11
  go_wp2
  go_loopw [1, 5] (fun k i w' => ∃ (j k1 : Nat), j ≤ L.length ∧ i = .int .i64 j ∧ k = .int .i64 (k1 : Int) ∧ k1 ≤ k0 + j * 2097152 ∧ QM w' lo hi S L ∧ Bet lo hi w w') (fun _ i _ => L.length - (intOf i).toNat)
  case atStart => exact ⟨0, k0, by omega, rfl, rfl, by omega, HQ.out, Bet.refl _ _ _⟩
  case round =>
    clear HQ
    obtain ⟨j, k1, hj, rfl, rfl, hk1, hQ, hB⟩ := hrel
    have HB := hide hB
    by_cases hlt : j < L.length
    · have hlt' : (j : Int) < (L.length : Int) := by omega
      have hj0 : (0 : Int) ≤ (j : Int) := by omega
      have hsj := HS.out _ (List.getElem_mem hlt)
      have HQ := hide hQ
      obtain ⟨cur, g1, g2⟩ := hQ
      obtain ⟨g, p1, p2, p3, p4, cg, p5, p6⟩ := g2 j hlt
      have p0 : wr.cell? ⟨S, j, none⟩ = some (.slice (some ⟨g, 0, none⟩) L[j].length L[j].length) := by rw [cell_of_blk g1]; exact p1
      have HC := hide (markIntS_w g L[j].length L[j].length k1 cg wr hsj (by omega) p5 (by omega))
      have HC2 : Hid (∀ (cur' : Array Value) (w' : World), w'.heap[g]? = some (.cells cur' 3 (0, 0)) → cur'.size = cg.size → ∀ m, SBk 3 wr g m → SBk 3 w' g m) := hide (fun cur' w' h1 h2 m h3 => by
        obtain ⟨c3, e1, e2⟩ := h3
        rw [p5] at e1
        simp only [Option.some.injEq, Obj.cells.injEq, and_true] at e1
        subst e1
        exact ⟨cur', h1, by omega⟩)
      obtain ⟨x, hx⟩ : ∃ x, x = L[j].length := ⟨_, rfl⟩
      rw [← hx] at p0 HC hsj
      clear hx g1 g2 p1 p5 p6
      go_wp2_with fail
      refine Calls.mono HC.out ?_
      rintro e w2 ⟨rfl, ⟨cur', m1, m2, -⟩, hO⟩
      have HQ2 := hide (HQ.out.oth hO (by omega) (HC2.out cur' w2 m1 m2))
      have HB2 := hide (HB.out.trans (Bet.ofOth hO p2 p3))
      clear hO m1 m2 HC HC2 p0 HQ HB hB
      go_wp2_with fail
      exact ⟨⟨j + 1, k1 + x, by omega, by go_num, rfl, by omega, HQ2.out, HB2.out⟩, by simp [intOf]; omega⟩
    · clear hQ hB
      go_wp2_with fail
      go_ret
      exact ⟨⟨k1, rfl⟩, HB.out⟩

theorem markIntS_own (v : Value) (base n k0 : Nat) (xs : List Value) (w : World) (hn : n ≤ 1048576) (hk0 : k0 ≤ 100000000) (h : w.ownsRow base 3 1 v n xs) :
    Calls Try.prog 31 #[v, .int .i64 (k0 : Int)] w fun e w' => e = .returned (.int .i64 ((k0 + n * 1 : Nat) : Int)) ∧ RMk iM w' v 3 1 k0 n ∧ w.grownBy w' v.ownBlock := by
  obtain ⟨-, ⟨rfl, rfl⟩ | ⟨g, cap, cur, rfl, hg, hh, h1, h2, h3, h4⟩⟩ := h
  · go_enter Try.func31, Try.ntmps31
    go_wp2
    refine wp_loop_rounds 1 ?_
    rw [rounds_succ]
    go_wp2
    go_ret
    exact ⟨rfl, ⟨_, _, rfl, .inl rfl⟩, ⟨rfl, rfl, rfl, Nat.le_refl _, fun _ _ _ => rfl⟩⟩
  · refine (markIntS_w g n cap k0 cur w hn (by omega) hh (by omega)).mono ?_
    rintro e w' ⟨rfl, ⟨cur', c1, c2, c3⟩, hO⟩
    rw [Nat.mul_one]
    refine ⟨rfl, ⟨_, _, rfl, .inr ⟨g, cur', rfl, c1, by omega, fun i hi r hr => ?_⟩⟩, ⟨hO.os, hO.tape, hO.output, hO.size, fun k hk hne => hO.block k hk (fun e => hne (by subst e; rfl))⟩⟩
    obtain rfl : r = 0 := by omega
    rw [Nat.mul_one, Nat.add_zero, Nat.add_zero]
    exact c3 i hi

set_option maxHeartbeats 2000000 in
theorem heldIntS_own (v : Value) (n k0 : Nat) (w : World) (hn : n ≤ 1048576) (hk0 : k0 ≤ 100000000) (h : RMk iM w v 3 1 k0 n) :
    Calls Try.prog 32 #[v, .int .i64 (k0 : Int)] w fun e w' => e = .returned (.int .i64 ((k0 + n * 1 : Nat) : Int)) ∧ Below w.heap.size w w' := by
  obtain ⟨a, c, rfl, h⟩ := h
  have HM := hide h
  clear h
  rw [Nat.mul_one]
  go_enter Try.func32, Try.ntmps32
  go_wp2
  go_loopw [1, 5] (fun k i w' => ∃ (j : Nat), j ≤ n ∧ i = .int .i64 j ∧ k = .int .i64 ((k0 + j : Nat) : Int) ∧ Below w.heap.size w w') (fun _ i _ => n - (intOf i).toNat)
  case atStart => exact ⟨0, by omega, rfl, rfl, Below.refl _ _⟩
  case round =>
    obtain ⟨j, hj, rfl, rfl, hB⟩ := hrel
    by_cases hlt : j < n
    · have hlt' : (j : Int) < (n : Int) := by omega
      obtain h | ⟨g, cur, rfl, hh, hs, hr⟩ := HM.out
      · omega
      · have hgl : g < w.heap.size := (Array.getElem?_eq_some_iff.1 hh).1
        have hr0 := hr j hlt 0 (by omega)
        rw [Nat.mul_one, Nat.add_zero, Nat.add_zero] at hr0
        have c0 : wr.cell? ⟨g, j, none⟩ = some (iM 0 (k0 + j)) := (hB.cell (p := ⟨g, j, none⟩) hgl).trans ((cell_of_blk hh j).trans hr0)
        obtain ⟨m, hm⟩ : ∃ m, m = k0 + j := ⟨_, rfl⟩
        rw [← hm] at c0 ⊢
        have hm1 : m ≤ 200000000 := by omega
        replace c0 : wr.cell? ⟨g, j, none⟩ = some (.int .i64 (m : Int)) := c0
        have Hm := hide hm
        clear hm
        clear hr hh hs HM hr0
        go_wp2_with fail
        have em := Hm.out
        first
          | exact ⟨⟨j + 1, by omega, by go_num, by rw [show k0 + (j + 1) = m + 1 by omega]; go_num, hB⟩, by simp [intOf]; omega⟩
          | (repeat (go_quiet (fail); go_wp2_with fail)
             exact ⟨⟨j + 1, by omega, by go_num, by rw [show k0 + (j + 1) = m + 1 by omega]; go_num, ⟨hB.os, hB.tape, hB.output, hB.size, hB.block⟩⟩, by simp [intOf]; omega⟩)
    · obtain rfl : j = n := by omega
      go_wp2_with fail
      go_ret
      exact ⟨rfl, hB⟩
end Go.Proofs.Ytaniiolphghhiab.W
