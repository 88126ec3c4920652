/-
  Rows of rows of patterns' cells, wherever they lie: contracts of the laws' functions over them, and such a slice opened as an argument. Conditions: at most 1048576 elements where a row is made.
-/
import Derived.Test.YtmlpnmdckgppnaaRwP
import Derived.Below
namespace Go.Proofs.Ytmlpnmdckgppnaa.W
open Go.ChangeShapes Go.WideShapes Go.ChangeAt Go.RowKit Go.Joins
set_option linter.unusedVariables false

/-- v is a slice of these cells. -/
def PV (w : World) (v : Value) (l : List Pt) : Prop := ∃ ad c, v = .slice ad l.length c ∧ PtRow w ad l ∧ l.length ≤ c
theorem PV.below {w w' : World} {v : Value} {l : List Pt} (h : PV w v l) (hb : Below w.heap.size w w') : PV w' v l := by
  obtain ⟨ad, c, h1, h2, h3⟩ := h
  exact ⟨ad, c, h1, RRow.below h2 hb, h3⟩
/-- A row of slices of cells. -/
def QRow (w : World) (ad : Option Addr) (L : List (List Pt)) : Prop := L = [] ∨ ∃ b o, ad = some ⟨b, o, none⟩ ∧ b < w.heap.size ∧ ∀ i (h : i < L.length), ∃ v, w.cell? ⟨b, o + i, none⟩ = some v ∧ PV w v L[i]
theorem QRow.below {w w' : World} {ad : Option Addr} {L : List (List Pt)} (h : QRow w ad L) (hb : Below w.heap.size w w') : QRow w' ad L := by
  rcases h with h | ⟨b, o, h1, h2, h3⟩
  · exact .inl h
  · refine .inr ⟨b, o, h1, Nat.lt_of_lt_of_le h2 hb.size, fun i hi => ?_⟩
    obtain ⟨v, h4, h5⟩ := h3 i hi
    exact ⟨v, (hb.cell (p := ⟨b, o + i, none⟩) h2).trans h4, h5.below hb⟩
theorem QRow.at {w w' : World} {ad : Option Addr} {L : List (List Pt)} (h : QRow w ad L) (hb : Below w.heap.size w w') {i : Nat} (hi : i < L.length) :
    ∃ b o v, ad = some ⟨b, o, none⟩ ∧ b < w.heap.size ∧ w'.cell? ⟨b, o + i, none⟩ = some v ∧ PV w' v L[i] := by
  rcases h with rfl | ⟨b, o, h1, h2, h3⟩
  · simp at hi
  · obtain ⟨v, h4, h5⟩ := h3 i hi
    exact ⟨b, o, v, h1, h2, (hb.cell (p := ⟨b, o + i, none⟩) h2).trans h4, h5.below hb⟩
def QFit (L : List (List Pt)) : Prop := L.length ≤ maxLen ∧ ∀ l ∈ L, l.length ≤ maxLen
def QSm (L : List (List Pt)) : Prop := L.length ≤ 1048576 ∧ ∀ l ∈ L, l.length ≤ 1048576
/-- v is a slice of slices of cells. -/
def QV (w : World) (v : Value) (L : List (List Pt)) : Prop := ∃ ad c, v = .slice ad L.length c ∧ QRow w ad L ∧ (QSm L ∧ L.length ≤ c)
theorem QV.below {w w' : World} {v : Value} {L : List (List Pt)} (h : QV w v L) (hb : Below w.heap.size w w') : QV w' v L := by
  obtain ⟨ad, c, h1, h2, h3⟩ := h
  exact ⟨ad, c, h1, QRow.below h2 hb, h3⟩
/-- Rows that fill blocks of their own. -/
def QBlk (w : World) (S : Nat) (L : List (List Pt)) : Prop :=
  ∃ cur, w.heap[S]? = some (.cells cur 57 (0, 0)) ∧ cur.size = L.length ∧ ∀ q (h : q < L.length), ∃ g, cur[q]? = some (.slice (some ⟨g, 0, none⟩) L[q].length L[q].length) ∧ S < g ∧ PtBlk w g L[q]
theorem QBlk.row {w : World} {S : Nat} {L : List (List Pt)} (h : QBlk w S L) : QRow w (some ⟨S, 0, none⟩) L := by
  obtain ⟨cur, hh, hs, hq⟩ := h
  refine .inr ⟨S, 0, rfl, (Array.getElem?_eq_some_iff.1 hh).1, fun i hi => ?_⟩
  obtain ⟨g, h1, h2, h3⟩ := hq i hi
  exact ⟨_, by rw [cell_of_blk hh, Nat.zero_add]; exact h1, _, _, rfl, h3.row, Nat.le_refl _⟩
theorem QBlk.below {w w' : World} {S : Nat} {L : List (List Pt)} (h : QBlk w S L) (hb : Below w.heap.size w w') : QBlk w' S L := by
  obtain ⟨cur, hh, hs, hq⟩ := h
  refine ⟨cur, (hb.block S (Array.getElem?_eq_some_iff.1 hh).1).trans hh, hs, fun q hqq => ?_⟩
  obtain ⟨g, h1, h2, h3⟩ := hq q hqq
  exact ⟨g, h1, h2, h3.below hb⟩

set_option maxHeartbeats 2000000 in
theorem szPatSS_any (ad : Option Addr) (c : Nat) (L : List (List Pt)) (m : Int) (w' : World) {w : World} (hn : QFit L) (h : QRow w ad L) (hb : Below w.heap.size w w') (hm0 : 0 ≤ m) (hm1 : m ≤ 1048576) :
    Calls Try.prog 5 #[.slice ad L.length c, .int .i64 m] w' fun e w'' => ∃ r : Int, e = .returned (.int .i64 r) ∧ (r < 0 ∨ QSm L) ∧ Below w'.heap.size w' w'' := by
  have hl2 : (L.length : Int) ≤ 9223372036854775807 := by have := hn.1; unfold maxLen at this; omega
  have HR := hide h
  have HS := hide hn.2
  have hB := hb
  clear h hn hb
  by_cases hbig : m < (L.length : Int)
  · go_enter Try.func5, Try.ntmps5
    go_wp2_with fail
    go_ret
    exact ⟨_, rfl, .inl (by omega), Below.refl _ _⟩
  · have hln : L.length ≤ 1048576 := by omega
    have hge : ¬ m - (L.length : Int) < 0 := by omega
    clear hl2
    go_enter Try.func5, Try.ntmps5
    go_wp2_with fail
    go_loopw [1, 5] (fun v1 i w1 => ∃ (j : Nat) (q : Int), j ≤ L.length ∧ i = .int .i64 j ∧ v1 = .int .i64 q ∧ 0 ≤ q ∧ q ≤ 1048576 ∧ (∀ k (hk : k < L.length), k < j → L[k].length ≤ 1048576) ∧ w1 = w') (fun _ i _ => L.length - (intOf i).toNat)
    case atStart => exact ⟨0, m - (L.length : Int), by omega, rfl, rfl, by omega, by omega, by intros; omega, rfl⟩
    case round =>
      obtain ⟨j, q, hj, rfl, rfl, hq0, hq1, hall, rfl⟩ := hrel
      have HA := hide hall
      clear hall
      by_cases hlt : j < L.length
      · have hlt' : (j : Int) < (L.length : Int) := by omega
        obtain ⟨b, o, v, rfl, hb, p0, pv⟩ := QRow.at HR.out hB hlt
        have hsz := HS.out _ (List.getElem_mem hlt)
        have HN := hide (fun (n : Nat) (h : n = L[j].length) => szPatS_any)
        obtain ⟨ad1, c1, rfl, -, -⟩ := pv
        obtain ⟨x, hx⟩ : ∃ x, x = L[j].length := ⟨_, rfl⟩
        rw [← hx] at p0 hsz
        have HX := hide hx
        clear hx HN
        go_wp2_with fail
        refine Calls.mono (szPatS_any ad1 c1 x q _ hsz hq0 hq1) ?_
        rintro e w2 ⟨r, rfl, hr, hw⟩
        obtain rfl := hw.symm
        clear p0
        by_cases hneg : r < 0
        · clear hr
          go_wp2_with fail
          go_ret
          exact ⟨_, rfl, .inl (by omega), Below.refl _ _⟩
        · obtain ⟨r0, r1, rx⟩ := hr.resolve_left hneg
          clear hr
          go_wp2_with fail
          refine ⟨⟨j + 1, r, by omega, by go_num, rfl, by omega, by omega, fun k hk hkj => ?_, trivial⟩, by simp [intOf]; omega⟩
          by_cases e : k = j
          · subst e; rw [← HX.out]; exact rx
          · exact HA.out k hk (by omega)
      · obtain rfl : j = L.length := by omega
        go_wp2_with fail
        go_ret
        refine ⟨_, rfl, .inr ⟨hln, fun l hl => ?_⟩, Below.refl _ _⟩
        obtain ⟨k, hk, rfl⟩ := List.getElem_of_mem hl
        exact HA.out k hk hk

theorem infoPtS : (Try.prog.info? 57).map (fun i => (i.zero, i.size, i.bytes)) = some (some (.slice none 0 0), 1, 24) := by kernel_rfl
theorem mk_PtSS (n : Nat) (hn : n ≤ 1048576) (w : World) :
    (Instr.makeSlice 33 (.int .i64 (n : Int)) (.int .i64 (n : Int))).run Try.prog w = .ok (.slice (some ⟨w.heap.size, 0, none⟩) n n) (w.alloc (.cells (madeCells #[.slice none 0 0] n) 57)) := by
  obtain ⟨i, hi, hzz⟩ := Option.map_eq_some_iff.1 infoPtS
  simp only [Prod.mk.injEq] at hzz
  obtain ⟨hz, hs, hb⟩ := hzz
  have := run_make (P := Try.prog) w 33 57 i _ Try.underlying33 hi hz .i64 .i64 n n (by omega) (Int.le_refl _) (by rw [hb]; omega) (by omega)
  rw [hs, show (.slice none 0 0 : Value).cells = #[.slice none 0 0] from by simp [Value.cells]] at this
  simpa using this

set_option maxHeartbeats 4000000 in
theorem toPatSS_any (ad : Option Addr) (c : Nat) (L : List (List Pt)) (w : World) (hs : QSm L) (h : QRow w ad L) :
    Calls Try.prog 8 #[.slice ad L.length c] w fun e w' => e = .returned (.slice (some ⟨w.heap.size, 0, none⟩) L.length L.length) ∧ QBlk w' w.heap.size L ∧ Below w.heap.size w w' := by
  have HR := hide h
  have HS := hide hs.2
  have hl := hs.1
  clear h hs
  have hmk := mk_PtSS L.length hl
  go_enter Try.func8, Try.ntmps8
  go_wp2_with fail
  go_loopw [4] (fun i w' => ∃ (j : Nat) (cur : Array Value), j ≤ L.length ∧ i = .int .i64 j ∧ w'.heap[w.heap.size]? = some (.cells cur 57 (0, 0)) ∧ cur.size = L.length ∧ (∀ q (h : q < L.length), q < j → ∃ g, cur[q]? = some (.slice (some ⟨g, 0, none⟩) L[q].length L[q].length) ∧ w.heap.size < g ∧ PtBlk w' g L[q]) ∧ Below w.heap.size w w') (fun i _ => L.length - (intOf i).toNat)
  case atStart =>
    clear hmk
    exact ⟨0, _, by omega, rfl, heap_alloc_new w _, by simp [madeCells], by intros; omega, (Below.refl _ _).alloc (Nat.le_refl _) _⟩
  case round =>
    clear hmk
    obtain ⟨j, cur, hj, rfl, hh, hsz, hF, hB⟩ := hrel
    have HF := hide hF
    have HH := hide hh
    have hSl : w.heap.size < wr.heap.size := (Array.getElem?_eq_some_iff.1 hh).1
    clear hF hh
    by_cases hlt : j < L.length
    · have hlt' : (j : Int) < (L.length : Int) := by omega
      have hj0 : (0 : Int) ≤ (j : Int) := by omega
      obtain ⟨b, o, v, rfl, hb, p0, pv⟩ := QRow.at HR.out hB hlt
      have hsx := HS.out _ (List.getElem_mem hlt)
      obtain ⟨ad1, c1, rfl, pr, -⟩ := pv
      have HC := hide (toPatS_any ad1 c1 L[j] wr hsx pr)
      obtain ⟨x, hx⟩ : ∃ x, x = L[j].length := ⟨_, rfl⟩
      rw [← hx] at p0 HC
      have HX := hide hx
      clear hx pr
      go_wp2_with fail
      refine Calls.mono HC.out ?_
      rintro e w1 ⟨rfl, hblk, hb1⟩
      have hB1 : Below w.heap.size w w1 := hB.trans (hb1.mono hB.size)
      have hh1 : w1.heap[w.heap.size]? = some (.cells cur 57 (0, 0)) := (hb1.block _ hSl).trans HH.out
      have HF1 : Hid (∀ q (h : q < L.length), q < j → ∃ g, cur[q]? = some (.slice (some ⟨g, 0, none⟩) L[q].length L[q].length) ∧ w.heap.size < g ∧ PtBlk w1 g L[q]) := hide (fun q hq hqj => by
        obtain ⟨g, g1, g2, g3⟩ := HF.out q hq hqj
        exact ⟨g, g1, g2, g3.below hb1⟩)
      have HBl := hide hblk
      have fz : ∀ i, w1.frozen? ⟨w.heap.size, i, none⟩ = false := fun i => unfrozen_of_blk hh1 i
      obtain ⟨y0, hy0⟩ : ∃ x, w1.cell? ⟨w.heap.size, j, none⟩ = some x := by
        rw [cell_of_blk hh1, Array.getElem?_eq_getElem (by omega)]; exact ⟨_, rfl⟩
      have HH1 := hide hh1
      clear hb1 hh1 hblk HC p0 HF HH
      go_wp2_with fail
      refine ⟨⟨j + 1, _, by omega, by go_num, blk_setCell HH1.out _, by simp [hsz], fun q hq hqj => ?_, hB1.setCell (p := ⟨w.heap.size, j, none⟩) (Nat.le_refl _) _⟩, by simp [intOf]; omega⟩
      rw [Array.getElem?_setIfInBounds]
      by_cases e : j = q
      · subst e
        rw [if_pos rfl, if_pos (by omega), ← HX.out]
        exact ⟨_, rfl, hSl, HBl.out.setne _ _ _ (by omega)⟩
      · rw [if_neg e]
        obtain ⟨g, g1, g2, g3⟩ := HF1.out q hq (by omega)
        exact ⟨g, g1, g2, g3.setne _ _ _ (by omega)⟩
    · obtain rfl : j = L.length := by omega
      go_wp2_with fail
      go_ret
      exact ⟨rfl, ⟨cur, HH.out, hsz, fun q hq => HF.out q hq hq⟩, hB⟩
theorem toPatSS_v (v : Value) (L : List (List Pt)) (w : World) (h : ∃ ad c, v = .slice ad L.length c ∧ QRow w ad L ∧ QSm L) :
    Calls Try.prog 8 #[v] w fun e w' => ∃ v', e = .returned v' ∧ QV w' v' L ∧ Below w.heap.size w w' := by
  obtain ⟨ad, c, rfl, h2, h3⟩ := h
  refine (toPatSS_any ad c L w h3 h2).mono ?_
  rintro e w' ⟨rfl, h4, h5⟩
  exact ⟨_, rfl, ⟨_, _, rfl, h4.row, h3, Nat.le_refl _⟩, h5⟩

set_option maxHeartbeats 2000000 in
theorem eqPatSS_v (v1 v2 : Value) (L : List (List Pt)) (w : World) (h1 : QV w v1 L) (h2 : QV w v2 L) :
    Calls Try.prog 12 #[v1, v2] w fun e w' => e = .returned (.bool true) ∧ Below w.heap.size w w' := by
  obtain ⟨a1, c1, rfl, r1, hs, -⟩ := h1
  obtain ⟨a2, c2, rfl, r2, -, -⟩ := h2
  have H1 := hide r1
  have H2 := hide r2
  have H6 := hide hs.2
  have hl := hs.1
  clear r1 r2 hs
  go_enter Try.func12, Try.ntmps12
  go_wp2_with fail
  go_loopw [5] (fun i w' => ∃ j : Nat, j ≤ L.length ∧ i = .int .i64 j ∧ Below w.heap.size w w') (fun i _ => L.length - (intOf i).toNat)
  case atStart => exact ⟨0, by omega, rfl, Below.refl _ _⟩
  case round =>
    obtain ⟨j, hj, rfl, hB⟩ := hrel
    by_cases hlt : j < L.length
    · have hlt' : (j : Int) < (L.length : Int) := by omega
      obtain ⟨b1, o1, x1, rfl, hg1, q1, pv1⟩ := QRow.at H1.out hB hlt
      obtain ⟨b2, o2, x2, rfl, hg2, q2, pv2⟩ := QRow.at H2.out hB hlt
      have hs6 := H6.out L[j] (List.getElem_mem hlt)
      obtain ⟨ad1, k1, rfl, p1, -⟩ := pv1
      obtain ⟨ad2, k2, rfl, p2, -⟩ := pv2
      have HE := hide (fun (w1 : World) (hw : Below wr.heap.size wr w1) => eqPatS_row ad1 ad2 k1 k2 L[j] w1 hs6 (RRow.below p1 hw) (RRow.below p2 hw))
      obtain ⟨N, hN⟩ : ∃ N, N = L[j].length := ⟨_, rfl⟩
      rw [← hN] at q1 q2 HE
      clear p1 p2 H1 H2 H6 hN hs6
      go_wp2_with fail
      go_region_with (go_at_call 29; refine Calls.mono (HE.out _ ⟨rfl, rfl, rfl, Nat.le_refl _, fun _ _ => rfl⟩) ?_; rintro e w1 ⟨rfl, hb1⟩)
      all_goals
        have hB1 : Below w.heap.size w w1 := hB.trans ((show Below wr.heap.size wr w1 from ⟨hb1.os, hb1.tape, hb1.output, hb1.size, hb1.block⟩).mono hB.size)
        clear q1 q2 hb1
        go_wp2_with fail
        exact ⟨⟨j + 1, by omega, by go_num, hB1⟩, by simp [intOf]; omega⟩
    · go_wp2_with fail
      go_ret
      exact ⟨rfl, hB⟩

set_option maxRecDepth 20000 in
theorem open_QRow {H : Type} {enc : TypeId × Value → H} {W : World} {sp : Nat → Bool} {held : Bool} {fuel : Nat} {ad : Option Addr} {len cap : Nat} {x : DataW H × List MemPlace}
    (h : DataW.trod enc Try.prog W 0 sp held fuel 25 [.slice ad len cap] = some x) :
    ∃ L : List (List Pt), L.length = len ∧ QFit L ∧ QRow W ad L := by
  rcases Go.Deep.open_slice Try.underlying25 h with ⟨hcs, -⟩ | ⟨a, len', cap', m, n, D, Pl, hcs, hb, hl, hm, hmm, -, hx⟩
  · simp at hcs
    exact ⟨[], by simp [hcs.2.1], ⟨by simp, by simp⟩, .inl rfl⟩
  simp at hcs
  obtain ⟨rfl, rfl, rfl⟩ := hcs
  have hlm : len ≤ m := by rw [hmm]; split <;> omega
  have hc : Try.prog.cellsOf 44 = 1 := by kernel_rfl
  obtain ⟨F, hF⟩ := Go.Deep.choose_lt (α := List Pt) (n := len) (p := fun i l => l.length ≤ maxLen ∧ ∃ v, W.cell? (a.add i) = some v ∧ PV W v l) (fun i hi => by
    obtain ⟨cs', h1, h2⟩ := hx i (by omega)
    rw [hc] at h1
    obtain ⟨_, hlen, hcell⟩ := World.cells?_some h1
    match cs', hlen with
    | [v0], _ =>
      have hv : ∃ ad1 n1 c1, v0 = .slice ad1 n1 c1 ∧ n1 ≤ c1 := by
        rcases Go.Deep.open_slice Try.underlying44 h2 with ⟨hcs, -⟩ | ⟨a, len, cap, m, n, D, Pl, hcs, hb, hl, -⟩
        · simp at hcs; exact ⟨none, 0, 0, hcs, Nat.le_refl _⟩
        · simp at hcs; exact ⟨some a, len, cap, hcs, hl⟩
      obtain ⟨ad1, n1, c1, rfl, hn1⟩ := hv
      obtain ⟨l, rfl, hm1, hr⟩ := open_Pt h2
      have c0 := hcell 0 (by omega)
      rw [Go.Deep.add_add] at c0
      exact ⟨l, hm1, _, by simpa using c0, _, _, rfl, hr, hn1⟩)
  refine ⟨(List.range len).map F, by simp, ⟨by simp; omega, ?_⟩, ?_⟩
  · intro l hl'
    obtain ⟨i, hi, rfl⟩ := List.mem_map.1 hl'
    exact (hF i (List.mem_range.1 hi)).1
  · by_cases h0 : len = 0
    · left; simp [h0]
    · right
      obtain ⟨b, o, spot⟩ := a
      obtain ⟨-, v0, f0, -⟩ := hF 0 (by omega)
      have hspot : spot = none := by simpa [Addr.add] using World.cell?_spot f0
      subst hspot
      refine ⟨b, o, rfl, ?_, fun i hi => ?_⟩
      · have := World.block_lt_of_cell? _ _ f0
        simpa [Addr.add] using this
      · have hi' : i < len := by simpa using hi
        obtain ⟨-, v, f, g⟩ := hF i hi'
        rw [Addr.add_lit] at f
        simp only [List.getElem_map, List.getElem_range]
        exact ⟨v, f, g⟩
end Go.Proofs.Ytmlpnmdckgppnaa.W
