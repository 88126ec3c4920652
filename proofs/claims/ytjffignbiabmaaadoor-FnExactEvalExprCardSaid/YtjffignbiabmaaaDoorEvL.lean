/-
  Rows of texts and of numbers as arguments: contracts of szStringS, toStringS, eqStringS, toIntS, eqIntS, and the arguments opened. Conditions: at most 1048576 elements where a row is made.
-/
import Derived.Test.YtjffignbiabmaaaDoorEv3
import Derived.Laws.MakeOwn
import Derived.Deep.Slices
import Derived.Lib.SmallJoins
import Derived.ChangeOld
namespace Go.Proofs.YtjffignbiabmaaaDoor.W
open Go.ChangeShapes Go.WideShapes Go.ChangeAt Go.RowKit
set_option linter.unusedVariables false

theorem infoStr1 : (Tryd.prog.info? 9).map (fun i => (i.zero, i.size, i.bytes)) = some (some (.string ⟨#[]⟩), 1, 16) := by kernel_rfl
theorem mk_Str1 (n : Nat) (hn : n ≤ 1048576) (w : World) :
    (Instr.makeSlice 43 (.int .i64 (n : Int)) (.int .i64 (n : Int))).run Tryd.prog w = .ok (.slice (some ⟨w.heap.size, 0, none⟩) n n) (w.alloc (.cells (madeCells #[.string ⟨#[]⟩] n) 9)) := by
  obtain ⟨i, hi, hzz⟩ := Option.map_eq_some_iff.1 infoStr1
  simp only [Prod.mk.injEq] at hzz
  obtain ⟨hz, hs, hb⟩ := hzz
  have := run_make (P := Tryd.prog) w 43 9 i _ Tryd.underlying43 hi hz .i64 .i64 n n (by omega) (Int.le_refl _) (by rw [hb]; omega) (by omega)
  rw [hs, show (.string ⟨#[]⟩ : Value).cells = #[.string ⟨#[]⟩] from by simp [Value.cells]] at this
  simpa using this

set_option maxHeartbeats 2000000 in
theorem toStringS_any (ad : Option Addr) (c : Nat) (ls : List ByteArray) (w : World) (hl : ls.length ≤ 1048576) (h : CR w ad (ls.map Value.string)) :
    Calls Tryd.prog 25 #[.slice ad ls.length c] w fun e w' => e = .returned (.slice (some ⟨w.heap.size, 0, none⟩) ls.length ls.length) ∧ CR w' (some ⟨w.heap.size, 0, none⟩) (ls.map Value.string) ∧ Below w.heap.size w w' := by
  have HR := hide h
  clear h
  have hmk := mk_Str1 ls.length hl
  go_enter Tryd.func25, Tryd.ntmps25
  go_wp2_with fail
  go_loopw [4] (fun i w' => ∃ (j : Nat) (cur : Array Value), j ≤ ls.length ∧ i = .int .i64 j ∧ w'.heap[w.heap.size]? = some (.cells cur 9 (0, 0)) ∧ cur.size = ls.length ∧ (∀ q (h : q < ls.length), q < j → cur[q]? = some (.string ls[q])) ∧ Below w.heap.size w w') (fun i _ => ls.length - (intOf i).toNat)
  case atStart =>
    clear hmk
    exact ⟨0, _, by omega, rfl, heap_alloc_new w _, by simp [madeCells], by intros; omega, (Below.refl _ _).alloc (Nat.le_refl _) _⟩
  case round =>
    clear hmk
    obtain ⟨j, cur, hj, rfl, hh, hsz, hF, hB⟩ := hrel
    have HF := hide hF
    have HH := hide hh
    clear hF hh
    by_cases hlt : j < ls.length
    · have hlt' : (j : Int) < (ls.length : Int) := by omega
      have hj0 : (0 : Int) ≤ (j : Int) := by omega
      obtain ⟨b, o, rfl, hb, p0⟩ := (HR.out.below hB).at (i := j) (by simpa using hlt)
      rw [List.getElem_map] at p0
      obtain ⟨x, hx⟩ : ∃ x, x = ls[j] := ⟨_, rfl⟩
      rw [← hx] at p0
      have HX := hide hx
      clear hx
      have fz : ∀ i, wr.frozen? ⟨w.heap.size, i, none⟩ = false := fun i => unfrozen_of_blk HH.out i
      obtain ⟨y0, hy0⟩ : ∃ x, wr.cell? ⟨w.heap.size, j, none⟩ = some x := by
        rw [cell_of_blk HH.out, Array.getElem?_eq_getElem (by omega)]; exact ⟨_, rfl⟩
      go_wp2_with fail
      refine ⟨⟨j + 1, _, by omega, by go_num, blk_setCell HH.out _, by simp [hsz], fun q hq hqj => ?_, hB.setCell (p := ⟨w.heap.size, j, none⟩) (Nat.le_refl _) _⟩, by simp [intOf]; omega⟩
      rw [Array.getElem?_setIfInBounds]
      by_cases e : j = q
      · subst e; rw [if_pos rfl, if_pos (by omega), HX.out]
      · rw [if_neg e]; exact HF.out q hq (by omega)
    · obtain rfl : j = ls.length := by omega
      go_wp2_with fail
      go_ret
      refine ⟨rfl, .inr ⟨_, 0, rfl, (Array.getElem?_eq_some_iff.1 HH.out).1, fun i hi => ?_⟩, hB⟩
      have hi' : i < ls.length := by simpa using hi
      rw [cell_of_blk HH.out, Nat.zero_add, HF.out i hi' hi', List.getElem_map]

set_option maxHeartbeats 1000000 in
theorem eqStringS_CR (a1 a2 : Option Addr) (c1 c2 : Nat) (ls : List ByteArray) (w : World) (hl : ls.length ≤ 1048576) (h1 : CR w a1 (ls.map Value.string)) (h2 : CR w a2 (ls.map Value.string)) :
    Calls Tryd.prog 28 #[.slice a1 ls.length c1, .slice a2 ls.length c2] w fun e w' => e = .returned (.bool true) ∧ Below w.heap.size w w' := by
  have H1 := hide h1
  have H2 := hide h2
  clear h1 h2
  go_enter Tryd.func28, Tryd.ntmps28
  go_wp2_with fail
  go_loopw [5] (fun i w' => ∃ j : Nat, j ≤ ls.length ∧ i = .int .i64 j ∧ Below w.heap.size w w') (fun i _ => ls.length - (intOf i).toNat)
  case atStart => exact ⟨0, by omega, rfl, Below.refl _ _⟩
  case round =>
    obtain ⟨j, hj, rfl, hB⟩ := hrel
    by_cases hlt : j < ls.length
    · have hlt' : (j : Int) < (ls.length : Int) := by omega
      obtain ⟨b, o, rfl, hb, p0⟩ := (H1.out.below hB).at (i := j) (by simpa using hlt)
      obtain ⟨b', o', rfl, hb', q0⟩ := (H2.out.below hB).at (i := j) (by simpa using hlt)
      rw [List.getElem_map] at p0 q0
      obtain ⟨x, hx⟩ : ∃ x, x = ls[j] := ⟨_, rfl⟩
      rw [← hx] at p0 q0
      clear hx H1 H2
      go_wp2_with fail
      go_quiet (fail)
      go_wp2_with fail
      exact ⟨⟨j + 1, by omega, by go_num, ⟨hB.os, hB.tape, hB.output, hB.size, hB.block⟩⟩, by simp [intOf]; omega⟩
    · go_wp2_with fail
      go_ret
      exact ⟨rfl, hB⟩

theorem infoInt1 : (Tryd.prog.info? 3).map (fun i => (i.zero, i.size, i.bytes)) = some (some (.int .i64 0), 1, 8) := by kernel_rfl
theorem mk_Int1 (n : Nat) (hn : n ≤ 1048576) (w : World) :
    (Instr.makeSlice 44 (.int .i64 (n : Int)) (.int .i64 (n : Int))).run Tryd.prog w = .ok (.slice (some ⟨w.heap.size, 0, none⟩) n n) (w.alloc (.cells (madeCells #[.int .i64 0] n) 3)) := by
  obtain ⟨i, hi, hzz⟩ := Option.map_eq_some_iff.1 infoInt1
  simp only [Prod.mk.injEq] at hzz
  obtain ⟨hz, hs, hb⟩ := hzz
  have := run_make (P := Tryd.prog) w 44 3 i _ Tryd.underlying44 hi hz .i64 .i64 n n (by omega) (Int.le_refl _) (by rw [hb]; omega) (by omega)
  rw [hs, show (.int .i64 0 : Value).cells = #[.int .i64 0] from by simp [Value.cells]] at this
  simpa using this

set_option maxHeartbeats 2000000 in
theorem toIntS_any (ad : Option Addr) (c : Nat) (ls : List Int) (w : World) (hl : ls.length ≤ 1048576) (h : CR w ad (ls.map (Value.int .i64))) :
    Calls Tryd.prog 26 #[.slice ad ls.length c] w fun e w' => e = .returned (.slice (some ⟨w.heap.size, 0, none⟩) ls.length ls.length) ∧ CR w' (some ⟨w.heap.size, 0, none⟩) (ls.map (Value.int .i64)) ∧ Below w.heap.size w w' := by
  have HR := hide h
  clear h
  have hmk := mk_Int1 ls.length hl
  go_enter Tryd.func26, Tryd.ntmps26
  go_wp2_with fail
  go_loopw [4] (fun i w' => ∃ (j : Nat) (cur : Array Value), j ≤ ls.length ∧ i = .int .i64 j ∧ w'.heap[w.heap.size]? = some (.cells cur 3 (0, 0)) ∧ cur.size = ls.length ∧ (∀ q (h : q < ls.length), q < j → cur[q]? = some (.int .i64 ls[q])) ∧ Below w.heap.size w w') (fun i _ => ls.length - (intOf i).toNat)
  case atStart =>
    clear hmk
    exact ⟨0, _, by omega, rfl, heap_alloc_new w _, by simp [madeCells], by intros; omega, (Below.refl _ _).alloc (Nat.le_refl _) _⟩
  case round =>
    clear hmk
    obtain ⟨j, cur, hj, rfl, hh, hsz, hF, hB⟩ := hrel
    have HF := hide hF
    have HH := hide hh
    clear hF hh
    by_cases hlt : j < ls.length
    · have hlt' : (j : Int) < (ls.length : Int) := by omega
      have hj0 : (0 : Int) ≤ (j : Int) := by omega
      obtain ⟨b, o, rfl, hb, p0⟩ := (HR.out.below hB).at (i := j) (by simpa using hlt)
      rw [List.getElem_map] at p0
      obtain ⟨x, hx⟩ : ∃ x, x = ls[j] := ⟨_, rfl⟩
      rw [← hx] at p0
      have HX := hide hx
      clear hx
      have fz : ∀ i, wr.frozen? ⟨w.heap.size, i, none⟩ = false := fun i => unfrozen_of_blk HH.out i
      obtain ⟨y0, hy0⟩ : ∃ x, wr.cell? ⟨w.heap.size, j, none⟩ = some x := by
        rw [cell_of_blk HH.out, Array.getElem?_eq_getElem (by omega)]; exact ⟨_, rfl⟩
      go_wp2_with fail
      refine ⟨⟨j + 1, _, by omega, by go_num, blk_setCell HH.out _, by simp [hsz], fun q hq hqj => ?_, hB.setCell (p := ⟨w.heap.size, j, none⟩) (Nat.le_refl _) _⟩, by simp [intOf]; omega⟩
      rw [Array.getElem?_setIfInBounds]
      by_cases e : j = q
      · subst e; rw [if_pos rfl, if_pos (by omega), HX.out]
      · rw [if_neg e]; exact HF.out q hq (by omega)
    · obtain rfl : j = ls.length := by omega
      go_wp2_with fail
      go_ret
      refine ⟨rfl, .inr ⟨_, 0, rfl, (Array.getElem?_eq_some_iff.1 HH.out).1, fun i hi => ?_⟩, hB⟩
      have hi' : i < ls.length := by simpa using hi
      rw [cell_of_blk HH.out, Nat.zero_add, HF.out i hi' hi', List.getElem_map]

set_option maxHeartbeats 1000000 in
theorem eqIntS_CR (a1 a2 : Option Addr) (c1 c2 : Nat) (ls : List Int) (w : World) (hl : ls.length ≤ 1048576) (h1 : CR w a1 (ls.map (Value.int .i64))) (h2 : CR w a2 (ls.map (Value.int .i64))) :
    Calls Tryd.prog 29 #[.slice a1 ls.length c1, .slice a2 ls.length c2] w fun e w' => e = .returned (.bool true) ∧ Below w.heap.size w w' := by
  have H1 := hide h1
  have H2 := hide h2
  clear h1 h2
  go_enter Tryd.func29, Tryd.ntmps29
  go_wp2_with fail
  go_loopw [5] (fun i w' => ∃ j : Nat, j ≤ ls.length ∧ i = .int .i64 j ∧ Below w.heap.size w w') (fun i _ => ls.length - (intOf i).toNat)
  case atStart => exact ⟨0, by omega, rfl, Below.refl _ _⟩
  case round =>
    obtain ⟨j, hj, rfl, hB⟩ := hrel
    by_cases hlt : j < ls.length
    · have hlt' : (j : Int) < (ls.length : Int) := by omega
      obtain ⟨b, o, rfl, hb, p0⟩ := (H1.out.below hB).at (i := j) (by simpa using hlt)
      obtain ⟨b', o', rfl, hb', q0⟩ := (H2.out.below hB).at (i := j) (by simpa using hlt)
      rw [List.getElem_map] at p0 q0
      obtain ⟨x, hx⟩ : ∃ x, x = ls[j] := ⟨_, rfl⟩
      rw [← hx] at p0 q0
      clear hx H1 H2
      go_wp2_with fail
      go_quiet (fail)
      go_wp2_with fail
      exact ⟨⟨j + 1, by omega, by go_num, ⟨hB.os, hB.tape, hB.output, hB.size, hB.block⟩⟩, by simp [intOf]; omega⟩
    · go_wp2_with fail
      go_ret
      exact ⟨rfl, hB⟩

set_option maxHeartbeats 2000000 in
theorem szStringS_any (ad : Option Addr) (c : Nat) (ls : List ByteArray) (m : Int) (w : World) (hl : ls.length ≤ maxLen) (hs : ∀ x ∈ ls, x.size ≤ maxLen) (hm0 : 0 ≤ m) (hm1 : m ≤ 1048576) (h : CR w ad (ls.map Value.string)) :
    Calls Tryd.prog 23 #[.slice ad ls.length c, .int .i64 m] w fun e w' => ∃ r : Int, e = .returned (.int .i64 r) ∧ (r < 0 ∨ 0 ≤ r ∧ ls.length ≤ 1048576) ∧ w' = w := by
  have hl2 : (ls.length : Int) ≤ 9223372036854775807 := by unfold maxLen at hl; omega
  have HR := hide h
  have HS := hide hs
  clear h hs
  by_cases hbig : m < (ls.length : Int)
  · clear hl
    go_enter Tryd.func23, Tryd.ntmps23
    go_wp2_with fail
    go_ret
    exact ⟨_, rfl, .inl (by omega), rfl⟩
  · have hln : ls.length ≤ 1048576 := by omega
    have hge : ¬ m - (ls.length : Int) < 0 := by omega
    clear hl hl2
    go_enter Tryd.func23, Tryd.ntmps23
    go_wp2_with fail
    go_loopw [1, 5] (fun v1 i w' => ∃ (j : Nat) (q : Int), j ≤ ls.length ∧ i = .int .i64 j ∧ v1 = .int .i64 q ∧ 0 ≤ q ∧ q ≤ 1048576 ∧ w' = w) (fun _ i _ => ls.length - (intOf i).toNat)
    case atStart => exact ⟨0, m - (ls.length : Int), by omega, rfl, rfl, by omega, by omega, rfl⟩
    case round =>
      obtain ⟨j, q, hj, rfl, rfl, hq0, hq1, rfl⟩ := hrel
      by_cases hlt : j < ls.length
      · have hlt' : (j : Int) < (ls.length : Int) := by omega
        obtain ⟨b, o, rfl, hb, p0⟩ := HR.out.at (i := j) (by simpa using hlt)
        rw [List.getElem_map] at p0
        have hsz := HS.out _ (List.getElem_mem hlt)
        obtain ⟨x, hx⟩ : ∃ x, x = ls[j] := ⟨_, rfl⟩
        rw [← hx] at p0 hsz
        unfold maxLen at hsz
        have hsz' : (x.size : Int) ≤ 9223372036854775807 := by omega
        clear hx
        by_cases hbx : q < (x.size : Int)
        · go_wp2_with fail
          go_ret
          exact ⟨_, rfl, .inl (by omega), rfl⟩
        · have hbx' : ¬ q - (x.size : Int) < 0 := by omega
          go_wp2_with fail
          exact ⟨⟨j + 1, q - (x.size : Int), by omega, by go_num, by go_num, by omega, by omega, trivial⟩, by simp [intOf]; omega⟩
      · go_wp2_with fail
        go_ret
        exact ⟨_, rfl, .inr ⟨hq0, hln⟩, rfl⟩

set_option maxRecDepth 20000 in
theorem open_strs {H : Type} {enc : TypeId × Value → H} {W : World} {sp : Nat → Bool} {held : Bool} {fuel : Nat} {ad : Option Addr} {len cap : Nat} {x : DataW H × List MemPlace}
    (h : DataW.trod enc Tryd.prog W 0 sp held fuel 43 [.slice ad len cap] = some x) :
    ∃ l : List ByteArray, l.length = len ∧ len ≤ maxLen ∧ (∀ x ∈ l, x.size ≤ maxLen) ∧ CR W ad (l.map Value.string) := by
  rcases Go.Deep.open_slice Tryd.underlying43 h with ⟨hcs, -⟩ | ⟨a, len', cap', m, n, D, Pl, hcs, hb, hl, hm, hmm, -, hx⟩
  · simp at hcs
    exact ⟨[], by simp [hcs.2.1], by omega, by simp, .inl rfl⟩
  simp at hcs
  obtain ⟨rfl, rfl, rfl⟩ := hcs
  have hlm : len ≤ m := by rw [hmm]; split <;> omega
  have hc : Tryd.prog.cellsOf 9 = 1 := by kernel_rfl
  haveI : Inhabited ByteArray := ⟨⟨#[]⟩⟩
  obtain ⟨F, hF⟩ := Go.Deep.choose_lt (α := ByteArray) (n := len) (p := fun i x => x.size ≤ maxLen ∧ W.cell? (a.add i) = some (.string x)) (fun i hi => by
    obtain ⟨cs', h1, h2⟩ := hx i (by omega)
    rw [hc] at h1
    obtain ⟨_, hlen, hcell⟩ := World.cells?_some h1
    match cs', hlen with
    | [v0], _ =>
      obtain ⟨k0, e0, -, wt⟩ := DataW.trod_string Tryd.underlying9 h2
      simp at e0
      subst e0
      have c0 := hcell 0 (by omega)
      rw [Go.Deep.add_add] at c0
      exact ⟨k0, wt, by simpa using c0⟩)
  refine ⟨(List.range len).map F, by simp, by omega, ?_, ?_⟩
  · intro x hx
    obtain ⟨i, hi, rfl⟩ := List.mem_map.1 hx
    exact (hF i (List.mem_range.1 hi)).1
  · by_cases h0 : len = 0
    · left; simp [h0]
    · right
      obtain ⟨b, o, spot⟩ := a
      have hspot : spot = none := by simpa [Addr.add] using World.cell?_spot (hF 0 (by omega)).2
      subst hspot
      refine ⟨b, o, rfl, ?_, fun i hi => ?_⟩
      · have := World.block_lt_of_cell? _ _ (hF 0 (by omega)).2
        simpa [Addr.add] using this
      · have hi' : i < len := by simpa using hi
        obtain ⟨-, f0⟩ := hF i hi'
        rw [Addr.add_lit] at f0
        simp only [List.getElem_map, List.getElem_range]
        exact f0

set_option maxRecDepth 20000 in
theorem open_ints {H : Type} {enc : TypeId × Value → H} {W : World} {sp : Nat → Bool} {held : Bool} {fuel : Nat} {ad : Option Addr} {len cap : Nat} {x : DataW H × List MemPlace}
    (h : DataW.trod enc Tryd.prog W 0 sp held fuel 44 [.slice ad len cap] = some x) :
    ∃ l : List Int, l.length = len ∧ len ≤ maxLen ∧ (∀ x ∈ l, True) ∧ CR W ad (l.map (Value.int .i64)) := by
  rcases Go.Deep.open_slice Tryd.underlying44 h with ⟨hcs, -⟩ | ⟨a, len', cap', m, n, D, Pl, hcs, hb, hl, hm, hmm, -, hx⟩
  · simp at hcs
    exact ⟨[], by simp [hcs.2.1], by omega, by simp, .inl rfl⟩
  simp at hcs
  obtain ⟨rfl, rfl, rfl⟩ := hcs
  have hlm : len ≤ m := by rw [hmm]; split <;> omega
  have hc : Tryd.prog.cellsOf 3 = 1 := by kernel_rfl
  haveI : Inhabited Int := ⟨0⟩
  obtain ⟨F, hF⟩ := Go.Deep.choose_lt (α := Int) (n := len) (p := fun i x => True ∧ W.cell? (a.add i) = some (.int .i64 x)) (fun i hi => by
    obtain ⟨cs', h1, h2⟩ := hx i (by omega)
    rw [hc] at h1
    obtain ⟨_, hlen, hcell⟩ := World.cells?_some h1
    match cs', hlen with
    | [v0], _ =>
      obtain ⟨k0, e0, -, wt⟩ := DataW.trod_int Tryd.underlying3 h2
      simp at e0
      subst e0
      have c0 := hcell 0 (by omega)
      rw [Go.Deep.add_add] at c0
      exact ⟨k0, trivial, by simpa using c0⟩)
  refine ⟨(List.range len).map F, by simp, by omega, ?_, ?_⟩
  · intro x hx
    obtain ⟨i, hi, rfl⟩ := List.mem_map.1 hx
    exact (hF i (List.mem_range.1 hi)).1
  · by_cases h0 : len = 0
    · left; simp [h0]
    · right
      obtain ⟨b, o, spot⟩ := a
      have hspot : spot = none := by simpa [Addr.add] using World.cell?_spot (hF 0 (by omega)).2
      subst hspot
      refine ⟨b, o, rfl, ?_, fun i hi => ?_⟩
      · have := World.block_lt_of_cell? _ _ (hF 0 (by omega)).2
        simpa [Addr.add] using this
      · have hi' : i < len := by simpa using hi
        obtain ⟨-, f0⟩ := hF i hi'
        rw [Addr.add_lit] at f0
        simp only [List.getElem_map, List.getElem_range]
        exact f0

set_option maxHeartbeats 1000000 in
theorem szExS_le (ad : Option Addr) (c : Nat) (l : List Xx) (w : World) (hl : l.length ≤ maxLen) (hs : ∀ x ∈ l, x.t.size ≤ maxLen) (h : Row w ad l) :
    Calls Tryd.prog 19 #[.slice ad l.length c, .int .i64 1048576] w fun e w' => ∃ r : Int, e = .returned (.int .i64 r) ∧ (r < 0 ∨ (0 ≤ r ∧ r ≤ 1048576) ∧ l.length ≤ 1048576 ∧ ∀ x ∈ l, x.t.size ≤ 1048576) ∧ Below w.heap.size w w' := by
  have hl2 : (l.length : Int) ≤ 9223372036854775807 := by unfold maxLen at hl; omega
  have HR := hide h
  have HS := hide hs
  clear h hs hl
  by_cases hbig : (1048576 : Int) < l.length
  · go_enter Tryd.func19, Tryd.ntmps19
    go_wp2_with fail
    go_ret
    exact ⟨_, rfl, .inl (by omega), Below.refl _ _⟩
  · have hsm : l.length ≤ 1048576 := by omega
    go_enter Tryd.func19, Tryd.ntmps19
    go_wp2_with fail
    go_loopw [1, 5] (fun lf i w' => ∃ (j : Nat) (r : Int), j ≤ l.length ∧ 0 ≤ r ∧ r ≤ 1048576 ∧ i = .int .i64 j ∧ lf = .int .i64 r ∧ (∀ i (h : i < l.length), i < j → l[i].t.size ≤ 1048576) ∧ Below w.heap.size w w') (fun _ i _ => l.length - (intOf i).toNat)
    case atStart => exact ⟨0, _, by omega, by omega, by omega, rfl, rfl, by intros; omega, Below.refl _ _⟩
    case round =>
      obtain ⟨j, r, hj, hr0, hr1, rfl, rfl, hall, hB⟩ := hrel
      have HA := hide hall
      clear hall
      by_cases hlt : j < l.length
      · have hlt' : (j : Int) < (l.length : Int) := by omega
        obtain ⟨b, o, rfl, hb, p0, p1, p2⟩ := HR.out.tok hB hlt
        have hsz := HS.out _ (List.getElem_mem hlt)
        obtain ⟨x, hx⟩ : ∃ x, x = l[j] := ⟨_, rfl⟩
        rw [← hx] at p0 p1 p2 hsz
        have HX := hide hx
        clear hx
        go_wp2_with fail
        refine (szEx_any _ _ _ _ _ hsz hr0 hr1).mono ?_
        rintro e w1 ⟨rfl, hb1⟩
        have hB1 : Below w.heap.size w w1 := hB.trans (hb1.mono hB.size)
        clear hb1 p0 p1 p2
        by_cases hrl : r < (x.t.size : Int)
        · rw [if_pos hrl]
          go_wp2_with fail
          go_ret
          exact ⟨_, rfl, .inl (by omega), hB1⟩
        · rw [if_neg hrl]
          have hrn : ¬ r - (x.t.size : Int) < 0 := by omega
          go_wp2_with fail
          refine ⟨⟨j + 1, r - x.t.size, by omega, by omega, by omega, by go_num, rfl, ?_, hB1⟩, by simp [intOf]; omega⟩
          intro i hi hij
          by_cases e : i = j
          · subst e; rw [← HX.out]; omega
          · exact HA.out i hi (by omega)
      · obtain rfl : j = l.length := by omega
        go_wp2_with fail
        go_ret
        refine ⟨_, rfl, .inr ⟨⟨hr0, hr1⟩, hsm, ?_⟩, hB⟩
        intro x hx
        obtain ⟨i, hi, rfl⟩ := List.getElem_of_mem hx
        exact HA.out i hi hi
end Go.Proofs.YtjffignbiabmaaaDoor.W
