/-
  Rows of numbers, wherever they lie: contracts of the laws' functions over them (sizes, copies, equal rows), and such a slice opened as an argument. Conditions: at most 1048576 elements where a row is made. Written by wip/build/mk_rwi.py.
-/
import Derived.Test.YtmlpnmdckgppnaaRwG
namespace Go.Proofs.Ytmlpnmdckgppnaa.W
open Go.ChangeShapes Go.WideShapes Go.ChangeAt Go.RowKit
set_option linter.unusedVariables false

abbrev iC : Int → Nat → Value := fun x _ => .int .i64 x
abbrev IRow := RRow 1 iC
abbrev IBlk := RBlk 3 1 iC
theorem IRow.iat {w w' : World} {ad : Option Addr} {l : List Int} (h : IRow w ad l) (hb : Below w.heap.size w w') {i : Nat} (hi : i < l.length) :
    ∃ b o, ad = some ⟨b, o, none⟩ ∧ b < w.heap.size ∧ w'.cell? ⟨b, o + i, none⟩ = some (.int .i64 l[i]) := by
  obtain ⟨b, o, h1, h2, h3⟩ := RRow.at h hb hi
  refine ⟨b, o, h1, h2, ?_⟩
  have := h3 0 (by omega)
  rwa [Nat.mul_one, Nat.add_zero] at this

set_option maxHeartbeats 1000000 in
theorem szIntS_any (ad : Option Addr) (c n : Nat) (left : Int) (w : World) (hl : n ≤ maxLen) (h0 : 0 ≤ left) (h1 : left ≤ 1048576) :
    Calls Try.prog 17 #[.slice ad n c, .int .i64 left] w fun e w' => ∃ r : Int, e = .returned (.int .i64 r) ∧ (r < 0 ∨ 0 ≤ r ∧ r ≤ 1048576 ∧ n ≤ 1048576) ∧ w' = w := by
  have hl2 : (n : Int) ≤ 9223372036854775807 := by unfold maxLen at hl; omega
  clear hl
  by_cases hbig : left < n
  · go_enter Try.func17, Try.ntmps17
    go_wp2_with fail
    go_ret
    exact ⟨_, rfl, .inl (by omega), rfl⟩
  · go_enter Try.func17, Try.ntmps17
    go_wp2_with fail
    go_ret
    exact ⟨_, rfl, .inr ⟨by omega, by omega, by omega⟩, rfl⟩

theorem infoInt1 : (Try.prog.info? 3).map (fun i => (i.zero, i.size, i.bytes)) = some (some (.int .i64 0), 1, 8) := by kernel_rfl
theorem mk_Int1 (n : Nat) (hn : n ≤ 1048576) (w : World) :
    (Instr.makeSlice 22 (.int .i64 (n : Int)) (.int .i64 (n : Int))).run Try.prog w = .ok (.slice (some ⟨w.heap.size, 0, none⟩) n n) (w.alloc (.cells (madeCells #[.int .i64 0] n) 3)) := by
  obtain ⟨i, hi, hzz⟩ := Option.map_eq_some_iff.1 infoInt1
  simp only [Prod.mk.injEq] at hzz
  obtain ⟨hz, hs, hb⟩ := hzz
  have := run_make (P := Try.prog) w 22 3 i _ Try.underlying22 hi hz .i64 .i64 n n (by omega) (Int.le_refl _) (by rw [hb]; omega) (by omega)
  rw [hs, show (.int .i64 0 : Value).cells = #[.int .i64 0] from by simp [Value.cells]] at this
  simpa using this

set_option maxHeartbeats 2000000 in
theorem toIntS_any (ad : Option Addr) (c : Nat) (ls : List Int) (w : World) (hl : ls.length ≤ 1048576) (h : IRow w ad ls) :
    Calls Try.prog 22 #[.slice ad ls.length c] w fun e w' => e = .returned (.slice (some ⟨w.heap.size, 0, none⟩) ls.length ls.length) ∧ IBlk w' w.heap.size ls ∧ Below w.heap.size w w' := by
  have HR := hide h
  clear h
  have hmk := mk_Int1 ls.length hl
  go_enter Try.func22, Try.ntmps22
  go_wp2_with fail
  go_loopw [4] (fun i w' => ∃ (j : Nat) (cur : Array Value), j ≤ ls.length ∧ i = .int .i64 j ∧ w'.heap[w.heap.size]? = some (.cells cur 3 (0, 0)) ∧ cur.size = ls.length ∧ (∀ q (h : q < ls.length), q < j → cur[q]? = some (.int .i64 ls[q])) ∧ Below w.heap.size w w') (fun i _ => ls.length - (intOf i).toNat)
  case atStart =>
    clear hmk
    exact ⟨0, _, by omega, rfl, heap_alloc_new w _, by simp [madeCells], by intros; omega, (Below.refl _ _).alloc (Nat.le_refl _) _⟩
  case round =>
    clear hmk
    obtain ⟨j, cur, hj, rfl, hh, hsz, hF, hB⟩ := hrel
    have HF := hide hF
    have HH := hide hh
    clear hF hh
    by_cases hlt : j < ls.length
    · have hlt' : (j : Int) < (ls.length : Int) := by omega
      have hj0 : (0 : Int) ≤ (j : Int) := by omega
      obtain ⟨b, o, rfl, hb, p0⟩ := IRow.iat HR.out hB hlt
      obtain ⟨x, hx⟩ : ∃ x, x = ls[j] := ⟨_, rfl⟩
      rw [← hx] at p0
      have HX := hide hx
      clear hx
      have fz : ∀ i, wr.frozen? ⟨w.heap.size, i, none⟩ = false := fun i => unfrozen_of_blk HH.out i
      obtain ⟨y0, hy0⟩ : ∃ x, wr.cell? ⟨w.heap.size, j, none⟩ = some x := by
        rw [cell_of_blk HH.out, Array.getElem?_eq_getElem (by omega)]; exact ⟨_, rfl⟩
      go_wp2_with fail
      refine ⟨⟨j + 1, _, by omega, by go_num, blk_setCell HH.out _, by simp [hsz], fun q hq hqj => ?_, hB.setCell (p := ⟨w.heap.size, j, none⟩) (Nat.le_refl _) _⟩, by simp [intOf]; omega⟩
      rw [Array.getElem?_setIfInBounds]
      by_cases e : j = q
      · subst e; rw [if_pos rfl, if_pos (by omega), HX.out]
      · rw [if_neg e]; exact HF.out q hq (by omega)
    · obtain rfl : j = ls.length := by omega
      go_wp2_with fail
      go_ret
      refine ⟨rfl, ⟨cur, HH.out, by rw [hsz, Nat.mul_one], fun i hi _ r hr => ?_⟩, hB⟩
      obtain rfl : r = 0 := by omega
      rw [Nat.mul_one, Nat.add_zero]
      exact HF.out i hi hi

set_option maxHeartbeats 1000000 in
theorem eqIntS_row (a1 a2 : Option Addr) (c1 c2 : Nat) (ls : List Int) (w : World) (hl : ls.length ≤ 1048576) (h1 : IRow w a1 ls) (h2 : IRow w a2 ls) :
    Calls Try.prog 28 #[.slice a1 ls.length c1, .slice a2 ls.length c2] w fun e w' => e = .returned (.bool true) ∧ Below w.heap.size w w' := by
  have H1 := hide h1
  have H2 := hide h2
  clear h1 h2
  go_enter Try.func28, Try.ntmps28
  go_wp2_with fail
  go_loopw [5] (fun i w' => ∃ j : Nat, j ≤ ls.length ∧ i = .int .i64 j ∧ Below w.heap.size w w') (fun i _ => ls.length - (intOf i).toNat)
  case atStart => exact ⟨0, by omega, rfl, Below.refl _ _⟩
  case round =>
    obtain ⟨j, hj, rfl, hB⟩ := hrel
    by_cases hlt : j < ls.length
    · have hlt' : (j : Int) < (ls.length : Int) := by omega
      obtain ⟨b, o, rfl, hb, p0⟩ := IRow.iat H1.out hB hlt
      obtain ⟨b', o', rfl, hb', q0⟩ := IRow.iat H2.out hB hlt
      obtain ⟨x, hx⟩ : ∃ x, x = ls[j] := ⟨_, rfl⟩
      rw [← hx] at p0 q0
      clear hx H1 H2
      go_wp2_with fail
      go_quiet (fail)
      go_wp2_with fail
      exact ⟨⟨j + 1, by omega, by go_num, ⟨hB.os, hB.tape, hB.output, hB.size, hB.block⟩⟩, by simp [intOf]; omega⟩
    · go_wp2_with fail
      go_ret
      exact ⟨rfl, hB⟩

set_option maxRecDepth 20000 in
theorem open_ints {H : Type} {enc : TypeId × Value → H} {W : World} {sp : Nat → Bool} {held : Bool} {fuel : Nat} {ad : Option Addr} {len cap : Nat} {x : DataW H × List MemPlace}
    (h : DataW.trod enc Try.prog W 0 sp held fuel 22 [.slice ad len cap] = some x) :
    ∃ l : List Int, l.length = len ∧ len ≤ maxLen ∧ IRow W ad l := by
  rcases Go.Deep.open_slice Try.underlying22 h with ⟨hcs, -⟩ | ⟨a, len', cap', m, n, D, Pl, hcs, hb, hl, hm, hmm, -, hx⟩
  · simp at hcs
    exact ⟨[], by simp [hcs.2.1], by omega, .inl rfl⟩
  simp at hcs
  obtain ⟨rfl, rfl, rfl⟩ := hcs
  have hlm : len ≤ m := by rw [hmm]; split <;> omega
  have hc : Try.prog.cellsOf 3 = 1 := by kernel_rfl
  haveI : Inhabited Int := ⟨0⟩
  obtain ⟨F, hF⟩ := Go.Deep.choose_lt (α := Int) (n := len) (p := fun i x => True ∧ W.cell? (a.add i) = some (.int .i64 x)) (fun i hi => by
    obtain ⟨cs', h1, h2⟩ := hx i (by omega)
    rw [hc] at h1
    obtain ⟨_, hlen, hcell⟩ := World.cells?_some h1
    match cs', hlen with
    | [v0], _ =>
      obtain ⟨k0, e0, -, wt⟩ := DataW.trod_int Try.underlying3 h2
      simp at e0
      subst e0
      have c0 := hcell 0 (by omega)
      rw [Go.Deep.add_add] at c0
      exact ⟨k0, trivial, by simpa using c0⟩)
  refine ⟨(List.range len).map F, by simp, by omega, ?_⟩
  · by_cases h0 : len = 0
    · left; simp [h0]
    · right
      obtain ⟨b, o, spot⟩ := a
      have hspot : spot = none := by simpa [Addr.add] using World.cell?_spot (hF 0 (by omega)).2
      subst hspot
      refine ⟨b, o, rfl, ?_, fun i hi r hr => ?_⟩
      · have := World.block_lt_of_cell? _ _ (hF 0 (by omega)).2
        simpa [Addr.add] using this
      · have hi' : i < len := by simpa using hi
        obtain ⟨-, f0⟩ := hF i hi'
        rw [Addr.add_lit] at f0
        obtain rfl : r = 0 := by omega
        simp only [List.getElem_map, List.getElem_range, Nat.mul_one, Nat.add_zero]
        exact f0

end Go.Proofs.Ytmlpnmdckgppnaa.W
