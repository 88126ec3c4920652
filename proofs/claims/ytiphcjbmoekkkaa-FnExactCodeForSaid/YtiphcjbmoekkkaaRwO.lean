/-
  Rows of truths, wherever they lie: contracts of the laws' functions over them (sizes, copies, equal rows), and such a slice opened as an argument. Conditions: at most 1048576 elements where a row is made. Written by wip/build/mk_rwi.py.
-/
import Derived.Test.YtiphcjbmoekkkaaRwG
namespace Go.Proofs.Ytiphcjbmoekkkaa.W
open Go.ChangeShapes Go.WideShapes Go.ChangeAt Go.RowKit
set_option linter.unusedVariables false

abbrev oC : Bool → Nat → Value := fun x _ => .bool x
abbrev ORow := RRow 1 oC
abbrev OBlk := RBlk 4 1 oC
theorem ORow.oat {w w' : World} {ad : Option Addr} {l : List Bool} (h : ORow w ad l) (hb : Below w.heap.size w w') {i : Nat} (hi : i < l.length) :
    ∃ b o, ad = some ⟨b, o, none⟩ ∧ b < w.heap.size ∧ w'.cell? ⟨b, o + i, none⟩ = some (.bool l[i]) := by
  obtain ⟨b, o, h1, h2, h3⟩ := RRow.at h hb hi
  refine ⟨b, o, h1, h2, ?_⟩
  have := h3 0 (by omega)
  rwa [Nat.mul_one, Nat.add_zero] at this

theorem infoBool1 : (Try.prog.info? 4).map (fun i => (i.zero, i.size, i.bytes)) = some (some (.bool false), 1, 1) := by kernel_rfl
theorem mk_Bool1 (n : Nat) (hn : n ≤ 1048576) (w : World) :
    (Instr.makeSlice 37 (.int .i64 (n : Int)) (.int .i64 (n : Int))).run Try.prog w = .ok (.slice (some ⟨w.heap.size, 0, none⟩) n n) (w.alloc (.cells (madeCells #[.bool false] n) 4)) := by
  obtain ⟨i, hi, hzz⟩ := Option.map_eq_some_iff.1 infoBool1
  simp only [Prod.mk.injEq] at hzz
  obtain ⟨hz, hs, hb⟩ := hzz
  have := run_make (P := Try.prog) w 37 4 i _ Try.underlying37 hi hz .i64 .i64 n n (by omega) (Int.le_refl _) (by rw [hb]; omega) (by omega)
  rw [hs, show (.bool false : Value).cells = #[.bool false] from by simp [Value.cells]] at this
  simpa using this

set_option maxHeartbeats 2000000 in
theorem toBoolS_any (ad : Option Addr) (c : Nat) (ls : List Bool) (w : World) (hl : ls.length ≤ 1048576) (h : ORow w ad ls) :
    Calls Try.prog 23 #[.slice ad ls.length c] w fun e w' => e = .returned (.slice (some ⟨w.heap.size, 0, none⟩) ls.length ls.length) ∧ OBlk w' w.heap.size ls ∧ Below w.heap.size w w' := by
  have HR := hide h
  clear h
  have hmk := mk_Bool1 ls.length hl
  go_enter Try.func23, Try.ntmps23
  go_wp2_with fail
  go_loopw [4] (fun i w' => ∃ (j : Nat) (cur : Array Value), j ≤ ls.length ∧ i = .int .i64 j ∧ w'.heap[w.heap.size]? = some (.cells cur 4 (0, 0)) ∧ cur.size = ls.length ∧ (∀ q (h : q < ls.length), q < j → cur[q]? = some (.bool ls[q])) ∧ Below w.heap.size w w') (fun i _ => ls.length - (intOf i).toNat)
  case atStart =>
    clear hmk
    exact ⟨0, _, by omega, rfl, heap_alloc_new w _, by simp [madeCells], by intros; omega, (Below.refl _ _).alloc (Nat.le_refl _) _⟩
  case round =>
    clear hmk
    obtain ⟨j, cur, hj, rfl, hh, hsz, hF, hB⟩ := hrel
    have HF := hide hF
    have HH := hide hh
    clear hF hh
    by_cases hlt : j < ls.length
    · have hlt' : (j : Int) < (ls.length : Int) := by omega
      have hj0 : (0 : Int) ≤ (j : Int) := by omega
      obtain ⟨b, o, rfl, hb, p0⟩ := ORow.oat HR.out hB hlt
      obtain ⟨x, hx⟩ : ∃ x, x = ls[j] := ⟨_, rfl⟩
      rw [← hx] at p0
      have HX := hide hx
      clear hx
      have fz : ∀ i, wr.frozen? ⟨w.heap.size, i, none⟩ = false := fun i => unfrozen_of_blk HH.out i
      obtain ⟨y0, hy0⟩ : ∃ x, wr.cell? ⟨w.heap.size, j, none⟩ = some x := by
        rw [cell_of_blk HH.out, Array.getElem?_eq_getElem (by omega)]; exact ⟨_, rfl⟩
      go_wp2_with fail
      refine ⟨⟨j + 1, _, by omega, by go_num, blk_setCell HH.out _, by simp [hsz], fun q hq hqj => ?_, hB.setCell (p := ⟨w.heap.size, j, none⟩) (Nat.le_refl _) _⟩, by simp [intOf]; omega⟩
      rw [Array.getElem?_setIfInBounds]
      by_cases e : j = q
      · subst e; rw [if_pos rfl, if_pos (by omega), HX.out]
      · rw [if_neg e]; exact HF.out q hq (by omega)
    · obtain rfl : j = ls.length := by omega
      go_wp2_with fail
      go_ret
      refine ⟨rfl, ⟨cur, HH.out, by rw [hsz, Nat.mul_one], fun i hi _ r hr => ?_⟩, hB⟩
      obtain rfl : r = 0 := by omega
      rw [Nat.mul_one, Nat.add_zero]
      exact HF.out i hi hi

set_option maxHeartbeats 1000000 in
theorem eqBoolS_row (a1 a2 : Option Addr) (c1 c2 : Nat) (ls : List Bool) (w : World) (hl : ls.length ≤ 1048576) (h1 : ORow w a1 ls) (h2 : ORow w a2 ls) :
    Calls Try.prog 25 #[.slice a1 ls.length c1, .slice a2 ls.length c2] w fun e w' => e = .returned (.bool true) ∧ Below w.heap.size w w' := by
  have H1 := hide h1
  have H2 := hide h2
  clear h1 h2
  go_enter Try.func25, Try.ntmps25
  go_wp2_with fail
  go_loopw [5] (fun i w' => ∃ j : Nat, j ≤ ls.length ∧ i = .int .i64 j ∧ Below w.heap.size w w') (fun i _ => ls.length - (intOf i).toNat)
  case atStart => exact ⟨0, by omega, rfl, Below.refl _ _⟩
  case round =>
    obtain ⟨j, hj, rfl, hB⟩ := hrel
    by_cases hlt : j < ls.length
    · have hlt' : (j : Int) < (ls.length : Int) := by omega
      obtain ⟨b, o, rfl, hb, p0⟩ := ORow.oat H1.out hB hlt
      obtain ⟨b', o', rfl, hb', q0⟩ := ORow.oat H2.out hB hlt
      obtain ⟨x, hx⟩ : ∃ x, x = ls[j] := ⟨_, rfl⟩
      rw [← hx] at p0 q0
      clear hx H1 H2
      go_wp2_with fail
      go_quiet (fail)
      go_wp2_with fail
      exact ⟨⟨j + 1, by omega, by go_num, ⟨hB.os, hB.tape, hB.output, hB.size, hB.block⟩⟩, by simp [intOf]; omega⟩
    · go_wp2_with fail
      go_ret
      exact ⟨rfl, hB⟩

set_option maxRecDepth 20000 in
theorem open_bools {H : Type} {enc : TypeId × Value → H} {W : World} {sp : Nat → Bool} {held : Bool} {fuel : Nat} {ad : Option Addr} {len cap : Nat} {x : DataW H × List MemPlace}
    (h : DataW.trod enc Try.prog W 0 sp held fuel 37 [.slice ad len cap] = some x) :
    ∃ l : List Bool, l.length = len ∧ len ≤ maxLen ∧ ORow W ad l := by
  rcases Go.Deep.open_slice Try.underlying37 h with ⟨hcs, -⟩ | ⟨a, len', cap', m, n, D, Pl, hcs, hb, hl, hm, hmm, -, hx⟩
  · simp at hcs
    exact ⟨[], by simp [hcs.2.1], by omega, .inl rfl⟩
  simp at hcs
  obtain ⟨rfl, rfl, rfl⟩ := hcs
  have hlm : len ≤ m := by rw [hmm]; split <;> omega
  have hc : Try.prog.cellsOf 4 = 1 := by kernel_rfl
  haveI : Inhabited Bool := ⟨false⟩
  obtain ⟨F, hF⟩ := Go.Deep.choose_lt (α := Bool) (n := len) (p := fun i x => True ∧ W.cell? (a.add i) = some (.bool x)) (fun i hi => by
    obtain ⟨cs', h1, h2⟩ := hx i (by omega)
    rw [hc] at h1
    obtain ⟨_, hlen, hcell⟩ := World.cells?_some h1
    match cs', hlen with
    | [v0], _ =>
      obtain ⟨k0, e0, -⟩ := DataW.trod_bool Try.underlying4 h2
      simp at e0
      subst e0
      have c0 := hcell 0 (by omega)
      rw [Go.Deep.add_add] at c0
      exact ⟨k0, trivial, by simpa using c0⟩)
  refine ⟨(List.range len).map F, by simp, by omega, ?_⟩
  · by_cases h0 : len = 0
    · left; simp [h0]
    · right
      obtain ⟨b, o, spot⟩ := a
      have hspot : spot = none := by simpa [Addr.add] using World.cell?_spot (hF 0 (by omega)).2
      subst hspot
      refine ⟨b, o, rfl, ?_, fun i hi r hr => ?_⟩
      · have := World.block_lt_of_cell? _ _ (hF 0 (by omega)).2
        simpa [Addr.add] using this
      · have hi' : i < len := by simpa using hi
        obtain ⟨-, f0⟩ := hF i hi'
        rw [Addr.add_lit] at f0
        obtain rfl : r = 0 := by omega
        simp only [List.getElem_map, List.getElem_range, Nat.mul_one, Nat.add_zero]
        exact f0

end Go.Proofs.Ytiphcjbmoekkkaa.W
