/-
  Slices of Pat, wherever they lie: contracts of the laws' functions over them (sizes, copies, equal rows, marks). Conditions: at most 1048576 elements where a row is made. Written by wip/build/mk_row.py.
-/
import Derived.Test.YtmlpnmdckgppnaaRwG
namespace Go.Proofs.Ytmlpnmdckgppnaa.W
open Go.ChangeShapes Go.WideShapes Go.ChangeAt Go.RowKit
set_option linter.unusedVariables false

structure Pt where
  kd : Int
  con : Int
def Pt.c (x : Pt) : Nat → Value
  | 0 => .int .i64 x.kd
  | _ => .int .i64 x.con
abbrev Pt.v (x : Pt) : Value := .agg #[.int .i64 x.kd, .int .i64 x.con]
abbrev PtRow := RRow 2 Pt.c
def Pt.mv : Nat → Nat → Value
  | 0 => mI
  | _ => mI

theorem PtRow.tok {w w' : World} {ad : Option Addr} {l : List Pt} (h : PtRow w ad l) (hb : Below w.heap.size w w') {i : Nat} (hi : i < l.length) :
    ∃ b o, ad = some ⟨b, o, none⟩ ∧ b < w.heap.size ∧ w'.cell? ⟨b, o + i * 2, none⟩ = some (.int .i64 l[i].kd) ∧ w'.cell? ⟨b, o + i * 2 + 1, none⟩ = some (.int .i64 l[i].con) := by
  obtain ⟨b, o, h1, h2, h3⟩ := h.at hb hi
  exact ⟨b, o, h1, h2, h3 0 (by omega), h3 1 (by omega)⟩

theorem Pt.one (l : List Pt) : ∀ u ∈ rcells 2 Pt.c l, u.oneCell' = true := by
  induction l with
  | nil => intro u hu; simp [rcells] at hu
  | cons x l ih =>
    intro u hu
    simp only [rcells, List.mem_append, List.mem_map, List.mem_range] at hu
    rcases hu with ⟨r, hr, rfl⟩ | hu
    · match r, hr with
      | 0, _ => rfl
      | 1, _ => rfl
    · exact ih u hu

set_option maxHeartbeats 400000 in
theorem toPat_any (x : Pt) (w : World) :
    Calls Try.prog 36 #[x.v] w fun e w' => e = .returned x.v ∧ Below w.heap.size w w' := by
  obtain ⟨x0, x1⟩ := x
  go_enter Try.func36, Try.ntmps36
  go_wp2
  exact bodyPost_ret (v := .agg #[.int .i64 x0, .int .i64 x1]) (by simp [results, Try.results36, go_sem]) rfl ⟨rfl, (((Below.refl _ _).alloc (Nat.le_refl _) _).alloc (by simp) _).alloc (by simp; omega) _⟩

set_option maxHeartbeats 400000 in
theorem eqPat_same (x : Pt) (w : World) :
    Calls Try.prog 41 #[x.v, x.v] w fun e w' => e = .returned (.bool true) ∧ Below w.heap.size w w' := by
  obtain ⟨x0, x1⟩ := x
  go_enter Try.func41, Try.ntmps41
  go_wp2
  go_ret
  exact ⟨rfl, ((Below.refl _ _).alloc (Nat.le_refl _) _).alloc (by simp) _⟩

set_option maxHeartbeats 1000000 in
theorem szPatS_any (ad : Option Addr) (c n : Nat) (left : Int) (w : World) (hl : n ≤ maxLen) (h0 : 0 ≤ left) (h1 : left ≤ 1048576) :
    Calls Try.prog 18 #[.slice ad n c, .int .i64 left] w fun e w' => ∃ r : Int, e = .returned (.int .i64 r) ∧ (r < 0 ∨ 0 ≤ r ∧ r ≤ 1048576 ∧ n ≤ 1048576) ∧ w' = w := by
  have hl2 : (n : Int) ≤ 9223372036854775807 := by unfold maxLen at hl; omega
  clear hl
  by_cases hbig : left < n
  · go_enter Try.func18, Try.ntmps18
    go_wp2_with fail
    go_ret
    exact ⟨_, rfl, .inl (by omega), rfl⟩
  · go_enter Try.func18, Try.ntmps18
    go_wp2_with fail
    go_ret
    exact ⟨_, rfl, .inr ⟨by omega, by omega, by omega⟩, rfl⟩

theorem Pt.fill {cur : Array Value} {l : List Pt} {j : Nat} (h : RFill 2 Pt.c cur l j) (hj : j < l.length) :
    RFill 2 Pt.c ((cur.setIfInBounds (j * 2) (.int .i64 l[j].kd)).setIfInBounds (j * 2 + 1) (.int .i64 l[j].con)) l (j + 1) := by
  have hs := h.1
  refine ⟨by simp [hs], fun i hi hij r hr => ?_⟩
  simp only [Array.getElem?_setIfInBounds, Array.size_setIfInBounds]
  by_cases e : i = j
  · subst e
    match r, hr with
    | 0, _ => rw [if_neg (by omega), if_pos (by omega), if_pos (by omega)]; rfl
    | 1, _ => rw [if_pos rfl, if_pos (by omega)]; rfl
  · rw [if_neg (by omega), if_neg (by omega)]
    exact h.2 i hi (by omega) r hr

theorem infoPt : (Try.prog.info? 75).map (fun i => (i.zero, i.size, i.bytes)) = some (some (.agg #[.int .i64 0, .int .i64 0]), 2, 16) := by kernel_rfl
theorem mk_PtS (n : Nat) (hn : n ≤ 1048576) (w : World) :
    (Instr.makeSlice 57 (.int .i64 (n : Int)) (.int .i64 (n : Int))).run Try.prog w = .ok (.slice (some ⟨w.heap.size, 0, none⟩) n n) (w.alloc (.cells (madeCells #[.int .i64 0, .int .i64 0] (n * 2)) 75)) := by
  obtain ⟨i, hi, hzz⟩ := Option.map_eq_some_iff.1 infoPt
  simp only [Prod.mk.injEq] at hzz
  obtain ⟨hz, hs, hb⟩ := hzz
  have := run_make (P := Try.prog) w 57 75 i _ Try.underlying57 hi hz .i64 .i64 n n (by omega) (Int.le_refl _) (by rw [hb]; omega) (by omega)
  rw [hs, show (Value.agg #[.int .i64 0, .int .i64 0]).cells = #[.int .i64 0, .int .i64 0] from by simp [Value.cells]] at this
  simpa using this

abbrev PtBlk := RBlk 75 2 Pt.c

set_option maxHeartbeats 2000000 in
theorem toPatS_any (ad : Option Addr) (c : Nat) (l : List Pt) (w : World) (hl : l.length ≤ 1048576) (h : PtRow w ad l) :
    Calls Try.prog 23 #[.slice ad l.length c] w fun e w' => e = .returned (.slice (some ⟨w.heap.size, 0, none⟩) l.length l.length) ∧ PtBlk w' w.heap.size l ∧ Below w.heap.size w w' := by
  have HR := hide h
  clear h
  have hmk := mk_PtS l.length hl
  go_enter Try.func23, Try.ntmps23
  go_wp2_with fail
  go_loopw [4] (fun i w' => ∃ (j : Nat) (cur : Array Value), j ≤ l.length ∧ i = .int .i64 j ∧ w'.heap[w.heap.size]? = some (.cells cur 75 (0, 0)) ∧ RFill 2 Pt.c cur l j ∧ Below w.heap.size w w') (fun i _ => l.length - (intOf i).toNat)
  case atStart =>
    clear hmk
    exact ⟨0, _, by omega, rfl, heap_alloc_new w _, ⟨by simp [madeCells], by intros; omega⟩, (Below.refl _ _).alloc (Nat.le_refl _) _⟩
  case round =>
    clear hmk
    obtain ⟨j, cur, hj, rfl, hh, hF, hB⟩ := hrel
    have HF := hide hF
    have HH := hide hh
    clear hF hh
    by_cases hlt : j < l.length
    · have hlt' : (j : Int) < (l.length : Int) := by omega
      have hj0 : (0 : Int) ≤ (j : Int) := by omega
      obtain ⟨b, o, rfl, hb, p0, p1⟩ := PtRow.tok HR.out hB hlt
      have HFS := hide (Pt.fill HF.out hlt)
      obtain ⟨x, hx⟩ : ∃ x, x = l[j] := ⟨_, rfl⟩
      rw [← hx] at p0 p1 HFS
      clear hx
      go_wp2_with fail
      refine (toPat_any x _).mono ?_
      rintro e w1 ⟨rfl, hb1⟩
      have hB1 : Below w.heap.size w w1 := hB.trans (hb1.mono hB.size)
      have hh1 : w1.heap[w.heap.size]? = some (.cells cur 75 (0, 0)) := (hb1.block _ (Array.getElem?_eq_some_iff.1 HH.out).1).trans HH.out
      have fz : ∀ i, w1.frozen? ⟨w.heap.size, i, none⟩ = false := fun i => unfrozen_of_blk hh1 i
      have cs : ∀ r, r < 2 → ∃ x, w1.cell? ⟨w.heap.size, j * 2 + r, none⟩ = some x := fun r hr => by
        rw [cell_of_blk hh1, Array.getElem?_eq_getElem (by have := HF.out.1; omega)]; exact ⟨_, rfl⟩
      obtain ⟨y0, hy0⟩ := cs 0 (by omega)
      obtain ⟨y1, hy1⟩ := cs 1 (by omega)
      rw [Nat.add_zero] at hy0
      have HH1 := hide hh1
      clear cs hh1 hb1 p0 p1
      go_wp2_with fail
      have hk := blk_setCell (i := j * 2 + 1) (blk_setCell (i := j * 2) (HH1.out) (.int .i64 x.kd)) (.int .i64 x.con)
      exact ⟨⟨j + 1, _, by omega, by go_num, hk, HFS.out, ((hB1).setCell (p := ⟨w.heap.size, j * 2, none⟩) (Nat.le_refl _) _).setCell (p := ⟨w.heap.size, j * 2 + 1, none⟩) (Nat.le_refl _) _⟩, by simp [intOf]; omega⟩
    · obtain rfl : j = l.length := by omega
      go_wp2_with fail
      go_ret
      exact ⟨rfl, ⟨cur, HH.out, HF.out⟩, hB⟩

set_option maxHeartbeats 1000000 in
theorem eqPatS_row (a1 a2 : Option Addr) (c1 c2 : Nat) (l : List Pt) (w : World) (hl : l.length ≤ 1048576) (h1 : PtRow w a1 l) (h2 : PtRow w a2 l) :
    Calls Try.prog 29 #[.slice a1 l.length c1, .slice a2 l.length c2] w fun e w' => e = .returned (.bool true) ∧ Below w.heap.size w w' := by
  have H1 := hide h1
  have H2 := hide h2
  clear h1 h2
  go_enter Try.func29, Try.ntmps29
  go_wp2
  go_loopw [5] (fun i w' => ∃ j : Nat, j ≤ l.length ∧ i = .int .i64 j ∧ Below w.heap.size w w') (fun i _ => l.length - (intOf i).toNat)
  case atStart => exact ⟨0, by omega, rfl, Below.refl _ _⟩
  case round =>
    obtain ⟨j, hj, rfl, hB⟩ := hrel
    by_cases hlt : j < l.length
    · have hlt' : (j : Int) < (l.length : Int) := by omega
      obtain ⟨b, o, rfl, hb, p0, p1⟩ := PtRow.tok H1.out hB hlt
      obtain ⟨b', o', rfl, hb', q0, q1⟩ := PtRow.tok H2.out hB hlt
      obtain ⟨x, hx⟩ : ∃ x, x = l[j] := ⟨_, rfl⟩
      rw [← hx] at p0 p1 q0 q1
      clear hx H1 H2
      go_wp2_with fail
      go_region_with (go_at_call 41; refine (eqPat_same x _).mono ?_; rintro e w1 ⟨rfl, hb1⟩)
      all_goals
        have hB1 : Below w.heap.size w w1 := hB.trans ((show Below wr.heap.size wr w1 from ⟨hb1.os, hb1.tape, hb1.output, hb1.size, hb1.block⟩).mono hB.size)
        clear p0 p1 q0 q1 hb1
        go_wp2_with fail
        exact ⟨⟨j + 1, by omega, by go_num, hB1⟩, by simp [intOf]; omega⟩
    · go_wp2_with fail
      go_ret
      exact ⟨rfl, hB⟩

theorem Pt.marks (cur : Array Value) (k0 j n : Nat) (x0 x1 : Value) (hj : j < n) (hs : n * 2 ≤ cur.size) (h : ∀ i, i < j → ∀ r, r < 2 → cur[i * 2 + r]? = some (Pt.mv r (k0 + i * 2 + r)))
    (h0 : x0 = Pt.mv 0 (k0 + j * 2 + 0)) (h1 : x1 = Pt.mv 1 (k0 + j * 2 + 1)) :
    ∀ i, i < j + 1 → ∀ r, r < 2 → (((cur.setIfInBounds (j * 2) (x0)).setIfInBounds (j * 2 + 1) (x1)))[i * 2 + r]? = some (Pt.mv r (k0 + i * 2 + r)) := by
  intro i hi r hr
  simp only [Array.getElem?_setIfInBounds, Array.size_setIfInBounds]
  by_cases e : i = j
  · subst e
    match r, hr with
    | 0, _ => rw [if_neg (by omega), if_pos (by omega), if_pos (by omega), h0]
    | 1, _ => rw [if_pos rfl, if_pos (by omega), h1]
  · rw [if_neg (by omega), if_neg (by omega)]
    exact h i (by omega) r hr

set_option maxHeartbeats 2000000 in
theorem markPatS_any (v : Value) (base n k0 : Nat) (xs : List Value) (w : World) (hn : n ≤ 1048576) (hk0 : k0 ≤ 100000000) (h : w.ownsRow base 75 2 v n xs) :
    Calls Try.prog 31 #[v, .int .i64 (k0 : Int)] w fun e w' => e = .returned (.int .i64 ((k0 + n * 2 : Nat) : Int)) ∧ RMk Pt.mv w' v 75 2 k0 n ∧ w.grownBy w' v.ownBlock := by
  by_cases hz : n = 0
  · subst hz
    obtain ⟨a, c, rfl⟩ := own_form h
    clear h
    go_enter Try.func31, Try.ntmps31
    go_wp2
    refine wp_loop_rounds 1 ?_
    rw [rounds_succ]
    go_wp2
    go_ret
    exact ⟨rfl, ⟨a, c, rfl, .inl rfl⟩, ⟨rfl, rfl, rfl, Nat.le_refl _, fun _ _ _ => rfl⟩⟩
  · obtain ⟨-, ⟨-, h1⟩ | ⟨g, cap, cur, rfl, hg, hh, h1, h2, h3, h4⟩⟩ := h
    · omega
    · clear h4
      have HH := hide hh
      clear hh
      go_enter Try.func31, Try.ntmps31
      go_wp2
      go_loopw [1, 5] (fun k i w' => ∃ (j : Nat) (cur' : Array Value), j ≤ n ∧ i = .int .i64 j ∧ k = .int .i64 ((k0 + j * 2 : Nat) : Int) ∧ w'.heap[g]? = some (.cells cur' 75 (0, 0)) ∧ cur'.size = cur.size ∧ (∀ i, i < j → ∀ r, r < 2 → cur'[i * 2 + r]? = some (Pt.mv r (k0 + i * 2 + r))) ∧ Oth g w w') (fun _ i _ => n - (intOf i).toNat)
      case atStart => exact ⟨0, cur, by omega, rfl, rfl, HH.out, rfl, by intros; omega, Oth.refl _ _⟩
      case round =>
        obtain ⟨j, cur', hj, rfl, rfl, hb, hs, hr, hO⟩ := hrel
        have Hr := hide hr
        have Hs := hide hs
        have Hb := hide hb
        clear hr hs hb
        by_cases hlt : j < n
        · have hlt' : (j : Int) < (n : Int) := by omega
          have hj0 : (0 : Int) ≤ (j : Int) := by omega
          have fz : ∀ i, wr.frozen? ⟨g, i, none⟩ = false := fun i => unfrozen_of_blk Hb.out i
          have cs : ∀ r, r < 2 → ∃ x, wr.cell? ⟨g, j * 2 + r, none⟩ = some x := fun r hr => by
            rw [cell_of_blk Hb.out, Array.getElem?_eq_getElem (by have := Hs.out; omega)]; exact ⟨_, rfl⟩
          obtain ⟨y0, hy0⟩ := cs 0 (by omega)
          obtain ⟨y1, hy1⟩ := cs 1 (by omega)
          rw [Nat.add_zero] at hy0
          clear cs
          obtain ⟨m, hm⟩ : ∃ m, m = k0 + j * 2 := ⟨_, rfl⟩
          rw [← hm]
          have hm1 : m ≤ 200000000 := by omega
          have Hm := hide hm
          clear hm
          go_wp2_with fail
          have em := Hm.out
          refine ⟨⟨j + 1, _, by omega, by go_num, by rw [show k0 + (j + 1) * 2 = m + 2 by omega]; go_num, blk_setCell (blk_setCell (Hb.out) _) _, by have := Hs.out; simp; omega, ?_, ((hO).setCell _ _).setCell _ _⟩, by simp [intOf]; omega⟩
          exact Pt.marks cur' k0 j n _ _ hlt (by have := Hs.out; omega) Hr.out (by rw [← em]; rfl) (by rw [← em]; rfl)
        · obtain rfl : j = n := by omega
          go_wp2
          go_ret
          refine ⟨rfl, ⟨_, _, rfl, .inr ⟨g, cur', rfl, Hb.out, ?_, Hr.out⟩⟩, ⟨hO.os, hO.tape, hO.output, hO.size, fun k hk hne => hO.block k hk (fun e => hne (by subst e; rfl))⟩⟩
          have := Hs.out
          omega

set_option maxRecDepth 20000 in
theorem open_Pt {H : Type} {enc : TypeId × Value → H} {W : World} {sp : Nat → Bool} {held : Bool} {fuel : Nat} {ad : Option Addr} {len cap : Nat} {x : DataW H × List MemPlace}
    (h : DataW.trod enc Try.prog W 0 sp held fuel 44 [.slice ad len cap] = some x) :
    ∃ l : List Pt, l.length = len ∧ len ≤ maxLen ∧ PtRow W ad l := by
  rcases Go.Deep.open_slice Try.underlying44 h with ⟨hcs, -⟩ | ⟨a, len', cap', m, n, D, Pl, hcs, hb, hl, hm, hmm, -, hx⟩
  · simp at hcs
    exact ⟨[], by simp [hcs.2.1], by omega, .inl rfl⟩
  simp at hcs
  obtain ⟨rfl, rfl, rfl⟩ := hcs
  have hlm : len ≤ m := by rw [hmm]; split <;> omega
  have hc : Try.prog.cellsOf 77 = 2 := by kernel_rfl
  have ci : Try.prog.cellsOf 3 = 1 := by kernel_rfl
  haveI : Inhabited Pt := ⟨⟨0, 0⟩⟩
  obtain ⟨F, hF⟩ := Go.Deep.choose_lt (α := Pt) (n := len) (p := fun i q => W.cell? (a.add (i * 2)) = some (.int .i64 q.kd) ∧ W.cell? (a.add (i * 2 + 1)) = some (.int .i64 q.con)) (fun i hi => by
    obtain ⟨cs', h1, h2⟩ := hx i (by omega)
    rw [hc] at h1
    obtain ⟨_, hlen, hcell⟩ := World.cells?_some h1
    obtain ⟨xs, k, hk, hxy, _, hxl, hf⟩ := DataW.trod_struct Try.underlying77 h2
    match cs', hlen with
    | [v0, v1], _ =>
      have g0 := hf 0 _ rfl
      have g1 := hf 1 _ rfl
      simp [ci] at g0 g1
      rw [List.getElem?_eq_getElem (by rw [hxl]; decide)] at g0 g1
      obtain ⟨k0, e0, -, -⟩ := DataW.trod_int Try.underlying3 g0
      obtain ⟨k1, e1, -, -⟩ := DataW.trod_int Try.underlying3 g1
      simp at e0 e1
      subst e0 e1
      have c0 := hcell 0 (by omega)
      have c1 := hcell 1 (by omega)
      rw [Go.Deep.add_add] at c0 c1
      exact ⟨⟨k0, k1⟩, by simpa using c0, by simpa using c1⟩)
  refine ⟨(List.range len).map F, by simp, by omega, ?_⟩
  · by_cases h0 : len = 0
    · left; simp [h0]
    · right
      obtain ⟨b, o, spot⟩ := a
      have hspot : spot = none := by simpa [Addr.add] using World.cell?_spot (hF 0 (by omega)).1
      subst hspot
      refine ⟨b, o, rfl, ?_, fun i hi r hr => ?_⟩
      · have := World.block_lt_of_cell? _ _ (hF 0 (by omega)).1
        simpa [Addr.add] using this
      · have hi' : i < len := by simpa using hi
        obtain ⟨f0, f1⟩ := hF i hi'
        rw [Addr.add_lit] at f0 f1
        simp only [List.getElem_map, List.getElem_range]
        match r, hr with
        | 0, _ => exact f0
        | 1, _ => exact f1

end Go.Proofs.Ytmlpnmdckgppnaa.W
