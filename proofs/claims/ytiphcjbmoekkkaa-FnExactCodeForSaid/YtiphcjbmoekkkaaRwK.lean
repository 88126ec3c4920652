/-
  Slices of Code, wherever they lie: contracts of the laws' functions over them (sizes, copies, equal rows, marks). Conditions: at most 1048576 elements where a row is made. Written by wip/build/mk_row.py.
-/
import Derived.Test.YtiphcjbmoekkkaaRwG
namespace Go.Proofs.Ytiphcjbmoekkkaa.W
open Go.ChangeShapes Go.WideShapes Go.ChangeAt Go.RowKit
set_option linter.unusedVariables false

structure Cd where
  o : Int
  to : Int
  a : Int
  b : Int
  n : Int
def Cd.c (x : Cd) : Nat → Value
  | 0 => .int .i64 x.o
  | 1 => .int .i64 x.to
  | 2 => .int .i64 x.a
  | 3 => .int .i64 x.b
  | _ => .int .i64 x.n
abbrev Cd.v (x : Cd) : Value := .agg #[.int .i64 x.o, .int .i64 x.to, .int .i64 x.a, .int .i64 x.b, .int .i64 x.n]
abbrev CdRow := RRow 5 Cd.c
def Cd.mv : Nat → Nat → Value
  | 0 => mI
  | 1 => mI
  | 2 => mI
  | 3 => mI
  | _ => mI

theorem CdRow.tok {w w' : World} {ad : Option Addr} {l : List Cd} (h : CdRow w ad l) (hb : Below w.heap.size w w') {i : Nat} (hi : i < l.length) :
    ∃ b o, ad = some ⟨b, o, none⟩ ∧ b < w.heap.size ∧ w'.cell? ⟨b, o + i * 5, none⟩ = some (.int .i64 l[i].o) ∧ w'.cell? ⟨b, o + i * 5 + 1, none⟩ = some (.int .i64 l[i].to) ∧ w'.cell? ⟨b, o + i * 5 + 2, none⟩ = some (.int .i64 l[i].a) ∧ w'.cell? ⟨b, o + i * 5 + 3, none⟩ = some (.int .i64 l[i].b) ∧ w'.cell? ⟨b, o + i * 5 + 4, none⟩ = some (.int .i64 l[i].n) := by
  obtain ⟨b, o, h1, h2, h3⟩ := h.at hb hi
  exact ⟨b, o, h1, h2, h3 0 (by omega), h3 1 (by omega), h3 2 (by omega), h3 3 (by omega), h3 4 (by omega)⟩

theorem Cd.one (l : List Cd) : ∀ u ∈ rcells 5 Cd.c l, u.oneCell' = true := by
  induction l with
  | nil => intro u hu; simp [rcells] at hu
  | cons x l ih =>
    intro u hu
    simp only [rcells, List.mem_append, List.mem_map, List.mem_range] at hu
    rcases hu with ⟨r, hr, rfl⟩ | hu
    · match r, hr with
      | 0, _ => rfl
      | 1, _ => rfl
      | 2, _ => rfl
      | 3, _ => rfl
      | 4, _ => rfl
    · exact ih u hu

set_option maxHeartbeats 400000 in
theorem toCode_any (x : Cd) (w : World) :
    Calls Try.prog 50 #[x.v] w fun e w' => e = .returned x.v ∧ Below w.heap.size w w' := by
  obtain ⟨x0, x1, x2, x3, x4⟩ := x
  go_enter Try.func50, Try.ntmps50
  go_wp2
  exact bodyPost_ret (v := .agg #[.int .i64 x0, .int .i64 x1, .int .i64 x2, .int .i64 x3, .int .i64 x4]) (by simp [results, Try.results50, go_sem]) rfl ⟨rfl, (((Below.refl _ _).alloc (Nat.le_refl _) _).alloc (by simp) _).alloc (by simp; omega) _⟩

set_option maxHeartbeats 400000 in
theorem eqCode_same (x : Cd) (w : World) :
    Calls Try.prog 44 #[x.v, x.v] w fun e w' => e = .returned (.bool true) ∧ Below w.heap.size w w' := by
  obtain ⟨x0, x1, x2, x3, x4⟩ := x
  go_enter Try.func44, Try.ntmps44
  go_wp2
  go_ret
  exact ⟨rfl, ((Below.refl _ _).alloc (Nat.le_refl _) _).alloc (by simp) _⟩

set_option maxHeartbeats 1000000 in
theorem szCodeS_any (ad : Option Addr) (c n : Nat) (left : Int) (w : World) (hl : n ≤ maxLen) (h0 : 0 ≤ left) (h1 : left ≤ 1048576) :
    Calls Try.prog 27 #[.slice ad n c, .int .i64 left] w fun e w' => ∃ r : Int, e = .returned (.int .i64 r) ∧ (r < 0 ∨ 0 ≤ r ∧ r ≤ 1048576 ∧ n ≤ 1048576) ∧ w' = w := by
  have hl2 : (n : Int) ≤ 9223372036854775807 := by unfold maxLen at hl; omega
  clear hl
  by_cases hbig : left < n
  · go_enter Try.func27, Try.ntmps27
    go_wp2_with fail
    go_ret
    exact ⟨_, rfl, .inl (by omega), rfl⟩
  · go_enter Try.func27, Try.ntmps27
    go_wp2_with fail
    go_ret
    exact ⟨_, rfl, .inr ⟨by omega, by omega, by omega⟩, rfl⟩

theorem Cd.fill {cur : Array Value} {l : List Cd} {j : Nat} (h : RFill 5 Cd.c cur l j) (hj : j < l.length) :
    RFill 5 Cd.c (((((cur.setIfInBounds (j * 5) (.int .i64 l[j].o)).setIfInBounds (j * 5 + 1) (.int .i64 l[j].to)).setIfInBounds (j * 5 + 2) (.int .i64 l[j].a)).setIfInBounds (j * 5 + 3) (.int .i64 l[j].b)).setIfInBounds (j * 5 + 4) (.int .i64 l[j].n)) l (j + 1) := by
  have hs := h.1
  refine ⟨by simp [hs], fun i hi hij r hr => ?_⟩
  simp only [Array.getElem?_setIfInBounds, Array.size_setIfInBounds]
  by_cases e : i = j
  · subst e
    match r, hr with
    | 0, _ => rw [if_neg (by omega), if_neg (by omega), if_neg (by omega), if_neg (by omega), if_pos (by omega), if_pos (by omega)]; rfl
    | 1, _ => rw [if_neg (by omega), if_neg (by omega), if_neg (by omega), if_pos rfl, if_pos (by omega)]; rfl
    | 2, _ => rw [if_neg (by omega), if_neg (by omega), if_pos rfl, if_pos (by omega)]; rfl
    | 3, _ => rw [if_neg (by omega), if_pos rfl, if_pos (by omega)]; rfl
    | 4, _ => rw [if_pos rfl, if_pos (by omega)]; rfl
  · rw [if_neg (by omega), if_neg (by omega), if_neg (by omega), if_neg (by omega), if_neg (by omega)]
    exact h.2 i hi (by omega) r hr

theorem infoCd : (Try.prog.info? 74).map (fun i => (i.zero, i.size, i.bytes)) = some (some (.agg #[.int .i64 0, .int .i64 0, .int .i64 0, .int .i64 0, .int .i64 0]), 5, 40) := by kernel_rfl
theorem mk_CdS (n : Nat) (hn : n ≤ 1048576) (w : World) :
    (Instr.makeSlice 31 (.int .i64 (n : Int)) (.int .i64 (n : Int))).run Try.prog w = .ok (.slice (some ⟨w.heap.size, 0, none⟩) n n) (w.alloc (.cells (madeCells #[.int .i64 0, .int .i64 0, .int .i64 0, .int .i64 0, .int .i64 0] (n * 5)) 74)) := by
  obtain ⟨i, hi, hzz⟩ := Option.map_eq_some_iff.1 infoCd
  simp only [Prod.mk.injEq] at hzz
  obtain ⟨hz, hs, hb⟩ := hzz
  have := run_make (P := Try.prog) w 31 74 i _ Try.underlying31 hi hz .i64 .i64 n n (by omega) (Int.le_refl _) (by rw [hb]; omega) (by omega)
  rw [hs, show (Value.agg #[.int .i64 0, .int .i64 0, .int .i64 0, .int .i64 0, .int .i64 0]).cells = #[.int .i64 0, .int .i64 0, .int .i64 0, .int .i64 0, .int .i64 0] from by simp [Value.cells]] at this
  simpa using this

abbrev CdBlk := RBlk 74 5 Cd.c

set_option maxHeartbeats 2000000 in
theorem toCodeS_any (ad : Option Addr) (c : Nat) (l : List Cd) (w : World) (hl : l.length ≤ 1048576) (h : CdRow w ad l) :
    Calls Try.prog 29 #[.slice ad l.length c] w fun e w' => e = .returned (.slice (some ⟨w.heap.size, 0, none⟩) l.length l.length) ∧ CdBlk w' w.heap.size l ∧ Below w.heap.size w w' := by
  have HR := hide h
  clear h
  have hmk := mk_CdS l.length hl
  go_enter Try.func29, Try.ntmps29
  go_wp2_with fail
  go_loopw [4] (fun i w' => ∃ (j : Nat) (cur : Array Value), j ≤ l.length ∧ i = .int .i64 j ∧ w'.heap[w.heap.size]? = some (.cells cur 74 (0, 0)) ∧ RFill 5 Cd.c cur l j ∧ Below w.heap.size w w') (fun i _ => l.length - (intOf i).toNat)
  case atStart =>
    clear hmk
    exact ⟨0, _, by omega, rfl, heap_alloc_new w _, ⟨by simp [madeCells], by intros; omega⟩, (Below.refl _ _).alloc (Nat.le_refl _) _⟩
  case round =>
    clear hmk
    obtain ⟨j, cur, hj, rfl, hh, hF, hB⟩ := hrel
    have HF := hide hF
    have HH := hide hh
    clear hF hh
    by_cases hlt : j < l.length
    · have hlt' : (j : Int) < (l.length : Int) := by omega
      have hj0 : (0 : Int) ≤ (j : Int) := by omega
      obtain ⟨b, o, rfl, hb, p0, p1, p2, p3, p4⟩ := CdRow.tok HR.out hB hlt
      have HFS := hide (Cd.fill HF.out hlt)
      obtain ⟨x, hx⟩ : ∃ x, x = l[j] := ⟨_, rfl⟩
      rw [← hx] at p0 p1 p2 p3 p4 HFS
      clear hx
      go_wp2_with fail
      refine (toCode_any x _).mono ?_
      rintro e w1 ⟨rfl, hb1⟩
      have hB1 : Below w.heap.size w w1 := hB.trans (hb1.mono hB.size)
      have hh1 : w1.heap[w.heap.size]? = some (.cells cur 74 (0, 0)) := (hb1.block _ (Array.getElem?_eq_some_iff.1 HH.out).1).trans HH.out
      have fz : ∀ i, w1.frozen? ⟨w.heap.size, i, none⟩ = false := fun i => unfrozen_of_blk hh1 i
      have cs : ∀ r, r < 5 → ∃ x, w1.cell? ⟨w.heap.size, j * 5 + r, none⟩ = some x := fun r hr => by
        rw [cell_of_blk hh1, Array.getElem?_eq_getElem (by have := HF.out.1; omega)]; exact ⟨_, rfl⟩
      obtain ⟨y0, hy0⟩ := cs 0 (by omega)
      obtain ⟨y1, hy1⟩ := cs 1 (by omega)
      obtain ⟨y2, hy2⟩ := cs 2 (by omega)
      obtain ⟨y3, hy3⟩ := cs 3 (by omega)
      obtain ⟨y4, hy4⟩ := cs 4 (by omega)
      rw [Nat.add_zero] at hy0
      have HH1 := hide hh1
      clear cs hh1 hb1 p0 p1 p2 p3 p4
      go_wp2_with fail
      have hk := blk_setCell (i := j * 5 + 4) (blk_setCell (i := j * 5 + 3) (blk_setCell (i := j * 5 + 2) (blk_setCell (i := j * 5 + 1) (blk_setCell (i := j * 5) (HH1.out) (.int .i64 x.o)) (.int .i64 x.to)) (.int .i64 x.a)) (.int .i64 x.b)) (.int .i64 x.n)
      exact ⟨⟨j + 1, _, by omega, by go_num, hk, HFS.out, (((((hB1).setCell (p := ⟨w.heap.size, j * 5, none⟩) (Nat.le_refl _) _).setCell (p := ⟨w.heap.size, j * 5 + 1, none⟩) (Nat.le_refl _) _).setCell (p := ⟨w.heap.size, j * 5 + 2, none⟩) (Nat.le_refl _) _).setCell (p := ⟨w.heap.size, j * 5 + 3, none⟩) (Nat.le_refl _) _).setCell (p := ⟨w.heap.size, j * 5 + 4, none⟩) (Nat.le_refl _) _⟩, by simp [intOf]; omega⟩
    · obtain rfl : j = l.length := by omega
      go_wp2_with fail
      go_ret
      exact ⟨rfl, ⟨cur, HH.out, HF.out⟩, hB⟩

set_option maxHeartbeats 1000000 in
theorem eqCodeS_row (a1 a2 : Option Addr) (c1 c2 : Nat) (l : List Cd) (w : World) (hl : l.length ≤ 1048576) (h1 : CdRow w a1 l) (h2 : CdRow w a2 l) :
    Calls Try.prog 18 #[.slice a1 l.length c1, .slice a2 l.length c2] w fun e w' => e = .returned (.bool true) ∧ Below w.heap.size w w' := by
  have H1 := hide h1
  have H2 := hide h2
  clear h1 h2
  go_enter Try.func18, Try.ntmps18
  go_wp2
  go_loopw [5] (fun i w' => ∃ j : Nat, j ≤ l.length ∧ i = .int .i64 j ∧ Below w.heap.size w w') (fun i _ => l.length - (intOf i).toNat)
  case atStart => exact ⟨0, by omega, rfl, Below.refl _ _⟩
  case round =>
    obtain ⟨j, hj, rfl, hB⟩ := hrel
    by_cases hlt : j < l.length
    · have hlt' : (j : Int) < (l.length : Int) := by omega
      obtain ⟨b, o, rfl, hb, p0, p1, p2, p3, p4⟩ := CdRow.tok H1.out hB hlt
      obtain ⟨b', o', rfl, hb', q0, q1, q2, q3, q4⟩ := CdRow.tok H2.out hB hlt
      obtain ⟨x, hx⟩ : ∃ x, x = l[j] := ⟨_, rfl⟩
      rw [← hx] at p0 p1 p2 p3 p4 q0 q1 q2 q3 q4
      clear hx H1 H2
      go_wp2_with fail
      go_region_with (go_at_call 44; refine (eqCode_same x _).mono ?_; rintro e w1 ⟨rfl, hb1⟩)
      all_goals
        have hB1 : Below w.heap.size w w1 := hB.trans ((show Below wr.heap.size wr w1 from ⟨hb1.os, hb1.tape, hb1.output, hb1.size, hb1.block⟩).mono hB.size)
        clear p0 p1 p2 p3 p4 q0 q1 q2 q3 q4 hb1
        go_wp2_with fail
        exact ⟨⟨j + 1, by omega, by go_num, hB1⟩, by simp [intOf]; omega⟩
    · go_wp2_with fail
      go_ret
      exact ⟨rfl, hB⟩

theorem Cd.marks (cur : Array Value) (k0 j n : Nat) (x0 x1 x2 x3 x4 : Value) (hj : j < n) (hs : n * 5 ≤ cur.size) (h : ∀ i, i < j → ∀ r, r < 5 → cur[i * 5 + r]? = some (Cd.mv r (k0 + i * 5 + r)))
    (h0 : x0 = Cd.mv 0 (k0 + j * 5 + 0)) (h1 : x1 = Cd.mv 1 (k0 + j * 5 + 1)) (h2 : x2 = Cd.mv 2 (k0 + j * 5 + 2)) (h3 : x3 = Cd.mv 3 (k0 + j * 5 + 3)) (h4 : x4 = Cd.mv 4 (k0 + j * 5 + 4)) :
    ∀ i, i < j + 1 → ∀ r, r < 5 → ((((((cur.setIfInBounds (j * 5) (x0)).setIfInBounds (j * 5 + 1) (x1)).setIfInBounds (j * 5 + 2) (x2)).setIfInBounds (j * 5 + 3) (x3)).setIfInBounds (j * 5 + 4) (x4)))[i * 5 + r]? = some (Cd.mv r (k0 + i * 5 + r)) := by
  intro i hi r hr
  simp only [Array.getElem?_setIfInBounds, Array.size_setIfInBounds]
  by_cases e : i = j
  · subst e
    match r, hr with
    | 0, _ => rw [if_neg (by omega), if_neg (by omega), if_neg (by omega), if_neg (by omega), if_pos (by omega), if_pos (by omega), h0]
    | 1, _ => rw [if_neg (by omega), if_neg (by omega), if_neg (by omega), if_pos rfl, if_pos (by omega), h1]
    | 2, _ => rw [if_neg (by omega), if_neg (by omega), if_pos rfl, if_pos (by omega), h2]
    | 3, _ => rw [if_neg (by omega), if_pos rfl, if_pos (by omega), h3]
    | 4, _ => rw [if_pos rfl, if_pos (by omega), h4]
  · rw [if_neg (by omega), if_neg (by omega), if_neg (by omega), if_neg (by omega), if_neg (by omega)]
    exact h i (by omega) r hr

set_option maxHeartbeats 2000000 in
theorem markCodeS_any (v : Value) (base n k0 : Nat) (xs : List Value) (w : World) (hn : n ≤ 1048576) (hk0 : k0 ≤ 100000000) (h : w.ownsRow base 74 5 v n xs) :
    Calls Try.prog 20 #[v, .int .i64 (k0 : Int)] w fun e w' => e = .returned (.int .i64 ((k0 + n * 5 : Nat) : Int)) ∧ RMk Cd.mv w' v 74 5 k0 n ∧ w.grownBy w' v.ownBlock := by
  by_cases hz : n = 0
  · subst hz
    obtain ⟨a, c, rfl⟩ := own_form h
    clear h
    go_enter Try.func20, Try.ntmps20
    go_wp2
    refine wp_loop_rounds 1 ?_
    rw [rounds_succ]
    go_wp2
    go_ret
    exact ⟨rfl, ⟨a, c, rfl, .inl rfl⟩, ⟨rfl, rfl, rfl, Nat.le_refl _, fun _ _ _ => rfl⟩⟩
  · obtain ⟨-, ⟨-, h1⟩ | ⟨g, cap, cur, rfl, hg, hh, h1, h2, h3, h4⟩⟩ := h
    · omega
    · clear h4
      have HH := hide hh
      clear hh
      go_enter Try.func20, Try.ntmps20
      go_wp2
      go_loopw [1, 5] (fun k i w' => ∃ (j : Nat) (cur' : Array Value), j ≤ n ∧ i = .int .i64 j ∧ k = .int .i64 ((k0 + j * 5 : Nat) : Int) ∧ w'.heap[g]? = some (.cells cur' 74 (0, 0)) ∧ cur'.size = cur.size ∧ (∀ i, i < j → ∀ r, r < 5 → cur'[i * 5 + r]? = some (Cd.mv r (k0 + i * 5 + r))) ∧ Oth g w w') (fun _ i _ => n - (intOf i).toNat)
      case atStart => exact ⟨0, cur, by omega, rfl, rfl, HH.out, rfl, by intros; omega, Oth.refl _ _⟩
      case round =>
        obtain ⟨j, cur', hj, rfl, rfl, hb, hs, hr, hO⟩ := hrel
        have Hr := hide hr
        have Hs := hide hs
        have Hb := hide hb
        clear hr hs hb
        by_cases hlt : j < n
        · have hlt' : (j : Int) < (n : Int) := by omega
          have hj0 : (0 : Int) ≤ (j : Int) := by omega
          have fz : ∀ i, wr.frozen? ⟨g, i, none⟩ = false := fun i => unfrozen_of_blk Hb.out i
          have cs : ∀ r, r < 5 → ∃ x, wr.cell? ⟨g, j * 5 + r, none⟩ = some x := fun r hr => by
            rw [cell_of_blk Hb.out, Array.getElem?_eq_getElem (by have := Hs.out; omega)]; exact ⟨_, rfl⟩
          obtain ⟨y0, hy0⟩ := cs 0 (by omega)
          obtain ⟨y1, hy1⟩ := cs 1 (by omega)
          obtain ⟨y2, hy2⟩ := cs 2 (by omega)
          obtain ⟨y3, hy3⟩ := cs 3 (by omega)
          obtain ⟨y4, hy4⟩ := cs 4 (by omega)
          rw [Nat.add_zero] at hy0
          clear cs
          obtain ⟨m, hm⟩ : ∃ m, m = k0 + j * 5 := ⟨_, rfl⟩
          rw [← hm]
          have hm1 : m ≤ 200000000 := by omega
          have Hm := hide hm
          clear hm
          go_wp2_with fail
          have em := Hm.out
          refine ⟨⟨j + 1, _, by omega, by go_num, by rw [show k0 + (j + 1) * 5 = m + 5 by omega]; go_num, blk_setCell (blk_setCell (blk_setCell (blk_setCell (blk_setCell (Hb.out) _) _) _) _) _, by have := Hs.out; simp; omega, ?_, (((((hO).setCell _ _).setCell _ _).setCell _ _).setCell _ _).setCell _ _⟩, by simp [intOf]; omega⟩
          exact Cd.marks cur' k0 j n _ _ _ _ _ hlt (by have := Hs.out; omega) Hr.out (by rw [← em]; rfl) (by rw [← em]; rfl) (by rw [← em]; rfl) (by rw [← em]; rfl) (by rw [← em]; rfl)
        · obtain rfl : j = n := by omega
          go_wp2
          go_ret
          refine ⟨rfl, ⟨_, _, rfl, .inr ⟨g, cur', rfl, Hb.out, ?_, Hr.out⟩⟩, ⟨hO.os, hO.tape, hO.output, hO.size, fun k hk hne => hO.block k hk (fun e => hne (by subst e; rfl))⟩⟩
          have := Hs.out
          omega

set_option maxHeartbeats 2000000 in
theorem heldCodeS_any (v : Value) (n k0 : Nat) (w : World) (hn : n ≤ 1048576) (hk0 : k0 ≤ 100000000) (h : RMk Cd.mv w v 74 5 k0 n) :
    Calls Try.prog 21 #[v, .int .i64 (k0 : Int)] w fun e w' => e = .returned (.int .i64 ((k0 + n * 5 : Nat) : Int)) ∧ Below w.heap.size w w' := by
  obtain ⟨a, c, rfl, h⟩ := h
  have HM := hide h
  clear h
  go_enter Try.func21, Try.ntmps21
  go_wp2
  go_loopw [1, 5] (fun k i w' => ∃ (j : Nat), j ≤ n ∧ i = .int .i64 j ∧ k = .int .i64 ((k0 + j * 5 : Nat) : Int) ∧ Below w.heap.size w w') (fun _ i _ => n - (intOf i).toNat)
  case atStart => exact ⟨0, by omega, rfl, rfl, Below.refl _ _⟩
  case round =>
    obtain ⟨j, hj, rfl, rfl, hB⟩ := hrel
    by_cases hlt : j < n
    · have hlt' : (j : Int) < (n : Int) := by omega
      obtain h | ⟨g, cur, rfl, hh, hs, hr⟩ := HM.out
      · omega
      · have hgl : g < w.heap.size := (Array.getElem?_eq_some_iff.1 hh).1
        have c0 : wr.cell? ⟨g, j * 5, none⟩ = some (Cd.mv 0 (k0 + j * 5 + 0)) := (hB.cell (p := ⟨g, j * 5, none⟩) hgl).trans ((cell_of_blk hh (j * 5)).trans (hr j hlt 0 (by omega)))
        have c1 : wr.cell? ⟨g, j * 5 + 1, none⟩ = some (Cd.mv 1 (k0 + j * 5 + 1)) := (hB.cell (p := ⟨g, j * 5 + 1, none⟩) hgl).trans ((cell_of_blk hh (j * 5 + 1)).trans (hr j hlt 1 (by omega)))
        have c2 : wr.cell? ⟨g, j * 5 + 2, none⟩ = some (Cd.mv 2 (k0 + j * 5 + 2)) := (hB.cell (p := ⟨g, j * 5 + 2, none⟩) hgl).trans ((cell_of_blk hh (j * 5 + 2)).trans (hr j hlt 2 (by omega)))
        have c3 : wr.cell? ⟨g, j * 5 + 3, none⟩ = some (Cd.mv 3 (k0 + j * 5 + 3)) := (hB.cell (p := ⟨g, j * 5 + 3, none⟩) hgl).trans ((cell_of_blk hh (j * 5 + 3)).trans (hr j hlt 3 (by omega)))
        have c4 : wr.cell? ⟨g, j * 5 + 4, none⟩ = some (Cd.mv 4 (k0 + j * 5 + 4)) := (hB.cell (p := ⟨g, j * 5 + 4, none⟩) hgl).trans ((cell_of_blk hh (j * 5 + 4)).trans (hr j hlt 4 (by omega)))
        obtain ⟨m, hm⟩ : ∃ m, m = k0 + j * 5 := ⟨_, rfl⟩
        rw [← hm] at c0 c1 c2 c3 c4 ⊢
        have hm1 : m ≤ 200000000 := by omega
        replace c0 : wr.cell? ⟨g, j * 5, none⟩ = some (.int .i64 ((m : Int))) := c0
        replace c1 : wr.cell? ⟨g, j * 5 + 1, none⟩ = some (.int .i64 ((m : Int) + 1)) := c1
        replace c2 : wr.cell? ⟨g, j * 5 + 2, none⟩ = some (.int .i64 ((m : Int) + 1 + 1)) := c2
        replace c3 : wr.cell? ⟨g, j * 5 + 3, none⟩ = some (.int .i64 ((m : Int) + 1 + 1 + 1)) := c3
        replace c4 : wr.cell? ⟨g, j * 5 + 4, none⟩ = some (.int .i64 ((m : Int) + 1 + 1 + 1 + 1)) := c4
        have Hm := hide hm
        clear hm
        clear hr hh hs HM
        go_wp2_with fail
        have em := Hm.out
        first
          | exact ⟨⟨j + 1, by omega, by go_num, by rw [show k0 + (j + 1) * 5 = m + 5 by omega]; go_num, hB⟩, by simp [intOf]; omega⟩
          | (repeat (go_quiet (fail); go_wp2_with fail)
             exact ⟨⟨j + 1, by omega, by go_num, by rw [show k0 + (j + 1) * 5 = m + 5 by omega]; go_num, ⟨hB.os, hB.tape, hB.output, hB.size, hB.block⟩⟩, by simp [intOf]; omega⟩)
    · obtain rfl : j = n := by omega
      go_wp2_with fail
      go_ret
      exact ⟨rfl, hB⟩

set_option maxRecDepth 20000 in
theorem open_Cd {H : Type} {enc : TypeId × Value → H} {W : World} {sp : Nat → Bool} {held : Bool} {fuel : Nat} {ad : Option Addr} {len cap : Nat} {x : DataW H × List MemPlace}
    (h : DataW.trod enc Try.prog W 0 sp held fuel 43 [.slice ad len cap] = some x) :
    ∃ l : List Cd, l.length = len ∧ len ≤ maxLen ∧ CdRow W ad l := by
  rcases Go.Deep.open_slice Try.underlying43 h with ⟨hcs, -⟩ | ⟨a, len', cap', m, n, D, Pl, hcs, hb, hl, hm, hmm, -, hx⟩
  · simp at hcs
    exact ⟨[], by simp [hcs.2.1], by omega, .inl rfl⟩
  simp at hcs
  obtain ⟨rfl, rfl, rfl⟩ := hcs
  have hlm : len ≤ m := by rw [hmm]; split <;> omega
  have hc : Try.prog.cellsOf 81 = 5 := by kernel_rfl
  have ci : Try.prog.cellsOf 3 = 1 := by kernel_rfl
  haveI : Inhabited Cd := ⟨⟨0, 0, 0, 0, 0⟩⟩
  obtain ⟨F, hF⟩ := Go.Deep.choose_lt (α := Cd) (n := len) (p := fun i q => W.cell? (a.add (i * 5)) = some (.int .i64 q.o) ∧ W.cell? (a.add (i * 5 + 1)) = some (.int .i64 q.to) ∧ W.cell? (a.add (i * 5 + 2)) = some (.int .i64 q.a) ∧ W.cell? (a.add (i * 5 + 3)) = some (.int .i64 q.b) ∧ W.cell? (a.add (i * 5 + 4)) = some (.int .i64 q.n)) (fun i hi => by
    obtain ⟨cs', h1, h2⟩ := hx i (by omega)
    rw [hc] at h1
    obtain ⟨_, hlen, hcell⟩ := World.cells?_some h1
    obtain ⟨xs, k, hk, hxy, _, hxl, hf⟩ := DataW.trod_struct Try.underlying81 h2
    match cs', hlen with
    | [v0, v1, v2, v3, v4], _ =>
      have g0 := hf 0 _ rfl
      have g1 := hf 1 _ rfl
      have g2 := hf 2 _ rfl
      have g3 := hf 3 _ rfl
      have g4 := hf 4 _ rfl
      simp [ci] at g0 g1 g2 g3 g4
      rw [List.getElem?_eq_getElem (by rw [hxl]; decide)] at g0 g1 g2 g3 g4
      obtain ⟨k0, e0, -, -⟩ := DataW.trod_int Try.underlying3 g0
      obtain ⟨k1, e1, -, -⟩ := DataW.trod_int Try.underlying3 g1
      obtain ⟨k2, e2, -, -⟩ := DataW.trod_int Try.underlying3 g2
      obtain ⟨k3, e3, -, -⟩ := DataW.trod_int Try.underlying3 g3
      obtain ⟨k4, e4, -, -⟩ := DataW.trod_int Try.underlying3 g4
      simp at e0 e1 e2 e3 e4
      subst e0 e1 e2 e3 e4
      have c0 := hcell 0 (by omega)
      have c1 := hcell 1 (by omega)
      have c2 := hcell 2 (by omega)
      have c3 := hcell 3 (by omega)
      have c4 := hcell 4 (by omega)
      rw [Go.Deep.add_add] at c0 c1 c2 c3 c4
      exact ⟨⟨k0, k1, k2, k3, k4⟩, by simpa using c0, by simpa using c1, by simpa using c2, by simpa using c3, by simpa using c4⟩)
  refine ⟨(List.range len).map F, by simp, by omega, ?_⟩
  · by_cases h0 : len = 0
    · left; simp [h0]
    · right
      obtain ⟨b, o, spot⟩ := a
      have hspot : spot = none := by simpa [Addr.add] using World.cell?_spot (hF 0 (by omega)).1
      subst hspot
      refine ⟨b, o, rfl, ?_, fun i hi r hr => ?_⟩
      · have := World.block_lt_of_cell? _ _ (hF 0 (by omega)).1
        simpa [Addr.add] using this
      · have hi' : i < len := by simpa using hi
        obtain ⟨f0, f1, f2, f3, f4⟩ := hF i hi'
        rw [Addr.add_lit] at f0 f1 f2 f3 f4
        simp only [List.getElem_map, List.getElem_range]
        match r, hr with
        | 0, _ => exact f0
        | 1, _ => exact f1
        | 2, _ => exact f2
        | 3, _ => exact f3
        | 4, _ => exact f4

end Go.Proofs.Ytiphcjbmoekkkaa.W
