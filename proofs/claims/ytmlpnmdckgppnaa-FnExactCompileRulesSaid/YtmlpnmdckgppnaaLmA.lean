/-
  Marks: what the laws' functions write into rows of numbers, of patterns' cells, into data and into rules, wherever these lie in blocks of their own. Conditions: at most 1048576 elements a row.
-/
import Derived.Test.YtmlpnmdckgppnaaQvL
import Derived.Test.YtmlpnmdckgppnaaDaL
namespace Go.Proofs.Ytmlpnmdckgppnaa.W
open Go.ChangeShapes Go.WideShapes Go.ChangeAt Go.RowKit Go.Joins
set_option linter.unusedVariables false

/-- Blocks from lo up to hi may have turned, the others are as they were. -/
structure Bet (lo hi : Nat) (w w' : World) : Prop where
  os : w'.os = w.os
  tape : w'.tape = w.tape
  output : w'.output = w.output
  size : w.heap.size ≤ w'.heap.size
  block : ∀ k, k < w.heap.size → k < lo ∨ hi ≤ k → w'.heap[k]? = w.heap[k]?
theorem Bet.refl (lo hi : Nat) (w : World) : Bet lo hi w w := ⟨rfl, rfl, rfl, Nat.le_refl _, fun _ _ _ => rfl⟩
theorem Bet.trans {lo hi : Nat} {x y z : World} (h : Bet lo hi x y) (k : Bet lo hi y z) : Bet lo hi x z :=
  ⟨k.os.trans h.os, k.tape.trans h.tape, k.output.trans h.output, Nat.le_trans h.size k.size, fun i hi ho => (k.block i (Nat.lt_of_lt_of_le hi h.size) ho).trans (h.block i hi ho)⟩
theorem Bet.ofOth {lo hi g : Nat} {x y : World} (h : Oth g x y) (h1 : lo ≤ g) (h2 : g < hi) : Bet lo hi x y := ⟨h.os, h.tape, h.output, h.size, fun k hk ho => h.block k hk (by omega)⟩
theorem Bet.ofBelow {lo hi : Nat} {x y : World} (h : Below x.heap.size x y) : Bet lo hi x y := ⟨h.os, h.tape, h.output, h.size, fun k hk _ => h.block k hk⟩
theorem Bet.below {lo hi B : Nat} {x y : World} (h : Bet lo hi x y) (hB : B ≤ x.heap.size) (hl : B ≤ lo) : Below B x y := ⟨h.os, h.tape, h.output, h.size, fun k hk => h.block k (by omega) (.inl (by omega))⟩
/-- A block with room for so many cells. -/
def SBk (T : TypeId) (w : World) (g m : Nat) : Prop := ∃ cur, w.heap[g]? = some (.cells cur T (0, 0)) ∧ m ≤ cur.size
theorem SBk.below {T : TypeId} {w w' : World} {g m : Nat} (h : SBk T w g m) (hb : Below w.heap.size w w') : SBk T w' g m := by
  obtain ⟨cur, h1, h2⟩ := h
  exact ⟨cur, (hb.block g (Array.getElem?_eq_some_iff.1 h1).1).trans h1, h2⟩
theorem RBlk.sbk {α : Type} {T : TypeId} {z : Nat} {f : α → Nat → Value} {w : World} {b : Nat} {l : List α} (h : RBlk T z f w b l) : SBk T w b (l.length * z) := by
  obtain ⟨cur, h1, h2⟩ := h
  exact ⟨cur, h1, by rw [h2.1]; exact Nat.le_refl _⟩
def iM : Nat → Nat → Value := fun _ k => .int .i64 (k : Int)

set_option maxHeartbeats 2000000 in
theorem markIntS_w (g n c k0 : Nat) (cur : Array Value) (w : World) (hn : n ≤ 1048576) (hk0 : k0 ≤ 1000000000000000) (hh : w.heap[g]? = some (.cells cur 3 (0, 0))) (h1 : n ≤ cur.size) :
    Calls Try.prog 30 #[.slice (some ⟨g, 0, none⟩) n c, .int .i64 (k0 : Int)] w fun e w' => e = .returned (.int .i64 ((k0 + n : Nat) : Int)) ∧ (∃ cur', w'.heap[g]? = some (.cells cur' 3 (0, 0)) ∧ cur'.size = cur.size ∧ ∀ r, r < n → cur'[r]? = some (.int .i64 ((k0 + r : Nat) : Int))) ∧ Oth g w w' := by
  have HH := hide hh
  clear hh
  go_enter Try.func30, Try.ntmps30
  go_wp2
  go_loopw [1, 5] (fun k i w' => ∃ (j : Nat) (cur' : Array Value), j ≤ n ∧ i = .int .i64 j ∧ k = .int .i64 ((k0 + j : Nat) : Int) ∧ w'.heap[g]? = some (.cells cur' 3 (0, 0)) ∧ cur'.size = cur.size ∧ (∀ r, r < j → cur'[r]? = some (.int .i64 ((k0 + r : Nat) : Int))) ∧ Oth g w w') (fun _ i _ => n - (intOf i).toNat)
  case atStart => exact ⟨0, cur, by omega, rfl, rfl, HH.out, rfl, by omega, Oth.refl _ _⟩
  case round =>
    obtain ⟨j, cur', hj, rfl, rfl, hb, hs, hr, hO⟩ := hrel
    have Hr := hide hr
    have Hs := hide hs
    have Hb := hide hb
    clear hr hs hb
    by_cases hlt : j < n
    · have hlt' : (j : Int) < (n : Int) := by omega
      have hj0 : (0 : Int) ≤ (j : Int) := by omega
      have fz : ∀ i, wr.frozen? ⟨g, i, none⟩ = false := fun i => unfrozen_of_blk Hb.out i
      obtain ⟨y0, hy0⟩ : ∃ x, wr.cell? ⟨g, j, none⟩ = some x := by
        rw [cell_of_blk Hb.out, Array.getElem?_eq_getElem (by have := Hs.out; omega)]; exact ⟨_, rfl⟩
      obtain ⟨m, hm⟩ : ∃ m, m = k0 + j := ⟨_, rfl⟩
      rw [← hm]
      have hm1 : m ≤ 2000000000000000 := by omega
      have Hm := hide hm
      clear hm
      go_wp2_with fail
      have em := Hm.out
      refine ⟨⟨j + 1, _, by omega, by go_num, by rw [show k0 + (j + 1) = m + 1 by omega]; go_num, blk_setCell Hb.out _, by have := Hs.out; simp; omega, ?_, hO.setCell _ _⟩, by simp [intOf]; omega⟩
      intro r hr
      rw [Array.getElem?_setIfInBounds]
      by_cases e : j = r
      · subst e; rw [if_pos rfl, if_pos (by have := Hs.out; omega), em]
      · rw [if_neg e]; exact Hr.out r (by omega)
    · obtain rfl : j = n := by omega
      go_wp2
      go_ret
      exact ⟨rfl, ⟨cur', Hb.out, Hs.out, Hr.out⟩, hO⟩

set_option maxHeartbeats 2000000 in
theorem markPatS_w (g n c k0 : Nat) (cur : Array Value) (w : World) (hn : n ≤ 1048576) (hk0 : k0 ≤ 1000000000000000) (hh : w.heap[g]? = some (.cells cur 75 (0, 0))) (h1 : n * 2 ≤ cur.size) :
    Calls Try.prog 31 #[.slice (some ⟨g, 0, none⟩) n c, .int .i64 (k0 : Int)] w fun e w' => e = .returned (.int .i64 ((k0 + n * 2 : Nat) : Int)) ∧ (∃ cur', w'.heap[g]? = some (.cells cur' 75 (0, 0)) ∧ cur'.size = cur.size) ∧ Oth g w w' := by
  have HH := hide hh
  clear hh
  go_enter Try.func31, Try.ntmps31
  go_wp2
  go_loopw [1, 5] (fun k i w' => ∃ (j : Nat) (cur' : Array Value), j ≤ n ∧ i = .int .i64 j ∧ k = .int .i64 ((k0 + j * 2 : Nat) : Int) ∧ w'.heap[g]? = some (.cells cur' 75 (0, 0)) ∧ cur'.size = cur.size ∧ Oth g w w') (fun _ i _ => n - (intOf i).toNat)
  case atStart => exact ⟨0, cur, by omega, rfl, rfl, HH.out, rfl, Oth.refl _ _⟩
  case round =>
    obtain ⟨j, cur', hj, rfl, rfl, hb, hs, hO⟩ := hrel
    have Hs := hide hs
    have Hb := hide hb
    clear hs hb
    by_cases hlt : j < n
    · have hlt' : (j : Int) < (n : Int) := by omega
      have hj0 : (0 : Int) ≤ (j : Int) := by omega
      have fz : ∀ i, wr.frozen? ⟨g, i, none⟩ = false := fun i => unfrozen_of_blk Hb.out i
      have cs : ∀ r, r < 2 → ∃ x, wr.cell? ⟨g, j * 2 + r, none⟩ = some x := fun r hr => by
        rw [cell_of_blk Hb.out, Array.getElem?_eq_getElem (by have := Hs.out; omega)]; exact ⟨_, rfl⟩
      obtain ⟨y0, hy0⟩ := cs 0 (by omega)
      obtain ⟨y1, hy1⟩ := cs 1 (by omega)
      rw [Nat.add_zero] at hy0
      clear cs
      obtain ⟨m, hm⟩ : ∃ m, m = k0 + j * 2 := ⟨_, rfl⟩
      rw [← hm]
      have hm1 : m ≤ 2000000000000000 := by omega
      have Hm := hide hm
      clear hm
      go_wp2_with fail
      have em := Hm.out
      exact ⟨⟨j + 1, _, by omega, by go_num, by rw [show k0 + (j + 1) * 2 = m + 2 by omega]; go_num, blk_setCell (blk_setCell (Hb.out) _) _, by have := Hs.out; simp; omega, ((hO).setCell _ _).setCell _ _⟩, by simp [intOf]; omega⟩
    · obtain rfl : j = n := by omega
      go_wp2
      go_ret
      exact ⟨rfl, ⟨cur', Hb.out, Hs.out⟩, hO⟩

set_option maxHeartbeats 1000000 in
theorem markData_w (g n c k0 : Nat) (w : World) (hn : n ≤ 1048576) (hk0 : k0 ≤ 1000000000000000) (h : SBk 3 w g n) :
    Calls Try.prog 13 #[.agg #[.slice (some ⟨g, 0, none⟩) n c], .int .i64 (k0 : Int)] w fun e w' => e = .returned (.int .i64 ((k0 + n : Nat) : Int)) ∧ Oth g w w' := by
  obtain ⟨cur, hh, hs⟩ := h
  obtain ⟨W1, hW1⟩ : ∃ W1, W1 = w.alloc (.cells #[.slice (some ⟨g, 0, none⟩) n c] 31) := ⟨_, rfl⟩
  have hb1 : Below w.heap.size w W1 := by rw [hW1]; exact (Below.refl _ _).alloc (Nat.le_refl _) _
  have HC := hide (markIntS_w g n c k0 cur W1 hn hk0 ((hb1.block g (Array.getElem?_eq_some_iff.1 hh).1).trans hh) hs)
  have HB1 := hide hb1
  have HW1 := hide hW1
  clear hh hs hb1 hW1
  go_enter Try.func13, Try.ntmps13
  go_wp2_with fail
  rw [← HW1.out]
  refine Calls.mono HC.out ?_
  rintro e w2 ⟨rfl, -, hO⟩
  have hO2 : Oth g w w2 := (Oth.ofBelow HB1.out).trans hO
  clear hO HC HW1
  go_wp2_with fail
  go_ret
  exact ⟨rfl, hO2⟩

/-- Rules in blocks of their own, from lo up to hi. -/
def QM (w : World) (lo hi S : Nat) (L : List (List Pt)) : Prop :=
  ∃ cur, w.heap[S]? = some (.cells cur 57 (0, 0)) ∧ ∀ q (h : q < L.length), ∃ g, cur[q]? = some (.slice (some ⟨g, 0, none⟩) L[q].length L[q].length) ∧ lo ≤ g ∧ g < hi ∧ S < g ∧ SBk 75 w g (L[q].length * 2)
theorem QBlk.qm {w : World} {lo S : Nat} {L : List (List Pt)} (h : QBlk w S L) (hl : lo ≤ S) : QM w lo w.heap.size S L := by
  obtain ⟨cur, h1, h2, h3⟩ := h
  refine ⟨cur, h1, fun q hq => ?_⟩
  obtain ⟨g, g1, g2, g3⟩ := h3 q hq
  exact ⟨g, g1, by omega, g3.lt, g2, RBlk.sbk g3⟩
theorem QM.below {w w' : World} {lo hi S : Nat} {L : List (List Pt)} (h : QM w lo hi S L) (hb : Below w.heap.size w w') : QM w' lo hi S L := by
  obtain ⟨cur, h1, h3⟩ := h
  refine ⟨cur, (hb.block S (Array.getElem?_eq_some_iff.1 h1).1).trans h1, fun q hq => ?_⟩
  obtain ⟨g, g1, g2, g3, g4, g5⟩ := h3 q hq
  exact ⟨g, g1, g2, g3, g4, g5.below hb⟩
theorem QM.keep {w w' : World} {lo hi S : Nat} {L : List (List Pt)} (h : QM w lo hi S L) (hk : ∀ k, S ≤ k → k < w.heap.size → w'.heap[k]? = w.heap[k]?) : QM w' lo hi S L := by
  obtain ⟨cur, h1, h3⟩ := h
  refine ⟨cur, (hk S (Nat.le_refl _) (Array.getElem?_eq_some_iff.1 h1).1).trans h1, fun q hq => ?_⟩
  obtain ⟨g, g1, g2, g3, g4, c2, k1, k2⟩ := h3 q hq
  exact ⟨g, g1, g2, g3, g4, c2, (hk g (by omega) (Array.getElem?_eq_some_iff.1 k1).1).trans k1, k2⟩
theorem QM.oth {w w' : World} {lo hi S g0 : Nat} {L : List (List Pt)} (h : QM w lo hi S L) (ho : Oth g0 w w') (hs : g0 ≠ S) (hk : ∀ m, SBk 75 w g0 m → SBk 75 w' g0 m) : QM w' lo hi S L := by
  obtain ⟨cur, h1, h3⟩ := h
  refine ⟨cur, (ho.block S (Array.getElem?_eq_some_iff.1 h1).1 (fun e => hs e.symm)).trans h1, fun q hq => ?_⟩
  obtain ⟨g, g1, g2, g3, g4, g5⟩ := h3 q hq
  refine ⟨g, g1, g2, g3, g4, ?_⟩
  by_cases e : g = g0
  · subst e; exact hk _ g5
  · obtain ⟨c2, k1, k2⟩ := g5
    exact ⟨c2, (ho.block g (Array.getElem?_eq_some_iff.1 k1).1 e).trans k1, k2⟩

set_option maxHeartbeats 2000000 in
theorem markPatSS_w (S lo hi c k0 : Nat) (L : List (List Pt)) (w : World) (hs : QSm L) (hk0 : k0 ≤ 100000000) (h : QM w lo hi S L) :
    Calls Try.prog 14 #[.slice (some ⟨S, 0, none⟩) L.length c, .int .i64 (k0 : Int)] w fun e w' => (∃ k : Nat, e = .returned (.int .i64 (k : Int))) ∧ Bet lo hi w w' := by
  have HQ := hide h
  have HS := hide hs.2
  have hl := hs.1
  clear h hs
  go_enter Try.func14, Try.ntmps14
  go_wp2
  go_loopw [1, 5] (fun k i w' => ∃ (j k1 : Nat), j ≤ L.length ∧ i = .int .i64 j ∧ k = .int .i64 (k1 : Int) ∧ k1 ≤ k0 + j * 2097152 ∧ QM w' lo hi S L ∧ Bet lo hi w w') (fun _ i _ => L.length - (intOf i).toNat)
  case atStart => exact ⟨0, k0, by omega, rfl, rfl, by omega, HQ.out, Bet.refl _ _ _⟩
  case round =>
    clear HQ
    obtain ⟨j, k1, hj, rfl, rfl, hk1, hQ, hB⟩ := hrel
    have HB := hide hB
    by_cases hlt : j < L.length
    · have hlt' : (j : Int) < (L.length : Int) := by omega
      have hj0 : (0 : Int) ≤ (j : Int) := by omega
      have hsj := HS.out _ (List.getElem_mem hlt)
      have HQ := hide hQ
      obtain ⟨cur, g1, g2⟩ := hQ
      obtain ⟨g, p1, p2, p3, p4, cg, p5, p6⟩ := g2 j hlt
      have p0 : wr.cell? ⟨S, j, none⟩ = some (.slice (some ⟨g, 0, none⟩) L[j].length L[j].length) := by rw [cell_of_blk g1]; exact p1
      have HC := hide (markPatS_w g L[j].length L[j].length k1 cg wr hsj (by omega) p5 p6)
      have HC2 : Hid (∀ (cur' : Array Value) (w' : World), w'.heap[g]? = some (.cells cur' 75 (0, 0)) → cur'.size = cg.size → ∀ m, SBk 75 wr g m → SBk 75 w' g m) := hide (fun cur' w' h1 h2 m h3 => by
        obtain ⟨c3, e1, e2⟩ := h3
        rw [p5] at e1
        simp only [Option.some.injEq, Obj.cells.injEq, and_true] at e1
        subst e1
        exact ⟨cur', h1, by omega⟩)
      obtain ⟨x, hx⟩ : ∃ x, x = L[j].length := ⟨_, rfl⟩
      rw [← hx] at p0 HC hsj
      clear hx g1 g2 p1 p5 p6
      go_wp2_with fail
      refine Calls.mono HC.out ?_
      rintro e w2 ⟨rfl, ⟨cur', m1, m2⟩, hO⟩
      have HQ2 := hide (HQ.out.oth hO (by omega) (HC2.out cur' w2 m1 m2))
      have HB2 := hide (HB.out.trans (Bet.ofOth hO p2 p3))
      clear hO m1 m2 HC HC2 p0 HQ HB hB
      go_wp2_with fail
      exact ⟨⟨j + 1, k1 + x * 2, by omega, by go_num, rfl, by omega, HQ2.out, HB2.out⟩, by simp [intOf]; omega⟩
    · clear hQ hB
      go_wp2_with fail
      go_ret
      exact ⟨⟨k1, rfl⟩, HB.out⟩

theorem markIntS_own (v : Value) (base n k0 : Nat) (xs : List Value) (w : World) (hn : n ≤ 1048576) (hk0 : k0 ≤ 100000000) (h : w.ownsRow base 3 1 v n xs) :
    Calls Try.prog 30 #[v, .int .i64 (k0 : Int)] w fun e w' => e = .returned (.int .i64 ((k0 + n * 1 : Nat) : Int)) ∧ RMk iM w' v 3 1 k0 n ∧ w.grownBy w' v.ownBlock := by
  obtain ⟨-, ⟨rfl, rfl⟩ | ⟨g, cap, cur, rfl, hg, hh, h1, h2, h3, h4⟩⟩ := h
  · go_enter Try.func30, Try.ntmps30
    go_wp2
    refine wp_loop_rounds 1 ?_
    rw [rounds_succ]
    go_wp2
    go_ret
    exact ⟨rfl, ⟨_, _, rfl, .inl rfl⟩, ⟨rfl, rfl, rfl, Nat.le_refl _, fun _ _ _ => rfl⟩⟩
  · refine (markIntS_w g n cap k0 cur w hn (by omega) hh (by omega)).mono ?_
    rintro e w' ⟨rfl, ⟨cur', c1, c2, c3⟩, hO⟩
    rw [Nat.mul_one]
    refine ⟨rfl, ⟨_, _, rfl, .inr ⟨g, cur', rfl, c1, by omega, fun i hi r hr => ?_⟩⟩, ⟨hO.os, hO.tape, hO.output, hO.size, fun k hk hne => hO.block k hk (fun e => hne (by subst e; rfl))⟩⟩
    obtain rfl : r = 0 := by omega
    rw [Nat.mul_one, Nat.add_zero, Nat.add_zero]
    exact c3 i hi

set_option maxHeartbeats 2000000 in
theorem heldIntS_own (v : Value) (n k0 : Nat) (w : World) (hn : n ≤ 1048576) (hk0 : k0 ≤ 100000000) (h : RMk iM w v 3 1 k0 n) :
    Calls Try.prog 32 #[v, .int .i64 (k0 : Int)] w fun e w' => e = .returned (.int .i64 ((k0 + n * 1 : Nat) : Int)) ∧ Below w.heap.size w w' := by
  obtain ⟨a, c, rfl, h⟩ := h
  have HM := hide h
  clear h
  rw [Nat.mul_one]
  go_enter Try.func32, Try.ntmps32
  go_wp2
  go_loopw [1, 5] (fun k i w' => ∃ (j : Nat), j ≤ n ∧ i = .int .i64 j ∧ k = .int .i64 ((k0 + j : Nat) : Int) ∧ Below w.heap.size w w') (fun _ i _ => n - (intOf i).toNat)
  case atStart => exact ⟨0, by omega, rfl, rfl, Below.refl _ _⟩
  case round =>
    obtain ⟨j, hj, rfl, rfl, hB⟩ := hrel
    by_cases hlt : j < n
    · have hlt' : (j : Int) < (n : Int) := by omega
      obtain h | ⟨g, cur, rfl, hh, hs, hr⟩ := HM.out
      · omega
      · have hgl : g < w.heap.size := (Array.getElem?_eq_some_iff.1 hh).1
        have hr0 := hr j hlt 0 (by omega)
        rw [Nat.mul_one, Nat.add_zero, Nat.add_zero] at hr0
        have c0 : wr.cell? ⟨g, j, none⟩ = some (iM 0 (k0 + j)) := (hB.cell (p := ⟨g, j, none⟩) hgl).trans ((cell_of_blk hh j).trans hr0)
        obtain ⟨m, hm⟩ : ∃ m, m = k0 + j := ⟨_, rfl⟩
        rw [← hm] at c0 ⊢
        have hm1 : m ≤ 200000000 := by omega
        replace c0 : wr.cell? ⟨g, j, none⟩ = some (.int .i64 (m : Int)) := c0
        have Hm := hide hm
        clear hm
        clear hr hh hs HM hr0
        go_wp2_with fail
        have em := Hm.out
        first
          | exact ⟨⟨j + 1, by omega, by go_num, by rw [show k0 + (j + 1) = m + 1 by omega]; go_num, hB⟩, by simp [intOf]; omega⟩
          | (repeat (go_quiet (fail); go_wp2_with fail)
             exact ⟨⟨j + 1, by omega, by go_num, by rw [show k0 + (j + 1) = m + 1 by omega]; go_num, ⟨hB.os, hB.tape, hB.output, hB.size, hB.block⟩⟩, by simp [intOf]; omega⟩)
    · obtain rfl : j = n := by omega
      go_wp2_with fail
      go_ret
      exact ⟨rfl, hB⟩
end Go.Proofs.Ytmlpnmdckgppnaa.W
