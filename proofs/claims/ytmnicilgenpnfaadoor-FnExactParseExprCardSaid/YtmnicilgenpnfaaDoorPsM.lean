/-
  Contracts of markExS and heldExS: the first writes a number or a text of its own into each cell of a row of parts, the second finds them there. Conditions: at most 1000 parts, counters at most 1000000.
-/
import Derived.Test.YtmnicilgenpnfaaDoorPxC
import Derived.Test.YtmnicilgenpnfaaDoorMark
namespace Go.Proofs.YtmnicilgenpnfaaDoor.W
open Go.ChangeShapes Go.WideShapes Go.ChangeAt Go.RowKit

def markX (k0 j : Nat) : Value := if j % 3 = 2 then .string (mt (k0 + j)) else .int .i64 ((k0 + j : Nat) : Int)
theorem markX_i (k0 j r : Nat) (hr : r < 3) (h2 : r ≠ 2) : markX k0 (j * 3 + r) = .int .i64 ((k0 + (j * 3 + r) : Nat) : Int) := if_neg (by omega)
theorem markX_s (k0 j : Nat) : markX k0 (j * 3 + 2) = .string (mt (k0 + (j * 3 + 2))) := if_pos (by omega)

/-- The row v of n parts bears the marks from k0 on. -/
def MkX (w : World) (v : Value) (k0 n : Nat) : Prop :=
  ∃ a c, v = .slice a n c ∧ (n = 0 ∨ ∃ g cur, a = some ⟨g, 0, none⟩ ∧ w.heap[g]? = some (.cells cur 47 (0, 0)) ∧ n * 3 ≤ cur.size ∧ ∀ r, r < n * 3 → cur[r]? = some (markX k0 r))

theorem arr_set3x (cur : Array Value) (j : Nat) (k0 n : Nat) (x0 x1 x2 : Value) (hj : j < n) (hs : n * 3 ≤ cur.size) (h : ∀ r, r < j * 3 → cur[r]? = some (markX k0 r))
    (h0 : x0 = markX k0 (j * 3)) (h1 : x1 = markX k0 (j * 3 + 1)) (h2 : x2 = markX k0 (j * 3 + 2)) :
    ∀ r, r < (j + 1) * 3 → (((cur.setIfInBounds (j * 3) x0).setIfInBounds (j * 3 + 1) x1).setIfInBounds (j * 3 + 2) x2)[r]? = some (markX k0 r) := by
  intro r hr
  subst h0 h1 h2
  simp only [Array.getElem?_setIfInBounds, Array.size_setIfInBounds]
  by_cases e2 : j * 3 + 2 = r
  · subst e2; rw [if_pos rfl, if_pos (by omega)]
  · rw [if_neg e2]
    by_cases e1 : j * 3 + 1 = r
    · subst e1; rw [if_pos rfl, if_pos (by omega)]
    · rw [if_neg e1]
      by_cases e0 : j * 3 = r
      · subst e0; rw [if_pos rfl, if_pos (by omega)]
      · rw [if_neg e0]; exact h r (by omega)

set_option maxHeartbeats 1000000 in
theorem markExS_any (v : Value) (base n k0 : Nat) (xs : List Value) (w : World) (hn : n ≤ 1000) (h0 : 1 ≤ k0) (hk : k0 ≤ 10000) (h : w.ownsRow base 47 3 v n xs) :
    Calls Tryd.prog 7 #[v, .int .i64 k0] w fun e w' => e = .returned (.int .i64 ((k0 + n * 3 : Nat) : Int)) ∧ MkX w' v k0 n ∧ w.grownBy w' v.ownBlock := by
  by_cases hz : n = 0
  · subst hz
    obtain ⟨a, c, rfl⟩ := own_form' h
    clear h
    go_enter Tryd.func7, Tryd.ntmps7
    go_wp2
    refine wp_loop_rounds 1 ?_
    rw [rounds_succ]
    go_wp2
    go_ret
    exact ⟨rfl, ⟨a, c, rfl, .inl rfl⟩, ⟨rfl, rfl, rfl, Nat.le_refl _, fun _ _ _ => rfl⟩⟩
  · obtain ⟨-, ⟨-, h1⟩ | ⟨g, cap, cur, rfl, hg, hh, h1, h2, h3, h4⟩⟩ := h
    · omega
    · clear h4
      have HH := hide hh
      clear hh
      go_enter Tryd.func7, Tryd.ntmps7
      go_wp2
      go_loopw [1, 5] (fun k i w' => ∃ (j m : Nat) (cur' : Array Value), j ≤ n ∧ m = k0 + j * 3 ∧ i = .int .i64 j ∧ k = .int .i64 m ∧ w'.heap[g]? = some (.cells cur' 47 (0, 0)) ∧ cur'.size = cur.size ∧ (∀ r, r < j * 3 → cur'[r]? = some (markX k0 r)) ∧ Oth g w w') (fun _ i _ => n - (intOf i).toNat)
      case atStart => exact ⟨0, k0, cur, by omega, by omega, rfl, rfl, HH.out, rfl, by omega, Oth.refl _ _⟩
      case round =>
        obtain ⟨j, m, cur', hj, hm, rfl, rfl, hb, hs, hr, hO⟩ := hrel
        have Hm := hide hm
        have hm1 : m ≤ 100000 := by omega
        have hm2 : 1 ≤ m := by omega
        have Hr := hide hr
        have Hs := hide hs
        have Hb := hide hb
        clear hm hr hs hb
        by_cases hlt : j < n
        · have hlt' : (j : Int) < (n : Int) := by omega
          have hj0 : (0 : Int) ≤ (j : Int) := by omega
          have fz : ∀ i, wr.frozen? ⟨g, i, none⟩ = false := fun i => unfrozen_of_blk Hb.out i
          have cs : ∀ r, r < 3 → ∃ x, wr.cell? ⟨g, j * 3 + r, none⟩ = some x := fun r hr => by
            rw [cell_of_blk Hb.out, Array.getElem?_eq_getElem (by have := Hs.out; omega)]; exact ⟨_, rfl⟩
          obtain ⟨y0, hy0⟩ := cs 0 (by omega)
          obtain ⟨y1, hy1⟩ := cs 1 (by omega)
          rw [Nat.add_zero] at hy0
          clear cs
          go_wp2_with fail
          refine (markText_int _ _ (by omega) (by omega)).mono ?_
          rintro e w1 ⟨rfl, hb1⟩
          rw [show ((m : Int) + 1 + 1).toNat = m + 2 from by omega]
          have hk2 := blk_setCell (i := j * 3 + 1) (blk_setCell (i := j * 3) Hb.out (.int .i64 (m : Int))) (.int .i64 ((m : Int) + 1))
          have hlg : g < ((wr.setCell ⟨g, j * 3, none⟩ (.int .i64 (m : Int))).setCell ⟨g, j * 3 + 1, none⟩ (.int .i64 ((m : Int) + 1))).heap.size := (Array.getElem?_eq_some_iff.1 hk2).1
          have hk3 := (hb1.block g hlg).trans hk2
          have hO1 : Oth g w w1 := ((hO.setCell (j * 3) (.int .i64 (m : Int))).setCell (j * 3 + 1) (.int .i64 ((m : Int) + 1))).trans (Oth.ofBelow hb1)
          have fz1 : ∀ i, w1.frozen? ⟨g, i, none⟩ = false := fun i => unfrozen_of_blk hk3 i
          have cs : ∀ r, r < 3 → ∃ x, w1.cell? ⟨g, j * 3 + r, none⟩ = some x := fun r hr => by
            rw [cell_of_blk hk3, Array.getElem?_eq_getElem (by have := Hs.out; simp; omega)]; exact ⟨_, rfl⟩
          obtain ⟨y2, hy2⟩ := cs 2 (by omega)
          have Hk3 := hide hk3
          clear cs hy0 hy1 fz hk2 hk3 hlg hb1 hO
          go_wp2_with fail
          have hk5 := blk_setCell (i := j * 3 + 2) Hk3.out (.string (mt (m + 2)))
          refine ⟨⟨j + 1, m + 3, _, by omega, by have := Hm.out; omega, by go_num, by go_num, hk5, by have := Hs.out; simp; omega, ?_, hO1.setCell _ _⟩, by simp [intOf]; omega⟩
          have em := Hm.out
          refine arr_set3x cur' j k0 n _ _ _ hlt (by have := Hs.out; omega) Hr.out ?_ ?_ ?_
          · rw [show j * 3 = j * 3 + 0 from rfl, markX_i k0 j 0 (by omega) (by omega), em]; simp
          · rw [markX_i k0 j 1 (by omega) (by omega), em]; simp; omega
          · rw [markX_s k0 j, em, Nat.add_assoc]
        · obtain rfl : j = n := by omega
          go_wp2
          go_ret
          refine ⟨ret_int (by rw [Hm.out]), ⟨_, _, rfl, .inr ⟨g, cur', rfl, Hb.out, ?_, Hr.out⟩⟩, ⟨hO.os, hO.tape, hO.output, hO.size, fun k hk hne => hO.block k hk (fun e => hne (by subst e; rfl))⟩⟩
          have := Hs.out
          omega

set_option maxHeartbeats 1000000 in
theorem heldExS_any (v : Value) (n k0 : Nat) (w : World) (hn : n ≤ 1000) (h0 : 1 ≤ k0) (hk : k0 ≤ 10000) (h : MkX w v k0 n) :
    Calls Tryd.prog 8 #[v, .int .i64 k0] w fun e w' => e = .returned (.int .i64 ((k0 + n * 3 : Nat) : Int)) ∧ Below w.heap.size w w' := by
  obtain ⟨a, c, rfl, h⟩ := h
  have HM := hide h
  clear h
  go_enter Tryd.func8, Tryd.ntmps8
  go_wp2
  go_loopw [1, 5] (fun k i w' => ∃ (j m : Nat), j ≤ n ∧ m = k0 + j * 3 ∧ i = .int .i64 j ∧ k = .int .i64 m ∧ Below w.heap.size w w') (fun _ i _ => n - (intOf i).toNat)
  case atStart => exact ⟨0, k0, by omega, by omega, rfl, rfl, Below.refl _ _⟩
  case round =>
    obtain ⟨j, m, hj, hm, rfl, rfl, hB⟩ := hrel
    have Hm := hide hm
    have hm1 : m ≤ 100000 := by omega
    have hm2 : 1 ≤ m := by omega
    clear hm
    by_cases hlt : j < n
    · have hlt' : (j : Int) < (n : Int) := by omega
      obtain h | ⟨g, cur, rfl, hh, hs, hr⟩ := HM.out
      · omega
      · have hgl : g < w.heap.size := (Array.getElem?_eq_some_iff.1 hh).1
        have cs : ∀ wx, Below w.heap.size w wx → wx.cell? ⟨g, j * 3, none⟩ = some (.int .i64 (m : Int)) ∧ wx.cell? ⟨g, j * 3 + 1, none⟩ = some (.int .i64 ((m : Int) + 1)) ∧ wx.cell? ⟨g, j * 3 + 2, none⟩ = some (.string (mt (m + 2))) := by
          intro wx hb
          have em := Hm.out
          refine ⟨?_, ?_, ?_⟩
          · rw [hb.cell (by exact hgl), cell_of_blk hh, hr _ (by omega), show j * 3 = j * 3 + 0 from rfl, markX_i k0 j 0 (by omega) (by omega), em]; simp
          · rw [hb.cell (by exact hgl), cell_of_blk hh, hr _ (by omega), markX_i k0 j 1 (by omega) (by omega), em]; simp; omega
          · rw [hb.cell (by exact hgl), cell_of_blk hh, hr _ (by omega), markX_s k0 j, em, Nat.add_assoc]
        obtain ⟨c0, c1, c2⟩ := cs wr hB
        have CS := hide cs
        clear cs hr hh hs HM
        have HB : ∀ w1, Below wr.heap.size wr.drew w1 → Below w.heap.size w w1 := fun w1 hb1 => hB.trans ((show Below wr.heap.size wr w1 from ⟨hb1.os, hb1.tape, hb1.output, hb1.size, hb1.block⟩).mono hB.size)
        have HB2 := hide HB
        clear HB
        go_wp2_with fail
        go_region_with (go_at_call 16; refine (markText_int _ _ (by omega) (by omega)).mono ?_; rintro e w1 ⟨rfl, hb1⟩; rw [show ((m : Int) + 1 + 1).toNat = m + 2 from by omega]; have hc1 := (CS.out w1 (HB2.out w1 hb1)).2.2)
        all_goals
          have hB1 := HB2.out w1 hb1
          clear c0 c1 c2 hb1 HB2 CS
          go_wp2_with fail
          exact ⟨⟨j + 1, m + 3, by omega, by have := Hm.out; omega, by go_num, by go_num, hB1⟩, by simp [intOf]; omega⟩
    · obtain rfl : j = n := by omega
      go_wp2
      go_ret
      exact ⟨ret_int (by rw [Hm.out]), hB⟩
end Go.Proofs.YtmnicilgenpnfaaDoor.W
