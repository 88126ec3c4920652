/-
  Contracts of the laws' functions over rows of numbers: equal ones, marks. Conditions: at most 1048576 numbers.
-/
import Derived.Test.YtlicfmjkoopmnaaCoK
namespace Go.Proofs.Ytlicfmjkoopmnaa.C
open Go.Proofs.Ytlicfmjkoopmnaa.W
open Go.ChangeShapes Go.WideShapes Go.ChangeAt Go.RowKit
set_option linter.unusedVariables false

set_option maxHeartbeats 1000000 in
theorem eqIntS_same (s1 s2 : Value) (l : List Int) (w : World) (hl : l.length ≤ 1048576) (h1 : IS w s1 l) (h2 : IS w s2 l) :
    Calls Try.prog 34 #[s1, s2] w fun e w' => e = .returned (.bool true) ∧ Below w.heap.size w w' := by
  have H1 := hide h1
  have H2 := hide h2
  obtain ⟨a1, c1, rfl⟩ := h1.form
  obtain ⟨a2, c2, rfl⟩ := h2.form
  clear h1 h2
  go_enter Try.func34, Try.ntmps34
  go_wp2_with fail
  go_loopw [5] (fun i w' => ∃ j : Nat, j ≤ l.length ∧ i = .int .i64 j ∧ Below w.heap.size w w') (fun i _ => l.length - (intOf i).toNat)
  case atStart => exact ⟨0, by omega, rfl, Below.refl _ _⟩
  case round =>
    obtain ⟨j, hj, rfl, hB⟩ := hrel
    by_cases hlt : j < l.length
    · have hlt' : (j : Int) < (l.length : Int) := by omega
      have c1 : ∃ g, a1 = some ⟨g, 0, none⟩ ∧ wr.cell? ⟨g, j, none⟩ = some (.int .i64 l[j]) := by
        rcases H1.out with ⟨h1, h2⟩ | ⟨g, c, h1, h2, h3, h4⟩
        · rw [h2] at hlt; simp at hlt
        · simp only [Value.slice.injEq] at h1
          exact ⟨g, h1.1, (hB.cell (p := ⟨g, j, none⟩) h3).trans (h4 j hlt)⟩
      have c2 : ∃ g, a2 = some ⟨g, 0, none⟩ ∧ wr.cell? ⟨g, j, none⟩ = some (.int .i64 l[j]) := by
        rcases H2.out with ⟨h1, h2⟩ | ⟨g, c, h1, h2, h3, h4⟩
        · rw [h2] at hlt; simp at hlt
        · simp only [Value.slice.injEq] at h1
          exact ⟨g, h1.1, (hB.cell (p := ⟨g, j, none⟩) h3).trans (h4 j hlt)⟩
      obtain ⟨g1, rfl, p1⟩ := c1
      obtain ⟨g2, rfl, p2⟩ := c2
      obtain ⟨x, hx⟩ : ∃ x, x = l[j] := ⟨_, rfl⟩
      rw [← hx] at p1 p2
      clear hx H1 H2
      go_wp2_with fail
      go_quiet (fail)
      go_wp2_with fail
      exact ⟨⟨j + 1, by omega, by go_num, ⟨hB.os, hB.tape, hB.output, hB.size, hB.block⟩⟩, by simp [intOf]; omega⟩
    · go_wp2_with fail
      go_ret
      exact ⟨rfl, hB⟩

set_option maxHeartbeats 1000000 in
theorem markIntS_any (v : Value) (base n : Nat) (xs : List Value) (w : World) (hn : n ≤ 1048576) (h : w.ownsRow base 3 1 v n xs) :
    Calls Try.prog 35 #[v, .int .i64 1] w fun e w' => e = .returned (.int .i64 ((1 + n : Nat) : Int)) ∧ IMk w' v 3 1 1 n ∧ w.grownBy w' v.ownBlock := by
  by_cases hz : n = 0
  · subst hz
    obtain ⟨a, c, rfl⟩ := iOwn_form h
    clear h
    go_enter Try.func35, Try.ntmps35
    go_wp2
    refine wp_loop_rounds 1 ?_
    rw [rounds_succ]
    go_wp2
    go_ret
    exact ⟨rfl, ⟨a, c, rfl, .inl rfl⟩, ⟨rfl, rfl, rfl, Nat.le_refl _, fun _ _ _ => rfl⟩⟩
  · obtain ⟨-, ⟨-, h1⟩ | ⟨g, cap, cur, rfl, hg, hh, h1, h2, h3, h4⟩⟩ := h
    · omega
    · clear h4
      have HH := hide hh
      clear hh
      go_enter Try.func35, Try.ntmps35
      go_wp2
      go_loopw [1, 5] (fun k i w' => ∃ (j : Nat) (cur' : Array Value), j ≤ n ∧ i = .int .i64 j ∧ k = .int .i64 ((1 + j : Nat) : Int) ∧ w'.heap[g]? = some (.cells cur' 3 (0, 0)) ∧ cur'.size = cur.size ∧ (∀ r, r < j → cur'[r]? = some (.int .i64 ((1 + r : Nat) : Int))) ∧ Oth g w w') (fun _ i _ => n - (intOf i).toNat)
      case atStart => exact ⟨0, cur, by omega, rfl, rfl, HH.out, rfl, by omega, Oth.refl _ _⟩
      case round =>
        obtain ⟨j, cur', hj, rfl, rfl, hb, hs, hr, hO⟩ := hrel
        have Hr := hide hr
        have Hs := hide hs
        have Hb := hide hb
        clear hr hs hb
        by_cases hlt : j < n
        · have hlt' : (j : Int) < (n : Int) := by omega
          have hj0 : (0 : Int) ≤ (j : Int) := by omega
          have fz : ∀ i, wr.frozen? ⟨g, i, none⟩ = false := fun i => unfrozen_of_blk Hb.out i
          obtain ⟨y0, hy0⟩ : ∃ x, wr.cell? ⟨g, j, none⟩ = some x := by
            rw [cell_of_blk Hb.out, Array.getElem?_eq_getElem (by have := Hs.out; omega)]; exact ⟨_, rfl⟩
          go_wp2_with fail
          refine ⟨⟨j + 1, _, by omega, by go_num, by go_num, blk_setCell Hb.out _, by have := Hs.out; simp; omega, ?_, hO.setCell _ _⟩, by simp [intOf]; omega⟩
          intro r hr
          rw [Array.getElem?_setIfInBounds]
          by_cases e : j = r
          · subst e; rw [if_pos rfl, if_pos (by have := Hs.out; omega)]; congr 2
          · rw [if_neg e]; exact Hr.out r (by omega)
        · obtain rfl : j = n := by omega
          go_wp2
          go_ret
          refine ⟨rfl, ⟨_, _, rfl, .inr ⟨g, cur', rfl, Hb.out, ?_, fun r hr => Hr.out r (by omega)⟩⟩, ⟨hO.os, hO.tape, hO.output, hO.size, fun k hk hne => hO.block k hk (fun e => hne (by subst e; rfl))⟩⟩
          have := Hs.out
          omega

set_option maxHeartbeats 1000000 in
theorem heldIntS_any (v : Value) (n : Nat) (w : World) (hn : n ≤ 1048576) (h : IMk w v 3 1 1 n) :
    Calls Try.prog 36 #[v, .int .i64 1] w fun e w' => e = .returned (.int .i64 ((1 + n : Nat) : Int)) ∧ Below w.heap.size w w' := by
  obtain ⟨a, c, rfl, h⟩ := h
  have HM := hide h
  clear h
  go_enter Try.func36, Try.ntmps36
  go_wp2
  go_loopw [1, 5] (fun k i w' => ∃ (j : Nat), j ≤ n ∧ i = .int .i64 j ∧ k = .int .i64 ((1 + j : Nat) : Int) ∧ Below w.heap.size w w') (fun _ i _ => n - (intOf i).toNat)
  case atStart => exact ⟨0, by omega, rfl, rfl, Below.refl _ _⟩
  case round =>
    obtain ⟨j, hj, rfl, rfl, hB⟩ := hrel
    by_cases hlt : j < n
    · have hlt' : (j : Int) < (n : Int) := by omega
      obtain h | ⟨g, cur, rfl, hh, hs, hr⟩ := HM.out
      · omega
      · have hgl : g < w.heap.size := (Array.getElem?_eq_some_iff.1 hh).1
        have c0 : wr.cell? ⟨g, j, none⟩ = some (.int .i64 ((1 + j : Nat) : Int)) := (hB.cell (p := ⟨g, j, none⟩) hgl).trans ((cell_of_blk hh j).trans (hr j (by omega)))
        clear hr hh hs HM
        go_wp2_with fail
        first
          | exact ⟨⟨j + 1, by omega, by go_num, by go_num, hB⟩, by simp [intOf]; omega⟩
          | (go_quiet (fail); go_wp2_with fail; exact ⟨⟨j + 1, by omega, by go_num, by go_num, ⟨hB.os, hB.tape, hB.output, hB.size, hB.block⟩⟩, by simp [intOf]; omega⟩)
    · obtain rfl : j = n := by omega
      go_wp2_with fail
      go_ret
      exact ⟨rfl, hB⟩
end Go.Proofs.Ytlicfmjkoopmnaa.C
