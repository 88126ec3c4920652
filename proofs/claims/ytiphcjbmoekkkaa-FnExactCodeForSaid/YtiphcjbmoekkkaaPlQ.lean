/-
  Marks of truths: markBoolS writes into one's own row alone; rows of code compared. Conditions: at most 1048576 elements.
-/
import Derived.Test.YtiphcjbmoekkkaaPlJ
namespace Go.Proofs.Ytiphcjbmoekkkaa.L
open Go.Proofs.Ytiphcjbmoekkkaa.W
open Go.ChangeShapes Go.WideShapes Go.ChangeAt Go.RowKit
set_option linter.unusedVariables false

set_option maxHeartbeats 1000000 in
theorem markBoolS_any (v : Value) (base n k0 : Nat) (xs : List Value) (w : World) (hn : n ≤ 1048576) (hk0 : k0 ≤ 100000000) (h : w.ownsRow base 4 1 v n xs) :
    Calls Try.prog 26 #[v, .int .i64 (k0 : Int)] w fun e w' => e = .returned (.int .i64 ((k0 + n : Nat) : Int)) ∧ w.grownBy w' v.ownBlock := by
  by_cases hz : n = 0
  · subst hz
    obtain ⟨a, c, rfl⟩ := own_form h
    clear h
    go_enter Try.func26, Try.ntmps26
    go_wp2
    refine wp_loop_rounds 1 ?_
    rw [rounds_succ]
    go_wp2
    go_ret
    exact ⟨rfl, ⟨rfl, rfl, rfl, Nat.le_refl _, fun _ _ _ => rfl⟩⟩
  · obtain ⟨-, ⟨-, h1⟩ | ⟨g, cap, cur, rfl, hg, hh, h1, h2, h3, h4⟩⟩ := h
    · omega
    · clear h4
      have HH := hide hh
      clear hh
      go_enter Try.func26, Try.ntmps26
      go_wp2
      go_loopw [1, 5] (fun k i w' => ∃ (j : Nat) (cur' : Array Value), j ≤ n ∧ i = .int .i64 j ∧ k = .int .i64 ((k0 + j : Nat) : Int) ∧ w'.heap[g]? = some (.cells cur' 4 (0, 0)) ∧ cur'.size = cur.size ∧ Oth g w w') (fun _ i _ => n - (intOf i).toNat)
      case atStart => exact ⟨0, cur, by omega, rfl, rfl, HH.out, rfl, Oth.refl _ _⟩
      case round =>
        obtain ⟨j, cur', hj, rfl, rfl, hb, hs, hO⟩ := hrel
        have Hs := hide hs
        have Hb := hide hb
        clear hs hb
        by_cases hlt : j < n
        · have hlt' : (j : Int) < (n : Int) := by omega
          have hj0 : (0 : Int) ≤ (j : Int) := by omega
          have fz : ∀ i, wr.frozen? ⟨g, i, none⟩ = false := fun i => unfrozen_of_blk Hb.out i
          obtain ⟨y0, hy0⟩ : ∃ x, wr.cell? ⟨g, j, none⟩ = some x := by
            rw [cell_of_blk Hb.out, Array.getElem?_eq_getElem (by have := Hs.out; omega)]; exact ⟨_, rfl⟩
          obtain ⟨m, hm⟩ : ∃ m, m = k0 + j := ⟨_, rfl⟩
          rw [← hm]
          have hm1 : m ≤ 200000000 := by omega
          have Hm := hide hm
          clear hm
          go_wp2_with fail
          have em := Hm.out
          exact ⟨⟨j + 1, _, by omega, by go_num, by rw [show k0 + (j + 1) = m + 1 by omega]; go_num, blk_setCell Hb.out _, by have := Hs.out; simp; omega, hO.setCell _ _⟩, by simp [intOf]; omega⟩
        · obtain rfl : j = n := by omega
          go_wp2
          go_ret
          exact ⟨rfl, ⟨hO.os, hO.tape, hO.output, hO.size, fun k hk hne => hO.block k hk (fun e => hne (by subst e; rfl))⟩⟩

theorem eqOwnD (v1 v2 : Value) (b1 b2 : Nat) (L : List Cd) (w : World) (hl : L.length ≤ 1048576) (h1 : w.ownsRow b1 74 5 v1 L.length (dv L)) (h2 : w.ownsRow b2 74 5 v2 L.length (dv L)) :
    Calls Try.prog 18 #[v1, v2] w fun e w' => e = .returned (.bool true) ∧ Below w.heap.size w w' := by
  obtain ⟨a1, c1, rfl⟩ := own_form h1
  obtain ⟨a2, c2, rfl⟩ := own_form h2
  exact eqCodeS_row a1 a2 c1 c2 L w hl (RRow.ofOwn h1 rfl) (RRow.ofOwn h2 rfl)
theorem cbL_len (l : List Cc) (rs : List Bool) : (cbL l rs).length ≤ 1048576 := by
  cases hok : okB l rs with
  | false => rw [(cb_bad hok).1]; simp
  | true =>
    obtain ⟨e1, -, hg, -⟩ := cb_ok hok
    obtain ⟨t1, t2, t3, -⟩ := trOf_good hg
    rw [e1, Tr.cd_len, ← t2]; omega
end Go.Proofs.Ytiphcjbmoekkkaa.L
