/-
  Contracts of the marks: markCompS, heldCompS write numbers of their own into each place of a row, and find them there. Conditions: at most 1048576 elements.
-/
import Derived.Test.YtiphcjbmoekkkaaPlB
namespace Go.Proofs.Ytiphcjbmoekkkaa.L
open Go.Proofs.Ytiphcjbmoekkkaa.W
open Go.ChangeShapes Go.WideShapes Go.ChangeAt Go.RowKit
set_option linter.unusedVariables false

/-- The row v of n elements of z cells each bears the marks from k0 on. -/
def IMk (w : World) (v : Value) (T : TypeId) (z k0 n : Nat) : Prop :=
  ∃ a c, v = .slice a n c ∧ (n = 0 ∨ ∃ g cur, a = some ⟨g, 0, none⟩ ∧ w.heap[g]? = some (.cells cur T (0, 0)) ∧ n * z ≤ cur.size ∧ ∀ r, r < n * z → cur[r]? = some (.int .i64 ((k0 + r : Nat) : Int)))

theorem IMk.below {w w' : World} {v : Value} {T : TypeId} {z k0 n : Nat} (h : IMk w v T z k0 n) (hb : Below w.heap.size w w') : IMk w' v T z k0 n := by
  obtain ⟨a, c, h1, h2 | ⟨g, cur, h3, h4, h5⟩⟩ := h
  · exact ⟨a, c, h1, .inl h2⟩
  · exact ⟨a, c, h1, .inr ⟨g, cur, h3, (hb.block g (Array.getElem?_eq_some_iff.1 h4).1).trans h4, h5⟩⟩

theorem IMk.form {w : World} {v : Value} {T : TypeId} {z k0 n : Nat} (h : IMk w v T z k0 n) : ∃ a c, v = .slice a n c := by
  obtain ⟨a, c, h1, _⟩ := h
  exact ⟨a, c, h1⟩

theorem arr_set2 (cur : Array Value) (j n : Nat) (x0 x1 : Value) (hj : j < n) (hs : n * 2 ≤ cur.size) (h : ∀ r, r < j * 2 → cur[r]? = some (.int .i64 ((1 + r : Nat) : Int)))
    (h0 : x0 = .int .i64 ((1 + j * 2 : Nat) : Int)) (h1 : x1 = .int .i64 ((1 + (j * 2 + 1) : Nat) : Int)) :
    ∀ r, r < (j + 1) * 2 → ((cur.setIfInBounds (j * 2) x0).setIfInBounds (j * 2 + 1) x1)[r]? = some (.int .i64 ((1 + r : Nat) : Int)) := by
  intro r hr
  subst h0 h1
  simp only [Array.getElem?_setIfInBounds, Array.size_setIfInBounds]
  by_cases e1 : j * 2 + 1 = r
  · subst e1; rw [if_pos rfl, if_pos (by omega)]
  · rw [if_neg e1]
    by_cases e0 : j * 2 = r
    · subst e0; rw [if_pos rfl, if_pos (by omega)]
    · rw [if_neg e0]; exact h r (by omega)

set_option maxHeartbeats 1000000 in
theorem markCellS_any (v : Value) (base n : Nat) (xs : List Value) (w : World) (hn : n ≤ 1048576) (h : w.ownsRow base 55 2 v n xs) :
    Calls Try.prog 19 #[v, .int .i64 1] w fun e w' => e = .returned (.int .i64 ((1 + n * 2 : Nat) : Int)) ∧ IMk w' v 55 2 1 n ∧ w.grownBy w' v.ownBlock := by
  by_cases hz : n = 0
  · subst hz
    obtain ⟨a, c, rfl⟩ := iOwn_form h
    clear h
    go_enter Try.func19, Try.ntmps19
    go_wp2
    refine wp_loop_rounds 1 ?_
    rw [rounds_succ]
    go_wp2
    go_ret
    exact ⟨rfl, ⟨a, c, rfl, .inl rfl⟩, ⟨rfl, rfl, rfl, Nat.le_refl _, fun _ _ _ => rfl⟩⟩
  · obtain ⟨-, ⟨-, h1⟩ | ⟨g, cap, cur, rfl, hg, hh, h1, h2, h3, h4⟩⟩ := h
    · omega
    · clear h4
      have HH := hide hh
      clear hh
      go_enter Try.func19, Try.ntmps19
      go_wp2
      go_loopw [1, 5] (fun k i w' => ∃ (j : Nat) (cur' : Array Value), j ≤ n ∧ i = .int .i64 j ∧ k = .int .i64 ((1 + j * 2 : Nat) : Int) ∧ w'.heap[g]? = some (.cells cur' 55 (0, 0)) ∧ cur'.size = cur.size ∧ (∀ r, r < j * 2 → cur'[r]? = some (.int .i64 ((1 + r : Nat) : Int))) ∧ Oth g w w') (fun _ i _ => n - (intOf i).toNat)
      case atStart => exact ⟨0, cur, by omega, rfl, rfl, HH.out, rfl, by omega, Oth.refl _ _⟩
      case round =>
        obtain ⟨j, cur', hj, rfl, rfl, hb, hs, hr, hO⟩ := hrel
        have Hr := hide hr
        have Hs := hide hs
        have Hb := hide hb
        clear hr hs hb
        by_cases hlt : j < n
        · have hlt' : (j : Int) < (n : Int) := by omega
          have hj0 : (0 : Int) ≤ (j : Int) := by omega
          have fz : ∀ i, wr.frozen? ⟨g, i, none⟩ = false := fun i => unfrozen_of_blk Hb.out i
          have cs : ∀ r, r < 2 → ∃ x, wr.cell? ⟨g, j * 2 + r, none⟩ = some x := fun r hr => by
            rw [cell_of_blk Hb.out, Array.getElem?_eq_getElem (by have := Hs.out; omega)]; exact ⟨_, rfl⟩
          obtain ⟨y0, hy0⟩ := cs 0 (by omega)
          obtain ⟨y1, hy1⟩ := cs 1 (by omega)
          rw [Nat.add_zero] at hy0
          clear cs
          obtain ⟨m, hm⟩ : ∃ m, m = 1 + j * 2 := ⟨_, rfl⟩
          rw [← hm]
          have hm1 : m ≤ 3000000 := by omega
          have Hm := hide hm
          clear hm
          go_wp2_with fail
          have em := Hm.out
          refine ⟨⟨j + 1, _, by omega, by go_num, by rw [show 1 + (j + 1) * 2 = m + 2 by omega]; go_num, blk_setCell (blk_setCell Hb.out _) _, by have := Hs.out; simp; omega, ?_, (hO.setCell _ _).setCell _ _⟩, by simp [intOf]; omega⟩
          exact arr_set2 cur' j n _ _ hlt (by have := Hs.out; omega) Hr.out (by rw [em]) (by rw [em]; congr 1)
        · obtain rfl : j = n := by omega
          go_wp2
          go_ret
          refine ⟨rfl, ⟨_, _, rfl, .inr ⟨g, cur', rfl, Hb.out, ?_, Hr.out⟩⟩, ⟨hO.os, hO.tape, hO.output, hO.size, fun k hk hne => hO.block k hk (fun e => hne (by subst e; rfl))⟩⟩
          have := Hs.out
          omega

theorem CBlk.own {w : World} {b base : Nat} {l : List Cc} (h : CBlk w b l) (hb : base ≤ b) (hl : l.length ≤ 1048576) : ∃ xs, w.ownsRow base 55 2 (.slice (some ⟨b, 0, none⟩) l.length l.length) l.length xs := by
  obtain ⟨cur, hh, hF⟩ := h
  exact ⟨cur.toList.take (l.length * 2), by simp [hF.1], .inr ⟨b, l.length, cur, rfl, hb, hh, Nat.le_refl _, by unfold maxLen; omega, hF.1, rfl⟩⟩

theorem iOwn_grown {w w' : World} {base n size : Nat} {e : TypeId} {v : Value} {xs : List Value} {row : Option Nat} (h : w.ownsRow base e size v n xs) (hg : w.grownBy w' row) (hne : ∀ k, v.ownBlock = some k → row ≠ some k) : w'.ownsRow base e size v n xs :=
  h.kept hg (by
    cases hv : v.ownBlock with
    | none => exact .inl rfl
    | some k => exact .inr (fun e => hne k hv e.symm))

theorem IS.grown {w w' : World} {s : Value} {l : List Int} {row : Option Nat} (h : IS w s l) (hg : w.grownBy w' row) (hne : ∀ k, s.ownBlock = some k → row ≠ some k) : IS w' s l := by
  rcases h with h | ⟨g, c, rfl, h2, h3, h4⟩
  · exact .inl h
  · refine .inr ⟨g, c, rfl, h2, Nat.lt_of_lt_of_le h3 hg.size, fun i hi => ?_⟩
    exact (World.cell?_of_block (a := ⟨g, i, none⟩) (hg.block g h3 (fun e => hne g rfl e.symm))).trans (h4 i hi)

theorem IS.lt {w : World} {s : Value} {l : List Int} (h : IS w s l) : ∀ k, s.ownBlock = some k → k < w.heap.size := by
  intro k hk
  rcases h with ⟨rfl, -⟩ | ⟨g, c, rfl, h2, h3, h4⟩
  · cases hk
  · simp only [Value.ownBlock, Option.some.injEq] at hk; omega
end Go.Proofs.Ytiphcjbmoekkkaa.L
