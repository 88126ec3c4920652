/-
  What the laws of chapter 11 want besides: marks of a graph with a bound. Conditions: those that each theorem states.
-/
import Derived.Test.YtochhnibegcbpaaGrL
import Derived.Test.YtochhnibegcbpaaGrS
namespace Go.Proofs.Ytochhnibegcbpaa.W
open Go.ChangeShapes Go.WideShapes Go.ChangeAt Go.RowKit Go.Joins
set_option linter.unusedVariables false

set_option maxHeartbeats 2000000 in
theorem markIntSS_b (S lo hi c k0 : Nat) (L : List (List Int)) (w : World) (hs : QSm L) (hk0 : k0 ≤ 100000000) (h : QM w lo hi S L) :
    Calls Try.prog 16 #[.slice (some ⟨S, 0, none⟩) L.length c, .int .i64 (k0 : Int)] w fun e w' => (∃ k : Nat, e = .returned (.int .i64 (k : Int)) ∧ k ≤ 1000000000000000) ∧ Bet lo hi w w' := by
  have HQ := hide h
  have HS := hide hs.2
  have hl := hs.1
  clear h hs
  go_enter Try.func16, Try.ntmps16
  go_wp2
  go_loopw [1, 5] (fun k i w' => ∃ (j k1 : Nat), j ≤ L.length ∧ i = .int .i64 j ∧ k = .int .i64 (k1 : Int) ∧ k1 ≤ k0 + j * 2097152 ∧ QM w' lo hi S L ∧ Bet lo hi w w') (fun _ i _ => L.length - (intOf i).toNat)
  case atStart => exact ⟨0, k0, by omega, rfl, rfl, by omega, HQ.out, Bet.refl _ _ _⟩
  case round =>
    clear HQ
    obtain ⟨j, k1, hj, rfl, rfl, hk1, hQ, hB⟩ := hrel
    have HB := hide hB
    by_cases hlt : j < L.length
    · have hlt' : (j : Int) < (L.length : Int) := by omega
      have hj0 : (0 : Int) ≤ (j : Int) := by omega
      have hsj := HS.out _ (List.getElem_mem hlt)
      have HQ := hide hQ
      obtain ⟨cur, g1, g2⟩ := hQ
      obtain ⟨g, p1, p2, p3, p4, cg, p5, p6⟩ := g2 j hlt
      have p0 : wr.cell? ⟨S, j, none⟩ = some (.slice (some ⟨g, 0, none⟩) L[j].length L[j].length) := by rw [cell_of_blk g1]; exact p1
      have HC := hide (markIntS_w g L[j].length L[j].length k1 cg wr hsj (by omega) p5 (by omega))
      have HC2 : Hid (∀ (cur' : Array Value) (w' : World), w'.heap[g]? = some (.cells cur' 3 (0, 0)) → cur'.size = cg.size → ∀ m, SBk 3 wr g m → SBk 3 w' g m) := hide (fun cur' w' h1 h2 m h3 => by
        obtain ⟨c3, e1, e2⟩ := h3
        rw [p5] at e1
        simp only [Option.some.injEq, Obj.cells.injEq, and_true] at e1
        subst e1
        exact ⟨cur', h1, by omega⟩)
      obtain ⟨x, hx⟩ : ∃ x, x = L[j].length := ⟨_, rfl⟩
      rw [← hx] at p0 HC hsj
      clear hx g1 g2 p1 p5 p6
      go_wp2_with fail
      refine Calls.mono HC.out ?_
      rintro e w2 ⟨rfl, ⟨cur', m1, m2, -⟩, hO⟩
      have HQ2 := hide (HQ.out.oth hO (by omega) (HC2.out cur' w2 m1 m2))
      have HB2 := hide (HB.out.trans (Bet.ofOth hO p2 p3))
      clear hO m1 m2 HC HC2 p0 HQ HB hB
      go_wp2_with fail
      exact ⟨⟨j + 1, k1 + x, by omega, by go_num, rfl, by omega, HQ2.out, HB2.out⟩, by simp [intOf]; omega⟩
    · clear hQ hB
      go_wp2_with fail
      go_ret
      exact ⟨⟨k1, rfl, by omega⟩, HB.out⟩

set_option maxHeartbeats 1000000 in
theorem markGraph_b (S lo hi c k0 : Nat) (L : List (List Int)) (w : World) (hs : QSm L) (hk0 : k0 ≤ 100000000) (h : QM w lo hi S L) (hh : hi ≤ w.heap.size) :
    Calls Try.prog 15 #[.agg #[.slice (some ⟨S, 0, none⟩) L.length c], .int .i64 (k0 : Int)] w fun e w' => (∃ k : Nat, e = .returned (.int .i64 (k : Int)) ∧ k ≤ 1000000000000000) ∧ Bet lo hi w w' := by
  obtain ⟨W1, hW1⟩ : ∃ W1, W1 = w.alloc (.cells #[.slice (some ⟨S, 0, none⟩) L.length c] 28) := ⟨_, rfl⟩
  have hb1 : Below w.heap.size w W1 := by rw [hW1]; exact (Below.refl _ _).alloc (Nat.le_refl _) _
  have HC := hide (markIntSS_b S lo hi c k0 L W1 hs hk0 (h.below hb1))
  have HB1 := hide hb1
  have HW1 := hide hW1
  clear hb1 hW1 h
  go_enter Try.func15, Try.ntmps15
  go_wp2_with fail
  rw [← HW1.out]
  refine Calls.mono HC.out ?_
  rintro e w2 ⟨⟨k, rfl, hk⟩, hO⟩
  have hO2 : Bet lo hi w w2 := (Bet.ofBelow HB1.out).trans hO
  have Hk := hide hk
  clear hO HC HW1 hk
  go_wp2_with fail
  go_ret
  exact ⟨⟨k, rfl, Hk.out⟩, hO2⟩
end Go.Proofs.Ytochhnibegcbpaa.W
