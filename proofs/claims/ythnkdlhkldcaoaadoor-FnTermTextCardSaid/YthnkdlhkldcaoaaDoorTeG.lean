/-
  Contracts of the program's termsBehind, isFar, goodCell, sizeAhead, GoodTerm, and of the specification's l3Arity and l3Cell. Conditions: at most 1048576 cells.
-/
import Derived.Test.YthnkdlhkldcaoaaDoorCeR
namespace Go.Proofs.YthnkdlhkldcaoaaDoor.W
open Go.ChangeShapes Go.WideShapes Go.ChangeAt Go.RowKit
set_option linter.unusedVariables false

set_option maxHeartbeats 400000 in
theorem termsBehind_any (k : Int) (w : World) :
    Calls Tryd.prog 55 #[.int .i64 k] w fun e w' => e = .returned (.int .i64 (ar k : Int)) ∧ w' = w := by
  go_enter Tryd.func55, Tryd.ntmps55
  go_wp2
  all_goals
    go_ret
    refine ⟨ret_int ?_, rfl⟩
    simp_all [ar]

set_option maxHeartbeats 400000 in
theorem isFar_any (n : Int) (w : World) :
    Calls Tryd.prog 54 #[.int .i64 n] w fun e w' => e = .returned (.bool (inB n 0 99)) ∧ w' = w := by
  go_enter Tryd.func54, Tryd.ntmps54
  go_wp2
  all_goals
    go_ret
    refine ⟨ret_bool ?_, rfl⟩
    simp [inB, *]
  all_goals omega

set_option maxHeartbeats 1000000 in
theorem goodCell_any (x : Cc) (w : World) :
    Calls Tryd.prog 36 #[.agg #[.int .i64 x.k, .int .i64 x.n]] w fun e w' => e = .returned (.bool (goodC x)) ∧ Below w.heap.size w w' := by
  obtain ⟨k, n⟩ := x
  simp only
  by_cases k1 : k = 1
  · subst k1
    go_enter Tryd.func36, Tryd.ntmps36
    go_wp2_with fail
    refine (isFar_any _ _).mono ?_
    rintro e w' ⟨rfl, rfl⟩
    go_wp2_with fail
    go_ret
    exact ⟨rfl, (Below.refl _ _).alloc (Nat.le_refl _) _⟩
  · by_cases k2 : k = 2
    · subst k2
      go_enter Tryd.func36, Tryd.ntmps36
      go_wp2
      all_goals
        go_ret
        refine ⟨ret_bool ?_, (Below.refl _ _).alloc (Nat.le_refl _) _⟩
        simp [goodC, inB, *]
      all_goals omega
    · go_enter Tryd.func36, Tryd.ntmps36
      go_wp2
      all_goals
        go_ret
        refine ⟨ret_bool ?_, (Below.refl _ _).alloc (Nat.le_refl _) _⟩
        rw [Bool.eq_iff_iff]
        simp_all [goodC, inB]
      all_goals (try omega)

set_option maxHeartbeats 400000 in
theorem l3Arity_any (k : Int) (w : World) :
    Calls Tryd.prog 61 #[.int .i64 k] w fun e w' => e = .returned (.int .i64 (if inB k 1 7 = true then (ar k : Int) else -1)) ∧ w' = w := by
  go_enter Tryd.func61, Tryd.ntmps61
  go_wp2
  all_goals
    go_ret
    refine ⟨ret_int ?_, rfl⟩
    simp_all [ar, inB]
  all_goals omega

set_option maxHeartbeats 1000000 in
theorem l3Cell_any (x : Cc) (w : World) :
    Calls Tryd.prog 60 #[.agg #[.int .i64 x.k, .int .i64 x.n]] w fun e w' => e = .returned (.bool (goodC x)) ∧ Below w.heap.size w w' := by
  obtain ⟨k, n⟩ := x
  simp only
  by_cases k1 : k = 1
  · subst k1
    go_enter Tryd.func60, Tryd.ntmps60
    go_wp2_with fail
    refine (l1In_any _ _ _ _).mono ?_
    rintro e w' ⟨rfl, rfl⟩
    go_wp2_with fail
    go_ret
    exact ⟨rfl, (Below.refl _ _).alloc (Nat.le_refl _) _⟩
  · by_cases k2 : k = 2
    · subst k2
      go_enter Tryd.func60, Tryd.ntmps60
      go_wp2_with fail
      refine (l1In_any _ _ _ _).mono ?_
      rintro e w' ⟨rfl, rfl⟩
      go_wp2_with fail
      go_ret
      exact ⟨rfl, (Below.refl _ _).alloc (Nat.le_refl _) _⟩
    · have hg : goodC ⟨k, n⟩ = (decide (n = 0) && inB k 3 7) := by simp [goodC, k1, k2]
      rw [hg]
      clear hg
      by_cases hn : n = 0
      · subst hn
        have ha : decide ((0 : Int) < if inB k 1 7 = true then (ar k : Int) else -1) = inB k 3 7 := by
          rw [Bool.eq_iff_iff]
          simp only [inB, ar, decide_eq_true_eq, Bool.and_eq_true]
          split <;> (try split) <;> (try split) <;> (try split) <;> simp <;> omega
        obtain ⟨R, hR⟩ : ∃ R, R = if inB k 1 7 = true then (ar k : Int) else -1 := ⟨_, rfl⟩
        have hc := l3Arity_any k
        rw [← hR] at hc ha
        clear hR
        rw [← ha]
        have HC := hide hc
        clear hc ha
        go_enter Tryd.func60, Tryd.ntmps60
        go_wp2_with (go_at_call 61; refine (HC.out _).mono ?_; rintro e w' ⟨rfl, rfl⟩)
        all_goals
          go_ret
          refine ⟨ret_bool (by simp_all), (Below.refl _ _).alloc (Nat.le_refl _) _⟩
      · go_enter Tryd.func60, Tryd.ntmps60
        go_wp2
        all_goals
          go_ret
          refine ⟨ret_bool (by simp [hn]), (Below.refl _ _).alloc (Nat.le_refl _) _⟩

/-- What sizeAhead tells. -/
def szV : Option Nat → Value
  | none => .tuple #[.int .i64 0, .bool false]
  | some n => .tuple #[.int .i64 (n : Int), .bool true]

set_option maxHeartbeats 2000000 in
theorem sizeAhead_any (ad : Option Addr) (c : Nat) (l : List Cc) (w : World) (hl : l.length ≤ 1048576) (h : CRow w ad l) :
    Calls Tryd.prog 37 #[.slice ad l.length c] w fun e w' => e = .returned (szV (sz l 1 0)) ∧ Below w.heap.size w w' := by
  have HR := hide h
  clear h
  go_enter Tryd.func37, Tryd.ntmps37
  go_wp2_with fail
  go_loopw [4, 9] (fun m i w' => ∃ (j M : Nat), j ≤ l.length ∧ 0 < M ∧ M ≤ 2 * j + 1 ∧ m = .int .i64 M ∧ i = .int .i64 j ∧ sz l 1 0 = sz (l.drop j) M j ∧ Below w.heap.size w w') (fun _ i _ => l.length - (intOf i).toNat)
  case atStart => exact ⟨0, 1, by omega, by omega, by omega, rfl, rfl, rfl, Below.refl _ _⟩
  case round =>
    obtain ⟨j, M, hj, hM0, hM, rfl, rfl, hrun, hB⟩ := hrel
    have HRun := hide hrun
    clear hrun
    by_cases hlt : j < l.length
    · have hlt' : (j : Int) < (l.length : Int) := by omega
      obtain ⟨b, o, rfl, hb, p0, p1⟩ := HR.out.tok hB hlt
      have hd : l.drop j = l[j] :: l.drop (j + 1) := List.drop_eq_getElem_cons hlt
      obtain ⟨x, hx⟩ : ∃ x, x = l[j] := ⟨_, rfl⟩
      rw [← hx] at p0 p1 hd
      rw [hd] at HRun
      clear hx hd
      go_wp2_with fail
      refine (goodCell_any x _).mono ?_
      rintro e w1 ⟨rfl, hb1⟩
      have c0 : w1.cell? ⟨wr.heap.size, 0, none⟩ = some (.int .i64 x.k) := by rw [hb1.cell (by simp)]; simp
      have c1 : w1.cell? ⟨wr.heap.size, 1, none⟩ = some (.int .i64 x.n) := by rw [hb1.cell (by simp)]; simp
      have hB1 : Below w.heap.size w w1 := (hB.alloc hB.size _).trans (hb1.mono (by have := hB.size; simp; omega))
      clear hb1 p0 p1
      by_cases hg : goodC x = true
      · have hr : sz l 1 0 = sz (l.drop (j + 1)) (M - 1 + ar x.k) (j + 1) := by
          rw [HRun.out, sz, if_neg (by omega), if_pos hg]
        have Hr := hide hr
        clear hr
        rw [hg]
        go_wp2_with fail
        refine (termsBehind_any x.k _).mono ?_
        rintro e w2 ⟨rfl, rfl⟩
        have hle := ar_le x.k
        clear c0 c1
        obtain ⟨R, hR⟩ : ∃ R, R = ar x.k := ⟨_, rfl⟩
        rw [← hR] at Hr hle ⊢
        clear hR
        by_cases hz : M - 1 + R = 0
        · have hz' : (M : Int) + ((R : Int) - 1) = 0 := by omega
          have hr2 : sz l 1 0 = some (j + 1) := by rw [Hr.out, hz, sz_0]
          have Hr2 := hide hr2
          clear hr2
          go_wp2_with fail
          refine bodyPost_ret (v := .tuple #[.int .i64 ((j : Int) + 1), .bool true]) (by simp [results, Tryd.results37, go_sem]) rfl ⟨?_, hB1⟩
          rw [Hr2.out]
          simp [szV]
        · have hz' : ¬ (M : Int) + ((R : Int) - 1) = 0 := by omega
          go_wp2_with fail
          refine ⟨⟨j + 1, M - 1 + R, by omega, by omega, by omega, by go_num, by go_num, Hr.out, hB1⟩, by simp [intOf]; omega⟩
      · rw [Bool.not_eq_true] at hg
        have hr : sz l 1 0 = none := by rw [HRun.out, sz, if_neg (by omega), if_neg (by rw [hg]; simp)]
        have Hr := hide hr
        clear hr
        rw [hg]
        go_wp2_with fail
        refine bodyPost_ret (v := .tuple #[.int .i64 0, .bool false]) (by simp [results, Tryd.results37, go_sem]) rfl ⟨?_, hB1⟩
        rw [Hr.out]
        rfl
    · obtain rfl : j = l.length := by omega
      have hr : sz l 1 0 = none := by rw [HRun.out, List.drop_length, sz, if_neg (by omega)]
      have Hr := hide hr
      clear hr
      go_wp2_with fail
      refine bodyPost_ret (v := .tuple #[.int .i64 0, .bool false]) (by simp [results, Tryd.results37, go_sem]) rfl ⟨?_, hB⟩
      rw [Hr.out]
      rfl

set_option maxHeartbeats 2000000 in
theorem implGoodT_any (ad : Option Addr) (c : Nat) (l : List Cc) (w : World) (hl : l.length ≤ 1048576) (h : CRow w ad l) :
    Calls Tryd.prog 20 #[.slice ad l.length c] w fun e w' => e = .returned (.bool (goodT l)) ∧ Below w.heap.size w w' := by
  have HR := hide h
  clear h
  rw [goodT_sz]
  by_cases h6 : l.length ≤ 600
  · have h6' : ¬ (600 : Int) < (l.length : Int) := by omega
    rw [decide_eq_true h6, Bool.true_and]
    have HC := hide (sizeAhead_any ad c l w hl HR.out)
    cases hz : sz l 1 0 with
    | none =>
      rw [hz] at HC
      clear hz
      go_enter Tryd.func20, Tryd.ntmps20
      go_wp2_with fail
      refine HC.out.mono ?_
      rintro e w1 ⟨rfl, hb1⟩
      unfold szV
      go_wp2_with fail
      go_ret
      exact ⟨rfl, hb1⟩
    | some n =>
      rw [hz] at HC
      clear hz
      go_enter Tryd.func20, Tryd.ntmps20
      go_wp2_with fail
      refine HC.out.mono ?_
      rintro e w1 ⟨rfl, hb1⟩
      unfold szV
      go_wp2_with fail
      go_ret
      exact ⟨ret_bool (by rw [Bool.eq_iff_iff]; simp; omega), hb1⟩
  · have h6' : (600 : Int) < (l.length : Int) := by omega
    rw [decide_eq_false h6]
    go_enter Tryd.func20, Tryd.ntmps20
    go_wp2_with fail
    go_ret
    exact ⟨rfl, Below.refl _ _⟩
end Go.Proofs.YthnkdlhkldcaoaaDoor.W
