/-
  Contracts of the program's compsBehind, goodCompCell, GoodComp. Conditions: at most 1048576 cells.
-/
import Derived.Test.YtaddopoafaojdaaCoR
namespace Go.Proofs.Ytaddopoafaojdaa.C
open Go.Proofs.Ytaddopoafaojdaa.W
open Go.ChangeShapes Go.WideShapes Go.ChangeAt Go.RowKit
set_option linter.unusedVariables false

set_option maxHeartbeats 400000 in
theorem isBelow_any (n c : Int) (w : World) : Calls Try.prog 44 #[.int .i64 n, .int .i64 c] w fun e w' => e = .returned (.bool (decide (0 ≤ n) && decide (n < c))) ∧ w' = w := by
  go_enter Try.func44, Try.ntmps44
  go_wp2
  all_goals
    go_ret
    refine ⟨ret_bool ?_, rfl⟩
    simp [*]
  all_goals omega

set_option maxHeartbeats 400000 in
theorem isTold_any (n : Int) (w : World) : Calls Try.prog 36 #[.int .i64 n] w fun e w' => e = .returned (.bool (inB n 0 99)) ∧ w' = w := by
  go_enter Try.func36, Try.ntmps36
  go_wp2_with fail
  refine (isBelow_any _ _ _).mono ?_
  rintro e w' ⟨rfl, rfl⟩
  go_wp2_with fail
  go_ret
  refine ⟨ret_bool ?_, rfl⟩
  unfold inB
  congr 1
  rw [Bool.eq_iff_iff]; simp; omega

set_option maxHeartbeats 400000 in
theorem behind_any (x : Cc) (w : World) :
    Calls Try.prog 39 #[.agg #[.int .i64 x.k, .int .i64 x.n]] w fun e w' => e = .returned (.int .i64 (ar x.k : Int)) ∧ Below w.heap.size w w' := by
  obtain ⟨k, n⟩ := x
  simp only
  go_enter Try.func39, Try.ntmps39
  go_wp2
  all_goals
    go_ret
    refine ⟨ret_int ?_, (Below.refl _ _).alloc (Nat.le_refl _) _⟩
    simp_all [ar]

set_option maxHeartbeats 1000000 in
theorem goodCell_any (x : Cc) (w : World) :
    Calls Try.prog 38 #[.agg #[.int .i64 x.k, .int .i64 x.n]] w fun e w' => e = .returned (.bool (goodC x)) ∧ Below w.heap.size w w' := by
  obtain ⟨k, n⟩ := x
  simp only
  by_cases k1 : k = 1
  · subst k1
    go_enter Try.func38, Try.ntmps38
    go_wp2_with fail
    refine (isTold_any _ _).mono ?_
    rintro e w' ⟨rfl, rfl⟩
    go_wp2_with fail
    go_ret
    exact ⟨ret_bool (by simp [goodC]), (Below.refl _ _).alloc (Nat.le_refl _) _⟩
  · by_cases k2 : k = 2
    · subst k2
      go_enter Try.func38, Try.ntmps38
      go_wp2_with fail
      refine (isBelow_any _ _ _).mono ?_
      rintro e w' ⟨rfl, rfl⟩
      go_wp2_with fail
      go_ret
      refine ⟨ret_bool ?_, (Below.refl _ _).alloc (Nat.le_refl _) _⟩
      rw [Bool.eq_iff_iff]
      simp [goodC, inB]; omega
    · go_enter Try.func38, Try.ntmps38
      go_wp2_with fail
      go_ret
      exact ⟨ret_bool (by simp [goodC, k1, k2]), (Below.refl _ _).alloc (Nat.le_refl _) _⟩

theorem sz_ends : ∀ (l : List Cc) (m i : Nat), sz l m i = some (i + l.length) ↔ (match l with | [] => m = 0 | x :: r => m ≠ 0 ∧ goodC x = true ∧ sz r (m - 1 + ar x.k) (i + 1) = some (i + 1 + r.length))
  | [], m, i => by simp [sz]
  | x :: r, m, i => by
    simp only [sz, List.length_cons]
    by_cases hm : m = 0
    · rw [if_pos hm]; simp [hm]
    · rw [if_neg hm]
      by_cases hg : goodC x = true
      · rw [if_pos hg]; simp only [hm, ne_eq, not_false_eq_true, hg, true_and]
        rw [show i + (r.length + 1) = i + 1 + r.length by omega]
      · rw [if_neg hg]; simp [hg]

set_option maxHeartbeats 2000000 in
theorem implGoodT_any (ad : Option Addr) (c : Nat) (l : List Cc) (w : World) (hl : l.length ≤ 1048576) (h : CRow w ad l) :
    Calls Try.prog 23 #[.slice ad l.length c] w fun e w' => e = .returned (.bool (goodT l)) ∧ Below w.heap.size w w' := by
  have HR := hide h
  clear h
  rw [goodT_sz]
  by_cases h6 : l.length ≤ 60
  · have h6' : ¬ (60 : Int) < (l.length : Int) := by omega
    rw [decide_eq_true h6, Bool.true_and]
    obtain ⟨G, hG⟩ : ∃ G, G = decide (sz l 1 0 = some l.length) := ⟨_, rfl⟩
    rw [← hG]
    have HG := hide hG
    clear hG
    go_enter Try.func23, Try.ntmps23
    go_wp2_with fail
    go_loopw [3, 11] (fun m i w' => ∃ (j M : Nat), j ≤ l.length ∧ M ≤ j + 1 ∧ m = .int .i64 M ∧ i = .int .i64 j ∧ G = decide (sz (l.drop j) M j = some (j + (l.drop j).length)) ∧ Below w.heap.size w w') (fun _ i _ => l.length - (intOf i).toNat)
    case atStart => exact ⟨0, 1, by omega, by omega, rfl, rfl, by rw [HG.out]; simp, Below.refl _ _⟩
    case round =>
      obtain ⟨j, M, hj, hM, rfl, rfl, hrun, hB⟩ := hrel
      have HRun := hide hrun
      clear hrun
      by_cases hlt : j < l.length
      · have hlt' : (j : Int) < (l.length : Int) := by omega
        obtain ⟨b, o, rfl, hb, p0, p1⟩ := HR.out.tok hB hlt
        have hd : l.drop j = l[j] :: l.drop (j + 1) := List.drop_eq_getElem_cons hlt
        obtain ⟨x, hx⟩ : ∃ x, x = l[j] := ⟨_, rfl⟩
        rw [← hx] at p0 p1 hd
        rw [hd] at HRun
        clear hx hd
        have hrun : (G = true) ↔ (M ≠ 0 ∧ goodC x = true ∧ sz (l.drop (j + 1)) (M - 1 + ar x.k) (j + 1) = some (j + 1 + (l.drop (j + 1)).length)) := by
          rw [HRun.out, decide_eq_true_eq]; exact sz_ends (x :: l.drop (j + 1)) M j
        have HRun2 := hide hrun
        clear hrun HRun
        by_cases hM0 : M = 0
        · subst hM0
          have hg : G = false := by rw [← Bool.not_eq_true, HRun2.out]; simp
          clear HRun2
          go_wp2_with fail
          go_ret
          exact ⟨ret_bool hg.symm, hB.alloc hB.size _⟩
        · have hM0' : ¬ (M : Int) = 0 := by omega
          go_wp2_with fail
          refine (goodCell_any x _).mono ?_
          rintro e w1 ⟨rfl, hb1⟩
          have c0 : w1.cell? ⟨wr.heap.size, 0, none⟩ = some (.int .i64 x.k) := by rw [hb1.cell (by simp)]; simp
          have c1 : w1.cell? ⟨wr.heap.size, 1, none⟩ = some (.int .i64 x.n) := by rw [hb1.cell (by simp)]; simp
          have hB1 : Below w.heap.size w w1 := (hB.alloc hB.size _).trans (hb1.mono (by have := hB.size; simp; omega))
          clear hb1 p0 p1
          by_cases hg : goodC x = true
          · have hr : G = decide (sz (l.drop (j + 1)) (M - 1 + ar x.k) (j + 1) = some (j + 1 + (l.drop (j + 1)).length)) := by
              rw [Bool.eq_iff_iff, HRun2.out, decide_eq_true_eq]; simp [hM0, hg]
            have Hr := hide hr
            clear hr HRun2
            rw [hg]
            go_wp2_with fail
            refine (behind_any x _).mono ?_
            rintro e w2 ⟨rfl, hb2⟩
            have hB2 : Below w.heap.size w w2 := hB1.trans (hb2.mono hB1.size)
            clear hb2
            have hle := ar_le x.k
            clear c0 c1
            obtain ⟨R, hR⟩ : ∃ R, R = ar x.k := ⟨_, rfl⟩
            rw [← hR] at Hr hle ⊢
            clear hR
            go_wp2_with fail
            refine ⟨⟨j + 1, M - 1 + R, by omega, by omega, by go_num, by go_num, Hr.out, hB2⟩, by simp [intOf]; omega⟩
          · rw [Bool.not_eq_true] at hg
            have hr : G = false := by rw [← Bool.not_eq_true, HRun2.out]; simp [hg]
            clear HRun2
            rw [hg]
            go_wp2_with fail
            go_ret
            exact ⟨ret_bool hr.symm, hB1⟩
      · obtain rfl : j = l.length := by omega
        have hr : G = decide (M = 0) := by rw [HRun.out, List.drop_length]; simp [sz]
        clear HRun
        go_wp2_with fail
        go_ret
        refine ⟨ret_bool (by rw [hr, Bool.eq_iff_iff]; simp), hB⟩
  · have h6' : (60 : Int) < (l.length : Int) := by omega
    rw [decide_eq_false h6]
    go_enter Try.func23, Try.ntmps23
    go_wp2_with fail
    go_ret
    exact ⟨rfl, Below.refl _ _⟩
end Go.Proofs.Ytaddopoafaojdaa.C
