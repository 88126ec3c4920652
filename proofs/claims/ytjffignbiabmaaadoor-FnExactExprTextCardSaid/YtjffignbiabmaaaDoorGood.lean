/-
  Contracts of GoodToken, of the program and of its specification: both tell the same Bool of the token's four fields, and write nothing that was there. Conditions: the text is at most 2^63 - 1 bytes long.
-/
import Derived.Test.YtjffignbiabmaaaDoorLow
namespace Go.Proofs.YtjffignbiabmaaaDoor.W
open Go.ChangeShapes Go.WideShapes Go.ChangeAt Go.RowKit

def nameB (s : ByteArray) : Bool := !s.toList.isEmpty && (decide (s.size ≤ 8) && decide (runFrom letB s 0 = s.size))
def signB (s : ByteArray) : Bool := !s.toList.isEmpty && ((best s 0).toList == s.toList)
def goodB (k n : Int) (t : ByteArray) (a : Int) : Bool :=
  inB a 0 300 && (if k = 1 then inB n 0 999999999 && t.toList.isEmpty else if k = 2 then decide (n = 0) && nameB t else if k = 3 then decide (n = 0) && signB t else false)

set_option maxHeartbeats 400000 in
theorem isName_any (s : ByteArray) (w : World) (hs : s.size ≤ maxLen) :
    Calls Tryd.prog 133 #[.string s] w fun e w' => e = .returned (.bool (nameB s)) ∧ Below w.heap.size w w' := by
  go_enter Tryd.func133, Tryd.ntmps133
  go_wp2_with (go_at_call 84; refine (run_isLetter _ _ hs).mono ?_; rintro e w' ⟨rfl, hb⟩)
  all_goals
    go_ret
    refine ⟨ret_bool ?_, ?_⟩
    rotate_left
    first | exact hb | exact Below.refl _ _
  · simp [nameB, *]
  · have h8 : s.size ≤ 8 := by omega
    simp only [nameB, h8, decide_true, Bool.true_and]
    congr 1
    rw [Bool.eq_iff_iff]
    simp
    omega
  · have h8 : ¬ s.size ≤ 8 := by omega
    simp [nameB, h8]

set_option maxHeartbeats 400000 in
theorem isSign_any (s : ByteArray) (w : World) :
    Calls Tryd.prog 161 #[.string s] w fun e w' => e = .returned (.bool (signB s)) ∧ Below w.heap.size w w' := by
  go_enter Tryd.func161, Tryd.ntmps161
  go_wp2_with (go_at_call 126; refine (signAhead_any _ _).mono ?_; rintro e w' ⟨rfl, hb⟩)
  all_goals
    go_ret
    refine ⟨ret_bool ?_, ?_⟩
    rotate_left
    first | exact hb | exact Below.refl _ _
  · simp [signB, *]
  · rfl

theorem good_out {k n a : Int} {t : ByteArray} (h : ¬ (0 ≤ a ∧ a ≤ 300)) : goodB k n t a = false := by
  have : inB a 0 300 = false := by
    rw [Bool.eq_false_iff]; intro hc; simp [inB] at hc; omega
  simp [goodB, this]
theorem good_in {k n a : Int} {t : ByteArray} (h0 : 0 ≤ a) (h1 : a ≤ 300) : goodB k n t a = (if k = 1 then inB n 0 999999999 && t.toList.isEmpty else if k = 2 then decide (n = 0) && nameB t else if k = 3 then decide (n = 0) && signB t else false) := by
  simp [goodB, inB, h0, h1]
theorem good_1 {n a : Int} {t : ByteArray} (h0 : 0 ≤ a) (h1 : a ≤ 300) : goodB 1 n t a = (inB n 0 999999999 && t.toList.isEmpty) := by rw [good_in h0 h1, if_pos rfl]
theorem good_2 {n a : Int} {t : ByteArray} (h0 : 0 ≤ a) (h1 : a ≤ 300) : goodB 2 n t a = (decide (n = 0) && nameB t) := by rw [good_in h0 h1, if_neg (by omega), if_pos rfl]
theorem good_3 {n a : Int} {t : ByteArray} (h0 : 0 ≤ a) (h1 : a ≤ 300) : goodB 3 n t a = (decide (n = 0) && signB t) := by rw [good_in h0 h1, if_neg (by omega), if_neg (by omega), if_pos rfl]
theorem good_no {k n a : Int} {t : ByteArray} (h1 : k ≠ 1) (h2 : k ≠ 2) (h3 : k ≠ 3) : goodB k n t a = false := by simp [goodB, h1, h2, h3]

set_option maxHeartbeats 800000 in
theorem implGood_any (k n a : Int) (t : ByteArray) (w : World) (hs : t.size ≤ maxLen) :
    Calls Tryd.prog 134 #[.agg #[.int .i64 k, .int .i64 n, .string t, .int .i64 a]] w fun e w' => e = .returned (.bool (goodB k n t a)) ∧ Below w.heap.size w w' := by
  by_cases ha : 0 ≤ a ∧ a ≤ 300
  · obtain ⟨ha0, ha1⟩ := ha
    by_cases k1 : k = 1
    · subst k1
      rw [good_1 ha0 ha1]
      go_enter Tryd.func134, Tryd.ntmps134
      go_wp2
      all_goals
        go_ret
        refine ⟨ret_bool ?_, (Below.refl _ _).alloc (Nat.le_refl _) _⟩
        simp [inB, *]
      all_goals omega
    · by_cases k2 : k = 2
      · subst k2
        rw [good_2 ha0 ha1]
        clear k1
        by_cases hn : n = 0
        · subst hn
          go_enter Tryd.func134, Tryd.ntmps134
          go_wp2_with (go_at_call 133; refine (isName_any _ _ hs).mono ?_; rintro e w' ⟨rfl, hb⟩)
          go_ret
          exact ⟨ret_bool (by simp), ((Below.refl _ _).alloc (Nat.le_refl _) _).trans (hb.mono (by simp))⟩
        · go_enter Tryd.func134, Tryd.ntmps134
          go_wp2
          go_ret
          exact ⟨ret_bool (by simp [hn]), (Below.refl _ _).alloc (Nat.le_refl _) _⟩
      · by_cases k3 : k = 3
        · subst k3
          rw [good_3 ha0 ha1]
          clear k1 k2
          by_cases hn : n = 0
          · subst hn
            go_enter Tryd.func134, Tryd.ntmps134
            go_wp2_with (go_at_call 161; refine (isSign_any _ _).mono ?_; rintro e w' ⟨rfl, hb⟩)
            go_ret
            exact ⟨ret_bool (by simp), ((Below.refl _ _).alloc (Nat.le_refl _) _).trans (hb.mono (by simp))⟩
          · go_enter Tryd.func134, Tryd.ntmps134
            go_wp2
            go_ret
            exact ⟨ret_bool (by simp [hn]), (Below.refl _ _).alloc (Nat.le_refl _) _⟩
        · rw [good_no k1 k2 k3]
          go_enter Tryd.func134, Tryd.ntmps134
          go_wp2
          go_ret
          exact ⟨rfl, (Below.refl _ _).alloc (Nat.le_refl _) _⟩
  · rw [good_out ha]
    by_cases ha0 : a < 0
    · clear ha
      go_enter Tryd.func134, Tryd.ntmps134
      go_wp2
      go_ret
      exact ⟨rfl, (Below.refl _ _).alloc (Nat.le_refl _) _⟩
    · have ha1 : 300 < a := by omega
      clear ha
      go_enter Tryd.func134, Tryd.ntmps134
      go_wp2
      go_ret
      exact ⟨rfl, (Below.refl _ _).alloc (Nat.le_refl _) _⟩

theorem nameB_no {t : ByteArray} (h : runFrom letB t 0 < t.size) : nameB t = false := by
  have : ¬ runFrom letB t 0 = t.size := by omega
  simp [nameB, this]
theorem nameB_yes {t : ByteArray} (h : runFrom letB t 0 = t.size) : nameB t = inB t.size 1 8 := by
  have e : t.toList.isEmpty = decide (t.size = 0) := by
    rw [Lib.toList_data, Bool.eq_iff_iff, List.isEmpty_iff, decide_eq_true_iff, ← List.length_eq_zero_iff, Array.length_toList]
    exact Iff.rfl
  unfold nameB inB
  rw [e, decide_eq_true h, Bool.eq_iff_iff]
  simp only [Bool.and_eq_true, Bool.not_eq_true', decide_eq_true_iff, decide_eq_false_iff_not, and_true]
  omega

theorem l1Sign_0 (s : ByteArray) (w : World) (hs : s.size ≤ maxLen) :
    Calls Tryd.prog 120 #[.string s, .int .i64 0] w fun e w' => e = .returned (.string (best s 0)) ∧ Below w.heap.size w w' :=
  l1Sign_any s 0 w hs (by omega) (by omega) (by omega)

set_option maxHeartbeats 800000 in
theorem specGood_any (k n a : Int) (t : ByteArray) (w : World) (hs : t.size ≤ 1048576) :
    Calls Tryd.prog 131 #[.agg #[.int .i64 k, .int .i64 n, .string t, .int .i64 a]] w fun e w' => e = .returned (.bool (goodB k n t a)) ∧ Below w.heap.size w w' := by
  by_cases ha : 0 ≤ a ∧ a ≤ 300
  · obtain ⟨ha0, ha1⟩ := ha
    have hin : inB a 0 300 = true := by simp [inB, ha0, ha1]
    by_cases k1 : k = 1
    · subst k1
      rw [good_1 ha0 ha1]
      go_enter Tryd.func131, Tryd.ntmps131
      go_wp2_with (go_at_call 79; refine (l1In_any _ _ _ _).mono ?_; rintro e w' ⟨rfl, rfl⟩)
      all_goals
        go_ret
        exact ⟨ret_bool (by simp [*]), (Below.refl _ _).alloc (Nat.le_refl _) _⟩
    · by_cases k2 : k = 2
      · subst k2
        rw [good_2 ha0 ha1]
        clear k1
        go_enter Tryd.func131, Tryd.ntmps131
        go_wp2_with (go_at_call 79; refine (l1In_any _ _ _ _).mono ?_; rintro e w' ⟨rfl, rfl⟩)
        go_loopw [3] (fun i w' => ∃ j : Nat, j ≤ t.size ∧ i = .int .i64 j ∧ runFrom letB t 0 = j + runFrom letB t j ∧ w' = w.alloc (.cells #[.int .i64 2, .int .i64 n, .string t, .int .i64 a] 87)) (fun i _ => t.size - (intOf i).toNat)
        case atStart => exact ⟨0, by omega, rfl, by omega, rfl⟩
        case round =>
          obtain ⟨j, hj, rfl, hr, rfl⟩ := hrel
          have Hr := hide hr
          clear hr
          by_cases hlt : j < t.size
          · have hlt' : (j : Int) < (t.size : Int) := by omega
            by_cases hl : letB (t[j]'hlt).toNat = true
            · have hru := hide (runFrom_yes letB t j hlt hl)
              go_wp2_with (go_at_call 119; refine (l1Letter_any _ _).mono ?_; rintro e w' ⟨rfl, rfl⟩)
              refine ⟨⟨j + 1, by omega, by go_num, ?_, trivial⟩, by simp [intOf]; omega⟩
              have := Hr.out; have := hru.out; omega
            · rw [Bool.not_eq_true] at hl
              have hru := hide (runFrom_no letB t j hlt hl)
              go_wp2_with (go_at_call 119; refine (l1Letter_any _ _).mono ?_; rintro e w' ⟨rfl, rfl⟩)
              go_ret
              refine ⟨ret_bool ?_, (Below.refl _ _).alloc (Nat.le_refl _) _⟩
              rw [nameB_no (by have := Hr.out; have := hru.out; omega)]
              simp
          · have hre := hide (runFrom_end letB t j (by omega))
            have hny : nameB t = inB t.size 1 8 := nameB_yes (by have := Hr.out; have := hre.out; omega)
            have Hny := hide hny
            clear hny
            by_cases hn : n = 0
            · subst hn
              go_wp2_with (go_at_call 79; refine (l1In_any _ _ _ _).mono ?_; rintro e w' ⟨rfl, rfl⟩)
              go_ret
              refine ⟨ret_bool ?_, (Below.refl _ _).alloc (Nat.le_refl _) _⟩
              rw [Hny.out]
              try simp
            · go_wp2_with fail
              go_ret
              exact ⟨ret_bool (by simp [hn]), (Below.refl _ _).alloc (Nat.le_refl _) _⟩
      · by_cases k3 : k = 3
        · subst k3
          rw [good_3 ha0 ha1]
          clear k1 k2
          by_cases hn : n = 0
          · subst hn
            go_enter Tryd.func131, Tryd.ntmps131
            by_cases he : t.toList.isEmpty = true
            · go_wp2_with (go_at_call 79; refine (l1In_any _ _ _ _).mono ?_; rintro e w' ⟨rfl, rfl⟩)
              go_region
              go_wp2
              go_ret
              exact ⟨ret_bool (by simp [signB, he]), ((Below.refl _ _).alloc (Nat.le_refl _) _).drew⟩
            · rw [Bool.not_eq_true] at he
              have hm : t.size ≤ maxLen := by unfold maxLen; omega
              have HC : ∀ w1, Below (w.alloc (.cells #[.int .i64 3, .int .i64 0, .string t, .int .i64 a] 87)).drew.heap.size (w.alloc (.cells #[.int .i64 3, .int .i64 0, .string t, .int .i64 a] 87)).drew w1 → w1.cell? ⟨w.heap.size, 2, none⟩ = some (.string t) := fun w1 h => by
                rw [h.cell (by simp)]; simp
              go_wp2_with (go_at_call 79; refine (l1In_any _ _ _ _).mono ?_; rintro e w' ⟨rfl, rfl⟩)
              go_region_with (go_at_call 120; refine (l1Sign_0 _ _ hm).mono ?_; rintro e w1 ⟨rfl, hb1⟩; have hc1 := HC w1 hb1)
              all_goals
                clear HC
                have hb2 : Below w.heap.size w w1 := (((Below.refl _ _).alloc (Nat.le_refl _) _).drew).trans (hb1.mono (by simp))
                go_wp2
                go_ret
                exact ⟨ret_bool (by simp [signB, he]), hb2⟩
          · go_enter Tryd.func131, Tryd.ntmps131
            go_wp2_with (go_at_call 79; refine (l1In_any _ _ _ _).mono ?_; rintro e w' ⟨rfl, rfl⟩)
            go_quiet (fail)
            go_wp2
            go_ret
            exact ⟨ret_bool (by simp [hn]), below_drewN ((Below.refl _ _).alloc (Nat.le_refl _) _) _⟩
        · rw [good_no k1 k2 k3]
          go_enter Tryd.func131, Tryd.ntmps131
          go_wp2_with (go_at_call 79; refine (l1In_any _ _ _ _).mono ?_; rintro e w' ⟨rfl, rfl⟩)
          go_ret
          exact ⟨rfl, (Below.refl _ _).alloc (Nat.le_refl _) _⟩
  · rw [good_out ha]
    have hin : inB a 0 300 = false := by
      rw [Bool.eq_false_iff]; intro hc; simp [inB] at hc; omega
    go_enter Tryd.func131, Tryd.ntmps131
    go_wp2_with (go_at_call 79; refine (l1In_any _ _ _ _).mono ?_; rintro e w' ⟨rfl, rfl⟩)
    go_ret
    exact ⟨rfl, (Below.refl _ _).alloc (Nat.le_refl _) _⟩
end Go.Proofs.YtjffignbiabmaaaDoor.W
