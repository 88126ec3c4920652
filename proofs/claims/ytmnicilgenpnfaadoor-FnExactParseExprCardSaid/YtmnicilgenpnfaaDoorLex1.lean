/-
  Contracts of l1Token (the specification's) and of wordAhead, numberWord, nameWord (the program's): each tells the word that stands there, or none. Conditions: the text has at most 1000 bytes.
-/
import Derived.Test.YtmnicilgenpnfaaDoorLexP
import Derived.Test.YtmnicilgenpnfaaDoorShelf
namespace Go.Proofs.YtmnicilgenpnfaaDoor.W
open Go.ChangeShapes Go.WideShapes Go.ChangeAt Go.RowKit

def tokV (o : Option Wd) (p : Int) : Value := match o with
  | some d => .agg #[.int .i64 d.kind, .int .i64 d.num, .string d.text, .int .i64 p]
  | none => .agg #[.int .i64 0, .int .i64 0, .string ⟨#[]⟩, .int .i64 0]

theorem word_num (s : ByteArray) (p : Nat) (h0 : 0 < runFrom digB s p) (h9 : runFrom digB s p ≤ 9) (h1 : 1 < runFrom digB s p → s.data.toList[p]? ≠ some 48) : wordAt s p = some ⟨1, numL ((s.data.toList.drop p).take (runFrom digB s p)), ⟨#[]⟩, runFrom digB s p⟩ := by
  unfold wordAt; rw [if_pos h0, if_neg (by rintro (h | ⟨h, h2⟩); omega; exact h1 h h2)]
theorem word_num_no (s : ByteArray) (p : Nat) (h0 : 0 < runFrom digB s p) (h9 : 9 < runFrom digB s p ∨ (1 < runFrom digB s p ∧ s.data.toList[p]? = some 48)) : wordAt s p = none := by
  unfold wordAt; rw [if_pos h0, if_pos h9]
theorem word_name (s : ByteArray) (p : Nat) (hd : runFrom digB s p = 0) (h0 : 0 < runFrom letB s p) (h8 : runFrom letB s p ≤ 8) : wordAt s p = some ⟨2, 0, s.extract p (p + runFrom letB s p), runFrom letB s p⟩ := by
  unfold wordAt; rw [if_neg (by omega), if_pos h0, if_neg (by omega)]
theorem word_name_no (s : ByteArray) (p : Nat) (hd : runFrom digB s p = 0) (h0 : 0 < runFrom letB s p) (h8 : 8 < runFrom letB s p) : wordAt s p = none := by
  unfold wordAt; rw [if_neg (by omega), if_pos h0, if_pos h8]
theorem word_sign (s : ByteArray) (p : Nat) (hd : runFrom digB s p = 0) (hl : runFrom letB s p = 0) (h0 : (best s p).size ≠ 0) : wordAt s p = some ⟨3, 0, best s p, (best s p).size⟩ := by
  unfold wordAt; rw [if_neg (by omega), if_neg (by omega), if_neg h0]
theorem word_sign_no (s : ByteArray) (p : Nat) (hd : runFrom digB s p = 0) (hl : runFrom letB s p = 0) (h0 : (best s p).size = 0) : wordAt s p = none := by
  unfold wordAt; rw [if_neg (by omega), if_neg (by omega), if_pos h0]

theorem byte_48 (s : ByteArray) (p : Nat) (h : p < s.size) : s.data.toList[p]? = some 48 ↔ ((s[p]'h).toNat : Int) = 48 := by
  rw [ba_get s p h, Option.some_inj]
  constructor
  · intro e; rw [e]; rfl
  · intro e; exact UInt8.toNat_inj.1 (by simpa using (by omega : (s[p]'h).toNat = 48))

def endOf (o : Option Wd) (p : Nat) : Int := match o with
  | some d => ((p + d.len : Nat) : Int)
  | none => 0

set_option maxHeartbeats 1000000 in
theorem l1Token_num (s : ByteArray) (p : Nat) (w : World) (hs : s.size ≤ 1000) (hp : p < s.size) (hd : digB (s[p]'hp).toNat = true) :
    Calls Tryd.prog 17 #[.string s, .int .i64 p] w fun e w' => e = .returned (.tuple #[tokV (wordAt s p) p, .int .i64 (endOf (wordAt s p) p)]) ∧ Below w.heap.size w w' := by
  have hp' : (p : Int) < (s.size : Int) := by omega
  have hr1 := hide (runFrom_yes digB s p hp hd)
  have h48 := hide (byte_48 s p hp)
  go_enter Tryd.func17, Tryd.ntmps17
  go_wp2_with (go_at_call 25; refine (l1Digit_any _ _).mono ?_; rintro e w' ⟨rfl, rfl⟩)
  go_loopw [6, 8] (fun en n w' => ∃ q : Nat, p ≤ q ∧ q ≤ s.size ∧ q ≤ p + 9 ∧ (((s[p]'hp).toNat : Int) = 48 → q ≤ p + 1) ∧ runFrom digB s p = (q - p) + runFrom digB s q ∧ en = .int .i64 q ∧ n = .int .i64 (numL ((s.data.toList.drop p).take (q - p))) ∧ w' = w.alloc (.cells #[.int .i64 0, .int .i64 0, .string ⟨#[]⟩, .int .i64 0] 44)) (fun en _ _ => s.size - (intOf en).toNat)
  case atStart => exact ⟨p, by omega, by omega, by omega, by omega, by omega, rfl, by simp [numL], rfl⟩
  case round =>
    obtain ⟨q, hq1, hq2, hq3, hq4, hq5, rfl, rfl, rfl⟩ := hrel
    have Hq4 := hide hq4
    have Hq5 := hide hq5
    clear hq4 hq5
    by_cases hlt : q < s.size
    · have hlt' : (q : Int) < (s.size : Int) := by omega
      by_cases hdq : digB (s[q]'hlt).toNat = true
      · have hrq := hide (runFrom_yes digB s q hlt hdq)
        have hdr : (48 : Int) ≤ ((s[q]'hlt).toNat : Int) ∧ ((s[q]'hlt).toNat : Int) ≤ 57 := by simpa [digB] using hdq
        obtain ⟨hdr1, hdr2⟩ := hdr
        by_cases h9 : p + 9 ≤ q
        · have h9' : (9 : Int) ≤ (q : Int) - (p : Int) := by omega
          have HW : Hid (wordAt s p = none) := word_num_no s p (by have := hr1.out; omega) (.inl (by have := Hq5.out; have := hrq.out; omega))
          go_wp2_with (go_at_call 25; refine (l1Digit_any _ _).mono ?_; rintro e w' ⟨rfl, rfl⟩)
          rw [HW.out]
          refine bodyPost_ret (v := .tuple #[tokV none p, .int .i64 0]) (by simp [results, Tryd.results17, go_sem, tokV]) rfl ⟨rfl, ?_⟩
          exact (Below.refl _ _).alloc (Nat.le_refl _) _
        · have h9' : (q : Int) - (p : Int) < 9 := by omega
          by_cases hqp : p < q
          · have hqp' : (p : Int) < (q : Int) := by omega
            by_cases hz : (((s[p]'hp).toNat : Int) == 48) = true
            · have HW : Hid (wordAt s p = none) := word_num_no s p (by have := hr1.out; omega) (.inr ⟨by have := Hq5.out; have := hrq.out; omega, h48.out.2 (by simpa using hz)⟩)
              go_wp2_with (go_at_call 25; refine (l1Digit_any _ _).mono ?_; rintro e w' ⟨rfl, rfl⟩)
              rw [HW.out]
              refine bodyPost_ret (v := .tuple #[tokV none p, .int .i64 0]) (by simp [results, Tryd.results17, go_sem, tokV]) rfl ⟨rfl, ?_⟩
              exact (Below.refl _ _).alloc (Nat.le_refl _) _
            · rw [Bool.not_eq_true] at hz
              have hbd := num_bd s p (q - p) (by have := Hq5.out; omega) (by omega)
              obtain ⟨hb1, hb2⟩ := hbd
              have HN := hide (num_step s p q hq1 hlt)
              go_wp2_with (go_at_call 25; refine (l1Digit_any _ _).mono ?_; rintro e w' ⟨rfl, rfl⟩)
              refine ⟨⟨q + 1, by omega, by omega, by omega, ?_, ?_, by go_num, ?_, trivial⟩, by simp [intOf]; omega⟩
              · intro h; rw [beq_eq_false_iff_ne] at hz; exact absurd h hz
              · have := Hq5.out; have := hrq.out; omega
              · rw [HN.out, Int.mul_comm]
          · have hqp' : ¬ (p : Int) < (q : Int) := by omega
            have hbd := num_bd s p (q - p) (by have := Hq5.out; omega) (by omega)
            obtain ⟨hb1, hb2⟩ := hbd
            have HN := hide (num_step s p q hq1 hlt)
            go_wp2_with (go_at_call 25; refine (l1Digit_any _ _).mono ?_; rintro e w' ⟨rfl, rfl⟩)
            refine ⟨⟨q + 1, by omega, by omega, by omega, by omega, ?_, by go_num, ?_, trivial⟩, by simp [intOf]; omega⟩
            · have := Hq5.out; have := hrq.out; omega
            · rw [HN.out, Int.mul_comm]
      · rw [Bool.not_eq_true] at hdq
        have hrq := hide (runFrom_no digB s q hlt hdq)
        have HW : Hid (wordAt s p = some ⟨1, numL ((s.data.toList.drop p).take (q - p)), ⟨#[]⟩, q - p⟩) := by
          have e : runFrom digB s p = q - p := by have := Hq5.out; have := hrq.out; omega
          have := word_num s p (by have := hr1.out; omega) (by omega) (fun h1 h2 => by have := Hq4.out (h48.out.1 h2); omega)
          rw [e] at this; exact this
        go_wp2_with (go_at_call 25; refine (l1Digit_any _ _).mono ?_; rintro e w' ⟨rfl, rfl⟩)
        rw [HW.out]
        refine bodyPost_ret (v := .tuple #[.agg #[.int .i64 1, .int .i64 (numL ((s.data.toList.drop p).take (q - p))), .string ⟨#[]⟩, .int .i64 p], .int .i64 q]) (by simp [results, Tryd.results17, go_sem]) rfl ⟨?_, ?_⟩
        · simp [tokV, endOf]; omega
        · exact (Below.refl _ _).alloc (Nat.le_refl _) _
    · have hrq := hide (runFrom_end digB s q (by omega))
      have HW : Hid (wordAt s p = some ⟨1, numL ((s.data.toList.drop p).take (q - p)), ⟨#[]⟩, q - p⟩) := by
        have e : runFrom digB s p = q - p := by have := Hq5.out; have := hrq.out; omega
        have := word_num s p (by have := hr1.out; omega) (by omega) (fun h1 h2 => by have := Hq4.out (h48.out.1 h2); omega)
        rw [e] at this; exact this
      go_wp2_with (go_at_call 25; refine (l1Digit_any _ _).mono ?_; rintro e w' ⟨rfl, rfl⟩)
      rw [HW.out]
      refine bodyPost_ret (v := .tuple #[.agg #[.int .i64 1, .int .i64 (numL ((s.data.toList.drop p).take (q - p))), .string ⟨#[]⟩, .int .i64 p], .int .i64 q]) (by simp [results, Tryd.results17, go_sem]) rfl ⟨?_, ?_⟩
      · simp [tokV, endOf]; omega
      · exact (Below.refl _ _).alloc (Nat.le_refl _) _

set_option maxHeartbeats 1000000 in
theorem l1Token_name (s : ByteArray) (p : Nat) (w : World) (hs : s.size ≤ 1000) (hp : p < s.size) (hnd : digB (s[p]'hp).toNat = false) (hd : letB (s[p]'hp).toNat = true) :
    Calls Tryd.prog 17 #[.string s, .int .i64 p] w fun e w' => e = .returned (.tuple #[tokV (wordAt s p) p, .int .i64 (endOf (wordAt s p) p)]) ∧ Below w.heap.size w w' := by
  have hp' : (p : Int) < (s.size : Int) := by omega
  have hr0 := hide (runFrom_no digB s p hp hnd)
  have hr1 := hide (runFrom_yes letB s p hp hd)
  go_enter Tryd.func17, Tryd.ntmps17
  go_wp2_with (first | (go_at_call 25; refine (l1Digit_any _ _).mono ?_; rintro e w' ⟨rfl, rfl⟩) | (go_at_call 26; refine (l1Letter_any _ _).mono ?_; rintro e w' ⟨rfl, rfl⟩))
  go_loopw [6] (fun en w' => ∃ q : Nat, p ≤ q ∧ q ≤ s.size ∧ runFrom letB s p = (q - p) + runFrom letB s q ∧ en = .int .i64 q ∧ w' = w.alloc (.cells #[.int .i64 0, .int .i64 0, .string ⟨#[]⟩, .int .i64 0] 44)) (fun en _ => s.size - (intOf en).toNat)
  case atStart => exact ⟨p, by omega, by omega, by omega, rfl, rfl⟩
  case round =>
    obtain ⟨q, hq1, hq2, hq5, rfl, rfl⟩ := hrel
    have Hq5 := hide hq5
    clear hq5
    by_cases hlt : q < s.size
    · have hlt' : (q : Int) < (s.size : Int) := by omega
      by_cases hdq : letB (s[q]'hlt).toNat = true
      · have hrq := hide (runFrom_yes letB s q hlt hdq)
        go_wp2_with (go_at_call 26; refine (l1Letter_any _ _).mono ?_; rintro e w' ⟨rfl, rfl⟩)
        refine ⟨⟨q + 1, by omega, by omega, ?_, by go_num, trivial⟩, by simp [intOf]; omega⟩
        have := Hq5.out; have := hrq.out; omega
      · rw [Bool.not_eq_true] at hdq
        have hrq := hide (runFrom_no letB s q hlt hdq)
        have he : Hid (runFrom letB s p = q - p) := by have := Hq5.out; have := hrq.out; exact (show _ = _ by omega)
        by_cases h8 : (8 : Int) < (q : Int) - (p : Int)
        · have HW : Hid (wordAt s p = none) := word_name_no s p hr0.out (by have := he.out; have := hr1.out; omega) (by have := he.out; omega)
          go_wp2_with (go_at_call 26; refine (l1Letter_any _ _).mono ?_; rintro e w' ⟨rfl, rfl⟩)
          rw [HW.out]
          refine bodyPost_ret (v := .tuple #[tokV none p, .int .i64 0]) (by simp [results, Tryd.results17, go_sem, tokV]) rfl ⟨rfl, ?_⟩
          exact (Below.refl _ _).alloc (Nat.le_refl _) _
        · have HW : Hid (wordAt s p = some ⟨2, 0, s.extract p q, q - p⟩) := by
            have := word_name s p hr0.out (by have := he.out; have := hr1.out; omega) (by have := he.out; omega)
            rw [he.out, show p + (q - p) = q by omega] at this; exact this
          go_wp2_with (go_at_call 26; refine (l1Letter_any _ _).mono ?_; rintro e w' ⟨rfl, rfl⟩)
          rw [HW.out]
          refine bodyPost_ret (v := .tuple #[.agg #[.int .i64 2, .int .i64 0, .string (s.extract p q), .int .i64 p], .int .i64 q]) (by simp [results, Tryd.results17, go_sem]) rfl ⟨?_, ?_⟩
          · simp [tokV, endOf]; omega
          · exact (Below.refl _ _).alloc (Nat.le_refl _) _
    · have hrq := hide (runFrom_end letB s q (by omega))
      have he : Hid (runFrom letB s p = q - p) := by have := Hq5.out; have := hrq.out; exact (show _ = _ by omega)
      by_cases h8 : (8 : Int) < (q : Int) - (p : Int)
      · have HW : Hid (wordAt s p = none) := word_name_no s p hr0.out (by have := he.out; have := hr1.out; omega) (by have := he.out; omega)
        go_wp2_with (go_at_call 26; refine (l1Letter_any _ _).mono ?_; rintro e w' ⟨rfl, rfl⟩)
        rw [HW.out]
        refine bodyPost_ret (v := .tuple #[tokV none p, .int .i64 0]) (by simp [results, Tryd.results17, go_sem, tokV]) rfl ⟨rfl, ?_⟩
        exact (Below.refl _ _).alloc (Nat.le_refl _) _
      · have HW : Hid (wordAt s p = some ⟨2, 0, s.extract p q, q - p⟩) := by
          have := word_name s p hr0.out (by have := he.out; have := hr1.out; omega) (by have := he.out; omega)
          rw [he.out, show p + (q - p) = q by omega] at this; exact this
        go_wp2_with (go_at_call 26; refine (l1Letter_any _ _).mono ?_; rintro e w' ⟨rfl, rfl⟩)
        rw [HW.out]
        refine bodyPost_ret (v := .tuple #[.agg #[.int .i64 2, .int .i64 0, .string (s.extract p q), .int .i64 p], .int .i64 q]) (by simp [results, Tryd.results17, go_sem]) rfl ⟨?_, ?_⟩
        · simp [tokV, endOf]; omega
        · exact (Below.refl _ _).alloc (Nat.le_refl _) _

theorem l1Sign_nat (s : ByteArray) (p : Nat) (w : World) (hs : s.size ≤ maxLen) (hp : p ≤ s.size) (hp2 : p ≤ 1000000) :
    Calls Tryd.prog 27 #[.string s, .int .i64 p] w fun e w' => e = .returned (.string (best s p)) ∧ Below w.heap.size w w' := by
  have := l1Sign_any s p w hs (by omega) (by omega) (by omega)
  rw [Int.toNat_natCast] at this
  exact this

theorem isEmpty_size (t : ByteArray) : t.toList.isEmpty = decide (t.size = 0) := by
  rw [Lib.toList_data, Bool.eq_iff_iff, List.isEmpty_iff, decide_eq_true_iff, ← List.length_eq_zero_iff, Array.length_toList]
  exact Iff.rfl

set_option maxHeartbeats 1000000 in
theorem l1Token_sign (s : ByteArray) (p : Nat) (w : World) (hs : s.size ≤ 1000) (hp : p < s.size) (hnd : digB (s[p]'hp).toNat = false) (hd : letB (s[p]'hp).toNat = false) :
    Calls Tryd.prog 17 #[.string s, .int .i64 p] w fun e w' => e = .returned (.tuple #[tokV (wordAt s p) p, .int .i64 (endOf (wordAt s p) p)]) ∧ Below w.heap.size w w' := by
  have hp' : (p : Int) < (s.size : Int) := by omega
  have hr0 := hide (runFrom_no digB s p hp hnd)
  have hr1 := hide (runFrom_no letB s p hp hd)
  have hm : s.size ≤ maxLen := by unfold maxLen; omega
  have hbz : (best s p).size ≤ 2 := bestTo_size s p 19 (by rw [sgs_len]; omega)
  go_enter Tryd.func17, Tryd.ntmps17
  go_wp2_with (first | (go_at_call 25; refine (l1Digit_any _ _).mono ?_; rintro e w' ⟨rfl, rfl⟩) | (go_at_call 26; refine (l1Letter_any _ _).mono ?_; rintro e w' ⟨rfl, rfl⟩))
  refine (l1Sign_nat s p _ hm (by omega) (by omega)).mono ?_
  rintro e w1 ⟨rfl, hb1⟩
  have c0 : w1.cell? ⟨w.heap.size, 0, none⟩ = some (.int .i64 0) := by rw [hb1.cell (by simp)]; simp
  have c1 : w1.cell? ⟨w.heap.size, 1, none⟩ = some (.int .i64 0) := by rw [hb1.cell (by simp)]; simp
  have c2 : w1.cell? ⟨w.heap.size, 2, none⟩ = some (.string ⟨#[]⟩) := by rw [hb1.cell (by simp)]; simp
  have c3 : w1.cell? ⟨w.heap.size, 3, none⟩ = some (.int .i64 0) := by rw [hb1.cell (by simp)]; simp
  have f0 : ∀ i, w1.frozen? ⟨w.heap.size, i, none⟩ = false := fun i => by rw [hb1.frozen (by simp)]; simp
  have hB1 : Below w.heap.size w w1 := ((Below.refl _ _).alloc (Nat.le_refl _) _).trans (hb1.mono (by simp))
  clear hb1
  by_cases he : (best s p).toList.isEmpty = true
  · have HW : Hid (wordAt s p = none) := word_sign_no s p hr0.out hr1.out (by simpa [isEmpty_size] using he)
    go_wp2_with fail
    rw [HW.out]
    refine bodyPost_ret (v := .tuple #[tokV none p, .int .i64 0]) (by simp [results, Tryd.results17, go_sem, tokV, c0, c1, c2, c3]) rfl ⟨rfl, ?_⟩
    exact ((((hB1.setCell (Nat.le_refl _) _).setCell (Nat.le_refl _) _).setCell (Nat.le_refl _) _).setCell (Nat.le_refl _) _)
  · rw [Bool.not_eq_true] at he
    have HW : Hid (wordAt s p = some ⟨3, 0, best s p, (best s p).size⟩) := word_sign s p hr0.out hr1.out (by simpa [isEmpty_size] using he)
    go_wp2_with fail
    rw [HW.out]
    refine bodyPost_ret (v := .tuple #[.agg #[.int .i64 3, .int .i64 0, .string (best s p), .int .i64 p], .int .i64 ((p : Int) + ((best s p).size : Int))]) (by simp [results, Tryd.results17, go_sem, c0, c1, c2, c3]) rfl ⟨?_, ?_⟩
    · simp [tokV, endOf]
    · exact ((((hB1.setCell (Nat.le_refl _) _).setCell (Nat.le_refl _) _).setCell (Nat.le_refl _) _).setCell (Nat.le_refl _) _)

theorem l1Token_any (s : ByteArray) (p : Nat) (w : World) (hs : s.size ≤ 1000) (hp : p < s.size) :
    Calls Tryd.prog 17 #[.string s, .int .i64 p] w fun e w' => e = .returned (.tuple #[tokV (wordAt s p) p, .int .i64 (endOf (wordAt s p) p)]) ∧ Below w.heap.size w w' := by
  cases hd : digB (s[p]'hp).toNat
  · cases hl : letB (s[p]'hp).toNat
    · exact l1Token_sign s p w hs hp hd hl
    · exact l1Token_name s p w hs hp hd hl
  · exact l1Token_num s p w hs hp hd

/-! ### the program's -/
set_option maxHeartbeats 400000 in
theorem Clone_any (s : ByteArray) (w : World) (hlim : s.size ≤ 281474976710656) :
    Calls Tryd.prog 40 #[.string s] w fun e w' => e = .returned (.string s) ∧ Below w.heap.size w w' := by
  go_enter Tryd.func40, Tryd.ntmps40
  go_wp2_with (go_at_call 44; refine (Tryd.stringslite_Clone _ _ hlim).mono ?_; rintro e w' ⟨rfl, hb⟩)
  go_ret
  exact ⟨rfl, hb⟩

set_option maxHeartbeats 1000000 in
theorem nameWord_any (s : ByteArray) (w : World) (hs : s.size ≤ 1000) (h0 : 0 < s.size) (hd : runFrom digB s 0 = 0) (hl : runFrom letB s 0 = s.size) :
    Calls Tryd.prog 32 #[.string s] w fun e w' => e = .returned (.tuple #[tokV (wordAt s 0) 0, .int .i64 (endOf (wordAt s 0) 0)]) ∧ Below w.heap.size w w' := by
  have Hd := hide hd
  have Hl := hide hl
  clear hd hl
  by_cases h8 : (8 : Int) < (s.size : Int)
  · have HW : Hid (wordAt s 0 = none) := word_name_no s 0 Hd.out (by rw [Hl.out]; exact h0) (by rw [Hl.out]; omega)
    go_enter Tryd.func32, Tryd.ntmps32
    go_wp2_with fail
    rw [HW.out]
    refine bodyPost_ret (v := .tuple #[tokV none 0, .int .i64 0]) (by simp [results, Tryd.results32, go_sem, tokV]) rfl ⟨rfl, ?_⟩
    exact (Below.refl _ _).alloc (Nat.le_refl _) _
  · have HW : Hid (wordAt s 0 = some ⟨2, 0, s, s.size⟩) := by
      have := word_name s 0 Hd.out (by rw [Hl.out]; exact h0) (by rw [Hl.out]; omega)
      rw [Hl.out, Nat.zero_add] at this
      have e : s.extract 0 s.size = s := by
        apply ByteArray.ext
        apply Array.toList_inj.1
        rw [drop_ext s 0 (by omega)]; rfl
      rw [e] at this
      exact this
    have hlim : s.size ≤ 281474976710656 := by omega
    go_enter Tryd.func32, Tryd.ntmps32
    go_wp2_with fail
    refine (Clone_any s _ hlim).mono ?_
    rintro e w1 ⟨rfl, hb1⟩
    have c0 : w1.cell? ⟨w.heap.size, 0, none⟩ = some (.int .i64 0) := by rw [hb1.cell (by simp)]; simp
    have c1 : w1.cell? ⟨w.heap.size, 1, none⟩ = some (.int .i64 0) := by rw [hb1.cell (by simp)]; simp
    have c2 : w1.cell? ⟨w.heap.size, 2, none⟩ = some (.string ⟨#[]⟩) := by rw [hb1.cell (by simp)]; simp
    have c3 : w1.cell? ⟨w.heap.size, 3, none⟩ = some (.int .i64 0) := by rw [hb1.cell (by simp)]; simp
    have f0 : ∀ i, w1.frozen? ⟨w.heap.size, i, none⟩ = false := fun i => by rw [hb1.frozen (by simp)]; simp
    have hB1 : Below w.heap.size w w1 := ((Below.refl _ _).alloc (Nat.le_refl _) _).trans (hb1.mono (by simp))
    clear hb1
    go_wp2_with fail
    rw [HW.out]
    refine bodyPost_ret (v := .tuple #[.agg #[.int .i64 2, .int .i64 0, .string s, .int .i64 0], .int .i64 (s.size : Int)]) (by simp [results, Tryd.results32, go_sem, c0, c1, c2, c3]) rfl ⟨?_, ?_⟩
    · simp [tokV, endOf]
    · exact ((((hB1.setCell (Nat.le_refl _) _).setCell (Nat.le_refl _) _).setCell (Nat.le_refl _) _).setCell (Nat.le_refl _) _)
end Go.Proofs.YtmnicilgenpnfaaDoor.W
