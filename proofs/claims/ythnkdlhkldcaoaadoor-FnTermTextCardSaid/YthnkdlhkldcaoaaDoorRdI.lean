/-
  A number's text read by the specification: the contract of l3Int. Conditions: at most 2000 bytes. Written by wip/build/mk_rdi.py.
-/
import Derived.Test.YthnkdlhkldcaoaaDoorRdN
namespace Go.Proofs.YthnkdlhkldcaoaaDoor.W
open Go.ChangeShapes Go.WideShapes Go.ChangeAt Go.RowKit
set_option linter.unusedVariables false

theorem rb_get (s : ByteArray) (q : Nat) (h : q < s.size) : s.data.toList[q]? = some (s[q]'h) := by
  rw [List.getElem?_eq_getElem (by simpa using h)]; rfl
theorem rb_head (s : ByteArray) (h : 0 < s.size) : s.data.toList.head? = some (s[0]'h) := by
  rw [← rb_get s 0 h]; simp [List.head?_eq_getElem?]
theorem rb_tail (s : ByteArray) : (s.extract 1 s.size).data.toList = s.data.toList.tail := by
  rw [Lib.extract_to_end]; simp
theorem rb_len (s : ByteArray) : s.data.toList.length = s.size := by simp
theorem rb_is (b : UInt8) (n : Nat) (hn : n < 256) : b = UInt8.ofNat n ↔ ((b.toNat : Nat) : Int) = (n : Int) := by
  constructor
  · intro e; rw [e, UInt8.toNat_ofNat']; omega
  · intro e; apply UInt8.toNat_inj.1; rw [UInt8.toNat_ofNat']; omega
theorem dig_val {b : UInt8} : digB ((b.toNat : Nat) : Int) = true ↔ Lib.digitVal b = some (b.toNat - 48) := by
  unfold digB Lib.digitVal
  constructor
  · intro h
    simp at h
    rw [if_pos (by omega)]
  · intro h
    split at h
    · simp; omega
    · cases h
theorem dig_no {b : UInt8} (h : digB ((b.toNat : Nat) : Int) = false) : Lib.digitVal b = none := by
  unfold digB at h
  unfold Lib.digitVal
  rw [if_neg]
  simp at h
  omega
/-- A row with a byte that is no digit spells nothing. -/
theorem dec_no {l : List UInt8} {k : Nat} {b : UInt8} (hb : l[k]? = some b) (hn : Lib.digitVal b = none) : Lib.decFrom 0 l = none := by
  cases h : Lib.decFrom 0 l with
  | none => rfl
  | some n =>
    obtain ⟨d, hd⟩ := Lib.digit_of_decFrom l 0 n h k b hb
    rw [hn] at hd
    cases hd
theorem dec_bound {l : List UInt8} {j n : Nat} (h : Lib.decFrom 0 (l.take j) = some n) (hl : l.length ≤ 7) : n ≤ 9999999 := dec_lt h (by simp; omega)

set_option maxRecDepth 20000 in
set_option maxHeartbeats 4000000 in
theorem l3Int_any (s : ByteArray) (w : World) (hs : s.size ≤ 2000) :
    Calls Tryd.prog 16 #[.string s] w fun e w' => e = .returned (.tuple #[.int .i64 ((intL s.data.toList).getD 0), .bool (intL s.data.toList).isSome]) ∧ w' = w := by
  obtain ⟨R, hR⟩ : ∃ R, R = intL s.data.toList := ⟨_, rfl⟩
  rw [← hR]
  have HR := hide hR
  clear hR
  by_cases h1 : 1 < s.size
  · have h1' : (1 : Int) < (s.size : Int) := by omega
    have h0 : 0 < s.size := by omega
    by_cases hb : (((s[0]'h0).toNat : Int) == 45) = true
    · have hb0 : ((s[0]'h0).toNat : Int) = 45 := by simpa using hb
      obtain ⟨m, hm⟩ : ∃ m, m = s.extract 1 s.size := ⟨_, rfl⟩
      have HM := hide hm
      clear hm
      go_enter Tryd.func16, Tryd.ntmps16
      have HIL : Hid (R = if 1 ≤ m.data.toList.length ∧ m.data.toList.length ≤ 7 ∧ m.data.toList.head? ≠ some 48 then (Lib.decFrom 0 m.data.toList).map (fun (n : Nat) => -(n : Int)) else none) := hide (by
        rw [HR.out]
        unfold intL
        rw [← rb_tail, ← HM.out, if_pos]
        exact ⟨by rw [rb_len]; omega, by rw [rb_head s (by omega)]; exact congrArg some ((rb_is _ 45 (by decide)).2 hb0)⟩)
      have hml := rb_len m
      by_cases hb1 : inB (m.size : Int) 1 7 = true
      · have hz1 : 1 ≤ m.size ∧ m.size ≤ 7 := by simp [inB] at hb1; omega
        obtain ⟨hz1, hz7⟩ := hz1
        have hz0 : 0 < m.size := by omega
        have hz0' : (0 : Int) < (m.size : Int) := by omega
        by_cases h48 : (((m[0]'hz0).toNat : Int) == 48) = true
        · have h48' : m.data.toList.head? = some 48 := by rw [rb_head m hz0]; exact congrArg some ((rb_is _ 48 (by decide)).2 (by simpa using h48))
          have hgt : ((1 : Int) < (m.size : Int)) ∨ ¬ ((1 : Int) < (m.size : Int)) := by omega
          rcases hgt with hgt | hgt
          all_goals
            have HNo : Hid (R = none) := hide (by
              rw [HIL.out, if_neg]
              exact fun h => h.2.2 h48')
            rw [HNo.out]
            go_upto_region 4 with fail
            rw [← HM.out]
            go_wp2_with (first | (go_at_call 30; refine (l1Digit_any _ _).mono ?_; rintro e w1 ⟨rfl, hw⟩; obtain rfl := hw.symm; clear hw) | (go_at_call 29; refine (l1In_any _ _ _ _).mono ?_; rintro e w1 ⟨rfl, hw⟩; obtain rfl := hw.symm; clear hw))
            exact bodyPost_ret (v := .tuple #[.int .i64 0, .bool false]) (by simp [results, Tryd.results16, go_sem]) rfl ⟨rfl, rfl⟩
        · rw [Bool.not_eq_true] at h48
          have h48' : m.data.toList.head? ≠ some 48 := by
            rw [rb_head m hz0]
            intro hc
            simp only [Option.some.injEq] at hc
            have := (rb_is _ 48 (by decide)).1 hc
            rw [beq_eq_false_iff_ne] at h48
            exact h48 this
          have HP : Hid (m.data.toList.head? ≠ some 48) := hide h48'
          have HI2 : Hid (R = (Lib.decFrom 0 m.data.toList).map (fun (n : Nat) => -(n : Int))) := hide (by rw [HIL.out, if_pos ⟨by omega, by omega, HP.out⟩])
          clear HIL HP h48'
          go_upto_region 4 with fail
          rw [← HM.out]
          go_wp2_with (first | (go_at_call 30; refine (l1Digit_any _ _).mono ?_; rintro e w1 ⟨rfl, hw⟩; obtain rfl := hw.symm; clear hw) | (go_at_call 29; refine (l1In_any _ _ _ _).mono ?_; rintro e w1 ⟨rfl, hw⟩; obtain rfl := hw.symm; clear hw))
          go_loopw [5, 6] (fun n i w' => ∃ (q : Nat) (v : Nat), q ≤ m.size ∧ Lib.decFrom 0 (m.data.toList.take q) = some v ∧ n = .int .i64 (v : Int) ∧ i = .int .i64 (q : Int) ∧ w' = w) (fun _ i _ => m.size - (intOf i).toNat)
          case atStart => exact ⟨0, 0, by omega, rfl, rfl, rfl, rfl⟩
          case round =>
            obtain ⟨q, v, hq, hv, rfl, rfl, rfl⟩ := hrel
            have HV := hide hv
            have hv9 := dec_bound hv (by omega)
            clear hv
            by_cases hlt : q < m.size
            · have hlt' : (q : Int) < (m.size : Int) := by omega
              by_cases hdq : digB ((m[q]'hlt).toNat : Int) = true
              · have hdr : (48 : Int) ≤ ((m[q]'hlt).toNat : Int) ∧ ((m[q]'hlt).toNat : Int) ≤ 57 := by simpa [digB] using hdq
                obtain ⟨hdr1, hdr2⟩ := hdr
                have HN := hide (Lib.decFrom_take m.data.toList q 0 v _ _ HV.out (rb_get m q hlt) (dig_val.1 hdq))
                go_wp2_with (first | (go_at_call 30; refine (l1Digit_any _ _).mono ?_; rintro e w1 ⟨rfl, hw⟩; obtain rfl := hw.symm; clear hw) | (go_at_call 29; refine (l1In_any _ _ _ _).mono ?_; rintro e w1 ⟨rfl, hw⟩; obtain rfl := hw.symm; clear hw))
                refine ⟨⟨q + 1, v * 10 + ((m[q]'hlt).toNat - 48), by omega, HN.out, by go_num, by go_num, by first | rfl | trivial⟩, by simp [intOf]; omega⟩
              · rw [Bool.not_eq_true] at hdq
                have HNo : Hid (R = none) := hide (by rw [HI2.out, dec_no (rb_get m q hlt) (dig_no hdq)]; rfl)
                go_wp2_with (first | (go_at_call 30; refine (l1Digit_any _ _).mono ?_; rintro e w1 ⟨rfl, hw⟩; obtain rfl := hw.symm; clear hw) | (go_at_call 29; refine (l1In_any _ _ _ _).mono ?_; rintro e w1 ⟨rfl, hw⟩; obtain rfl := hw.symm; clear hw))
                rw [HNo.out]
                exact bodyPost_ret (v := .tuple #[.int .i64 0, .bool false]) (by simp [results, Tryd.results16, go_sem]) rfl ⟨rfl, rfl⟩
            · obtain rfl : q = m.size := by omega
              have HY : Hid (R = some (-(v : Int))) := hide (by
                have h1 := HV.out
                rw [List.take_of_length_le (by omega)] at h1
                rw [HI2.out, h1]; rfl)
              go_wp2_with (first | (go_at_call 30; refine (l1Digit_any _ _).mono ?_; rintro e w1 ⟨rfl, hw⟩; obtain rfl := hw.symm; clear hw) | (go_at_call 29; refine (l1In_any _ _ _ _).mono ?_; rintro e w1 ⟨rfl, hw⟩; obtain rfl := hw.symm; clear hw))
              rw [HY.out]
              exact bodyPost_ret (v := .tuple #[.int .i64 (-(v : Int)), .bool true]) (by simp [results, Tryd.results16, go_sem]) rfl ⟨rfl, rfl⟩
      · rw [Bool.not_eq_true] at hb1
        have hz : ¬ (1 ≤ m.size ∧ m.size ≤ 7) := by simp [inB] at hb1; omega
        have HNo : Hid (R = none) := hide (by
          rw [HIL.out, if_neg]
          exact fun h => hz ⟨by omega, by omega⟩)
        rw [HNo.out]
        go_upto_region 4 with fail
        rw [← HM.out]
        go_wp2_with (first | (go_at_call 30; refine (l1Digit_any _ _).mono ?_; rintro e w1 ⟨rfl, hw⟩; obtain rfl := hw.symm; clear hw) | (go_at_call 29; refine (l1In_any _ _ _ _).mono ?_; rintro e w1 ⟨rfl, hw⟩; obtain rfl := hw.symm; clear hw))
        exact bodyPost_ret (v := .tuple #[.int .i64 0, .bool false]) (by simp [results, Tryd.results16, go_sem]) rfl ⟨rfl, rfl⟩
    · rw [Bool.not_eq_true] at hb
      have hbn : ¬ ((s[0]'h0).toNat : Int) = 45 := by simpa using hb
      go_enter Tryd.func16, Tryd.ntmps16
      have HIL : Hid (R = if 1 ≤ s.data.toList.length ∧ s.data.toList.length ≤ 7 ∧ (s.data.toList.head? = some 48 → s.data.toList.length = 1) then (Lib.decFrom 0 s.data.toList).map (fun (n : Nat) => (n : Int)) else none) := hide (by
        rw [HR.out]
        unfold intL
        rw [if_neg]
        rintro ⟨-, hc⟩; rw [rb_head s h0, Option.some.injEq] at hc; exact hbn ((rb_is _ 45 (by decide)).1 hc))
      have hml := rb_len s
      by_cases hb1 : inB (s.size : Int) 1 7 = true
      · have hz1 : 1 ≤ s.size ∧ s.size ≤ 7 := by simp [inB] at hb1; omega
        obtain ⟨hz1, hz7⟩ := hz1
        have hz0 : 0 < s.size := by omega
        have hz0' : (0 : Int) < (s.size : Int) := by omega
        by_cases h48 : (((s[0]'hz0).toNat : Int) == 48) = true
        · have h48' : s.data.toList.head? = some 48 := by rw [rb_head s hz0]; exact congrArg some ((rb_is _ 48 (by decide)).2 (by simpa using h48))
          by_cases hgt : (1 : Int) < (s.size : Int)
          · have HNo : Hid (R = none) := hide (by
              rw [HIL.out, if_neg]
              exact fun h => by have := h.2.2 h48'; omega)
            rw [HNo.out]
            go_upto_region 4 with fail
            go_wp2_with (first | (go_at_call 30; refine (l1Digit_any _ _).mono ?_; rintro e w1 ⟨rfl, hw⟩; obtain rfl := hw.symm; clear hw) | (go_at_call 29; refine (l1In_any _ _ _ _).mono ?_; rintro e w1 ⟨rfl, hw⟩; obtain rfl := hw.symm; clear hw))
            exact bodyPost_ret (v := .tuple #[.int .i64 0, .bool false]) (by simp [results, Tryd.results16, go_sem]) rfl ⟨rfl, rfl⟩
          · have HP : Hid ((s.data.toList.head? = some 48 → s.data.toList.length = 1)) := hide (fun _ => by omega)
            exact absurd h1' hgt
        · rw [Bool.not_eq_true] at h48
          have h48' : s.data.toList.head? ≠ some 48 := by
            rw [rb_head s hz0]
            intro hc
            simp only [Option.some.injEq] at hc
            have := (rb_is _ 48 (by decide)).1 hc
            rw [beq_eq_false_iff_ne] at h48
            exact h48 this
          have HP : Hid ((s.data.toList.head? = some 48 → s.data.toList.length = 1)) := hide (fun h => absurd h h48')
          have HI2 : Hid (R = (Lib.decFrom 0 s.data.toList).map (fun (n : Nat) => (n : Int))) := hide (by rw [HIL.out, if_pos ⟨by omega, by omega, HP.out⟩])
          clear HIL HP h48'
          go_upto_region 4 with fail
          go_wp2_with (first | (go_at_call 30; refine (l1Digit_any _ _).mono ?_; rintro e w1 ⟨rfl, hw⟩; obtain rfl := hw.symm; clear hw) | (go_at_call 29; refine (l1In_any _ _ _ _).mono ?_; rintro e w1 ⟨rfl, hw⟩; obtain rfl := hw.symm; clear hw))
          go_loopw [5, 6] (fun n i w' => ∃ (q : Nat) (v : Nat), q ≤ s.size ∧ Lib.decFrom 0 (s.data.toList.take q) = some v ∧ n = .int .i64 (v : Int) ∧ i = .int .i64 (q : Int) ∧ w' = w) (fun _ i _ => s.size - (intOf i).toNat)
          case atStart => exact ⟨0, 0, by omega, rfl, rfl, rfl, rfl⟩
          case round =>
            obtain ⟨q, v, hq, hv, rfl, rfl, rfl⟩ := hrel
            have HV := hide hv
            have hv9 := dec_bound hv (by omega)
            clear hv
            by_cases hlt : q < s.size
            · have hlt' : (q : Int) < (s.size : Int) := by omega
              by_cases hdq : digB ((s[q]'hlt).toNat : Int) = true
              · have hdr : (48 : Int) ≤ ((s[q]'hlt).toNat : Int) ∧ ((s[q]'hlt).toNat : Int) ≤ 57 := by simpa [digB] using hdq
                obtain ⟨hdr1, hdr2⟩ := hdr
                have HN := hide (Lib.decFrom_take s.data.toList q 0 v _ _ HV.out (rb_get s q hlt) (dig_val.1 hdq))
                go_wp2_with (first | (go_at_call 30; refine (l1Digit_any _ _).mono ?_; rintro e w1 ⟨rfl, hw⟩; obtain rfl := hw.symm; clear hw) | (go_at_call 29; refine (l1In_any _ _ _ _).mono ?_; rintro e w1 ⟨rfl, hw⟩; obtain rfl := hw.symm; clear hw))
                refine ⟨⟨q + 1, v * 10 + ((s[q]'hlt).toNat - 48), by omega, HN.out, by go_num, by go_num, by first | rfl | trivial⟩, by simp [intOf]; omega⟩
              · rw [Bool.not_eq_true] at hdq
                have HNo : Hid (R = none) := hide (by rw [HI2.out, dec_no (rb_get s q hlt) (dig_no hdq)]; rfl)
                go_wp2_with (first | (go_at_call 30; refine (l1Digit_any _ _).mono ?_; rintro e w1 ⟨rfl, hw⟩; obtain rfl := hw.symm; clear hw) | (go_at_call 29; refine (l1In_any _ _ _ _).mono ?_; rintro e w1 ⟨rfl, hw⟩; obtain rfl := hw.symm; clear hw))
                rw [HNo.out]
                exact bodyPost_ret (v := .tuple #[.int .i64 0, .bool false]) (by simp [results, Tryd.results16, go_sem]) rfl ⟨rfl, rfl⟩
            · obtain rfl : q = s.size := by omega
              have HY : Hid (R = some ((v : Int))) := hide (by
                have h1 := HV.out
                rw [List.take_of_length_le (by omega)] at h1
                rw [HI2.out, h1]; rfl)
              go_wp2_with (first | (go_at_call 30; refine (l1Digit_any _ _).mono ?_; rintro e w1 ⟨rfl, hw⟩; obtain rfl := hw.symm; clear hw) | (go_at_call 29; refine (l1In_any _ _ _ _).mono ?_; rintro e w1 ⟨rfl, hw⟩; obtain rfl := hw.symm; clear hw))
              rw [HY.out]
              exact bodyPost_ret (v := .tuple #[.int .i64 ((v : Int)), .bool true]) (by simp [results, Tryd.results16, go_sem]) rfl ⟨rfl, rfl⟩
      · rw [Bool.not_eq_true] at hb1
        have hz : ¬ (1 ≤ s.size ∧ s.size ≤ 7) := by simp [inB] at hb1; omega
        have HNo : Hid (R = none) := hide (by
          rw [HIL.out, if_neg]
          exact fun h => hz ⟨by omega, by omega⟩)
        rw [HNo.out]
        go_upto_region 4 with fail
        go_wp2_with (first | (go_at_call 30; refine (l1Digit_any _ _).mono ?_; rintro e w1 ⟨rfl, hw⟩; obtain rfl := hw.symm; clear hw) | (go_at_call 29; refine (l1In_any _ _ _ _).mono ?_; rintro e w1 ⟨rfl, hw⟩; obtain rfl := hw.symm; clear hw))
        exact bodyPost_ret (v := .tuple #[.int .i64 0, .bool false]) (by simp [results, Tryd.results16, go_sem]) rfl ⟨rfl, rfl⟩
  · have h1' : ¬ (1 : Int) < (s.size : Int) := by omega
    go_enter Tryd.func16, Tryd.ntmps16
    have HIL : Hid (R = if 1 ≤ s.data.toList.length ∧ s.data.toList.length ≤ 7 ∧ (s.data.toList.head? = some 48 → s.data.toList.length = 1) then (Lib.decFrom 0 s.data.toList).map (fun (n : Nat) => (n : Int)) else none) := hide (by
      rw [HR.out]
      unfold intL
      rw [if_neg]
      rintro ⟨hc, -⟩; rw [rb_len] at hc; omega)
    have hml := rb_len s
    by_cases hb1 : inB (s.size : Int) 1 7 = true
    · have hz1 : 1 ≤ s.size ∧ s.size ≤ 7 := by simp [inB] at hb1; omega
      obtain ⟨hz1, hz7⟩ := hz1
      have hz0 : 0 < s.size := by omega
      have hz0' : (0 : Int) < (s.size : Int) := by omega
      by_cases h48 : (((s[0]'hz0).toNat : Int) == 48) = true
      · have h48' : s.data.toList.head? = some 48 := by rw [rb_head s hz0]; exact congrArg some ((rb_is _ 48 (by decide)).2 (by simpa using h48))
        by_cases hgt : (1 : Int) < (s.size : Int)
        · have HNo : Hid (R = none) := hide (by
            rw [HIL.out, if_neg]
            exact fun h => by have := h.2.2 h48'; omega)
          rw [HNo.out]
          go_upto_region 4 with fail
          go_wp2_with (first | (go_at_call 30; refine (l1Digit_any _ _).mono ?_; rintro e w1 ⟨rfl, hw⟩; obtain rfl := hw.symm; clear hw) | (go_at_call 29; refine (l1In_any _ _ _ _).mono ?_; rintro e w1 ⟨rfl, hw⟩; obtain rfl := hw.symm; clear hw))
          exact bodyPost_ret (v := .tuple #[.int .i64 0, .bool false]) (by simp [results, Tryd.results16, go_sem]) rfl ⟨rfl, rfl⟩
        · have HP : Hid ((s.data.toList.head? = some 48 → s.data.toList.length = 1)) := hide (fun _ => by omega)
          have HI2 : Hid (R = (Lib.decFrom 0 s.data.toList).map (fun (n : Nat) => (n : Int))) := hide (by rw [HIL.out, if_pos ⟨by omega, by omega, HP.out⟩])
          clear HIL HP h48'
          go_upto_region 4 with fail
          go_wp2_with (first | (go_at_call 30; refine (l1Digit_any _ _).mono ?_; rintro e w1 ⟨rfl, hw⟩; obtain rfl := hw.symm; clear hw) | (go_at_call 29; refine (l1In_any _ _ _ _).mono ?_; rintro e w1 ⟨rfl, hw⟩; obtain rfl := hw.symm; clear hw))
          go_loopw [5, 6] (fun n i w' => ∃ (q : Nat) (v : Nat), q ≤ s.size ∧ Lib.decFrom 0 (s.data.toList.take q) = some v ∧ n = .int .i64 (v : Int) ∧ i = .int .i64 (q : Int) ∧ w' = w) (fun _ i _ => s.size - (intOf i).toNat)
          case atStart => exact ⟨0, 0, by omega, rfl, rfl, rfl, rfl⟩
          case round =>
            obtain ⟨q, v, hq, hv, rfl, rfl, rfl⟩ := hrel
            have HV := hide hv
            have hv9 := dec_bound hv (by omega)
            clear hv
            by_cases hlt : q < s.size
            · have hlt' : (q : Int) < (s.size : Int) := by omega
              by_cases hdq : digB ((s[q]'hlt).toNat : Int) = true
              · have hdr : (48 : Int) ≤ ((s[q]'hlt).toNat : Int) ∧ ((s[q]'hlt).toNat : Int) ≤ 57 := by simpa [digB] using hdq
                obtain ⟨hdr1, hdr2⟩ := hdr
                have HN := hide (Lib.decFrom_take s.data.toList q 0 v _ _ HV.out (rb_get s q hlt) (dig_val.1 hdq))
                go_wp2_with (first | (go_at_call 30; refine (l1Digit_any _ _).mono ?_; rintro e w1 ⟨rfl, hw⟩; obtain rfl := hw.symm; clear hw) | (go_at_call 29; refine (l1In_any _ _ _ _).mono ?_; rintro e w1 ⟨rfl, hw⟩; obtain rfl := hw.symm; clear hw))
                refine ⟨⟨q + 1, v * 10 + ((s[q]'hlt).toNat - 48), by omega, HN.out, by go_num, by go_num, by first | rfl | trivial⟩, by simp [intOf]; omega⟩
              · rw [Bool.not_eq_true] at hdq
                have HNo : Hid (R = none) := hide (by rw [HI2.out, dec_no (rb_get s q hlt) (dig_no hdq)]; rfl)
                go_wp2_with (first | (go_at_call 30; refine (l1Digit_any _ _).mono ?_; rintro e w1 ⟨rfl, hw⟩; obtain rfl := hw.symm; clear hw) | (go_at_call 29; refine (l1In_any _ _ _ _).mono ?_; rintro e w1 ⟨rfl, hw⟩; obtain rfl := hw.symm; clear hw))
                rw [HNo.out]
                exact bodyPost_ret (v := .tuple #[.int .i64 0, .bool false]) (by simp [results, Tryd.results16, go_sem]) rfl ⟨rfl, rfl⟩
            · obtain rfl : q = s.size := by omega
              have HY : Hid (R = some ((v : Int))) := hide (by
                have h1 := HV.out
                rw [List.take_of_length_le (by omega)] at h1
                rw [HI2.out, h1]; rfl)
              go_wp2_with (first | (go_at_call 30; refine (l1Digit_any _ _).mono ?_; rintro e w1 ⟨rfl, hw⟩; obtain rfl := hw.symm; clear hw) | (go_at_call 29; refine (l1In_any _ _ _ _).mono ?_; rintro e w1 ⟨rfl, hw⟩; obtain rfl := hw.symm; clear hw))
              rw [HY.out]
              exact bodyPost_ret (v := .tuple #[.int .i64 ((v : Int)), .bool true]) (by simp [results, Tryd.results16, go_sem]) rfl ⟨rfl, rfl⟩
      · rw [Bool.not_eq_true] at h48
        have h48' : s.data.toList.head? ≠ some 48 := by
          rw [rb_head s hz0]
          intro hc
          simp only [Option.some.injEq] at hc
          have := (rb_is _ 48 (by decide)).1 hc
          rw [beq_eq_false_iff_ne] at h48
          exact h48 this
        have HP : Hid ((s.data.toList.head? = some 48 → s.data.toList.length = 1)) := hide (fun h => absurd h h48')
        have HI2 : Hid (R = (Lib.decFrom 0 s.data.toList).map (fun (n : Nat) => (n : Int))) := hide (by rw [HIL.out, if_pos ⟨by omega, by omega, HP.out⟩])
        clear HIL HP h48'
        go_upto_region 4 with fail
        go_wp2_with (first | (go_at_call 30; refine (l1Digit_any _ _).mono ?_; rintro e w1 ⟨rfl, hw⟩; obtain rfl := hw.symm; clear hw) | (go_at_call 29; refine (l1In_any _ _ _ _).mono ?_; rintro e w1 ⟨rfl, hw⟩; obtain rfl := hw.symm; clear hw))
        go_loopw [5, 6] (fun n i w' => ∃ (q : Nat) (v : Nat), q ≤ s.size ∧ Lib.decFrom 0 (s.data.toList.take q) = some v ∧ n = .int .i64 (v : Int) ∧ i = .int .i64 (q : Int) ∧ w' = w) (fun _ i _ => s.size - (intOf i).toNat)
        case atStart => exact ⟨0, 0, by omega, rfl, rfl, rfl, rfl⟩
        case round =>
          obtain ⟨q, v, hq, hv, rfl, rfl, rfl⟩ := hrel
          have HV := hide hv
          have hv9 := dec_bound hv (by omega)
          clear hv
          by_cases hlt : q < s.size
          · have hlt' : (q : Int) < (s.size : Int) := by omega
            by_cases hdq : digB ((s[q]'hlt).toNat : Int) = true
            · have hdr : (48 : Int) ≤ ((s[q]'hlt).toNat : Int) ∧ ((s[q]'hlt).toNat : Int) ≤ 57 := by simpa [digB] using hdq
              obtain ⟨hdr1, hdr2⟩ := hdr
              have HN := hide (Lib.decFrom_take s.data.toList q 0 v _ _ HV.out (rb_get s q hlt) (dig_val.1 hdq))
              go_wp2_with (first | (go_at_call 30; refine (l1Digit_any _ _).mono ?_; rintro e w1 ⟨rfl, hw⟩; obtain rfl := hw.symm; clear hw) | (go_at_call 29; refine (l1In_any _ _ _ _).mono ?_; rintro e w1 ⟨rfl, hw⟩; obtain rfl := hw.symm; clear hw))
              refine ⟨⟨q + 1, v * 10 + ((s[q]'hlt).toNat - 48), by omega, HN.out, by go_num, by go_num, by first | rfl | trivial⟩, by simp [intOf]; omega⟩
            · rw [Bool.not_eq_true] at hdq
              have HNo : Hid (R = none) := hide (by rw [HI2.out, dec_no (rb_get s q hlt) (dig_no hdq)]; rfl)
              go_wp2_with (first | (go_at_call 30; refine (l1Digit_any _ _).mono ?_; rintro e w1 ⟨rfl, hw⟩; obtain rfl := hw.symm; clear hw) | (go_at_call 29; refine (l1In_any _ _ _ _).mono ?_; rintro e w1 ⟨rfl, hw⟩; obtain rfl := hw.symm; clear hw))
              rw [HNo.out]
              exact bodyPost_ret (v := .tuple #[.int .i64 0, .bool false]) (by simp [results, Tryd.results16, go_sem]) rfl ⟨rfl, rfl⟩
          · obtain rfl : q = s.size := by omega
            have HY : Hid (R = some ((v : Int))) := hide (by
              have h1 := HV.out
              rw [List.take_of_length_le (by omega)] at h1
              rw [HI2.out, h1]; rfl)
            go_wp2_with (first | (go_at_call 30; refine (l1Digit_any _ _).mono ?_; rintro e w1 ⟨rfl, hw⟩; obtain rfl := hw.symm; clear hw) | (go_at_call 29; refine (l1In_any _ _ _ _).mono ?_; rintro e w1 ⟨rfl, hw⟩; obtain rfl := hw.symm; clear hw))
            rw [HY.out]
            exact bodyPost_ret (v := .tuple #[.int .i64 ((v : Int)), .bool true]) (by simp [results, Tryd.results16, go_sem]) rfl ⟨rfl, rfl⟩
    · rw [Bool.not_eq_true] at hb1
      have hz : ¬ (1 ≤ s.size ∧ s.size ≤ 7) := by simp [inB] at hb1; omega
      have HNo : Hid (R = none) := hide (by
        rw [HIL.out, if_neg]
        exact fun h => hz ⟨by omega, by omega⟩)
      rw [HNo.out]
      go_upto_region 4 with fail
      go_wp2_with (first | (go_at_call 30; refine (l1Digit_any _ _).mono ?_; rintro e w1 ⟨rfl, hw⟩; obtain rfl := hw.symm; clear hw) | (go_at_call 29; refine (l1In_any _ _ _ _).mono ?_; rintro e w1 ⟨rfl, hw⟩; obtain rfl := hw.symm; clear hw))
      exact bodyPost_ret (v := .tuple #[.int .i64 0, .bool false]) (by simp [results, Tryd.results16, go_sem]) rfl ⟨rfl, rfl⟩
end Go.Proofs.YthnkdlhkldcaoaaDoor.W
