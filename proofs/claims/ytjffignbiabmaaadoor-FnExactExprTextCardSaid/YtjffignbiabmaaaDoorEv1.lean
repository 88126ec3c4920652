/-
  Numbers of expressions: what two numbers come to by a sign, of the program and of its specification (oneIf, inBound, divide, doTwo; l2Truth, l2Bound, l2Do). Conditions: the numbers are in the bound.
-/
import Derived.Test.YtjffignbiabmaaaDoorKids
namespace Go.Proofs.YtjffignbiabmaaaDoor.W
open Go.ChangeShapes Go.WideShapes Go.ChangeAt Go.RowKit
set_option linter.unusedVariables false
set_option linter.unusedSimpArgs false

def tr (b : Bool) : Int := if b then 1 else 0
def bdB (n : Int) : Bool := inB n (-1000000000) 1000000000
theorem bdB_iff {n : Int} : bdB n = true ↔ -1000000000 ≤ n ∧ n ≤ 1000000000 := by simp [bdB, inB]
def bd (n : Int) : Int × Int := if bdB n = true then (n, 0) else (0, 3)
/-- What two numbers come to by a sign. -/
def do2 (s : List UInt8) (a b : Int) : Int × Int :=
  if s = [43] then bd (a + b) else if s = [45] then bd (a - b) else if s = [42] then bd (a * b) else if s = [60] then (tr (decide (a < b)), 0) else if s = [60, 61] then (tr (decide (a ≤ b)), 0)
  else if s = [61, 61] then (tr (a == b), 0) else if s = [33, 61] then (tr (a != b), 0)
  else if s = [60, 60] then (if 0 ≤ b ∧ b ≤ 20 then bd (a * 2 ^ b.toNat) else (0, 3))
  else if b = 0 then (0, 2) else if s = [47] then (a.tdiv b, 0) else (a.tmod b, 0)
/-- The specification's, ahead of the bound. -/
def do1 (s : List UInt8) (a b : Int) : Int × Int :=
  if s = [43] then (a + b, 0) else if s = [45] then (a - b, 0) else if s = [42] then (a * b, 0) else if s = [60] then (tr (decide (a < b)), 0) else if s = [60, 61] then (tr (decide (a ≤ b)), 0)
  else if s = [61, 61] then (tr (a == b), 0) else if s = [33, 61] then (tr (a != b), 0)
  else if s = [60, 60] then (if 0 ≤ b ∧ b ≤ 20 then (a * 2 ^ b.toNat, 0) else (0, 3))
  else if b = 0 then (0, 2) else if s = [47] then (a.tdiv b, 0) else (a.tmod b, 0)

set_option maxHeartbeats 400000 in
theorem l2Truth_any (b : Bool) (w : World) : Calls Tryd.prog 101 #[.bool b] w fun e w' => e = .returned (.int .i64 (tr b)) ∧ w' = w := by
  cases b <;>
  · go_enter Tryd.func101, Tryd.ntmps101
    go_wp2
    go_ret
    exact ⟨rfl, rfl⟩

set_option maxHeartbeats 400000 in
theorem oneIf_any (b : Bool) (w : World) : Calls Tryd.prog 104 #[.bool b] w fun e w' => e = .returned (.int .i64 (tr b)) ∧ w' = w := by
  cases b <;>
  · go_enter Tryd.func104, Tryd.ntmps104
    go_wp2
    go_ret
    exact ⟨rfl, rfl⟩

set_option maxHeartbeats 400000 in
theorem l2Bound_any (n : Int) (w : World) : Calls Tryd.prog 59 #[.int .i64 n] w fun e w' => e = .returned (.bool (bdB n)) ∧ w' = w := by
  go_enter Tryd.func59, Tryd.ntmps59
  go_wp2_with fail
  refine (l1In_any _ _ _ _).mono ?_
  rintro e w' ⟨rfl, rfl⟩
  go_wp2_with fail
  go_ret
  exact ⟨rfl, rfl⟩

set_option maxHeartbeats 400000 in
theorem inBound_any (n : Int) (w : World) : Calls Tryd.prog 61 #[.int .i64 n] w fun e w' => e = .returned (.bool (bdB n)) ∧ w' = w := by
  go_enter Tryd.func61, Tryd.ntmps61
  go_wp2
  all_goals
    go_ret
    refine ⟨ret_bool ?_, rfl⟩
    simp [bdB, inB, *]
  all_goals omega

theorem tdiv_bd {a : Int} (b : Int) (ha1 : -1000000000 ≤ a) (ha2 : a ≤ 1000000000) : -1000000000 ≤ a.tdiv b ∧ a.tdiv b ≤ 1000000000 := by
  have := Int.natAbs_tdiv_le_natAbs a b
  omega
theorem tmod_bd {a : Int} (b : Int) (ha1 : -1000000000 ≤ a) (ha2 : a ≤ 1000000000) : -1000000000 ≤ a.tmod b ∧ a.tmod b ≤ 1000000000 := by
  have h : (a.tmod b).natAbs ≤ a.natAbs := by rw [Int.natAbs_tmod]; exact Nat.mod_le _ _
  omega
theorem mul_bd {a b : Int} (ha1 : -1000000000 ≤ a) (ha2 : a ≤ 1000000000) (hb1 : -1000000000 ≤ b) (hb2 : b ≤ 1000000000) : -1000000000000000000 ≤ a * b ∧ a * b ≤ 1000000000000000000 := by
  have h : (a * b).natAbs ≤ 1000000000 * 1000000000 := by
    rw [Int.natAbs_mul]
    exact Nat.mul_le_mul (by omega) (by omega)
  omega
theorem pow_bd {b : Int} (h1 : 0 ≤ b) (h2 : b ≤ 20) : 1 ≤ (2 : Int) ^ b.toNat ∧ (2 : Int) ^ b.toNat ≤ 1048576 := by
  have hb : b.toNat ≤ 20 := by omega
  have h3 : (2 : Nat) ^ b.toNat ≤ 2 ^ 20 := Nat.pow_le_pow_right (by omega) hb
  have h4 : 0 < (2 : Nat) ^ b.toNat := Nat.pow_pos (by omega)
  have h5 : ((2 ^ b.toNat : Nat) : Int) = (2 : Int) ^ b.toNat := by push_cast; rfl
  rw [← h5]
  omega
theorem shl_bd {a b : Int} (ha1 : -1000000000 ≤ a) (ha2 : a ≤ 1000000000) (h1 : 0 ≤ b) (h2 : b ≤ 20) : -1048576000000000 ≤ a * 2 ^ b.toNat ∧ a * 2 ^ b.toNat ≤ 1048576000000000 := by
  obtain ⟨p1, p2⟩ := pow_bd h1 h2
  have h : (a * 2 ^ b.toNat).natAbs ≤ 1000000000 * 1048576 := by
    rw [Int.natAbs_mul]
    exact Nat.mul_le_mul (by omega) (by omega)
  omega
theorem tr_bd (b : Bool) : bdB (tr b) = true := by cases b <;> rfl

set_option maxHeartbeats 1000000 in
theorem divide_any (s : ByteArray) (a b : Int) (w : World) (hs : s.toList = [47] ∨ s.toList = [37]) (ha : bdB a = true) (hb : bdB b = true) :
    Calls Tryd.prog 163 #[.string s, .int .i64 a, .int .i64 b] w fun e w' => e = .returned (.tuple #[.int .i64 (do2 s.toList a b).1, .int .i64 (do2 s.toList a b).2]) ∧ w' = w := by
  rw [bdB_iff] at ha hb
  obtain ⟨ha1, ha2⟩ := ha
  obtain ⟨hb1, hb2⟩ := hb
  by_cases h0 : b = 0
  · subst h0
    rcases hs with hs | hs <;> rw [hs]
    all_goals
      go_enter Tryd.func163, Tryd.ntmps163
      go_wp2_with fail
      go_ret2
      exact ⟨rfl, rfl⟩
  · have ht := tdiv_bd b ha1 ha2
    have hw : wrap64 (a.tdiv b) = a.tdiv b := IntWalk.wrap64_in _ (by omega)
    rcases hs with hs | hs
    · have hd : do2 s.toList a b = (a.tdiv b, 0) := by rw [hs]; simp [do2, h0]
      rw [hd]
      go_enter Tryd.func163, Tryd.ntmps163
      go_wp2_with fail
      go_ret2
      exact ⟨by simp [hw], rfl⟩
    · have hd : do2 s.toList a b = (a.tmod b, 0) := by rw [hs]; simp [do2, h0]
      rw [hd]
      go_enter Tryd.func163, Tryd.ntmps163
      go_wp2_with fail
      go_ret2
      exact ⟨rfl, rfl⟩

set_option maxHeartbeats 1000000 in
theorem l2Do_add (s : ByteArray) (a b : Int) (w : World) (hs : s.toList = [43]) (ha : bdB a = true) (hb : bdB b = true) :
    Calls Tryd.prog 102 #[.string s, .int .i64 a, .int .i64 b] w fun e w' => e = .returned (.tuple #[.int .i64 (do1 s.toList a b).1, .int .i64 (do1 s.toList a b).2]) ∧ w' = w := by
  rw [bdB_iff] at ha hb
  obtain ⟨ha1, ha2⟩ := ha
  obtain ⟨hb1, hb2⟩ := hb
  have hd : do1 s.toList a b = (a + b, 0) := by rw [hs]; simp [do1]
  rw [hd]
  clear hd
  go_enter Tryd.func102, Tryd.ntmps102
  go_wp2_with fail
  go_ret2
  exact ⟨by simp, rfl⟩

set_option maxHeartbeats 1000000 in
theorem doTwo_add (s : ByteArray) (a b : Int) (w : World) (hs : s.toList = [43]) (ha : bdB a = true) (hb : bdB b = true) :
    Calls Tryd.prog 138 #[.string s, .int .i64 a, .int .i64 b] w fun e w' => e = .returned (.tuple #[.int .i64 (do2 s.toList a b).1, .int .i64 (do2 s.toList a b).2]) ∧ w' = w := by
  rw [bdB_iff] at ha hb
  obtain ⟨ha1, ha2⟩ := ha
  obtain ⟨hb1, hb2⟩ := hb
  have hd : do2 s.toList a b = bd (a + b) := by rw [hs]; simp [do2]
  rw [hd]
  clear hd
  by_cases hbd : bdB (a + b) = true
  · have hd : bd (a + b) = (a + b, 0) := by unfold bd; rw [if_pos hbd]
    rw [hd]
    clear hd
    go_enter Tryd.func138, Tryd.ntmps138
    go_wp2_with fail
    refine (inBound_any _ _).mono ?_
    rintro e w' ⟨rfl, rfl⟩
    rw [hbd]
    go_wp2_with fail
    go_ret2
    exact ⟨by simp, rfl⟩
  · rw [Bool.not_eq_true] at hbd
    have hd : bd (a + b) = (0, 3) := by unfold bd; rw [if_neg (by rw [hbd]; simp)]
    rw [hd]
    clear hd
    go_enter Tryd.func138, Tryd.ntmps138
    go_wp2_with fail
    refine (inBound_any _ _).mono ?_
    rintro e w' ⟨rfl, rfl⟩
    rw [hbd]
    go_wp2_with fail
    go_ret2
    exact ⟨rfl, rfl⟩

set_option maxHeartbeats 1000000 in
theorem l2Do_sub (s : ByteArray) (a b : Int) (w : World) (hs : s.toList = [45]) (ha : bdB a = true) (hb : bdB b = true) :
    Calls Tryd.prog 102 #[.string s, .int .i64 a, .int .i64 b] w fun e w' => e = .returned (.tuple #[.int .i64 (do1 s.toList a b).1, .int .i64 (do1 s.toList a b).2]) ∧ w' = w := by
  rw [bdB_iff] at ha hb
  obtain ⟨ha1, ha2⟩ := ha
  obtain ⟨hb1, hb2⟩ := hb
  have hd : do1 s.toList a b = (a - b, 0) := by rw [hs]; simp [do1]
  rw [hd]
  clear hd
  go_enter Tryd.func102, Tryd.ntmps102
  go_wp2_with fail
  go_ret2
  exact ⟨by simp, rfl⟩

set_option maxHeartbeats 1000000 in
theorem doTwo_sub (s : ByteArray) (a b : Int) (w : World) (hs : s.toList = [45]) (ha : bdB a = true) (hb : bdB b = true) :
    Calls Tryd.prog 138 #[.string s, .int .i64 a, .int .i64 b] w fun e w' => e = .returned (.tuple #[.int .i64 (do2 s.toList a b).1, .int .i64 (do2 s.toList a b).2]) ∧ w' = w := by
  rw [bdB_iff] at ha hb
  obtain ⟨ha1, ha2⟩ := ha
  obtain ⟨hb1, hb2⟩ := hb
  have hd : do2 s.toList a b = bd (a - b) := by rw [hs]; simp [do2]
  rw [hd]
  clear hd
  by_cases hbd : bdB (a - b) = true
  · have hd : bd (a - b) = (a - b, 0) := by unfold bd; rw [if_pos hbd]
    rw [hd]
    clear hd
    go_enter Tryd.func138, Tryd.ntmps138
    go_wp2_with fail
    refine (inBound_any _ _).mono ?_
    rintro e w' ⟨rfl, rfl⟩
    rw [hbd]
    go_wp2_with fail
    go_ret2
    exact ⟨by simp, rfl⟩
  · rw [Bool.not_eq_true] at hbd
    have hd : bd (a - b) = (0, 3) := by unfold bd; rw [if_neg (by rw [hbd]; simp)]
    rw [hd]
    clear hd
    go_enter Tryd.func138, Tryd.ntmps138
    go_wp2_with fail
    refine (inBound_any _ _).mono ?_
    rintro e w' ⟨rfl, rfl⟩
    rw [hbd]
    go_wp2_with fail
    go_ret2
    exact ⟨rfl, rfl⟩

set_option maxHeartbeats 1000000 in
theorem l2Do_mul (s : ByteArray) (a b : Int) (w : World) (hs : s.toList = [42]) (ha : bdB a = true) (hb : bdB b = true) :
    Calls Tryd.prog 102 #[.string s, .int .i64 a, .int .i64 b] w fun e w' => e = .returned (.tuple #[.int .i64 (do1 s.toList a b).1, .int .i64 (do1 s.toList a b).2]) ∧ w' = w := by
  rw [bdB_iff] at ha hb
  obtain ⟨ha1, ha2⟩ := ha
  obtain ⟨hb1, hb2⟩ := hb
  have hm := mul_bd ha1 ha2 hb1 hb2
  have hw : wrap64 (a * b) = a * b := IntWalk.wrap64_in _ (by omega)
  have hd : do1 s.toList a b = (a * b, 0) := by rw [hs]; simp [do1]
  rw [hd]
  clear hd
  go_enter Tryd.func102, Tryd.ntmps102
  go_wp2_with fail
  go_ret2
  exact ⟨by simp [hw], rfl⟩

set_option maxHeartbeats 1000000 in
theorem doTwo_mul (s : ByteArray) (a b : Int) (w : World) (hs : s.toList = [42]) (ha : bdB a = true) (hb : bdB b = true) :
    Calls Tryd.prog 138 #[.string s, .int .i64 a, .int .i64 b] w fun e w' => e = .returned (.tuple #[.int .i64 (do2 s.toList a b).1, .int .i64 (do2 s.toList a b).2]) ∧ w' = w := by
  rw [bdB_iff] at ha hb
  obtain ⟨ha1, ha2⟩ := ha
  obtain ⟨hb1, hb2⟩ := hb
  have hm := mul_bd ha1 ha2 hb1 hb2
  have hw : wrap64 (a * b) = a * b := IntWalk.wrap64_in _ (by omega)
  have hd : do2 s.toList a b = bd (a * b) := by rw [hs]; simp [do2]
  rw [hd]
  clear hd
  by_cases hbd : bdB (a * b) = true
  · have hd : bd (a * b) = (a * b, 0) := by unfold bd; rw [if_pos hbd]
    rw [hd]
    clear hd
    go_enter Tryd.func138, Tryd.ntmps138
    go_wp2_with fail
    try rw [hw]
    refine (inBound_any _ _).mono ?_
    rintro e w' ⟨rfl, rfl⟩
    rw [hbd]
    go_wp2_with fail
    go_ret2
    exact ⟨by simp [hw], rfl⟩
  · rw [Bool.not_eq_true] at hbd
    have hd : bd (a * b) = (0, 3) := by unfold bd; rw [if_neg (by rw [hbd]; simp)]
    rw [hd]
    clear hd
    go_enter Tryd.func138, Tryd.ntmps138
    go_wp2_with fail
    try rw [hw]
    refine (inBound_any _ _).mono ?_
    rintro e w' ⟨rfl, rfl⟩
    rw [hbd]
    go_wp2_with fail
    go_ret2
    exact ⟨rfl, rfl⟩

set_option maxHeartbeats 1000000 in
theorem l2Do_lss (s : ByteArray) (a b : Int) (w : World) (hs : s.toList = [60]) (ha : bdB a = true) (hb : bdB b = true) :
    Calls Tryd.prog 102 #[.string s, .int .i64 a, .int .i64 b] w fun e w' => e = .returned (.tuple #[.int .i64 (do1 s.toList a b).1, .int .i64 (do1 s.toList a b).2]) ∧ w' = w := by
  rw [bdB_iff] at ha hb
  obtain ⟨ha1, ha2⟩ := ha
  obtain ⟨hb1, hb2⟩ := hb
  have hd : do1 s.toList a b = (tr (decide (a < b)), 0) := by rw [hs]; rfl
  rw [hd]
  clear hd
  go_enter Tryd.func102, Tryd.ntmps102
  go_wp2_with fail
  refine (l2Truth_any _ _).mono ?_
  rintro e w' ⟨rfl, rfl⟩
  go_wp2_with fail
  go_ret2
  exact ⟨rfl, rfl⟩

set_option maxHeartbeats 1000000 in
theorem doTwo_lss (s : ByteArray) (a b : Int) (w : World) (hs : s.toList = [60]) (ha : bdB a = true) (hb : bdB b = true) :
    Calls Tryd.prog 138 #[.string s, .int .i64 a, .int .i64 b] w fun e w' => e = .returned (.tuple #[.int .i64 (do2 s.toList a b).1, .int .i64 (do2 s.toList a b).2]) ∧ w' = w := by
  rw [bdB_iff] at ha hb
  obtain ⟨ha1, ha2⟩ := ha
  obtain ⟨hb1, hb2⟩ := hb
  have hd : do2 s.toList a b = (tr (decide (a < b)), 0) := by rw [hs]; rfl
  rw [hd]
  clear hd
  go_enter Tryd.func138, Tryd.ntmps138
  go_wp2_with fail
  refine (oneIf_any _ _).mono ?_
  rintro e w' ⟨rfl, rfl⟩
  go_wp2_with fail
  refine (inBound_any _ _).mono ?_
  rintro e w' ⟨rfl, rfl⟩
  rw [tr_bd]
  go_wp2_with fail
  go_ret2
  exact ⟨rfl, rfl⟩

set_option maxHeartbeats 1000000 in
theorem l2Do_leq (s : ByteArray) (a b : Int) (w : World) (hs : s.toList = [60, 61]) (ha : bdB a = true) (hb : bdB b = true) :
    Calls Tryd.prog 102 #[.string s, .int .i64 a, .int .i64 b] w fun e w' => e = .returned (.tuple #[.int .i64 (do1 s.toList a b).1, .int .i64 (do1 s.toList a b).2]) ∧ w' = w := by
  rw [bdB_iff] at ha hb
  obtain ⟨ha1, ha2⟩ := ha
  obtain ⟨hb1, hb2⟩ := hb
  have hd : do1 s.toList a b = (tr (decide (a ≤ b)), 0) := by rw [hs]; rfl
  rw [hd]
  clear hd
  go_enter Tryd.func102, Tryd.ntmps102
  go_wp2_with fail
  refine (l2Truth_any _ _).mono ?_
  rintro e w' ⟨rfl, rfl⟩
  go_wp2_with fail
  go_ret2
  exact ⟨rfl, rfl⟩

set_option maxHeartbeats 1000000 in
theorem doTwo_leq (s : ByteArray) (a b : Int) (w : World) (hs : s.toList = [60, 61]) (ha : bdB a = true) (hb : bdB b = true) :
    Calls Tryd.prog 138 #[.string s, .int .i64 a, .int .i64 b] w fun e w' => e = .returned (.tuple #[.int .i64 (do2 s.toList a b).1, .int .i64 (do2 s.toList a b).2]) ∧ w' = w := by
  rw [bdB_iff] at ha hb
  obtain ⟨ha1, ha2⟩ := ha
  obtain ⟨hb1, hb2⟩ := hb
  have hd : do2 s.toList a b = (tr (decide (a ≤ b)), 0) := by rw [hs]; rfl
  rw [hd]
  clear hd
  go_enter Tryd.func138, Tryd.ntmps138
  go_wp2_with fail
  refine (oneIf_any _ _).mono ?_
  rintro e w' ⟨rfl, rfl⟩
  go_wp2_with fail
  refine (inBound_any _ _).mono ?_
  rintro e w' ⟨rfl, rfl⟩
  rw [tr_bd]
  go_wp2_with fail
  go_ret2
  exact ⟨rfl, rfl⟩

set_option maxHeartbeats 1000000 in
theorem l2Do_eql (s : ByteArray) (a b : Int) (w : World) (hs : s.toList = [61, 61]) (ha : bdB a = true) (hb : bdB b = true) :
    Calls Tryd.prog 102 #[.string s, .int .i64 a, .int .i64 b] w fun e w' => e = .returned (.tuple #[.int .i64 (do1 s.toList a b).1, .int .i64 (do1 s.toList a b).2]) ∧ w' = w := by
  rw [bdB_iff] at ha hb
  obtain ⟨ha1, ha2⟩ := ha
  obtain ⟨hb1, hb2⟩ := hb
  have hd : do1 s.toList a b = (tr (a == b), 0) := by rw [hs]; rfl
  rw [hd]
  clear hd
  go_enter Tryd.func102, Tryd.ntmps102
  go_wp2_with fail
  refine (l2Truth_any _ _).mono ?_
  rintro e w' ⟨rfl, rfl⟩
  go_wp2_with fail
  go_ret2
  exact ⟨rfl, rfl⟩

set_option maxHeartbeats 1000000 in
theorem doTwo_eql (s : ByteArray) (a b : Int) (w : World) (hs : s.toList = [61, 61]) (ha : bdB a = true) (hb : bdB b = true) :
    Calls Tryd.prog 138 #[.string s, .int .i64 a, .int .i64 b] w fun e w' => e = .returned (.tuple #[.int .i64 (do2 s.toList a b).1, .int .i64 (do2 s.toList a b).2]) ∧ w' = w := by
  rw [bdB_iff] at ha hb
  obtain ⟨ha1, ha2⟩ := ha
  obtain ⟨hb1, hb2⟩ := hb
  have hd : do2 s.toList a b = (tr (a == b), 0) := by rw [hs]; rfl
  rw [hd]
  clear hd
  go_enter Tryd.func138, Tryd.ntmps138
  go_wp2_with fail
  refine (oneIf_any _ _).mono ?_
  rintro e w' ⟨rfl, rfl⟩
  go_wp2_with fail
  refine (inBound_any _ _).mono ?_
  rintro e w' ⟨rfl, rfl⟩
  rw [tr_bd]
  go_wp2_with fail
  go_ret2
  exact ⟨rfl, rfl⟩

set_option maxHeartbeats 1000000 in
theorem l2Do_neq (s : ByteArray) (a b : Int) (w : World) (hs : s.toList = [33, 61]) (ha : bdB a = true) (hb : bdB b = true) :
    Calls Tryd.prog 102 #[.string s, .int .i64 a, .int .i64 b] w fun e w' => e = .returned (.tuple #[.int .i64 (do1 s.toList a b).1, .int .i64 (do1 s.toList a b).2]) ∧ w' = w := by
  rw [bdB_iff] at ha hb
  obtain ⟨ha1, ha2⟩ := ha
  obtain ⟨hb1, hb2⟩ := hb
  have hd : do1 s.toList a b = (tr (a != b), 0) := by rw [hs]; rfl
  rw [hd]
  clear hd
  go_enter Tryd.func102, Tryd.ntmps102
  go_wp2_with fail
  refine (l2Truth_any _ _).mono ?_
  rintro e w' ⟨rfl, rfl⟩
  go_wp2_with fail
  go_ret2
  exact ⟨rfl, rfl⟩

set_option maxHeartbeats 1000000 in
theorem doTwo_neq (s : ByteArray) (a b : Int) (w : World) (hs : s.toList = [33, 61]) (ha : bdB a = true) (hb : bdB b = true) :
    Calls Tryd.prog 138 #[.string s, .int .i64 a, .int .i64 b] w fun e w' => e = .returned (.tuple #[.int .i64 (do2 s.toList a b).1, .int .i64 (do2 s.toList a b).2]) ∧ w' = w := by
  rw [bdB_iff] at ha hb
  obtain ⟨ha1, ha2⟩ := ha
  obtain ⟨hb1, hb2⟩ := hb
  have hd : do2 s.toList a b = (tr (a != b), 0) := by rw [hs]; rfl
  rw [hd]
  clear hd
  go_enter Tryd.func138, Tryd.ntmps138
  go_wp2_with fail
  refine (oneIf_any _ _).mono ?_
  rintro e w' ⟨rfl, rfl⟩
  go_wp2_with fail
  refine (inBound_any _ _).mono ?_
  rintro e w' ⟨rfl, rfl⟩
  rw [tr_bd]
  go_wp2_with fail
  go_ret2
  exact ⟨rfl, rfl⟩

set_option maxHeartbeats 1000000 in
theorem l2Do_shl (s : ByteArray) (a b : Int) (w : World) (hs : s.toList = [60, 60]) (ha : bdB a = true) (hb : bdB b = true) :
    Calls Tryd.prog 102 #[.string s, .int .i64 a, .int .i64 b] w fun e w' => e = .returned (.tuple #[.int .i64 (do1 s.toList a b).1, .int .i64 (do1 s.toList a b).2]) ∧ w' = w := by
  rw [bdB_iff] at ha hb
  obtain ⟨ha1, ha2⟩ := ha
  obtain ⟨hb1, hb2⟩ := hb
  by_cases h0 : 0 ≤ b ∧ b ≤ 20
  · have hin : inB b 0 20 = true := by simp [inB, h0]
    have hsb := shl_bd ha1 ha2 h0.1 h0.2
    have hw : wrap64 (a * 2 ^ b.toNat) = a * 2 ^ b.toNat := IntWalk.wrap64_in _ (by omega)
    have hd : do1 s.toList a b = (a * 2 ^ b.toNat, 0) := by rw [hs]; simp [do1, h0]
    rw [hd]
    clear hd
    go_enter Tryd.func102, Tryd.ntmps102
    go_wp2_with fail
    refine (l1In_any _ _ _ _).mono ?_
    rintro e w' ⟨rfl, rfl⟩
    rw [hin]
    go_wp2_with fail
    go_ret2
    exact ⟨by simp [hw], rfl⟩
  · have hin : inB b 0 20 = false := by rw [Bool.eq_false_iff]; intro hc; simp [inB] at hc; exact h0 hc
    have hd : do1 s.toList a b = (0, 3) := by rw [hs]; simp [do1, h0]
    rw [hd]
    clear hd
    go_enter Tryd.func102, Tryd.ntmps102
    go_wp2_with fail
    refine (l1In_any _ _ _ _).mono ?_
    rintro e w' ⟨rfl, rfl⟩
    rw [hin]
    go_wp2_with fail
    go_ret2
    exact ⟨rfl, rfl⟩

set_option maxHeartbeats 1000000 in
theorem doTwo_shl (s : ByteArray) (a b : Int) (w : World) (hs : s.toList = [60, 60]) (ha : bdB a = true) (hb : bdB b = true) :
    Calls Tryd.prog 138 #[.string s, .int .i64 a, .int .i64 b] w fun e w' => e = .returned (.tuple #[.int .i64 (do2 s.toList a b).1, .int .i64 (do2 s.toList a b).2]) ∧ w' = w := by
  rw [bdB_iff] at ha hb
  obtain ⟨ha1, ha2⟩ := ha
  obtain ⟨hb1, hb2⟩ := hb
  by_cases h0 : 0 ≤ b ∧ b ≤ 20
  · obtain ⟨h1, h2⟩ := h0
    have hsb := shl_bd ha1 ha2 h1 h2
    have hpb := pow_bd h1 h2
    have hw0 : wrap64 (2 ^ b.toNat) = 2 ^ b.toNat := IntWalk.wrap64_in _ (by omega)
    have hw : wrap64 (a * 2 ^ b.toNat) = a * 2 ^ b.toNat := IntWalk.wrap64_in _ (by omega)
    have hd : do2 s.toList a b = bd (a * 2 ^ b.toNat) := by rw [hs]; simp [do2, h1, h2]
    rw [hd]
    clear hd
    by_cases hbd : bdB (a * 2 ^ b.toNat) = true
    · have hd : bd (a * 2 ^ b.toNat) = (a * 2 ^ b.toNat, 0) := by unfold bd; rw [if_pos hbd]
      rw [hd]
      clear hd hpb
      go_enter Tryd.func138, Tryd.ntmps138
      go_wp2_with fail
      try rw [hw0]
      try rw [hw]
      refine (inBound_any _ _).mono ?_
      rintro e w' ⟨rfl, rfl⟩
      rw [hbd]
      go_wp2_with fail
      go_ret2
      exact ⟨by simp [hw0, hw], rfl⟩
    · rw [Bool.not_eq_true] at hbd
      have hd : bd (a * 2 ^ b.toNat) = (0, 3) := by unfold bd; rw [if_neg (by rw [hbd]; simp)]
      rw [hd]
      clear hd hpb
      go_enter Tryd.func138, Tryd.ntmps138
      go_wp2_with fail
      try rw [hw0]
      try rw [hw]
      refine (inBound_any _ _).mono ?_
      rintro e w' ⟨rfl, rfl⟩
      rw [hbd]
      go_wp2_with fail
      go_ret2
      exact ⟨rfl, rfl⟩
  · have hd : do2 s.toList a b = (0, 3) := by rw [hs]; simp [do2, h0]
    rw [hd]
    clear hd
    by_cases hn : b < 0
    · clear h0
      go_enter Tryd.func138, Tryd.ntmps138
      go_wp2_with fail
      go_ret2
      exact ⟨rfl, rfl⟩
    · have h20 : 20 < b := by omega
      clear h0
      go_enter Tryd.func138, Tryd.ntmps138
      go_wp2_with fail
      go_ret2
      exact ⟨rfl, rfl⟩

set_option maxHeartbeats 1000000 in
theorem l2Do_quo (s : ByteArray) (a b : Int) (w : World) (hs : s.toList = [47]) (ha : bdB a = true) (hb : bdB b = true) :
    Calls Tryd.prog 102 #[.string s, .int .i64 a, .int .i64 b] w fun e w' => e = .returned (.tuple #[.int .i64 (do1 s.toList a b).1, .int .i64 (do1 s.toList a b).2]) ∧ w' = w := by
  rw [bdB_iff] at ha hb
  obtain ⟨ha1, ha2⟩ := ha
  obtain ⟨hb1, hb2⟩ := hb
  have ht := tdiv_bd b ha1 ha2
  have hw : wrap64 (a.tdiv b) = a.tdiv b := IntWalk.wrap64_in _ (by omega)
  by_cases h0 : b = 0
  · subst h0
    have hd : do1 s.toList a 0 = (0, 2) := by rw [hs]; simp [do1]
    rw [hd]
    clear hd
    go_enter Tryd.func102, Tryd.ntmps102
    go_wp2_with fail
    go_ret2
    exact ⟨rfl, rfl⟩
  · have hd : do1 s.toList a b = (a.tdiv b, 0) := by rw [hs]; simp [do1, h0]
    rw [hd]
    clear hd
    go_enter Tryd.func102, Tryd.ntmps102
    go_wp2_with fail
    go_ret2
    exact ⟨by simp [hw], rfl⟩

set_option maxHeartbeats 1000000 in
theorem doTwo_quo (s : ByteArray) (a b : Int) (w : World) (hs : s.toList = [47]) (ha : bdB a = true) (hb : bdB b = true) :
    Calls Tryd.prog 138 #[.string s, .int .i64 a, .int .i64 b] w fun e w' => e = .returned (.tuple #[.int .i64 (do2 s.toList a b).1, .int .i64 (do2 s.toList a b).2]) ∧ w' = w := by
  go_enter Tryd.func138, Tryd.ntmps138
  go_wp2_with fail
  refine Calls.mono (divide_any s a b _ (.inl hs) ha hb) ?_
  rintro e w' ⟨rfl, rfl⟩
  go_wp2_with fail
  go_ret2
  exact ⟨by rw [hs]; rfl, rfl⟩

set_option maxHeartbeats 1000000 in
theorem l2Do_rem (s : ByteArray) (a b : Int) (w : World) (hs : s.toList = [37]) (ha : bdB a = true) (hb : bdB b = true) :
    Calls Tryd.prog 102 #[.string s, .int .i64 a, .int .i64 b] w fun e w' => e = .returned (.tuple #[.int .i64 (do1 s.toList a b).1, .int .i64 (do1 s.toList a b).2]) ∧ w' = w := by
  rw [bdB_iff] at ha hb
  obtain ⟨ha1, ha2⟩ := ha
  obtain ⟨hb1, hb2⟩ := hb
  have ht := tdiv_bd b ha1 ha2
  have hw : wrap64 (a.tdiv b) = a.tdiv b := IntWalk.wrap64_in _ (by omega)
  by_cases h0 : b = 0
  · subst h0
    have hd : do1 s.toList a 0 = (0, 2) := by rw [hs]; simp [do1]
    rw [hd]
    clear hd
    go_enter Tryd.func102, Tryd.ntmps102
    go_wp2_with fail
    go_ret2
    exact ⟨rfl, rfl⟩
  · have hd : do1 s.toList a b = (a.tmod b, 0) := by rw [hs]; simp [do1, h0]
    rw [hd]
    clear hd
    go_enter Tryd.func102, Tryd.ntmps102
    go_wp2_with fail
    go_ret2
    exact ⟨by simp [hw], rfl⟩

set_option maxHeartbeats 1000000 in
theorem doTwo_rem (s : ByteArray) (a b : Int) (w : World) (hs : s.toList = [37]) (ha : bdB a = true) (hb : bdB b = true) :
    Calls Tryd.prog 138 #[.string s, .int .i64 a, .int .i64 b] w fun e w' => e = .returned (.tuple #[.int .i64 (do2 s.toList a b).1, .int .i64 (do2 s.toList a b).2]) ∧ w' = w := by
  go_enter Tryd.func138, Tryd.ntmps138
  go_wp2_with fail
  refine Calls.mono (divide_any s a b _ (.inr hs) ha hb) ?_
  rintro e w' ⟨rfl, rfl⟩
  go_wp2_with fail
  go_ret2
  exact ⟨by rw [hs]; rfl, rfl⟩

end Go.Proofs.YtjffignbiabmaaaDoor.W
