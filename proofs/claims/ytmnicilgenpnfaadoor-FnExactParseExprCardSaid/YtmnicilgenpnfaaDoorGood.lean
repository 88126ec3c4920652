/-
  Contracts of GoodToken, of the program and of its specification: both tell the same Bool of the token's four fields, and write nothing that was there. Conditions: the text is at most 2^63 - 1 bytes long.
-/
import Derived.Test.YtmnicilgenpnfaaDoorLow
namespace Go.Proofs.YtmnicilgenpnfaaDoor.W
open Go.ChangeShapes Go.WideShapes Go.ChangeAt Go.RowKit

def nameB (s : ByteArray) : Bool := !s.toList.isEmpty && (decide (s.size ≤ 8) && decide (runFrom letB s 0 = s.size))
def signB (s : ByteArray) : Bool := !s.toList.isEmpty && ((best s 0).toList == s.toList)
def goodB (k n : Int) (t : ByteArray) (a : Int) : Bool :=
  inB a 0 300 && (if k = 1 then inB n 0 999999999 && t.toList.isEmpty else if k = 2 then decide (n = 0) && nameB t else if k = 3 then decide (n = 0) && signB t else false)

theorem good_out {k n a : Int} {t : ByteArray} (h : ¬ (0 ≤ a ∧ a ≤ 300)) : goodB k n t a = false := by
  have : inB a 0 300 = false := by
    rw [Bool.eq_false_iff]; intro hc; simp [inB] at hc; omega
  simp [goodB, this]
theorem good_in {k n a : Int} {t : ByteArray} (h0 : 0 ≤ a) (h1 : a ≤ 300) : goodB k n t a = (if k = 1 then inB n 0 999999999 && t.toList.isEmpty else if k = 2 then decide (n = 0) && nameB t else if k = 3 then decide (n = 0) && signB t else false) := by
  simp [goodB, inB, h0, h1]
theorem good_1 {n a : Int} {t : ByteArray} (h0 : 0 ≤ a) (h1 : a ≤ 300) : goodB 1 n t a = (inB n 0 999999999 && t.toList.isEmpty) := by rw [good_in h0 h1, if_pos rfl]
theorem good_2 {n a : Int} {t : ByteArray} (h0 : 0 ≤ a) (h1 : a ≤ 300) : goodB 2 n t a = (decide (n = 0) && nameB t) := by rw [good_in h0 h1, if_neg (by omega), if_pos rfl]
theorem good_3 {n a : Int} {t : ByteArray} (h0 : 0 ≤ a) (h1 : a ≤ 300) : goodB 3 n t a = (decide (n = 0) && signB t) := by rw [good_in h0 h1, if_neg (by omega), if_neg (by omega), if_pos rfl]
theorem good_no {k n a : Int} {t : ByteArray} (h1 : k ≠ 1) (h2 : k ≠ 2) (h3 : k ≠ 3) : goodB k n t a = false := by simp [goodB, h1, h2, h3]

theorem nameB_no {t : ByteArray} (h : runFrom letB t 0 < t.size) : nameB t = false := by
  have : ¬ runFrom letB t 0 = t.size := by omega
  simp [nameB, this]
theorem nameB_yes {t : ByteArray} (h : runFrom letB t 0 = t.size) : nameB t = inB t.size 1 8 := by
  have e : t.toList.isEmpty = decide (t.size = 0) := by
    rw [Lib.toList_data, Bool.eq_iff_iff, List.isEmpty_iff, decide_eq_true_iff, ← List.length_eq_zero_iff, Array.length_toList]
    exact Iff.rfl
  unfold nameB inB
  rw [e, decide_eq_true h, Bool.eq_iff_iff]
  simp only [Bool.and_eq_true, Bool.not_eq_true', decide_eq_true_iff, decide_eq_false_iff_not, and_true]
  omega

theorem l1Sign_0 (s : ByteArray) (w : World) (hs : s.size ≤ maxLen) :
    Calls Tryd.prog 27 #[.string s, .int .i64 0] w fun e w' => e = .returned (.string (best s 0)) ∧ Below w.heap.size w w' :=
  l1Sign_any s 0 w hs (by omega) (by omega) (by omega)
end Go.Proofs.YtmnicilgenpnfaaDoor.W
