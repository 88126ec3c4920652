/-
  Contracts of NeedsBlank, of the specification and of the program. The condition: Go's table of powers of ten reads as its text lays it; texts of at most 1048576 bytes.
-/
import Derived.Test.YtfbllgjnahechaaDoorNeed2
namespace Go.Proofs.YtfbllgjnahechaaDoor.W
open Go.ChangeShapes Go.WideShapes Go.ChangeAt Go.RowKit

def nbOk (k1 n1 a1 k2 n2 a2 : Int) (t1 t2 : ByteArray) : Bool := goodB k1 n1 t1 a1 && goodB k2 n2 t2 a2
def nbOf (k1 n1 a1 k2 n2 a2 : Int) (t1 t2 : ByteArray) : Bool := if nbOk k1 n1 a1 k2 n2 a2 t1 t2 = true then needB k1 n1 t1 k2 n2 t2 else false

set_option maxHeartbeats 1000000 in
theorem specNeeds_any (k1 n1 a1 k2 n2 a2 : Int) (t1 t2 : ByteArray) (w : World) (h1 : t1.size ≤ 1048576) (h2 : t2.size ≤ 1048576) (ht : Tab w) :
    Calls Tryd.prog 15 #[.agg #[.int .i64 k1, .int .i64 n1, .string t1, .int .i64 a1], .agg #[.int .i64 k2, .int .i64 n2, .string t2, .int .i64 a2]] w fun e w' => e = .returned (.tuple #[.bool (nbOf k1 n1 a1 k2 n2 a2 t1 t2), .bool (nbOk k1 n1 a1 k2 n2 a2 t1 t2)]) ∧ Below w.heap.size w w' := by
  have m1 : t1.size ≤ maxLen := by unfold maxLen; omega
  have m2 : t2.size ≤ maxLen := by unfold maxLen; omega
  have HT := hide ht
  clear ht
  go_enter Tryd.func15, Tryd.ntmps15
  go_wp2_with fail
  refine (specGood_any _ _ _ _ _ (by assumption)).mono ?_
  rintro e w1 ⟨rfl, hb1⟩
  obtain ⟨x1, y1, hB1⟩ := boxes_kept hb1
  clear hb1
  by_cases g1 : goodB k1 n1 t1 a1 = true
  · obtain ⟨d0, d1, d2, d3⟩ := box_cells y1
    have X1 := hide x1
    have Y1 := hide y1
    clear x1 y1
    go_wp2_with fail
    refine (specGood_any _ _ _ _ _ (by assumption)).mono ?_
    rintro e w2 ⟨rfl, hb2⟩
    have x2 := (hb2.block _ (Array.getElem?_eq_some_iff.1 X1.out).1).trans X1.out
    have y2 := (hb2.block _ (Array.getElem?_eq_some_iff.1 Y1.out).1).trans Y1.out
    have hB2 : Below w.heap.size w w2 := hB1.trans (hb2.mono hB1.size)
    obtain ⟨c0, c1, c2, c3⟩ := box_cells x2
    obtain ⟨e0, e1, e2, e3⟩ := box_cells y2
    clear hb2 hB1 X1 Y1 x2 y2 d0 d1 d2 d3
    by_cases g2 : goodB k2 n2 t2 a2 = true
    · have HO : Hid (nbOk k1 n1 a1 k2 n2 a2 t1 t2 = true) := by unfold nbOk; rw [g1, g2]; exact (rfl : (true && true) = true)
      have HN : Hid (nbOf k1 n1 a1 k2 n2 a2 t1 t2 = needB k1 n1 t1 k2 n2 t2) := if_pos HO.out
      go_wp2_with fail
      refine (l1Needs_any _ _ _ _ _ _ _ _ _ g1 g2).mono ?_
      rintro e w3 ⟨rfl, hb3⟩
      go_wp2_with fail
      go_ret2
      exact ⟨by rw [HN.out, HO.out]; rfl, hB2.trans (hb3.mono hB2.size)⟩
    · rw [Bool.not_eq_true] at g2
      have HO : Hid (nbOk k1 n1 a1 k2 n2 a2 t1 t2 = false) := by unfold nbOk; rw [g1, g2]; exact (rfl : (true && false) = false)
      have HN : Hid (nbOf k1 n1 a1 k2 n2 a2 t1 t2 = false) := if_neg (by rw [HO.out]; simp)
      go_wp2_with fail
      go_ret2
      exact ⟨by rw [HN.out, HO.out]; rfl, hB2⟩
  · rw [Bool.not_eq_true] at g1
    have HO : Hid (nbOk k1 n1 a1 k2 n2 a2 t1 t2 = false) := by unfold nbOk; rw [g1]; exact (rfl : (false && goodB k2 n2 t2 a2) = false)
    have HN : Hid (nbOf k1 n1 a1 k2 n2 a2 t1 t2 = false) := if_neg (by rw [HO.out]; simp)
    clear x1 y1
    go_wp2_with fail
    go_ret2
    exact ⟨by rw [HN.out, HO.out]; rfl, hB1⟩

set_option maxHeartbeats 1000000 in
theorem implNeeds_any (k1 n1 a1 k2 n2 a2 : Int) (t1 t2 : ByteArray) (w : World) (h1 : t1.size ≤ 1048576) (h2 : t2.size ≤ 1048576) (ht : Tab w) :
    Calls Tryd.prog 16 #[.agg #[.int .i64 k1, .int .i64 n1, .string t1, .int .i64 a1], .agg #[.int .i64 k2, .int .i64 n2, .string t2, .int .i64 a2]] w fun e w' => e = .returned (.tuple #[.bool (nbOf k1 n1 a1 k2 n2 a2 t1 t2), .bool (nbOk k1 n1 a1 k2 n2 a2 t1 t2)]) ∧ Below w.heap.size w w' := by
  have m1 : t1.size ≤ maxLen := by unfold maxLen; omega
  have m2 : t2.size ≤ maxLen := by unfold maxLen; omega
  have HT := hide ht
  clear ht
  go_enter Tryd.func16, Tryd.ntmps16
  go_wp2_with fail
  refine (implGood_any _ _ _ _ _ (by assumption)).mono ?_
  rintro e w1 ⟨rfl, hb1⟩
  obtain ⟨x1, y1, hB1⟩ := boxes_kept hb1
  clear hb1
  by_cases g1 : goodB k1 n1 t1 a1 = true
  · obtain ⟨d0, d1, d2, d3⟩ := box_cells y1
    have X1 := hide x1
    have Y1 := hide y1
    clear x1 y1
    go_wp2_with fail
    refine (implGood_any _ _ _ _ _ (by assumption)).mono ?_
    rintro e w2 ⟨rfl, hb2⟩
    have x2 := (hb2.block _ (Array.getElem?_eq_some_iff.1 X1.out).1).trans X1.out
    have y2 := (hb2.block _ (Array.getElem?_eq_some_iff.1 Y1.out).1).trans Y1.out
    have hB2 : Below w.heap.size w w2 := hB1.trans (hb2.mono hB1.size)
    obtain ⟨c0, c1, c2, c3⟩ := box_cells x2
    obtain ⟨e0, e1, e2, e3⟩ := box_cells y2
    clear hb2 hB1 X1 Y1 x2 y2 d0 d1 d2 d3
    by_cases g2 : goodB k2 n2 t2 a2 = true
    · have HO : Hid (nbOk k1 n1 a1 k2 n2 a2 t1 t2 = true) := by unfold nbOk; rw [g1, g2]; exact (rfl : (true && true) = true)
      have HN : Hid (nbOf k1 n1 a1 k2 n2 a2 t1 t2 = needB k1 n1 t1 k2 n2 t2) := if_pos HO.out
      go_wp2_with fail
      refine (runTogether_any _ _ _ _ _ _ _ _ _ h1 h2 g1 g2 (HT.out.below hB2)).mono ?_
      rintro e w3 ⟨rfl, hb3⟩
      go_wp2_with fail
      go_ret2
      exact ⟨by rw [HN.out, HO.out]; rfl, hB2.trans (hb3.mono hB2.size)⟩
    · rw [Bool.not_eq_true] at g2
      have HO : Hid (nbOk k1 n1 a1 k2 n2 a2 t1 t2 = false) := by unfold nbOk; rw [g1, g2]; exact (rfl : (true && false) = false)
      have HN : Hid (nbOf k1 n1 a1 k2 n2 a2 t1 t2 = false) := if_neg (by rw [HO.out]; simp)
      go_wp2_with fail
      go_ret2
      exact ⟨by rw [HN.out, HO.out]; rfl, hB2⟩
  · rw [Bool.not_eq_true] at g1
    have HO : Hid (nbOk k1 n1 a1 k2 n2 a2 t1 t2 = false) := by unfold nbOk; rw [g1]; exact (rfl : (false && goodB k2 n2 t2 a2) = false)
    have HN : Hid (nbOf k1 n1 a1 k2 n2 a2 t1 t2 = false) := if_neg (by rw [HO.out]; simp)
    clear x1 y1
    go_wp2_with fail
    go_ret2
    exact ⟨by rw [HN.out, HO.out]; rfl, hB1⟩

end Go.Proofs.YtfbllgjnahechaaDoor.W
