/-
  Contracts of markText, SignsOf (the specification's), eqStringS, markStringS and heldStringS: what each call returns and what it leaves of memory. Conditions: the counters stay at most 1000000; the rows of texts are whole blocks.
-/
import Derived.Test.YtfbllgjnahechaaLow
namespace Go.Proofs.Ytfbllgjnahechaa.W
open Go.ChangeShapes Go.WideShapes Go.ChangeAt Go.RowKit

def mtGo : Nat → Nat → List UInt8 → List UInt8
  | 0, _, out => out
  | f + 1, k, out => if k = 0 then out else mtGo f (k / 10) ((48 + UInt8.ofNat (k % 10)) :: out)

def mt (K : Nat) : ByteArray := ⟨(109 :: mtGo K K []).toArray⟩

theorem mtGo_zero (f : Nat) (os : List UInt8) : mtGo f 0 os = os := by cases f <;> simp [mtGo]

theorem conv1 (n : Int) (w : World) : (convert 51 9 (.slice (some ⟨w.heap.size, 0, none⟩) 1 1)).run Try.prog (w.alloc (.cells #[.int .u8 n] 5)) = .ok (.string ⟨[UInt8.ofNat n.toNat].toArray⟩) (w.alloc (.cells #[.int .u8 n] 5)) := by
  refine run_convert_bytes_arg (w.alloc (.cells #[.int .u8 n] 5)) 51 5 Try.underlying51 Try.underlying5 w.heap.size 0 1 1 [n] rfl ?_ 9 Try.underlying9
  intro i hi
  obtain rfl : i = 0 := by omega
  simp

set_option maxHeartbeats 400000 in
theorem markText_any (K : Nat) (w : World) (h0 : 1 ≤ K) (hK : K ≤ 1000000) :
    Calls Try.prog 25 #[.int .i64 K] w fun e w' => e = .returned (.string (mt K)) ∧ Below w.heap.size w w' := by
  have h1 : (0 : Int) < (K : Int) := by omega
  have hcv := conv1
  go_enter Try.func25, Try.ntmps25
  go_wp2
  go_loopw [0, 3] (fun k out w' => ∃ (kn f : Nat) (os : List UInt8), k = .int .i64 kn ∧ out = .string ⟨os.toArray⟩ ∧ mtGo f kn os = mtGo K K [] ∧ os.length + kn ≤ K ∧ kn ≤ f ∧ Below w.heap.size w w') (fun k _ _ => (intOf k).toNat)
  case atStart => exact ⟨K, K, [], rfl, rfl, rfl, by simp, by omega, Below.refl _ _⟩
  case round =>
    obtain ⟨kn, f, os, rfl, rfl, hm, hl, hf, hb⟩ := hrel
    have Hm : Hid (mtGo f kn os = mtGo K K []) := hm
    clear hm
    by_cases hk : 0 < kn
    · have hk' : (0 : Int) < (kn : Int) := by omega
      have hk2 : (kn : Int) ≤ 1000000 := by omega
      go_wp2
      refine ⟨⟨kn / 10, f - 1, (48 + UInt8.ofNat (kn % 10)) :: os, by simp, ?_, ?_, ?_, by omega, ?_⟩, ?_⟩
      · rw [ByteArray.mk_append_mk]; simp
      · rw [← Hm.out]
        obtain ⟨g, rfl⟩ : ∃ g, f = g + 1 := ⟨f - 1, by omega⟩
        simp [mtGo, show ¬ kn = 0 by omega]
      · simp; omega
      · exact hb.alloc hb.size _
      · simp [intOf]; omega
    · have : kn = 0 := by omega
      subst this
      go_wp2
      go_ret
      refine ⟨?_, hb⟩
      rw [ByteArray.mk_append_mk]
      have := Hm.out
      rw [mtGo_zero] at this
      rw [this]
      rfl

theorem markText_int (k : Int) (w : World) (h0 : 1 ≤ k) (hK : k ≤ 1000000) :
    Calls Try.prog 25 #[.int .i64 k] w fun e w' => e = .returned (.string (mt k.toNat)) ∧ Below w.heap.size w w' := by
  obtain ⟨n, rfl⟩ := Int.eq_ofNat_of_zero_le (show 0 ≤ k by omega)
  rw [Int.toNat_natCast]
  exact markText_any n w (by omega) (by omega)

set_option maxHeartbeats 400000 in
theorem specSignsOf_any (w : World) :
    Calls Try.prog 11 #[] w fun e w' => e = .returned (.slice (some ⟨w.heap.size, 0, none⟩) 19 19) ∧ w' = w.alloc (.cells sgCells 9) := by
  go_enter Try.func11, Try.ntmps11
  go_wp2_with (go_at_call 26; refine (l1Signs_any _).mono ?_; rintro e w' ⟨rfl, rfl⟩)
  go_ret
  exact ⟨rfl, rfl⟩

set_option maxHeartbeats 400000 in
theorem eqStringS_true (a b n c1 c2 : Nat) (ss : List ByteArray) (w : World) (hn : ss.length = n) (hm : n ≤ 1000000) (ha : Blk w a ss) (hb : Blk w b ss) :
    Calls Try.prog 13 #[.slice (some ⟨a, 0, none⟩) n c1, .slice (some ⟨b, 0, none⟩) n c2] w fun e w' => e = .returned (.bool true) ∧ ∃ k, w' = w.drewN k := by
  go_enter Try.func13, Try.ntmps13
  go_wp2
  go_loopw [5] (fun i w' => ∃ k : Nat, k ≤ n ∧ i = .int .i64 k ∧ ∃ d, w' = w.drewN d) (fun i _ => n - (intOf i).toNat)
  case atStart => exact ⟨0, by omega, rfl, 0, rfl⟩
  case round =>
    obtain ⟨k, hk, rfl, d, rfl⟩ := hrel
    by_cases hlt : k < n
    · have hca := ha.cell (i := k) (by omega)
      have hcb := hb.cell (i := k) (by omega)
      have hlt' : (k : Int) < (n : Int) := by omega
      go_wp2
      go_quiet (fail)
      go_wp2
      exact ⟨⟨k + 1, by omega, by go_num, _, rfl⟩, by simp [intOf]; omega⟩
    · go_wp2
      go_ret
      exact ⟨rfl, d, rfl⟩

def marks (k0 n : Nat) : List ByteArray := (List.range n).map fun i => mt (k0 + i)
theorem marks_length (k0 n : Nat) : (marks k0 n).length = n := by simp [marks]
theorem marks_get (k0 n i : Nat) (h : i < (marks k0 n).length) : (marks k0 n)[i] = mt (k0 + i) := by simp [marks]
theorem marks_set (k0 i : Nat) (ss : List ByteArray) (h : i < ss.length) : (marks k0 i ++ ss.drop i).set i (mt (k0 + i)) = marks k0 (i + 1) ++ ss.drop (i + 1) := by
  rw [List.set_append, if_neg (by rw [marks_length]; omega), marks_length, Nat.sub_self, List.drop_eq_getElem_cons h, List.set_cons_zero]
  simp [marks, List.range_succ]

set_option maxHeartbeats 400000 in
theorem markStringS_any (b n c k0 : Nat) (ss : List ByteArray) (w : World) (hn : ss.length = n) (h0 : 1 ≤ k0) (hm : k0 + n ≤ 1000000) (hb : Blk w b ss) :
    Calls Try.prog 14 #[.slice (some ⟨b, 0, none⟩) n c, .int .i64 k0] w fun e w' => e = .returned (.int .i64 ((k0 + n : Nat) : Int)) ∧ Blk w' b (marks k0 n) ∧ Oth b w w' := by
  go_enter Try.func14, Try.ntmps14
  go_wp2
  go_loopw [1, 5] (fun k i w' => ∃ j : Nat, j ≤ n ∧ i = .int .i64 j ∧ k = .int .i64 ((k0 + j : Nat) : Int) ∧ Blk w' b (marks k0 j ++ ss.drop j) ∧ Oth b w w') (fun _ i _ => n - (intOf i).toNat)
  case atStart => exact ⟨0, by omega, rfl, rfl, by simpa [marks] using hb, Oth.refl _ _⟩
  case round =>
    obtain ⟨j, hj, rfl, rfl, hB, hO⟩ := hrel
    by_cases hlt : j < n
    · have hlt' : (j : Int) < (n : Int) := by omega
      have hp : (0 : Int) ≤ (j : Int) := by omega
      go_wp2_with fail
      refine (markText_any (k0 + j) _ (by omega) (by omega)).mono ?_
      rintro e w1 ⟨rfl, hb1⟩
      have hB1 := hB.below hb1 hB.lt
      have hf := hB1.frozen j
      have hc := hB1.cell (i := j) (by simp [marks_length]; omega)
      have hO1 := hO.trans (Oth.ofBelow (b := b) hb1)
      go_wp2_with fail
      refine ⟨⟨j + 1, by omega, by go_num, by go_num, ?_, hO1.setCell _ _⟩, by simp [intOf]; omega⟩
      rw [← marks_set k0 j ss (by omega)]
      exact hB1.set j _
    · obtain rfl : j = n := by omega
      go_wp2
      go_ret
      refine ⟨rfl, ?_, hO⟩
      rw [List.drop_of_length_le (by omega)] at hB
      simpa using hB

set_option maxHeartbeats 400000 in
theorem heldStringS_any (b n c k0 : Nat) (w : World) (h0 : 1 ≤ k0) (hm : k0 + n ≤ 1000000) (hb : Blk w b (marks k0 n)) :
    Calls Try.prog 15 #[.slice (some ⟨b, 0, none⟩) n c, .int .i64 k0] w fun e w' => e = .returned (.int .i64 ((k0 + n : Nat) : Int)) ∧ Below w.heap.size w w' := by
  go_enter Try.func15, Try.ntmps15
  go_wp2
  go_loopw [1, 5] (fun k i w' => ∃ j : Nat, j ≤ n ∧ i = .int .i64 j ∧ k = .int .i64 ((k0 + j : Nat) : Int) ∧ Below w.heap.size w w') (fun _ i _ => n - (intOf i).toNat)
  case atStart => exact ⟨0, by omega, rfl, rfl, Below.refl _ _⟩
  case round =>
    obtain ⟨j, hj, rfl, rfl, hB⟩ := hrel
    by_cases hlt : j < n
    · have hlt' : (j : Int) < (n : Int) := by omega
      have hp : (0 : Int) ≤ (j : Int) := by omega
      have hc := (hb.below hB hb.lt).cell (i := j) (by simp [marks_length]; omega)
      rw [marks_get] at hc
      have hcB : ∀ w1, Below wr.heap.size wr.drew w1 → w1.cell? ⟨b, j, none⟩ = some (.string (mt (k0 + j))) := fun w1 h => by
        rw [h.cell (by have := hb.lt; have := hB.size; exact (show b < _ by omega))]; exact hc
      have HC := hcB
      clear hcB
      go_wp2_with fail
      go_region_with (go_at_call 25; refine (markText_int _ _ (by omega) (by omega)).mono ?_; rintro e w1 ⟨rfl, hb1⟩; rw [show ((k0 : Int) + (j : Int)).toNat = k0 + j from by omega]; have hc1 := HC w1 hb1)
      all_goals
        clear HC
        have hb2 : Below w.heap.size w w1 := hB.trans ((show Below wr.heap.size wr w1 from ⟨hb1.os, hb1.tape, hb1.output, hb1.size, hb1.block⟩).mono hB.size)
        go_wp2
        exact ⟨⟨j + 1, by omega, by go_num, by go_num, hb2⟩, by simp [intOf]; omega⟩
    · obtain rfl : j = n := by omega
      go_wp2
      go_ret
      exact ⟨rfl, hB⟩
end Go.Proofs.Ytfbllgjnahechaa.W
