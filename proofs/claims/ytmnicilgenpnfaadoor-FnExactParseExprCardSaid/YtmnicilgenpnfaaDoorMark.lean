/-
  Contracts of markText, SignsOf (the specification's), eqStringS, markStringS and heldStringS: what each call returns and what it leaves of memory. Conditions: the counters stay at most 1000000; the rows of texts are whole blocks.
-/
import Derived.Test.YtmnicilgenpnfaaDoorLow
namespace Go.Proofs.YtmnicilgenpnfaaDoor.W
open Go.ChangeShapes Go.WideShapes Go.ChangeAt Go.RowKit

def mtGo : Nat → Nat → List UInt8 → List UInt8
  | 0, _, out => out
  | f + 1, k, out => if k = 0 then out else mtGo f (k / 10) ((48 + UInt8.ofNat (k % 10)) :: out)

def mt (K : Nat) : ByteArray := ⟨(109 :: mtGo K K []).toArray⟩

theorem mtGo_zero (f : Nat) (os : List UInt8) : mtGo f 0 os = os := by cases f <;> simp [mtGo]

theorem conv1 (n : Int) (w : World) : (convert 60 9 (.slice (some ⟨w.heap.size, 0, none⟩) 1 1)).run Tryd.prog (w.alloc (.cells #[.int .u8 n] 5)) = .ok (.string ⟨[UInt8.ofNat n.toNat].toArray⟩) (w.alloc (.cells #[.int .u8 n] 5)) := by
  refine run_convert_bytes_arg (w.alloc (.cells #[.int .u8 n] 5)) 60 5 Tryd.underlying60 Tryd.underlying5 w.heap.size 0 1 1 [n] rfl ?_ 9 Tryd.underlying9
  intro i hi
  obtain rfl : i = 0 := by omega
  simp

set_option maxHeartbeats 400000 in
theorem markText_any (K : Nat) (w : World) (h0 : 1 ≤ K) (hK : K ≤ 1000000) :
    Calls Tryd.prog 16 #[.int .i64 K] w fun e w' => e = .returned (.string (mt K)) ∧ Below w.heap.size w w' := by
  have h1 : (0 : Int) < (K : Int) := by omega
  have hcv := conv1
  go_enter Tryd.func16, Tryd.ntmps16
  go_wp2
  go_loopw [0, 3] (fun k out w' => ∃ (kn f : Nat) (os : List UInt8), k = .int .i64 kn ∧ out = .string ⟨os.toArray⟩ ∧ mtGo f kn os = mtGo K K [] ∧ os.length + kn ≤ K ∧ kn ≤ f ∧ Below w.heap.size w w') (fun k _ _ => (intOf k).toNat)
  case atStart => exact ⟨K, K, [], rfl, rfl, rfl, by simp, by omega, Below.refl _ _⟩
  case round =>
    obtain ⟨kn, f, os, rfl, rfl, hm, hl, hf, hb⟩ := hrel
    have Hm : Hid (mtGo f kn os = mtGo K K []) := hm
    clear hm
    by_cases hk : 0 < kn
    · have hk' : (0 : Int) < (kn : Int) := by omega
      have hk2 : (kn : Int) ≤ 1000000 := by omega
      go_wp2
      refine ⟨⟨kn / 10, f - 1, (48 + UInt8.ofNat (kn % 10)) :: os, by simp, ?_, ?_, ?_, by omega, ?_⟩, ?_⟩
      · rw [ByteArray.mk_append_mk]; simp
      · rw [← Hm.out]
        obtain ⟨g, rfl⟩ : ∃ g, f = g + 1 := ⟨f - 1, by omega⟩
        simp [mtGo, show ¬ kn = 0 by omega]
      · simp; omega
      · exact hb.alloc hb.size _
      · simp [intOf]; omega
    · have : kn = 0 := by omega
      subst this
      go_wp2
      go_ret
      refine ⟨?_, hb⟩
      rw [ByteArray.mk_append_mk]
      have := Hm.out
      rw [mtGo_zero] at this
      rw [this]
      rfl

theorem markText_int (k : Int) (w : World) (h0 : 1 ≤ k) (hK : k ≤ 1000000) :
    Calls Tryd.prog 16 #[.int .i64 k] w fun e w' => e = .returned (.string (mt k.toNat)) ∧ Below w.heap.size w w' := by
  obtain ⟨n, rfl⟩ := Int.eq_ofNat_of_zero_le (show 0 ≤ k by omega)
  rw [Int.toNat_natCast]
  exact markText_any n w (by omega) (by omega)

def marks (k0 n : Nat) : List ByteArray := (List.range n).map fun i => mt (k0 + i)
theorem marks_length (k0 n : Nat) : (marks k0 n).length = n := by simp [marks]
theorem marks_get (k0 n i : Nat) (h : i < (marks k0 n).length) : (marks k0 n)[i] = mt (k0 + i) := by simp [marks]
theorem marks_set (k0 i : Nat) (ss : List ByteArray) (h : i < ss.length) : (marks k0 i ++ ss.drop i).set i (mt (k0 + i)) = marks k0 (i + 1) ++ ss.drop (i + 1) := by
  rw [List.set_append, if_neg (by rw [marks_length]; omega), marks_length, Nat.sub_self, List.drop_eq_getElem_cons h, List.set_cons_zero]
  simp [marks, List.range_succ]
end Go.Proofs.YtmnicilgenpnfaaDoor.W
