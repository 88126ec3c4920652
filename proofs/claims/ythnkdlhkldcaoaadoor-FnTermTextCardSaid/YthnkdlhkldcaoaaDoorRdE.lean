/-
  A text spoilt at drawn places: the contract of spoilt. Conditions: at most 9223372036854775807 bytes to draw from, texts of at most 100000 bytes.
-/
import Derived.Test.YthnkdlhkldcaoaaDoorDrA
import Derived.Test.YthnkdlhkldcaoaaDoorTxN
import Derived.Test.YthnkdlhkldcaoaaDoorRdI
namespace Go.Proofs.YthnkdlhkldcaoaaDoor.W
open Go.ChangeShapes Go.WideShapes Go.ChangeAt Go.RowKit
set_option linter.unusedVariables false
set_option linter.unusedSimpArgs false

theorem ex_le (u : ByteArray) (a b : Nat) : (u.extract a b).size ≤ u.size := by simp; omega

set_option maxRecDepth 20000 in
set_option maxHeartbeats 8000000 in
theorem spoilt_any (c n cp m : Nat) (ad : Option Addr) (t wt : ByteArray) (w : World) (hm : m + 20 ≤ 1000000) (hn : (n : Int) ≤ 9223372036854775807) (ht : t.size ≤ 100000) (hw0 : 0 < wt.size) (hw1 : wt.size ≤ 1000) (h : CU w c ad n cp m) :
    Calls Tryd.prog 28 #[.pointer (some ⟨c, 0, none⟩), .string t, .string wt] w fun e w' => ∃ u : ByteArray, e = .returned (.string u) ∧ CU w' c ad n cp (m + 20) ∧ w.grownBy w' (some c) := by
  have HC := hide h
  have hcl := h.lt
  have HP0 := hide (pick_any c n cp m 3 ad w (by omega) (by omega) hn h)
  clear h
  go_enter Tryd.func28, Tryd.ntmps28
  go_wp2_with fail
  refine Calls.mono HP0.out ?_
  rintro e w1 ⟨q0, rfl, hq0, hc1, hg1⟩
  have hq2 : q0 ≤ 2 := by omega
  have HC1 := hide (hc1.more (m' := m + 2 + 6 * (2 - q0)) (by omega))
  have HG1 := hide hg1
  clear HP0 hc1 hg1 hq0
  go_wp2_with fail
  go_loopw [1, 7] (fun v1 v7 w' => ∃ (q : Nat) (u : ByteArray), v1 = .string u ∧ v7 = .int .i64 (q : Int) ∧ q ≤ 2 ∧ u.size ≤ t.size + (2 - q) ∧ CU w' c ad n cp (m + 2 + 6 * (2 - q)) ∧ w.grownBy w' (some c)) (fun _ v _ => (intOf v).toNat)
  case atStart => exact ⟨q0, t, rfl, rfl, hq2, by omega, HC1.out, HG1.out⟩
  case round =>
    obtain ⟨q, u, rfl, rfl, hq, hu, hc, hg⟩ := hrel
    have HCr := hide hc
    have HGr := hide hg
    have hcr := hc.lt
    clear hc hg
    by_cases hq1 : 0 < q
    · have hq1' : (0 : Int) < (q : Int) := by omega
      by_cases hu1 : 0 < u.size
      · have hu1' : (0 : Int) < (u.size : Int) := by omega
        have HP1 := hide (pick_any c n cp _ u.size ad wr (by omega) (by omega) hn HCr.out)
        go_wp2_with fail
        refine Calls.mono HP1.out ?_
        rintro e w2 ⟨i, rfl, hi, hc2, hg2⟩
        have hil : i < u.size := by omega
        have hil' : (i : Int) < (u.size : Int) := by omega
        have HC2 := hide hc2
        have HG2 := hide (grown_trans HGr.out hg2)
        have HP2 := hide (pick_any c n cp _ wt.size ad w2 (by omega) (by omega) hn hc2)
        clear HP1 hc2 hg2 hi HCr HGr
        go_wp2_with fail
        refine Calls.mono HP2.out ?_
        rintro e w3 ⟨j, rfl, hj, hc3, hg3⟩
        have hjl : j < wt.size := by omega
        have hjl' : (j : Int) < (wt.size : Int) := by omega
        have hb3 : Below w3.heap.size w3 (w3.alloc (.cells #[.int .u8 ((wt[j]'hjl).toNat : Int)] 5)) := (Below.refl _ _).alloc (Nat.le_refl _) _
        have hcv := conv_at ((wt[j]'hjl).toNat : Int) (w3.alloc (.cells #[.int .u8 ((wt[j]'hjl).toNat : Int)] 5)) w3.heap.size (heap_alloc_new w3 _)
        have HC3 := hide (hc3.below hb3)
        have HG3 := hide (grown_trans HG2.out (grown_trans hg3 (grown_below (some c) hb3)))
        have HP3 := hide (pick_any c n cp _ 3 ad _ (by omega) (by omega) hn HC3.out)
        clear HP2 hc3 hg3 hj HC2 HG2 hb3
        go_wp2_with fail
        refine Calls.mono HP3.out ?_
        rintro e w4 ⟨r, rfl, hr, hc4, hg4⟩
        have hr3 : r = 0 ∨ r = 1 ∨ r = 2 := by omega
        have HC4 := hide (hc4.more (m' := m + 2 + 6 * (2 - (q - 1))) (by omega))
        have HG4 := hide (grown_trans HG3.out hg4)
        clear HP3 hc4 hg4 hr HC3 HG3 hcv
        have h1 : (0 : Int) ≤ (i : Int) := by omega
        have h2 : (i : Int) ≤ (u.size : Int) := by omega
        have h3 : (i : Int) + 1 ≤ (u.size : Int) := by omega
        have hwr : IntKind.i64.wrap ((i : Int) + 1) = (i : Int) + 1 := by rw [IntKind.wrap_i64]; omega
        obtain ⟨W1, hW1⟩ : ∃ W1 : ByteArray, W1 = ⟨#[wt[j]'hjl]⟩ := ⟨_, rfl⟩
        have hW1s : W1.size = 1 := by rw [hW1]; rfl
        rcases hr3 with rfl | rfl | rfl
        · go_upto_region 9 with fail
          rw [← hW1]
          clear hW1
          go_quiet (fail)
          go_wp2_with fail
          exact ⟨⟨q - 1, _, rfl, by rw [show ((q - 1 : Nat) : Int) = (q : Int) - 1 by omega], by omega, by simp; omega, HC4.out.drewN _, grown_drewN HG4.out _⟩, by simp [intOf]; omega⟩
        · go_upto_region 11 with fail
          rw [← hW1]
          clear hW1
          go_quiet (fail)
          go_wp2_with fail
          exact ⟨⟨q - 1, _, rfl, by rw [show ((q - 1 : Nat) : Int) = (q : Int) - 1 by omega], by omega, by simp; omega, HC4.out.drewN _, grown_drewN HG4.out _⟩, by simp [intOf]; omega⟩
        · go_upto_region 7 with fail
          clear hW1
          go_quiet (fail)
          go_wp2_with fail
          exact ⟨⟨q - 1, _, rfl, by rw [show ((q - 1 : Nat) : Int) = (q : Int) - 1 by omega], by omega, by simp; omega, HC4.out.drewN _, grown_drewN HG4.out _⟩, by simp [intOf]; omega⟩
      · have hu1' : ¬ (0 : Int) < (u.size : Int) := by omega
        go_wp2_with fail
        go_ret
        exact ⟨⟨u, rfl⟩, HCr.out.more (by omega), HGr.out⟩
    · have hq1' : ¬ (0 : Int) < (q : Int) := by omega
      go_wp2_with fail
      go_ret
      exact ⟨⟨u, rfl⟩, HCr.out.more (by omega), HGr.out⟩
end Go.Proofs.YthnkdlhkldcaoaaDoor.W
