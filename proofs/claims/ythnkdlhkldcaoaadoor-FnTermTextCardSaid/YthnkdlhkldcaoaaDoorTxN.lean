/-
  Contracts of l1Num and of strconv.Itoa: a number's text. Conditions: Go's own table of powers of ten reads as its text lays it; numbers from 0 to 999999999.
-/
import Derived.Test.YthnkdlhkldcaoaaDoorLow
import Derived.Test.YthnkdlhkldcaoaaDoorShelf
import Derived.Lib.SmallJoins
namespace Go.Proofs.YthnkdlhkldcaoaaDoor.W
open Go.ChangeShapes Go.WideShapes Go.ChangeAt Go.RowKit

/-- Go's table of powers of ten is as its text lays it. -/
def Tab (w : World) : Prop := Lib.TabIs Tryd.prog w "internal/strconv.uint64pow10" .u64 Lib.pow10Tab
theorem gPow : Tryd.prog.globalNamed "internal/strconv.uint64pow10" = some 5 := by kernel_rfl
theorem Tab.below {w w' : World} (h : Tab w) (hb : Below w.heap.size w w') : Tab w' := Joins.tab_stays gPow h hb (Nat.le_refl _)

theorem below_grow' (w : World) (k : Nat) (os : Array Obj) : Below w.heap.size w (Go.Sort.grow (w.drewN k) os) :=
  ⟨rfl, rfl, rfl, by simp [Go.Sort.grow], fun i hi => by
    show (w.heap ++ os)[i]? = _
    rw [Array.getElem?_append_left hi]⟩

theorem Itoa_any (n : Int) (w : World) (h0 : 0 ≤ n) (h1 : n ≤ 999999999) (ht : Tab w) :
    Calls Tryd.prog 39 #[.int .i64 n] w fun e w' => e = .returned (.string ⟨(Lib.decDigits n.toNat).toArray⟩) ∧ Below w.heap.size w w' := by
  refine (Tryd.strconv_Itoa n (by omega) (by omega) w ht).mono ?_
  rintro e w' ⟨rfl, k, os, rfl⟩
  refine ⟨?_, below_grow' w k os⟩
  rw [show Lib.itoa n = Lib.decDigits n.toNat from if_neg (by omega)]

theorem conv_at (n : Int) (w : World) (g : Nat) (hg : w.heap[g]? = some (.cells #[.int .u8 n] 5)) : (convert 28 9 (.slice (some ⟨g, 0, none⟩) 1 1)).run Tryd.prog w = .ok (.string ⟨[UInt8.ofNat n.toNat].toArray⟩) w := by
  refine run_convert_bytes_arg w 28 5 Tryd.underlying28 Tryd.underlying5 g 0 1 1 [n] rfl ?_ 9 Tryd.underlying9
  intro i hi
  obtain rfl : i = 0 := by omega
  rw [cell_of_blk hg]
  simp

theorem dec_one (k : Int) (h0 : 0 ≤ k) (h : k < 10) : Lib.decDigits k.toNat = [UInt8.ofNat (48 + k).toNat] := by
  rw [Lib.decDigits, dif_pos (by omega)]
  congr 2
  omega
theorem dec_more (k : Int) (h : 10 ≤ k) : Lib.decDigits k.toNat = Lib.decDigits (k / 10).toNat ++ [UInt8.ofNat (48 + k % 10).toNat] := by
  rw [Lib.decDigits, dif_neg (by omega), show k.toNat / 10 = (k / 10).toNat by omega]
  congr 3
  omega
theorem dec_len (k : Int) (h0 : 0 ≤ k) (h : k ≤ 999999999) : (Lib.decDigits k.toNat).length ≤ 9 ∧ 1 ≤ (Lib.decDigits k.toNat).length := by
  rw [Lib.decDigits_length]
  have : ∀ (d n : Nat), n < 10 ^ (d + 1) → Lib.nDigits n ≤ d + 1 := by
    intro d
    induction d with
    | zero => intro n hn; rw [Lib.nDigits_small (by simpa using hn)]; omega
    | succ d ih =>
      intro n hn
      rw [Lib.nDigits]
      split
      · omega
      · have := ih (n / 10) (by rw [Nat.div_lt_iff_lt_mul (by omega)]; rw [Nat.pow_succ] at hn; exact hn)
        omega
  refine ⟨this 8 _ (by have : k.toNat ≤ 999999999 := by omega
                       omega), ?_⟩
  rw [Lib.nDigits]
  split <;> omega

theorem bel_drew {w w1 : World} (h : Below w.drew.heap.size w.drew w1) : Below w.heap.size w w1 := ⟨h.os, h.tape, h.output, h.size, h.block⟩
theorem bel_alloc {w w1 : World} {o : Obj} (h : Below (w.alloc o).drew.heap.size (w.alloc o).drew w1) : Below w.heap.size w w1 :=
  ((Below.refl w.heap.size w).alloc (Nat.le_refl _) o).trans ((show Below (w.alloc o).heap.size (w.alloc o) w1 from ⟨h.os, h.tape, h.output, h.size, h.block⟩).mono (by simp))

set_option maxRecDepth 20000 in
set_option maxHeartbeats 1000000 in
theorem l1Num_any : ∀ (b : Nat) (k : Int) (w : World), 0 ≤ k → k ≤ 999999999 → k.toNat ≤ b →
    Calls Tryd.prog 43 #[.int .i64 k] w fun e w' => e = .returned (.string ⟨(Lib.decDigits k.toNat).toArray⟩) ∧ Below w.heap.size w w' := by
  intro b
  induction b with
  | zero =>
    intro k w h0 h1 hb
    obtain rfl : k = 0 := by omega
    have hcv := conv_at 48 (w.alloc (.cells #[.int .u8 48] 5)) w.heap.size (heap_alloc_new w _)
    go_enter Tryd.func43, Tryd.ntmps43
    go_wp2
    go_ret
    refine ⟨ret_str ?_, (Below.refl _ _).alloc (Nat.le_refl _) _⟩
    have := dec_one 0 (by omega) (by omega)
    rw [this]
    rfl
  | succ b ih =>
    intro k w h0 h1 hb
    have IH := hide ih
    clear ih
    by_cases hk : k < 10
    · have HD := hide (dec_one k h0 hk)
      have hcv := conv_at (48 + k) (w.alloc (.cells #[.int .u8 (48 + k)] 5)) w.heap.size (heap_alloc_new w _)
      have hk0 : ¬ k < 0 := by omega
      go_enter Tryd.func43, Tryd.ntmps43
      go_wp2
      go_ret
      exact ⟨ret_str (by rw [HD.out]), (Below.refl _ _).alloc (Nat.le_refl _) _⟩
    · have HD := hide (dec_more k (by omega))
      have hk0 : ¬ k < 0 := by omega
      have hk10 : ¬ k < 10 := hk
      have hl := dec_len (k / 10) (by omega) (by omega)
      obtain ⟨hl1, hl2⟩ := hl
      have c1 : ∀ w1 : World, (convert 28 9 (.slice (some ⟨w1.heap.size, 0, none⟩) 1 1)).run Tryd.prog (w1.alloc (.cells #[.int .u8 (48 + k % 10)] 5)) = .ok (.string ⟨[UInt8.ofNat (48 + k % 10).toNat].toArray⟩) (w1.alloc (.cells #[.int .u8 (48 + k % 10)] 5)) := fun w1 => conv_at _ _ _ (heap_alloc_new w1 _)
      have c2 : ∀ w1 : World, Below (w.alloc (.cells #[.int .u8 (48 + k % 10)] 5)).drew.heap.size (w.alloc (.cells #[.int .u8 (48 + k % 10)] 5)).drew w1 → (convert 28 9 (.slice (some ⟨w.heap.size, 0, none⟩) 1 1)).run Tryd.prog w1 = .ok (.string ⟨[UInt8.ofNat (48 + k % 10).toNat].toArray⟩) w1 := fun w1 h => conv_at _ _ _ ((h.block w.heap.size (by simp)).trans (heap_alloc_new w _))
      have c3 : (convert 28 9 (.slice (some ⟨w.heap.size, 0, none⟩) 1 1)).run Tryd.prog (w.alloc (.cells #[.int .u8 (48 + k % 10)] 5)).drew = .ok (.string ⟨[UInt8.ofNat (48 + k % 10).toNat].toArray⟩) (w.alloc (.cells #[.int .u8 (48 + k % 10)] 5)).drew := conv_at _ _ _ (heap_alloc_new w _)
      have C2 := hide c2
      have e1 : IntKind.i64.wrap (k.tdiv 10) = k / 10 := Go.IntWalk.i64_quo k 10 ⟨by omega, by omega, by omega⟩
      have e2 : k.tmod 10 = k % 10 := Int.tmod_eq_emod_of_nonneg h0
      have e3 : IntKind.i64.wrap (48 + k % 10) = 48 + k % 10 := Go.IntWalk.i64_in _ ⟨by omega, by omega⟩
      have e4 : IntKind.u8.wrap (48 + k % 10) = 48 + k % 10 := Go.IntWalk.u8_in _ ⟨by omega, by omega⟩
      clear c2 hk
      go_enter Tryd.func43, Tryd.ntmps43
      go_wp2
      go_region_with (go_at_call 43; refine (IH.out _ _ (by omega) (by omega) (by omega)).mono ?_; rintro e w1 ⟨rfl, hb1⟩; first | have hc1 := C2.out w1 hb1 | skip)
      all_goals
        go_wp2
        go_ret
        refine ⟨ret_str ?_, ?_⟩
        · rw [HD.out]
          first | rfl | (rw [ByteArray.mk_append_mk]; simp)
        · first | exact (bel_drew hb1).alloc (bel_drew hb1).size _ | exact bel_alloc hb1

/-- A number's text. -/
def itB (n : Int) : ByteArray := ⟨(Lib.itoa n).toArray⟩
theorem itB_pos {n : Int} (h : 0 ≤ n) : itB n = ⟨(Lib.decDigits n.toNat).toArray⟩ := by unfold itB; rw [show Lib.itoa n = Lib.decDigits n.toNat from if_neg (by omega)]
theorem itB_neg {n : Int} (h : n < 0) : itB n = ⟨#[45]⟩ ++ ⟨(Lib.decDigits (-n).toNat).toArray⟩ := by
  unfold itB Lib.itoa
  rw [if_pos h, ByteArray.mk_append_mk]
  congr 1
  simp
  congr 1
  omega
theorem itB_len (n : Int) (h0 : -999999999 ≤ n) (h1 : n ≤ 999999999) : (itB n).size ≤ 10 := by
  by_cases h : 0 ≤ n
  · rw [itB_pos h]
    have := (dec_len n h h1).1
    simpa [ByteArray.size] using Nat.le_trans this (by omega)
  · rw [itB_neg (by omega)]
    have := (dec_len (-n) (by omega) (by omega)).1
    simp [ByteArray.size] at this ⊢
    omega

theorem ItoaI_any (n : Int) (w : World) (h0 : -999999999 ≤ n) (h1 : n ≤ 999999999) (ht : Tab w) :
    Calls Tryd.prog 39 #[.int .i64 n] w fun e w' => e = .returned (.string (itB n)) ∧ Below w.heap.size w w' := by
  refine (Tryd.strconv_Itoa n (by omega) (by omega) w ht).mono ?_
  rintro e w' ⟨rfl, k, os, rfl⟩
  exact ⟨rfl, below_grow' w k os⟩

set_option maxRecDepth 20000 in
set_option maxHeartbeats 1000000 in
theorem l1NumI_any (n : Int) (w : World) (h0 : -999999999 ≤ n) (h1 : n ≤ 999999999) :
    Calls Tryd.prog 43 #[.int .i64 n] w fun e w' => e = .returned (.string (itB n)) ∧ Below w.heap.size w w' := by
  by_cases h : 0 ≤ n
  · rw [itB_pos h]
    exact l1Num_any n.toNat n w h h1 (Nat.le_refl _)
  · have hn : n < 0 := by omega
    have HE := hide (itB_neg hn)
    have HC := hide (l1Num_any (-n).toNat (-n) w (by omega) (by omega) (Nat.le_refl _))
    have hl := (dec_len (-n) (by omega) (by omega)).1
    go_enter Tryd.func43, Tryd.ntmps43
    go_wp2_with fail
    refine HC.out.mono ?_
    rintro e w1 ⟨rfl, hb1⟩
    go_wp2_with fail
    go_ret
    exact ⟨ret_str (by rw [HE.out]), hb1⟩
end Go.Proofs.YthnkdlhkldcaoaaDoor.W
