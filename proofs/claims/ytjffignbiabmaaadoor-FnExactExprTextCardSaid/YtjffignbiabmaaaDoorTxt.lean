/-
  Contracts of l1Num, l1Text, TokenText (of the specification and of the program): a token's text. Conditions: Go's own table of powers of ten reads as its text lays it; numbers from 0 to 999999999.
-/
import Derived.Test.YtjffignbiabmaaaDoorGood
import Derived.Test.YtjffignbiabmaaaDoorLex1
import Derived.Lib.SmallJoins
namespace Go.Proofs.YtjffignbiabmaaaDoor.W
open Go.ChangeShapes Go.WideShapes Go.ChangeAt Go.RowKit

/-- Go's table of powers of ten is as its text lays it. -/
def Tab (w : World) : Prop := Lib.TabIs Tryd.prog w "internal/strconv.uint64pow10" .u64 Lib.pow10Tab
theorem gPow : Tryd.prog.globalNamed "internal/strconv.uint64pow10" = some 4 := by kernel_rfl
theorem Tab.below {w w' : World} (h : Tab w) (hb : Below w.heap.size w w') : Tab w' := Joins.tab_stays gPow h hb (Nat.le_refl _)

theorem below_grow' (w : World) (k : Nat) (os : Array Obj) : Below w.heap.size w (Go.Sort.grow (w.drewN k) os) :=
  ⟨rfl, rfl, rfl, by simp [Go.Sort.grow], fun i hi => by
    show (w.heap ++ os)[i]? = _
    rw [Array.getElem?_append_left hi]⟩

theorem Itoa_any (n : Int) (w : World) (h0 : 0 ≤ n) (h1 : n ≤ 999999999) (ht : Tab w) :
    Calls Tryd.prog 65 #[.int .i64 n] w fun e w' => e = .returned (.string ⟨(Lib.decDigits n.toNat).toArray⟩) ∧ Below w.heap.size w w' := by
  refine (Tryd.strconv_Itoa n (by omega) (by omega) w ht).mono ?_
  rintro e w' ⟨rfl, k, os, rfl⟩
  refine ⟨?_, below_grow' w k os⟩
  rw [show Lib.itoa n = Lib.decDigits n.toNat from if_neg (by omega)]

theorem conv_at (n : Int) (w : World) (g : Nat) (hg : w.heap[g]? = some (.cells #[.int .u8 n] 5)) : (convert 22 9 (.slice (some ⟨g, 0, none⟩) 1 1)).run Tryd.prog w = .ok (.string ⟨[UInt8.ofNat n.toNat].toArray⟩) w := by
  refine run_convert_bytes_arg w 22 5 Tryd.underlying22 Tryd.underlying5 g 0 1 1 [n] rfl ?_ 9 Tryd.underlying9
  intro i hi
  obtain rfl : i = 0 := by omega
  rw [cell_of_blk hg]
  simp

theorem dec_one (k : Int) (h0 : 0 ≤ k) (h : k < 10) : Lib.decDigits k.toNat = [UInt8.ofNat (48 + k).toNat] := by
  rw [Lib.decDigits, dif_pos (by omega)]
  congr 2
  omega
theorem dec_more (k : Int) (h : 10 ≤ k) : Lib.decDigits k.toNat = Lib.decDigits (k / 10).toNat ++ [UInt8.ofNat (48 + k % 10).toNat] := by
  rw [Lib.decDigits, dif_neg (by omega), show k.toNat / 10 = (k / 10).toNat by omega]
  congr 3
  omega
theorem dec_len (k : Int) (h0 : 0 ≤ k) (h : k ≤ 999999999) : (Lib.decDigits k.toNat).length ≤ 9 ∧ 1 ≤ (Lib.decDigits k.toNat).length := by
  rw [Lib.decDigits_length]
  have : ∀ (d n : Nat), n < 10 ^ (d + 1) → Lib.nDigits n ≤ d + 1 := by
    intro d
    induction d with
    | zero => intro n hn; rw [Lib.nDigits_small (by simpa using hn)]; omega
    | succ d ih =>
      intro n hn
      rw [Lib.nDigits]
      split
      · omega
      · have := ih (n / 10) (by rw [Nat.div_lt_iff_lt_mul (by omega)]; rw [Nat.pow_succ] at hn; exact hn)
        omega
  refine ⟨this 8 _ (by have : k.toNat ≤ 999999999 := by omega
                       omega), ?_⟩
  rw [Lib.nDigits]
  split <;> omega

theorem bel_drew {w w1 : World} (h : Below w.drew.heap.size w.drew w1) : Below w.heap.size w w1 := ⟨h.os, h.tape, h.output, h.size, h.block⟩
theorem bel_alloc {w w1 : World} {o : Obj} (h : Below (w.alloc o).drew.heap.size (w.alloc o).drew w1) : Below w.heap.size w w1 :=
  ((Below.refl w.heap.size w).alloc (Nat.le_refl _) o).trans ((show Below (w.alloc o).heap.size (w.alloc o) w1 from ⟨h.os, h.tape, h.output, h.size, h.block⟩).mono (by simp))

set_option maxHeartbeats 1000000 in
set_option maxRecDepth 8000 in
theorem l1Num_any : ∀ (b : Nat) (k : Int) (w : World), 0 ≤ k → k ≤ 999999999 → k.toNat ≤ b →
    Calls Tryd.prog 70 #[.int .i64 k] w fun e w' => e = .returned (.string ⟨(Lib.decDigits k.toNat).toArray⟩) ∧ Below w.heap.size w w' := by
  intro b
  induction b with
  | zero =>
    intro k w h0 h1 hb
    obtain rfl : k = 0 := by omega
    have hcv := conv_at 48 (w.alloc (.cells #[.int .u8 48] 5)) w.heap.size (heap_alloc_new w _)
    go_enter Tryd.func70, Tryd.ntmps70
    go_wp2
    go_ret
    refine ⟨ret_str ?_, (Below.refl _ _).alloc (Nat.le_refl _) _⟩
    have := dec_one 0 (by omega) (by omega)
    rw [this]
    rfl
  | succ b ih =>
    intro k w h0 h1 hb
    have IH := hide ih
    clear ih
    by_cases hk : k < 10
    · have HD := hide (dec_one k h0 hk)
      have hcv := conv_at (48 + k) (w.alloc (.cells #[.int .u8 (48 + k)] 5)) w.heap.size (heap_alloc_new w _)
      have hk0 : ¬ k < 0 := by omega
      go_enter Tryd.func70, Tryd.ntmps70
      go_wp2
      go_ret
      exact ⟨ret_str (by rw [HD.out]), (Below.refl _ _).alloc (Nat.le_refl _) _⟩
    · have HD := hide (dec_more k (by omega))
      have hk0 : ¬ k < 0 := by omega
      have hk10 : ¬ k < 10 := hk
      have hl := dec_len (k / 10) (by omega) (by omega)
      obtain ⟨hl1, hl2⟩ := hl
      have c1 : ∀ w1 : World, (convert 22 9 (.slice (some ⟨w1.heap.size, 0, none⟩) 1 1)).run Tryd.prog (w1.alloc (.cells #[.int .u8 (48 + k % 10)] 5)) = .ok (.string ⟨[UInt8.ofNat (48 + k % 10).toNat].toArray⟩) (w1.alloc (.cells #[.int .u8 (48 + k % 10)] 5)) := fun w1 => conv_at _ _ _ (heap_alloc_new w1 _)
      have c2 : ∀ w1 : World, Below (w.alloc (.cells #[.int .u8 (48 + k % 10)] 5)).drew.heap.size (w.alloc (.cells #[.int .u8 (48 + k % 10)] 5)).drew w1 → (convert 22 9 (.slice (some ⟨w.heap.size, 0, none⟩) 1 1)).run Tryd.prog w1 = .ok (.string ⟨[UInt8.ofNat (48 + k % 10).toNat].toArray⟩) w1 := fun w1 h => conv_at _ _ _ ((h.block w.heap.size (by simp)).trans (heap_alloc_new w _))
      have c3 : (convert 22 9 (.slice (some ⟨w.heap.size, 0, none⟩) 1 1)).run Tryd.prog (w.alloc (.cells #[.int .u8 (48 + k % 10)] 5)).drew = .ok (.string ⟨[UInt8.ofNat (48 + k % 10).toNat].toArray⟩) (w.alloc (.cells #[.int .u8 (48 + k % 10)] 5)).drew := conv_at _ _ _ (heap_alloc_new w _)
      have C2 := hide c2
      have e1 : IntKind.i64.wrap (k.tdiv 10) = k / 10 := Go.IntWalk.i64_quo k 10 ⟨by omega, by omega, by omega⟩
      have e2 : k.tmod 10 = k % 10 := Int.tmod_eq_emod_of_nonneg h0
      have e3 : IntKind.i64.wrap (48 + k % 10) = 48 + k % 10 := Go.IntWalk.i64_in _ ⟨by omega, by omega⟩
      have e4 : IntKind.u8.wrap (48 + k % 10) = 48 + k % 10 := Go.IntWalk.u8_in _ ⟨by omega, by omega⟩
      clear c2 hk
      go_enter Tryd.func70, Tryd.ntmps70
      go_wp2
      go_region_with (go_at_call 70; refine (IH.out _ _ (by omega) (by omega) (by omega)).mono ?_; rintro e w1 ⟨rfl, hb1⟩; first | have hc1 := C2.out w1 hb1 | skip)
      all_goals
        go_wp2
        go_ret
        refine ⟨ret_str ?_, ?_⟩
        · rw [HD.out]
          first | rfl | (rw [ByteArray.mk_append_mk]; simp)
        · first | exact (bel_drew hb1).alloc (bel_drew hb1).size _ | exact bel_alloc hb1

/-- A token's text. -/
def txtOf (k n : Int) (t : ByteArray) : ByteArray := if k = 1 then ⟨(Lib.decDigits n.toNat).toArray⟩ else t

set_option maxHeartbeats 400000 in
theorem l1Text_any (k n a : Int) (t : ByteArray) (w : World) (h : k = 1 → 0 ≤ n ∧ n ≤ 999999999) :
    Calls Tryd.prog 91 #[.agg #[.int .i64 k, .int .i64 n, .string t, .int .i64 a]] w fun e w' => e = .returned (.string (txtOf k n t)) ∧ Below w.heap.size w w' := by
  by_cases k1 : k = 1
  · subst k1
    obtain ⟨h0, h1⟩ := h rfl
    clear h
    go_enter Tryd.func91, Tryd.ntmps91
    go_wp2_with fail
    refine (l1Num_any n.toNat n _ h0 h1 (Nat.le_refl _)).mono ?_
    rintro e w1 ⟨rfl, hb1⟩
    go_wp2_with fail
    go_ret
    exact ⟨rfl, ((Below.refl _ _).alloc (Nat.le_refl _) _).trans (hb1.mono (by simp))⟩
  · clear h
    have HT : Hid (txtOf k n t = t) := if_neg k1
    go_enter Tryd.func91, Tryd.ntmps91
    go_wp2_with fail
    go_ret
    exact ⟨ret_str HT.out.symm, (Below.refl _ _).alloc (Nat.le_refl _) _⟩

theorem good_num {k n a : Int} {t : ByteArray} (h : goodB k n t a = true) (hk : k = 1) : 0 ≤ n ∧ n ≤ 999999999 := by
  subst hk
  simp [goodB, inB] at h
  omega
theorem txt_size {k n a : Int} {t : ByteArray} (h : goodB k n t a = true) : (txtOf k n t).size ≤ 9 := by
  unfold txtOf
  split
  · rename_i hk
    obtain ⟨h0, h1⟩ := good_num h hk
    have := (dec_len n h0 h1).1
    simpa [ByteArray.size] using this
  · rename_i hk
    unfold goodB at h
    rw [if_neg hk] at h
    by_cases h2 : k = 2
    · rw [if_pos h2] at h
      simp [nameB] at h
      omega
    · rw [if_neg h2] at h
      by_cases h3 : k = 3
      · rw [if_pos h3] at h
        simp [signB] at h
        have e : best t 0 = t := ByteArray.ext (Array.toList_inj.1 (by rw [← Lib.toList_data, ← Lib.toList_data]; exact h.2.2.2))
        have := bestTo_size t 0 19 (by rw [sgs_len]; omega)
        have e2 : bestTo t 0 19 = t := e
        rw [e2] at this
        omega
      · rw [if_neg h3] at h
        simp at h

def ttOf (k n a : Int) (t : ByteArray) : ByteArray := if goodB k n t a = true then txtOf k n t else ⟨#[]⟩

/-- The four cells of a token's own box behind a call that makes memory alone. -/
theorem box_kept {w w1 : World} {k n a : Int} {t : ByteArray} {T : TypeId} (hb1 : Below (w.alloc (.cells #[.int .i64 k, .int .i64 n, .string t, .int .i64 a] T)).heap.size (w.alloc (.cells #[.int .i64 k, .int .i64 n, .string t, .int .i64 a] T)) w1) :
    w1.cell? ⟨w.heap.size, 0, none⟩ = some (.int .i64 k) ∧ w1.cell? ⟨w.heap.size, 1, none⟩ = some (.int .i64 n) ∧ w1.cell? ⟨w.heap.size, 2, none⟩ = some (.string t) ∧ w1.cell? ⟨w.heap.size, 3, none⟩ = some (.int .i64 a) ∧ w.heap.size < w1.heap.size ∧ Below w.heap.size w w1 := by
  refine ⟨?_, ?_, ?_, ?_, ?_, ?_⟩
  · rw [hb1.cell (by simp)]; simp
  · rw [hb1.cell (by simp)]; simp
  · rw [hb1.cell (by simp)]; simp
  · rw [hb1.cell (by simp)]; simp
  · have := hb1.size; simp at this; omega
  · exact ((Below.refl _ _).alloc (Nat.le_refl _) _).trans (hb1.mono (by simp))

set_option maxHeartbeats 400000 in
theorem implText_any (k n a : Int) (t : ByteArray) (w : World) (hs : t.size ≤ 1048576) (ht : Tab w) :
    Calls Tryd.prog 97 #[.agg #[.int .i64 k, .int .i64 n, .string t, .int .i64 a]] w fun e w' => e = .returned (.tuple #[.string (ttOf k n a t), .bool (goodB k n t a)]) ∧ Below w.heap.size w w' := by
  have hm : t.size ≤ maxLen := by unfold maxLen; omega
  have hlim : t.size ≤ 281474976710656 := by omega
  have HTab := hide ht
  clear ht
  go_enter Tryd.func97, Tryd.ntmps97
  go_wp2_with fail
  refine (implGood_any _ _ _ _ _ hm).mono ?_
  rintro e w1 ⟨rfl, hb1⟩
  obtain ⟨c0, c1, c2, c3, hz, hB⟩ := box_kept hb1
  clear hb1
  have HT1 := hide (HTab.out.below hB)
  by_cases hg : goodB k n t a = true
  · have HT : Hid (ttOf k n a t = txtOf k n t) := if_pos hg
    by_cases k1 : k = 1
    · obtain ⟨h0, h1⟩ := good_num hg k1
      have HX : Hid (txtOf k n t = ⟨(Lib.decDigits n.toNat).toArray⟩) := if_pos k1
      have k1' : (k == 1) = true := by simp [k1]
      clear k1
      go_wp2_with fail
      refine (Itoa_any _ _ h0 h1 HT1.out).mono ?_
      rintro e w2 ⟨rfl, hb2⟩
      go_wp2_with fail
      go_ret2
      exact ⟨by rw [HT.out, HX.out, hg]; rfl, hB.trans (hb2.mono hB.size)⟩
    · have HX : Hid (txtOf k n t = t) := if_neg k1
      have k1' : (k == 1) = false := by simp [k1]
      go_wp2_with fail
      refine (Clone_any _ _ hlim).mono ?_
      rintro e w2 ⟨rfl, hb2⟩
      go_wp2_with fail
      go_ret2
      exact ⟨by rw [HT.out, HX.out, hg]; rfl, hB.trans (hb2.mono hB.size)⟩
  · rw [Bool.not_eq_true] at hg
    have HT : Hid (ttOf k n a t = ⟨#[]⟩) := if_neg (by rw [hg]; simp)
    go_wp2_with fail
    go_ret2
    exact ⟨by rw [HT.out, hg]; rfl, hB⟩
end Go.Proofs.YtjffignbiabmaaaDoor.W
