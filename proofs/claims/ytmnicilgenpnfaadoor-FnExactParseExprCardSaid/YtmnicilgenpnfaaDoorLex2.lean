/-
  Contracts of numberWord and wordAhead (the program's): each tells the word that stands at a text's head, or none. Conditions: the text has at most 1000 bytes.
-/
import Derived.Test.YtmnicilgenpnfaaDoorLex1
namespace Go.Proofs.YtmnicilgenpnfaaDoor.W
open Go.ChangeShapes Go.WideShapes Go.ChangeAt Go.RowKit

theorem all_digits (s : ByteArray) (h : runFrom digB s 0 = s.size) (q : Nat) (hq : q < s.size) : digB (s[q]'hq).toNat = true := by
  obtain ⟨h1, h2⟩ := runFrom_get digB s 0 q (by omega)
  have e : 0 + q = q := by omega
  simp only [e] at h2
  exact h2
theorem next_digit (s : ByteArray) (q : Nat) (h : q < runFrom digB s 0) (hlt : q < s.size) (wx : World) (n : Nat) (hn : n = wx.heap.size) (ty : TypeId) :
    (Instr.next (.pointer (some ⟨n, 0, none⟩)) true ty).run Tryd.prog (wx.iter s q) = .ok (.tuple #[.bool true, .int .i64 q, .int .i32 ((s[q]'hlt).toNat : Nat)]) (wx.iter s (q + 1)) := by
  subst hn
  obtain ⟨h1, h2⟩ := runFrom_get digB s 0 q h
  have e : 0 + q = q := by omega
  simp only [e] at h2
  have ha : (s[q]'hlt).toNat < 128 := by have := digB_lt _ h2; omega
  rw [run_next_any wx s q ty hlt, decode_ascii s q hlt ha]
theorem next_end (s : ByteArray) (q : Nat) (hlt : ¬ q < s.size) (wx : World) (n : Nat) (hn : n = wx.heap.size) (ty : TypeId) :
    (Instr.next (.pointer (some ⟨n, 0, none⟩)) true ty).run Tryd.prog (wx.iter s q) = .ok (.tuple #[.bool false]) (wx.iter s q) := by
  subst hn
  exact run_next_end wx s q ty hlt
theorem iterPos_at (wx : World) (s : ByteArray) (q n : Nat) (hn : n = wx.heap.size) : (wx.iter s q).iterPos n = q := by
  subst hn; simp

theorem zero_iter (w : World) (s : ByteArray) (q : Nat) : ∃ W, W = (w.alloc (.cells #[.int .i64 0, .int .i64 0, .string ⟨#[]⟩, .int .i64 0] 44)).iter s q ∧ W.cell? ⟨w.heap.size, 0, none⟩ = some (.int .i64 0) ∧ W.cell? ⟨w.heap.size, 1, none⟩ = some (.int .i64 0) ∧ W.cell? ⟨w.heap.size, 2, none⟩ = some (.string ⟨#[]⟩) ∧ W.cell? ⟨w.heap.size, 3, none⟩ = some (.int .i64 0) ∧ (∀ i, W.frozen? ⟨w.heap.size, i, none⟩ = false) ∧ Below w.heap.size w W := by
  have hb := below_iter (w.alloc (.cells #[.int .i64 0, .int .i64 0, .string ⟨#[]⟩, .int .i64 0] 44)) s q
  refine ⟨_, rfl, ?_, ?_, ?_, ?_, ?_, ?_⟩
  · rw [hb.cell (by simp)]; simp
  · rw [hb.cell (by simp)]; simp
  · rw [hb.cell (by simp)]; simp
  · rw [hb.cell (by simp)]; simp
  · intro i; rw [hb.frozen (by simp)]; simp
  · exact ((Below.refl _ _).alloc (Nat.le_refl _) _).trans (hb.mono (by simp))

set_option maxHeartbeats 1000000 in
theorem numberWord_any (s : ByteArray) (w : World) (hs : s.size ≤ 1000) (h0 : 0 < s.size) (hd : runFrom digB s 0 = s.size) :
    Calls Tryd.prog 30 #[.string s] w fun e w' => e = .returned (.tuple #[tokV (wordAt s 0) 0, .int .i64 (endOf (wordAt s 0) 0)]) ∧ Below w.heap.size w w' := by
  have Hd := hide hd
  have h48 := hide (byte_48 s 0 h0)
  have h0' : (0 : Int) < (s.size : Int) := by omega
  clear hd
  by_cases h9 : (9 : Int) < (s.size : Int)
  · have HW : Hid (wordAt s 0 = none) := word_num_no s 0 (by rw [Hd.out]; exact h0) (.inl (by rw [Hd.out]; omega))
    go_enter Tryd.func30, Tryd.ntmps30
    go_wp2_with fail
    rw [HW.out]
    refine bodyPost_ret (v := .tuple #[tokV none 0, .int .i64 0]) (by simp [results, Tryd.results30, go_sem, tokV]) rfl ⟨rfl, ?_⟩
    exact (Below.refl _ _).alloc (Nat.le_refl _) _
  · by_cases hz : (((s[0]'h0).toNat : Int) == 48) = true ∧ (1 : Int) < (s.size : Int)
    · obtain ⟨hz1, hz2⟩ := hz
      have HW : Hid (wordAt s 0 = none) := word_num_no s 0 (by rw [Hd.out]; exact h0) (.inr ⟨by rw [Hd.out]; omega, h48.out.2 (by simpa using hz1)⟩)
      go_enter Tryd.func30, Tryd.ntmps30
      go_wp2_with fail
      rw [HW.out]
      refine bodyPost_ret (v := .tuple #[tokV none 0, .int .i64 0]) (by simp [results, Tryd.results30, go_sem, tokV]) rfl ⟨rfl, ?_⟩
      exact (Below.refl _ _).alloc (Nat.le_refl _) _
    · have HW : Hid (wordAt s 0 = some ⟨1, numL (s.data.toList.take s.size), ⟨#[]⟩, s.size⟩) := by
        have := word_num s 0 (by rw [Hd.out]; exact h0) (by rw [Hd.out]; omega) (fun h1 h2 => hz ⟨by simpa using h48.out.1 h2, by rw [Hd.out] at h1; omega⟩)
        rw [Hd.out] at this; exact this
      by_cases hz1 : (((s[0]'h0).toNat : Int) == 48) = true
      · have hz2 : ¬ (1 : Int) < (s.size : Int) := fun h => hz ⟨hz1, h⟩
        clear hz
        go_enter Tryd.func30, Tryd.ntmps30
        go_wp2_with fail
        go_loopw [4] (fun n w' => ∃ q : Nat, q ≤ s.size ∧ n = .int .i64 (numL (s.data.toList.take q)) ∧ w' = (w.alloc (.cells #[.int .i64 0, .int .i64 0, .string ⟨#[]⟩, .int .i64 0] 44)).iter s q) (fun _ w' => s.size - w'.iterPos (w.heap.size + 1))
        case atStart => exact ⟨0, by omega, by simp [numL], rfl⟩
        case round =>
          obtain ⟨q, hq, rfl, rfl⟩ := hrel
          by_cases hlt : q < s.size
          · have hnx : ∀ ty, (Instr.next (.pointer (some ⟨w.heap.size + 1, 0, none⟩)) true ty).run Tryd.prog ((w.alloc (.cells #[.int .i64 0, .int .i64 0, .string ⟨#[]⟩, .int .i64 0] 44)).iter s q) = .ok (.tuple #[.bool true, .int .i64 q, .int .i32 ((s[q]'hlt).toNat : Nat)]) ((w.alloc (.cells #[.int .i64 0, .int .i64 0, .string ⟨#[]⟩, .int .i64 0] 44)).iter s (q + 1)) := fun ty => next_digit s q (by rw [Hd.out]; exact hlt) hlt _ _ (by simp) ty
            have hdq : digB (s[q]'hlt).toNat = true := (all_digits s Hd.out q hlt)
            have hdr : (48 : Int) ≤ ((s[q]'hlt).toNat : Int) ∧ ((s[q]'hlt).toNat : Int) ≤ 57 := by simpa [digB] using hdq
            obtain ⟨hdr1, hdr2⟩ := hdr
            have hbd := num_bd s 0 q (by rw [Hd.out]; exact hq) (by omega)
            obtain ⟨hb1, hb2⟩ := hbd
            rw [List.drop_zero] at hb1 hb2
            have HN := hide (num_step s 0 q (by omega) hlt)
            clear hdq
            go_wp2_with fail
            refine ⟨⟨q + 1, by omega, ?_, rfl⟩, ?_⟩
            · have := HN.out
              rw [List.drop_zero, Nat.sub_zero, Nat.sub_zero] at this
              rw [this]
            · rw [iterPos_at _ _ _ _ (by simp), iterPos_at _ _ _ _ (by simp)]; omega
          · have hnx : ∀ ty, (Instr.next (.pointer (some ⟨w.heap.size + 1, 0, none⟩)) true ty).run Tryd.prog ((w.alloc (.cells #[.int .i64 0, .int .i64 0, .string ⟨#[]⟩, .int .i64 0] 44)).iter s q) = .ok (.tuple #[.bool false]) ((w.alloc (.cells #[.int .i64 0, .int .i64 0, .string ⟨#[]⟩, .int .i64 0] 44)).iter s q) := fun ty => next_end s q hlt _ _ (by simp) ty
            obtain ⟨W, hW, c0, c1, c2, c3, f0, hB⟩ := zero_iter w s q
            rw [← hW] at hnx ⊢
            clear hW
            go_wp2_with fail
            rw [HW.out]
            have eq : q = s.size := by omega
            rw [eq]
            refine bodyPost_ret (v := .tuple #[.agg #[.int .i64 1, .int .i64 (numL (s.data.toList.take s.size)), .string ⟨#[]⟩, .int .i64 0], .int .i64 (s.size : Int)]) (by simp [results, Tryd.results30, go_sem, c0, c1, c2, c3]) rfl ⟨?_, ?_⟩
            · simp [tokV, endOf]
            · exact ((((hB.setCell (Nat.le_refl _) _).setCell (Nat.le_refl _) _).setCell (Nat.le_refl _) _).setCell (Nat.le_refl _) _)
      · rw [Bool.not_eq_true] at hz1
        clear hz
        go_enter Tryd.func30, Tryd.ntmps30
        go_wp2_with fail
        go_loopw [4] (fun n w' => ∃ q : Nat, q ≤ s.size ∧ n = .int .i64 (numL (s.data.toList.take q)) ∧ w' = (w.alloc (.cells #[.int .i64 0, .int .i64 0, .string ⟨#[]⟩, .int .i64 0] 44)).iter s q) (fun _ w' => s.size - w'.iterPos (w.heap.size + 1))
        case atStart => exact ⟨0, by omega, by simp [numL], rfl⟩
        case round =>
          obtain ⟨q, hq, rfl, rfl⟩ := hrel
          by_cases hlt : q < s.size
          · have hnx : ∀ ty, (Instr.next (.pointer (some ⟨w.heap.size + 1, 0, none⟩)) true ty).run Tryd.prog ((w.alloc (.cells #[.int .i64 0, .int .i64 0, .string ⟨#[]⟩, .int .i64 0] 44)).iter s q) = .ok (.tuple #[.bool true, .int .i64 q, .int .i32 ((s[q]'hlt).toNat : Nat)]) ((w.alloc (.cells #[.int .i64 0, .int .i64 0, .string ⟨#[]⟩, .int .i64 0] 44)).iter s (q + 1)) := fun ty => next_digit s q (by rw [Hd.out]; exact hlt) hlt _ _ (by simp) ty
            have hdq : digB (s[q]'hlt).toNat = true := (all_digits s Hd.out q hlt)
            have hdr : (48 : Int) ≤ ((s[q]'hlt).toNat : Int) ∧ ((s[q]'hlt).toNat : Int) ≤ 57 := by simpa [digB] using hdq
            obtain ⟨hdr1, hdr2⟩ := hdr
            have hbd := num_bd s 0 q (by rw [Hd.out]; exact hq) (by omega)
            obtain ⟨hb1, hb2⟩ := hbd
            rw [List.drop_zero] at hb1 hb2
            have HN := hide (num_step s 0 q (by omega) hlt)
            clear hdq
            go_wp2_with fail
            refine ⟨⟨q + 1, by omega, ?_, rfl⟩, ?_⟩
            · have := HN.out
              rw [List.drop_zero, Nat.sub_zero, Nat.sub_zero] at this
              rw [this]
            · rw [iterPos_at _ _ _ _ (by simp), iterPos_at _ _ _ _ (by simp)]; omega
          · have hnx : ∀ ty, (Instr.next (.pointer (some ⟨w.heap.size + 1, 0, none⟩)) true ty).run Tryd.prog ((w.alloc (.cells #[.int .i64 0, .int .i64 0, .string ⟨#[]⟩, .int .i64 0] 44)).iter s q) = .ok (.tuple #[.bool false]) ((w.alloc (.cells #[.int .i64 0, .int .i64 0, .string ⟨#[]⟩, .int .i64 0] 44)).iter s q) := fun ty => next_end s q hlt _ _ (by simp) ty
            obtain ⟨W, hW, c0, c1, c2, c3, f0, hB⟩ := zero_iter w s q
            rw [← hW] at hnx ⊢
            clear hW
            go_wp2_with fail
            rw [HW.out]
            have eq : q = s.size := by omega
            rw [eq]
            refine bodyPost_ret (v := .tuple #[.agg #[.int .i64 1, .int .i64 (numL (s.data.toList.take s.size)), .string ⟨#[]⟩, .int .i64 0], .int .i64 (s.size : Int)]) (by simp [results, Tryd.results30, go_sem, c0, c1, c2, c3]) rfl ⟨?_, ?_⟩
            · simp [tokV, endOf]
            · exact ((((hB.setCell (Nat.le_refl _) _).setCell (Nat.le_refl _) _).setCell (Nat.le_refl _) _).setCell (Nat.le_refl _) _)

/-! ### the word at a text's head -/
theorem run_cut (f : Int → Bool) (s : ByteArray) (n : Nat) (hn : n = runFrom f s 0) : runFrom f (s.extract 0 n) 0 = n := by
  have hle := runFrom_le f s 0 (by omega)
  have e : (s.extract 0 n).data.toList = s.data.toList.take n := by rw [Lib.extract_data]; simp
  unfold runFrom at *
  rw [e]
  simp only [List.drop_zero] at *
  have : ∀ (l : List UInt8) (g : UInt8 → Bool), ((l.take (l.takeWhile g).length).takeWhile g) = l.takeWhile g := by
    intro l g
    induction l with
    | nil => rfl
    | cons a l ih =>
      by_cases h : g a = true
      · simp [h, ih]
      · simp [h]
  rw [hn, this]

theorem head_cut (s : ByteArray) (n : Nat) (h : 0 < n) : (s.extract 0 n).data.toList[0]? = s.data.toList[0]? := by
  rw [Lib.extract_data]
  simp [h]

theorem word_cut_num (s : ByteArray) (h0 : 0 < runFrom digB s 0) : wordAt (s.extract 0 (runFrom digB s 0)) 0 = wordAt s 0 := by
  have h1 := run_cut digB s _ rfl
  unfold wordAt
  rw [h1, if_pos h0, if_pos h0, head_cut s _ h0, Lib.extract_data]
  simp [List.take_take]

theorem letters_no_digits (s : ByteArray) (h : 0 < runFrom letB s 0) : runFrom digB s 0 = 0 := by
  obtain ⟨h1, h2⟩ := runFrom_get letB s 0 0 h
  have h2' : letB (s[0]'h1).toNat = true := h2
  refine runFrom_no digB s 0 h1 ?_
  simp [letB] at h2'
  rw [Bool.eq_false_iff]
  intro hc
  simp [digB] at hc
  omega

theorem word_cut_name (s : ByteArray) (h0 : 0 < runFrom letB s 0) : wordAt (s.extract 0 (runFrom letB s 0)) 0 = wordAt s 0 := by
  have h1 := run_cut letB s _ rfl
  have h2 := letters_no_digits s h0
  have h3 := letters_no_digits (s.extract 0 (runFrom letB s 0)) (by rw [h1]; exact h0)
  have e : (s.extract 0 (runFrom letB s 0)).extract 0 (0 + runFrom letB s 0) = s.extract 0 (0 + runFrom letB s 0) := by
    apply ByteArray.ext
    apply Array.toList_inj.1
    rw [Lib.extract_data, Lib.extract_data, Lib.extract_data]
    simp [List.take_take]
  unfold wordAt
  rw [h3, h2, h1, if_pos h0, if_pos h0, e]
  simp

theorem tokV_form (o : Option Wd) (p : Int) : ∃ (k n : Int) (t : ByteArray) (a : Int), tokV o p = .agg #[.int .i64 k, .int .i64 n, .string t, .int .i64 a] := by
  cases o with
  | none => exact ⟨_, _, _, _, rfl⟩
  | some d => exact ⟨_, _, _, _, rfl⟩

/-- What is left of a token's zero block behind a call that makes memory alone. -/
theorem zero_kept {w w1 : World} (hb1 : Below (w.alloc (.cells #[.int .i64 0, .int .i64 0, .string ⟨#[]⟩, .int .i64 0] 44)).heap.size (w.alloc (.cells #[.int .i64 0, .int .i64 0, .string ⟨#[]⟩, .int .i64 0] 44)) w1) :
    w1.cell? ⟨w.heap.size, 0, none⟩ = some (.int .i64 0) ∧ w1.cell? ⟨w.heap.size, 1, none⟩ = some (.int .i64 0) ∧ w1.cell? ⟨w.heap.size, 2, none⟩ = some (.string ⟨#[]⟩) ∧ w1.cell? ⟨w.heap.size, 3, none⟩ = some (.int .i64 0) ∧ (∀ i, w1.frozen? ⟨w.heap.size, i, none⟩ = false) ∧ Below w.heap.size w w1 := by
  refine ⟨?_, ?_, ?_, ?_, ?_, ?_⟩
  · rw [hb1.cell (by simp)]; simp
  · rw [hb1.cell (by simp)]; simp
  · rw [hb1.cell (by simp)]; simp
  · rw [hb1.cell (by simp)]; simp
  · intro i; rw [hb1.frozen (by simp)]; simp
  · exact ((Below.refl _ _).alloc (Nat.le_refl _) _).trans (hb1.mono (by simp))

set_option maxHeartbeats 1000000 in
theorem wordAhead_any (s : ByteArray) (w : World) (hs : s.size ≤ 1000) :
    Calls Tryd.prog 22 #[.string s] w fun e w' => e = .returned (.tuple #[tokV (wordAt s 0) 0, .int .i64 (endOf (wordAt s 0) 0)]) ∧ Below w.heap.size w w' := by
  have hm : s.size ≤ maxLen := by unfold maxLen; omega
  have hle := runFrom_le digB s 0 (by omega)
  have hle2 := runFrom_le letB s 0 (by omega)
  obtain ⟨k, n, t, a, ht⟩ := tokV_form (wordAt s 0) 0
  have HT := hide ht
  clear ht
  go_enter Tryd.func22, Tryd.ntmps22
  go_wp2_with fail
  refine (run_isDigit s _ hm).mono ?_
  rintro e w1 ⟨rfl, hb1⟩
  by_cases hd : 0 < runFrom digB s 0
  · have hd' : (0 : Int) < (runFrom digB s 0 : Int) := by omega
    go_wp2_with fail
    refine (numberWord_any (s.extract 0 (runFrom digB s 0)) _ (by simp; omega) (by simp; omega) (by rw [run_cut digB s _ rfl]; simp; omega)).mono ?_
    rintro e w2 ⟨rfl, hb2⟩
    rw [word_cut_num s hd, HT.out]
    obtain ⟨c0, c1, c2, c3, f0, hB⟩ := zero_kept (hb1.trans (hb2.mono hb1.size))
    clear hb1 hb2
    go_wp2_with fail
    refine bodyPost_ret (v := .tuple #[.agg #[.int .i64 k, .int .i64 n, .string t, .int .i64 a], .int .i64 (endOf (wordAt s 0) 0)]) (by simp [results, Tryd.results22, go_sem, c0, c1, c2, c3]) rfl ⟨by rw [HT.out], ?_⟩
    exact ((((hB.setCell (Nat.le_refl _) _).setCell (Nat.le_refl _) _).setCell (Nat.le_refl _) _).setCell (Nat.le_refl _) _)
  · have hd' : ¬ (0 : Int) < (runFrom digB s 0 : Int) := by omega
    go_wp2_with fail
    refine (run_isLetter s _ hm).mono ?_
    rintro e w2 ⟨rfl, hb2⟩
    by_cases hl : 0 < runFrom letB s 0
    · have hl' : (0 : Int) < (runFrom letB s 0 : Int) := by omega
      go_wp2_with fail
      refine (nameWord_any (s.extract 0 (runFrom letB s 0)) _ (by simp; omega) (by simp; omega) (letters_no_digits _ (by rw [run_cut letB s _ rfl]; exact hl)) (by rw [run_cut letB s _ rfl]; simp; omega)).mono ?_
      rintro e w3 ⟨rfl, hb3⟩
      rw [word_cut_name s hl, HT.out]
      have hb12 := hb1.trans (hb2.mono hb1.size)
      obtain ⟨c0, c1, c2, c3, f0, hB⟩ := zero_kept (hb12.trans (hb3.mono hb12.size))
      clear hb1 hb2 hb3 hb12
      go_wp2_with fail
      refine bodyPost_ret (v := .tuple #[.agg #[.int .i64 k, .int .i64 n, .string t, .int .i64 a], .int .i64 (endOf (wordAt s 0) 0)]) (by simp [results, Tryd.results22, go_sem, c0, c1, c2, c3]) rfl ⟨by rw [HT.out], ?_⟩
      exact ((((hB.setCell (Nat.le_refl _) _).setCell (Nat.le_refl _) _).setCell (Nat.le_refl _) _).setCell (Nat.le_refl _) _)
    · have hl' : ¬ (0 : Int) < (runFrom letB s 0 : Int) := by omega
      have Hd0 : Hid (runFrom digB s 0 = 0) := (show _ = _ by omega)
      have Hl0 : Hid (runFrom letB s 0 = 0) := (show _ = _ by omega)
      have hbz : (best s 0).size ≤ 2 := bestTo_size s 0 19 (by rw [sgs_len]; omega)
      go_wp2_with fail
      refine (signAhead_any s _).mono ?_
      rintro e w3 ⟨rfl, hb3⟩
      have hb12 := hb1.trans (hb2.mono hb1.size)
      obtain ⟨c0, c1, c2, c3, f0, hB⟩ := zero_kept (hb12.trans (hb3.mono hb12.size))
      clear hb1 hb2 hb3 hb12
      by_cases he : (best s 0).toList.isEmpty = true
      · have HW : Hid (wordAt s 0 = none) := word_sign_no s 0 Hd0.out Hl0.out (by simpa [isEmpty_size] using he)
        go_wp2_with fail
        rw [HW.out]
        refine bodyPost_ret (v := .tuple #[tokV none 0, .int .i64 0]) (by simp [results, Tryd.results22, go_sem, tokV, c0, c1, c2, c3]) rfl ⟨rfl, ?_⟩
        exact ((((hB.setCell (Nat.le_refl _) _).setCell (Nat.le_refl _) _).setCell (Nat.le_refl _) _).setCell (Nat.le_refl _) _)
      · rw [Bool.not_eq_true] at he
        have HW : Hid (wordAt s 0 = some ⟨3, 0, best s 0, (best s 0).size⟩) := word_sign s 0 Hd0.out Hl0.out (by simpa [isEmpty_size] using he)
        go_wp2_with fail
        rw [HW.out]
        refine bodyPost_ret (v := .tuple #[.agg #[.int .i64 3, .int .i64 0, .string (best s 0), .int .i64 0], .int .i64 ((best s 0).size : Int)]) (by simp [results, Tryd.results22, go_sem, c0, c1, c2, c3]) rfl ⟨?_, ?_⟩
        · simp [tokV, endOf]
        · exact ((((hB.setCell (Nat.le_refl _) _).setCell (Nat.le_refl _) _).setCell (Nat.le_refl _) _).setCell (Nat.le_refl _) _)
end Go.Proofs.YtmnicilgenpnfaaDoor.W
