/-
  Good data: contracts of both GoodData. Conditions: at most 1048576 constructors.
-/
import Derived.Test.YtmlpnmdckgppnaaDaL
namespace Go.Proofs.Ytmlpnmdckgppnaa.W
open Go.ChangeShapes Go.WideShapes Go.ChangeAt Go.RowKit
set_option linter.unusedVariables false

/-- How many parts a constructor may have. -/
def pOk (n : Int) : Bool := inB n 0 2
def has0 (l : List Int) : Bool := l.contains 0
/-- Good data. -/
def goodD (D : List Int) : Bool := (D.all pOk && has0 D) && decide (D.length ≤ 4)
theorem goodD_len {D : List Int} (h : goodD D = true) : D.length ≤ 4 ∧ 1 ≤ D.length := by
  simp only [goodD, Bool.and_eq_true, decide_eq_true_eq] at h
  refine ⟨h.2, ?_⟩
  cases D with
  | nil => simp [has0] at h
  | cons a l => simp
theorem goodD_parts {D : List Int} (h : goodD D = true) {i : Nat} (hi : i < D.length) : 0 ≤ D[i] ∧ D[i] ≤ 2 := by
  simp only [goodD, Bool.and_eq_true, decide_eq_true_eq] at h
  have := List.all_eq_true.1 h.1.1 _ (List.getElem_mem hi)
  simp [pOk, inB] at this
  exact this
theorem all_at {l : List Int} {p : Int → Bool} {j : Nat} (h : j < l.length) : (l.drop j).all p = (p l[j] && (l.drop (j + 1)).all p) := by
  rw [List.drop_eq_getElem_cons h]; rfl
theorem has_at {l : List Int} {j : Nat} (h : j < l.length) : has0 (l.drop j) = (decide (l[j] = 0) || has0 (l.drop (j + 1))) := by
  unfold has0
  rw [List.drop_eq_getElem_cons h, List.contains_cons]
  congr 1
  rw [Bool.eq_iff_iff]; simp; exact eq_comm

set_option maxHeartbeats 1000000 in
theorem index0_any (ad : Option Addr) (c : Nat) (l : List Int) (w : World) (hl : l.length ≤ 1048576) (h : IRow w ad l) :
    Calls Try.prog 49 #[.slice ad l.length c, .int .i64 0] w fun e w' => ∃ r : Int, e = .returned (.int .i64 r) ∧ has0 l = decide (0 ≤ r) ∧ Below w.heap.size w w' := by
  have HR := hide h
  clear h
  go_enter Try.func49, Try.ntmps49
  go_wp2_with fail
  go_loopw [8] (fun i w' => ∃ j : Nat, j ≤ l.length ∧ i = .int .i64 j ∧ has0 l = has0 (l.drop j) ∧ Below w.heap.size w w') (fun i _ => l.length - (intOf i).toNat)
  case atStart => exact ⟨0, by omega, rfl, rfl, Below.refl _ _⟩
  case round =>
    obtain ⟨j, hj, rfl, hG, hB⟩ := hrel
    have HG := hide hG
    clear hG
    by_cases hlt : j < l.length
    · have hlt' : (j : Int) < (l.length : Int) := by omega
      have hat := has_at hlt
      obtain ⟨b, o, rfl, hb, p0⟩ := IRow.iat HR.out hB hlt
      obtain ⟨x, hx⟩ : ∃ x, x = l[j] := ⟨_, rfl⟩
      rw [← hx] at p0 hat
      have HA := hide hat
      clear hx hat
      by_cases hx0 : x = 0
      · subst hx0
        go_wp2_with fail
        go_ret
        exact ⟨_, rfl, by rw [HG.out, HA.out]; simp, hB⟩
      · have hx1 : (0 == x) = false := by simp; omega
        have hx2 : ¬ (0 : Int) = x := fun e => hx0 e.symm
        go_wp2_with fail
        refine ⟨⟨j + 1, by omega, by go_num, ?_, hB⟩, by simp [intOf]; omega⟩
        rw [HG.out, HA.out, decide_eq_false hx0, Bool.false_or]
    · obtain rfl : j = l.length := by omega
      go_wp2_with fail
      go_ret
      refine ⟨_, rfl, ?_, hB⟩
      rw [HG.out, List.drop_length]; rfl

set_option maxHeartbeats 1000000 in
theorem contains0_any (ad : Option Addr) (c : Nat) (l : List Int) (w : World) (hl : l.length ≤ 1048576) (h : IRow w ad l) :
    Calls Try.prog 44 #[.slice ad l.length c, .int .i64 0] w fun e w' => e = .returned (.bool (has0 l)) ∧ Below w.heap.size w w' := by
  have HC := hide (index0_any ad c l w hl h)
  clear h
  go_enter Try.func44, Try.ntmps44
  go_wp2_with fail
  refine Calls.mono HC.out ?_
  rintro e w1 ⟨r, rfl, hr, hb⟩
  have Hr := hide hr
  clear hr HC
  go_wp2_with fail
  go_ret
  exact ⟨ret_bool (by rw [Hr.out]), hb⟩

set_option maxHeartbeats 2000000 in
theorem implGoodD_any (v : Value) (D : List Int) (w : World) (h : DRow w v D) :
    Calls Try.prog 37 #[v] w fun e w' => e = .returned (.bool (goodD D)) ∧ Below w.heap.size w w' := by
  obtain ⟨ad, c, rfl, hR, hl⟩ := h
  have HR := hide hR
  clear hR
  have HB := hide (show Below w.heap.size w (w.alloc (.cells #[.slice ad D.length c] 31)) from (Below.refl _ _).alloc (Nat.le_refl _) _)
  have HX := hide (Bx.new w #[.slice ad D.length c] 31)
  by_cases h4 : D.length ≤ 4
  · have h4' : ¬ (4 : Int) < (D.length : Int) := by omega
    obtain ⟨G, hG⟩ : ∃ G, G = goodD D := ⟨_, rfl⟩
    rw [← hG]
    have HG : Hid (G = (D.all pOk && has0 D)) := hide (by rw [hG, goodD, decide_eq_true h4, Bool.and_true])
    clear hG
    go_enter Try.func37, Try.ntmps37
    go_wp2_with fail
    go_loopw [12] (fun i w' => ∃ j : Nat, j ≤ D.length ∧ i = .int .i64 j ∧ D.all pOk = (D.drop j).all pOk ∧ w' = w.alloc (.cells #[.slice ad D.length c] 31)) (fun i _ => D.length - (intOf i).toNat)
    case atStart => exact ⟨0, by omega, rfl, rfl, rfl⟩
    case round =>
      obtain ⟨j, hj, rfl, hA, hw⟩ := hrel
      have HA := hide hA
      have hB : Below w.heap.size w wr := by rw [hw]; exact HB.out
      have X := HX.out
      rw [← hw] at X
      have HW := hide hw
      clear hA hw
      have cx := X.c
      have hbs : w.heap.size < wr.heap.size := X.lt
      by_cases hlt : j < D.length
      · have hlt' : (j : Int) < (D.length : Int) := by omega
        have hat := all_at (p := pOk) hlt
        obtain ⟨b, o, rfl, hb, p0⟩ := IRow.iat HR.out hB hlt
        obtain ⟨x, hx⟩ : ∃ x, x = D[j] := ⟨_, rfl⟩
        rw [← hx] at p0 hat
        have HAt := hide hat
        clear hx hat cx
        by_cases hx0 : x < 0
        · have hf := hide (show G = false by rw [HG.out, HA.out, HAt.out, show pOk x = false by simp [pOk, inB]; omega]; rfl)
          go_wp2_with fail
          go_ret
          exact ⟨ret_bool hf.out.symm, hB⟩
        · by_cases hx2 : 2 < x
          · have hf := hide (show G = false by rw [HG.out, HA.out, HAt.out, show pOk x = false by simp [pOk, inB]; omega]; rfl)
            go_wp2_with fail
            go_ret
            exact ⟨ret_bool hf.out.symm, hB⟩
          · have hp : pOk x = true := by simp [pOk, inB]; omega
            have hA' : D.all pOk = (D.drop (j + 1)).all pOk := by rw [HA.out, HAt.out, hp, Bool.true_and]
            have HA2 := hide hA'
            clear hA' hp HA HAt
            go_wp2_with fail
            exact ⟨⟨j + 1, by omega, by go_num, HA2.out, HW.out⟩, by simp [intOf]; omega⟩
      · obtain rfl : j = D.length := by omega
        have hA1 : D.all pOk = true := by rw [HA.out, List.drop_length]; rfl
        have hG1 : G = has0 D := by rw [HG.out, hA1, Bool.true_and]
        have HG1 := hide hG1
        clear hA1 hG1 HA HG
        go_wp2_with fail
        refine Calls.mono (contains0_any ad c D wr hl (RRow.below HR.out hB)) ?_
        rintro e w1 ⟨rfl, hb⟩
        have hB1 : Below w.heap.size w w1 := hB.trans (hb.mono hB.size)
        rw [← HG1.out]
        clear hb cx
        go_wp2_with fail
        go_ret
        exact ⟨rfl, hB1⟩
  · have h4' : (4 : Int) < (D.length : Int) := by omega
    have hg : goodD D = false := by rw [goodD, decide_eq_false h4, Bool.and_false]
    rw [hg]
    go_enter Try.func37, Try.ntmps37
    go_wp2_with fail
    go_ret
    exact ⟨rfl, HB.out⟩

set_option maxHeartbeats 2000000 in
theorem specGoodD_any (v : Value) (D : List Int) (w : World) (h : DRow w v D) :
    Calls Try.prog 33 #[v] w fun e w' => e = .returned (.bool (goodD D)) ∧ Below w.heap.size w w' := by
  obtain ⟨ad, c, rfl, hR, hl⟩ := h
  have HR := hide hR
  clear hR
  have HB := hide (show Below w.heap.size w (w.alloc (.cells #[.slice ad D.length c] 31)) from (Below.refl _ _).alloc (Nat.le_refl _) _)
  have HX := hide (Bx.new w #[.slice ad D.length c] 31)
  obtain ⟨G, hG⟩ : ∃ G, G = goodD D := ⟨_, rfl⟩
  rw [← hG]
  have HG := hide hG
  clear hG
  go_enter Try.func33, Try.ntmps33
  go_wp2_with fail
  go_loopw [3, 9] (fun n i w' => ∃ (j : Nat) (q : Bool), j ≤ D.length ∧ i = .int .i64 j ∧ n = .bool q ∧ has0 D = (q || has0 (D.drop j)) ∧ D.all pOk = (D.drop j).all pOk ∧ w' = w.alloc (.cells #[.slice ad D.length c] 31)) (fun _ i _ => D.length - (intOf i).toNat)
  case atStart => exact ⟨0, false, by omega, rfl, rfl, by simp, rfl, rfl⟩
  case round =>
    obtain ⟨j, q, hj, rfl, rfl, hC, hA, hw⟩ := hrel
    have HA := hide hA
    have HC := hide hC
    have hB : Below w.heap.size w wr := by rw [hw]; exact HB.out
    have X := HX.out
    rw [← hw] at X
    have HW := hide hw
    clear hA hw hC
    have cx := X.c
    have hbs : w.heap.size < wr.heap.size := X.lt
    by_cases hlt : j < D.length
    · have hlt' : (j : Int) < (D.length : Int) := by omega
      have hat := all_at (p := pOk) hlt
      have hat2 := has_at hlt
      obtain ⟨b, o, rfl, hb, p0⟩ := IRow.iat HR.out hB hlt
      obtain ⟨x, hx⟩ : ∃ x, x = D[j] := ⟨_, rfl⟩
      rw [← hx] at p0 hat hat2
      have HAt := hide hat
      have HCt := hide hat2
      clear hx hat hat2 cx
      go_wp2_with fail
      refine Calls.mono (l1In_any x 0 2 _) ?_
      rintro e w1 ⟨rfl, hw1⟩
      obtain rfl := hw1.symm
      by_cases hp : pOk x = true
      · have hA' : D.all pOk = (D.drop (j + 1)).all pOk := by rw [HA.out, HAt.out, hp, Bool.true_and]
        have HA2 := hide hA'
        rw [show inB x 0 2 = true from hp]
        clear hA' hp HA HAt
        cases q with
        | true =>
          have hC2 : has0 D = (true || has0 (D.drop (j + 1))) := by rw [HC.out, Bool.true_or, Bool.true_or]
          have HC2 := hide hC2
          clear hC2
          go_wp2_with fail
          exact ⟨⟨j + 1, true, by omega, by go_num, rfl, HC2.out, HA2.out, HW.out⟩, by simp [intOf]; omega⟩
        | false =>
          have hC2 : has0 D = (decide (x = 0) || has0 (D.drop (j + 1))) := by rw [HC.out, HCt.out, Bool.false_or]
          have HC2 := hide hC2
          clear hC2
          go_wp2_with fail
          exact ⟨⟨j + 1, _, by omega, by go_num, rfl, HC2.out, HA2.out, HW.out⟩, by simp [intOf]; omega⟩
      · rw [Bool.not_eq_true] at hp
        have hf := hide (show G = false by rw [HG.out, goodD, HA.out, HAt.out, hp]; rfl)
        rw [show inB x 0 2 = false from hp]
        go_wp2_with fail
        go_ret
        exact ⟨ret_bool hf.out.symm, hB⟩
    · obtain rfl : j = D.length := by omega
      have hA1 : D.all pOk = true := by rw [HA.out, List.drop_length]; rfl
      have hC1 : has0 D = q := by rw [HC.out, List.drop_length]; simp [has0]
      have hG1 : G = (inB (D.length : Int) 1 4 && q) := by
        rw [HG.out, goodD, hA1, hC1, Bool.true_and]
        cases q with
        | false => simp
        | true =>
          have hne : D ≠ [] := by rintro rfl; simp [has0] at hC1
          have : 0 < D.length := List.length_pos_iff.2 hne
          rw [Bool.eq_iff_iff]; simp [inB]; omega
      have HG1 := hide hG1
      clear hA1 hG1 hC1 HA HG HC
      go_wp2_with fail
      refine Calls.mono (l1In_any _ 1 4 _) ?_
      rintro e w1 ⟨rfl, hw1⟩
      obtain rfl := hw1.symm
      obtain ⟨q2, hq2⟩ : ∃ q2, q2 = inB (D.length : Int) 1 4 := ⟨_, rfl⟩
      rw [← hq2] at HG1 ⊢
      clear hq2 cx
      cases q2 with
      | true =>
        go_wp2_with fail
        go_ret
        exact ⟨ret_bool (by rw [HG1.out, Bool.true_and]), hB⟩
      | false =>
        go_wp2_with fail
        go_ret
        exact ⟨ret_bool (by rw [HG1.out, Bool.false_and]), hB⟩
end Go.Proofs.Ytmlpnmdckgppnaa.W
