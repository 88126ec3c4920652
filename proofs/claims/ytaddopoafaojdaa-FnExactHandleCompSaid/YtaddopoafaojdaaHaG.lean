/-
  Good handlers: contracts of the program's hasNoNumber, hasToldNumber, and of both GoodHandler. Conditions: at most 1048576 rules.
-/
import Derived.Test.YtaddopoafaojdaaHaD
import Derived.Test.YtaddopoafaojdaaCoG
namespace Go.Proofs.Ytaddopoafaojdaa.C
open Go.Proofs.Ytaddopoafaojdaa.W
open Go.ChangeShapes Go.WideShapes Go.ChangeAt Go.RowKit
set_option linter.unusedVariables false

def goodRu (r : Ru) : Bool := inB r.kd 1 5 && (if r.kd = 4 then inB r.n 0 99 else decide (r.n = 0))
def goodH (h : Hd) : Bool := inB h.ret 0 99 && decide (h.rs.length = 3) && h.rs.all goodRu
theorem goodH_parts {h : Hd} (hg : goodH h = true) : 0 ≤ h.ret ∧ h.ret ≤ 99 ∧ h.rs.length = 3 ∧ ∀ r ∈ h.rs, goodRu r = true := by
  simp only [goodH, inB, Bool.and_eq_true, decide_eq_true_eq, List.all_eq_true] at hg
  exact ⟨hg.1.1.1, hg.1.1.2, hg.1.2, hg.2⟩
theorem goodRu_kinds {r : Ru} (h : goodRu r = true) : (1 ≤ r.kd ∧ r.kd ≤ 5) ∧ (r.kd = 4 → 0 ≤ r.n ∧ r.n ≤ 99) ∧ (r.kd ≠ 4 → r.n = 0) := by
  simp only [goodRu, inB, Bool.and_eq_true, decide_eq_true_eq] at h
  refine ⟨h.1, fun e => ?_, fun e => ?_⟩
  · have := h.2; rw [if_pos e] at this; simpa using this
  · have := h.2; rw [if_neg e] at this; simpa using this

set_option maxHeartbeats 400000 in
theorem hasNo_any (k n : Int) (w : World) :
    Calls Try.prog 45 #[.agg #[.int .i64 k, .int .i64 n]] w fun e w' => e = .returned (.bool (decide (n = 0))) ∧ Below w.heap.size w w' := by
  go_enter Try.func45, Try.ntmps45
  go_wp2
  go_ret
  exact ⟨rfl, (Below.refl _ _).alloc (Nat.le_refl _) _⟩

set_option maxHeartbeats 400000 in
theorem hasTold_any (k n : Int) (w : World) :
    Calls Try.prog 51 #[.agg #[.int .i64 k, .int .i64 n]] w fun e w' => e = .returned (.bool (inB n 0 99)) ∧ Below w.heap.size w w' := by
  go_enter Try.func51, Try.ntmps51
  go_wp2_with fail
  refine (isTold_any _ _).mono ?_
  rintro e w' ⟨rfl, rfl⟩
  go_wp2_with fail
  go_ret
  exact ⟨rfl, (Below.refl _ _).alloc (Nat.le_refl _) _⟩

theorem all_drop {l : List Ru} {j : Nat} (h : j < l.length) : (l.drop j).all goodRu = (goodRu l[j] && (l.drop (j + 1)).all goodRu) := by
  rw [List.drop_eq_getElem_cons h]; rfl

set_option maxRecDepth 20000 in
set_option maxHeartbeats 4000000 in
theorem implGoodH_any (v : Value) (h : Hd) (w : World) (hv : HRow w v h) :
    Calls Try.prog 22 #[v] w fun e w' => e = .returned (.bool (goodH h)) ∧ Below w.heap.size w w' := by
  obtain ⟨q, R⟩ := h
  obtain ⟨ad, c, rfl, hR, hl⟩ := hv
  simp only at hR hl ⊢
  have HR := hide hR
  clear hR
  have HT := hide (isTold_any q)
  have HB0 : Hid (Below w.heap.size w (w.alloc (.cells #[.int .i64 q, .slice ad R.length c] 33))) := hide ((Below.refl _ _).alloc (Nat.le_refl _) _)
  by_cases hq : inB q 0 99 = true
  · rw [hq] at HT
    by_cases h3 : R.length = 3
    · have HG : Hid (goodH ⟨q, R⟩ = (R.drop 0).all goodRu) := hide (by simp [goodH, hq, h3])
      rw [HG.out]
      obtain ⟨RL, hRL⟩ : ∃ RL, RL = R.length := ⟨_, rfl⟩
      rw [← hRL] at h3 ⊢ HB0
      have HRL := hide hRL
      subst h3
      obtain ⟨G, hG⟩ : ∃ G, G = (R.drop 0).all goodRu := ⟨_, rfl⟩
      rw [← hG]
      have HG2 := hide hG
      clear hG hRL hq hl HG
      go_enter Try.func22, Try.ntmps22
      go_wp2_with fail
      refine (HT.out _).mono ?_
      rintro e w1 ⟨rfl, hw⟩
      obtain ⟨W, hW⟩ : ∃ W, W = w.alloc (.cells #[.int .i64 q, .slice ad 3 c] 33) := ⟨_, rfl⟩
      rw [← hW] at hw HB0
      obtain rfl := hw.symm
      have x0 : Bx W w.heap.size #[.int .i64 q, .slice ad 3 c] 33 := by rw [hW]; exact Bx.new w _ _
      have cx := x0.c
      have hlx := x0.lt
      clear hW x0 HT
      go_wp2_with fail
      clear cx
      go_loopw [20] (fun i w' => ∃ j : Nat, j ≤ 3 ∧ i = .int .i64 j ∧ G = (R.drop j).all goodRu ∧ Below w.heap.size w w') (fun i _ => 3 - (intOf i).toNat)
      case atStart => exact ⟨0, by omega, rfl, HG2.out, HB0.out⟩
      case round =>
        obtain ⟨j, hj, rfl, hG, hB⟩ := hrel
        have HGj := hide hG
        clear hG
        by_cases hlt : j < 3
        · have hlt' : (j : Int) < 3 := by omega
          have hltR : j < R.length := by have := HRL.out; omega
          obtain ⟨b, o, rfl, hb, p0, p1⟩ := RuRow.tok HR.out hB hltR
          have HS : Hid (G = (goodRu R[j] && (R.drop (j + 1)).all goodRu)) := hide (HGj.out.trans (all_drop hltR))
          obtain ⟨x, hx⟩ : ∃ x, x = R[j] := ⟨_, rfl⟩
          rw [← hx] at p0 p1 HS
          clear hx HGj
          obtain ⟨k, n⟩ := x
          simp only at p0 p1
          have HD := hide (fun w' => doingOf_any k n w')
          have hB2 := hB.size
          by_cases hk : 1 ≤ k ∧ k ≤ 5
          · obtain rfl | rfl | rfl | rfl | rfl : k = 1 ∨ k = 2 ∨ k = 3 ∨ k = 4 ∨ k = 5 := by omega
            · rw [show dg 1 = .agg #[.func (.func 45) #[] #[], .func (.func 46) #[] #[], .func (.func 47) #[] #[]] from rfl, show inB 1 1 5 = true from rfl] at HD
              have HS2 : Hid (G = (decide (n = 0) && (R.drop (j + 1)).all goodRu)) := hide (HS.out.trans (by simp [goodRu, inB]))
              have HN := hide (fun w' => hasNo_any 1 n w')
              clear hk
              go_wp2_with fail
              refine (HD.out _).mono ?_
              rintro e w1 ⟨rfl, hb1⟩
              have x0 : Bx w1 wr.heap.size #[.int .i64 1, .int .i64 n] 62 := (Bx.new wr _ _).below hb1 (by simp)
              have hB1 : Below w.heap.size w w1 := (hB.alloc hB.size _).trans (hb1.mono (by simp; omega))
              have c0 := x0.c
              have hl0 := x0.lt
              clear p0 p1 HD hb1 x0
              by_cases hn : (decide (n = 0)) = true
              · rw [hn] at HN
                have HS3 : Hid (G = (R.drop (j + 1)).all goodRu) := hide (HS2.out.trans (by rw [hn, Bool.true_and]))
                clear hn HS HS2
                go_wp2_with fail
                refine (HN.out _).mono ?_
                rintro e w2 ⟨rfl, hb2⟩
                have hB2' : Below w.heap.size w w2 := (hB1.alloc hB1.size _).trans (hb2.mono (by have := hB1.size; simp; omega))
                clear hb2 HN c0
                go_wp2_with fail
                exact ⟨⟨j + 1, by omega, by go_num, HS3.out, hB2'⟩, by simp [intOf]; omega⟩
              · rw [Bool.not_eq_true] at hn
                rw [hn] at HN
                have HS3 : Hid (G = false) := hide (HS2.out.trans (by rw [hn, Bool.false_and]))
                clear hn HS HS2
                go_wp2_with fail
                refine (HN.out _).mono ?_
                rintro e w2 ⟨rfl, hb2⟩
                have hB2' : Below w.heap.size w w2 := (hB1.alloc hB1.size _).trans (hb2.mono (by have := hB1.size; simp; omega))
                clear hb2 HN c0
                go_wp2_with fail
                go_ret
                exact ⟨ret_bool HS3.out.symm, hB2'⟩
            · rw [show dg 2 = .agg #[.func (.func 45) #[] #[], .func (.func 48) #[] #[], .func (.func 47) #[] #[]] from rfl, show inB 2 1 5 = true from rfl] at HD
              have HS2 : Hid (G = (decide (n = 0) && (R.drop (j + 1)).all goodRu)) := hide (HS.out.trans (by simp [goodRu, inB]))
              have HN := hide (fun w' => hasNo_any 2 n w')
              clear hk
              go_wp2_with fail
              refine (HD.out _).mono ?_
              rintro e w1 ⟨rfl, hb1⟩
              have x0 : Bx w1 wr.heap.size #[.int .i64 2, .int .i64 n] 62 := (Bx.new wr _ _).below hb1 (by simp)
              have hB1 : Below w.heap.size w w1 := (hB.alloc hB.size _).trans (hb1.mono (by simp; omega))
              have c0 := x0.c
              have hl0 := x0.lt
              clear p0 p1 HD hb1 x0
              by_cases hn : (decide (n = 0)) = true
              · rw [hn] at HN
                have HS3 : Hid (G = (R.drop (j + 1)).all goodRu) := hide (HS2.out.trans (by rw [hn, Bool.true_and]))
                clear hn HS HS2
                go_wp2_with fail
                refine (HN.out _).mono ?_
                rintro e w2 ⟨rfl, hb2⟩
                have hB2' : Below w.heap.size w w2 := (hB1.alloc hB1.size _).trans (hb2.mono (by have := hB1.size; simp; omega))
                clear hb2 HN c0
                go_wp2_with fail
                exact ⟨⟨j + 1, by omega, by go_num, HS3.out, hB2'⟩, by simp [intOf]; omega⟩
              · rw [Bool.not_eq_true] at hn
                rw [hn] at HN
                have HS3 : Hid (G = false) := hide (HS2.out.trans (by rw [hn, Bool.false_and]))
                clear hn HS HS2
                go_wp2_with fail
                refine (HN.out _).mono ?_
                rintro e w2 ⟨rfl, hb2⟩
                have hB2' : Below w.heap.size w w2 := (hB1.alloc hB1.size _).trans (hb2.mono (by have := hB1.size; simp; omega))
                clear hb2 HN c0
                go_wp2_with fail
                go_ret
                exact ⟨ret_bool HS3.out.symm, hB2'⟩
            · rw [show dg 3 = .agg #[.func (.func 45) #[] #[], .func (.func 49) #[] #[], .func (.func 50) #[] #[]] from rfl, show inB 3 1 5 = true from rfl] at HD
              have HS2 : Hid (G = (decide (n = 0) && (R.drop (j + 1)).all goodRu)) := hide (HS.out.trans (by simp [goodRu, inB]))
              have HN := hide (fun w' => hasNo_any 3 n w')
              clear hk
              go_wp2_with fail
              refine (HD.out _).mono ?_
              rintro e w1 ⟨rfl, hb1⟩
              have x0 : Bx w1 wr.heap.size #[.int .i64 3, .int .i64 n] 62 := (Bx.new wr _ _).below hb1 (by simp)
              have hB1 : Below w.heap.size w w1 := (hB.alloc hB.size _).trans (hb1.mono (by simp; omega))
              have c0 := x0.c
              have hl0 := x0.lt
              clear p0 p1 HD hb1 x0
              by_cases hn : (decide (n = 0)) = true
              · rw [hn] at HN
                have HS3 : Hid (G = (R.drop (j + 1)).all goodRu) := hide (HS2.out.trans (by rw [hn, Bool.true_and]))
                clear hn HS HS2
                go_wp2_with fail
                refine (HN.out _).mono ?_
                rintro e w2 ⟨rfl, hb2⟩
                have hB2' : Below w.heap.size w w2 := (hB1.alloc hB1.size _).trans (hb2.mono (by have := hB1.size; simp; omega))
                clear hb2 HN c0
                go_wp2_with fail
                exact ⟨⟨j + 1, by omega, by go_num, HS3.out, hB2'⟩, by simp [intOf]; omega⟩
              · rw [Bool.not_eq_true] at hn
                rw [hn] at HN
                have HS3 : Hid (G = false) := hide (HS2.out.trans (by rw [hn, Bool.false_and]))
                clear hn HS HS2
                go_wp2_with fail
                refine (HN.out _).mono ?_
                rintro e w2 ⟨rfl, hb2⟩
                have hB2' : Below w.heap.size w w2 := (hB1.alloc hB1.size _).trans (hb2.mono (by have := hB1.size; simp; omega))
                clear hb2 HN c0
                go_wp2_with fail
                go_ret
                exact ⟨ret_bool HS3.out.symm, hB2'⟩
            · rw [show dg 4 = .agg #[.func (.func 51) #[] #[], .func (.func 52) #[] #[], .func (.func 53) #[] #[]] from rfl, show inB 4 1 5 = true from rfl] at HD
              have HS2 : Hid (G = (inB n 0 99 && (R.drop (j + 1)).all goodRu)) := hide (HS.out.trans (by simp [goodRu, inB]))
              have HN := hide (fun w' => hasTold_any 4 n w')
              clear hk
              go_wp2_with fail
              refine (HD.out _).mono ?_
              rintro e w1 ⟨rfl, hb1⟩
              have x0 : Bx w1 wr.heap.size #[.int .i64 4, .int .i64 n] 62 := (Bx.new wr _ _).below hb1 (by simp)
              have hB1 : Below w.heap.size w w1 := (hB.alloc hB.size _).trans (hb1.mono (by simp; omega))
              have c0 := x0.c
              have hl0 := x0.lt
              clear p0 p1 HD hb1 x0
              by_cases hn : (inB n 0 99) = true
              · rw [hn] at HN
                have HS3 : Hid (G = (R.drop (j + 1)).all goodRu) := hide (HS2.out.trans (by rw [hn, Bool.true_and]))
                clear hn HS HS2
                go_wp2_with fail
                refine (HN.out _).mono ?_
                rintro e w2 ⟨rfl, hb2⟩
                have hB2' : Below w.heap.size w w2 := (hB1.alloc hB1.size _).trans (hb2.mono (by have := hB1.size; simp; omega))
                clear hb2 HN c0
                go_wp2_with fail
                exact ⟨⟨j + 1, by omega, by go_num, HS3.out, hB2'⟩, by simp [intOf]; omega⟩
              · rw [Bool.not_eq_true] at hn
                rw [hn] at HN
                have HS3 : Hid (G = false) := hide (HS2.out.trans (by rw [hn, Bool.false_and]))
                clear hn HS HS2
                go_wp2_with fail
                refine (HN.out _).mono ?_
                rintro e w2 ⟨rfl, hb2⟩
                have hB2' : Below w.heap.size w w2 := (hB1.alloc hB1.size _).trans (hb2.mono (by have := hB1.size; simp; omega))
                clear hb2 HN c0
                go_wp2_with fail
                go_ret
                exact ⟨ret_bool HS3.out.symm, hB2'⟩
            · rw [show dg 5 = .agg #[.func (.func 45) #[] #[], .func (.func 54) #[] #[], .func (.func 55) #[] #[]] from rfl, show inB 5 1 5 = true from rfl] at HD
              have HS2 : Hid (G = (decide (n = 0) && (R.drop (j + 1)).all goodRu)) := hide (HS.out.trans (by simp [goodRu, inB]))
              have HN := hide (fun w' => hasNo_any 5 n w')
              clear hk
              go_wp2_with fail
              refine (HD.out _).mono ?_
              rintro e w1 ⟨rfl, hb1⟩
              have x0 : Bx w1 wr.heap.size #[.int .i64 5, .int .i64 n] 62 := (Bx.new wr _ _).below hb1 (by simp)
              have hB1 : Below w.heap.size w w1 := (hB.alloc hB.size _).trans (hb1.mono (by simp; omega))
              have c0 := x0.c
              have hl0 := x0.lt
              clear p0 p1 HD hb1 x0
              by_cases hn : (decide (n = 0)) = true
              · rw [hn] at HN
                have HS3 : Hid (G = (R.drop (j + 1)).all goodRu) := hide (HS2.out.trans (by rw [hn, Bool.true_and]))
                clear hn HS HS2
                go_wp2_with fail
                refine (HN.out _).mono ?_
                rintro e w2 ⟨rfl, hb2⟩
                have hB2' : Below w.heap.size w w2 := (hB1.alloc hB1.size _).trans (hb2.mono (by have := hB1.size; simp; omega))
                clear hb2 HN c0
                go_wp2_with fail
                exact ⟨⟨j + 1, by omega, by go_num, HS3.out, hB2'⟩, by simp [intOf]; omega⟩
              · rw [Bool.not_eq_true] at hn
                rw [hn] at HN
                have HS3 : Hid (G = false) := hide (HS2.out.trans (by rw [hn, Bool.false_and]))
                clear hn HS HS2
                go_wp2_with fail
                refine (HN.out _).mono ?_
                rintro e w2 ⟨rfl, hb2⟩
                have hB2' : Below w.heap.size w w2 := (hB1.alloc hB1.size _).trans (hb2.mono (by have := hB1.size; simp; omega))
                clear hb2 HN c0
                go_wp2_with fail
                go_ret
                exact ⟨ret_bool HS3.out.symm, hB2'⟩
          · have hi : inB k 1 5 = false := by rw [Bool.eq_false_iff]; simp [inB]; omega
            have hd : dg k = .agg #[.nilFunc, .nilFunc, .nilFunc] := by unfold dg; rw [if_neg (by omega), if_neg (by omega), if_neg (by omega), if_neg (by omega), if_neg (by omega)]
            rw [hi, hd] at HD
            have HS3 : Hid (G = false) := hide (HS.out.trans (by simp [goodRu, hi]))
            clear hk hi hd HS
            go_wp2_with fail
            refine (HD.out _).mono ?_
            rintro e w1 ⟨rfl, hb1⟩
            have hB1 : Below w.heap.size w w1 := (hB.alloc hB.size _).trans (hb1.mono (by simp; omega))
            clear p0 p1 HD hb1
            go_wp2_with fail
            go_ret
            exact ⟨ret_bool HS3.out.symm, hB1.alloc hB1.size _⟩
        · obtain rfl : j = 3 := by omega
          have HS3 : Hid (G = true) := hide (HGj.out.trans (by rw [List.drop_eq_nil_of_le (by have := HRL.out; omega)]; rfl))
          go_wp2_with fail
          go_ret
          exact ⟨ret_bool HS3.out.symm, hB⟩
    · have HG : Hid (goodH ⟨q, R⟩ = false) := hide (by simp [goodH, h3])
      rw [HG.out]
      have h3' : ((R.length : Int) != 3) = true := by simp; omega
      have h3'' : ¬ (R.length : Int) = 3 := by omega
      clear hq HG hl
      go_enter Try.func22, Try.ntmps22
      go_wp2_with fail
      refine (HT.out _).mono ?_
      rintro e w1 ⟨rfl, hw⟩
      subst hw
      clear HT
      go_wp2_with fail
      go_ret
      exact ⟨rfl, HB0.out⟩
  · rw [Bool.not_eq_true] at hq
    rw [hq] at HT
    have HG : Hid (goodH ⟨q, R⟩ = false) := hide (by simp [goodH, hq])
    rw [HG.out]
    clear hq HG hl
    go_enter Try.func22, Try.ntmps22
    go_wp2_with fail
    refine (HT.out _).mono ?_
    rintro e w1 ⟨rfl, hw⟩
    subst hw
    clear HT
    go_wp2_with fail
    go_ret
    exact ⟨rfl, HB0.out⟩

theorem goodRu_spec (k n : Int) : goodRu ⟨k, n⟩ = (inB k 1 5 && (inB n 0 99 && (decide (k = 4) || decide (n = 0)))) := by
  rw [Bool.eq_iff_iff]
  simp only [goodRu, inB, Bool.and_eq_true, Bool.or_eq_true, decide_eq_true_eq]
  by_cases h4 : k = 4
  · simp [h4]
  · simp [h4]; omega

set_option maxRecDepth 20000 in
set_option maxHeartbeats 4000000 in
theorem specGoodH_any (v : Value) (h : Hd) (w : World) (hv : HRow w v h) :
    Calls Try.prog 17 #[v] w fun e w' => e = .returned (.bool (goodH h)) ∧ Below w.heap.size w w' := by
  obtain ⟨q, R⟩ := h
  obtain ⟨ad, c, rfl, hR, hl⟩ := hv
  simp only at hR hl ⊢
  have HR := hide hR
  clear hR
  have HT := hide (l1In_any q 0 99)
  have HG : Hid (goodH ⟨q, R⟩ = (inB q 0 99 && decide (R.length = 3) && (R.drop 0).all goodRu)) := hide (by simp [goodH])
  rw [HG.out]
  obtain ⟨G, hG⟩ : ∃ G, G = (inB q 0 99 && decide (R.length = 3) && (R.drop 0).all goodRu) := ⟨_, rfl⟩
  rw [← hG]
  have HG2 := hide hG
  clear hG HG
  have hB0 : Below w.heap.size w (w.alloc (.cells #[.int .i64 q, .slice ad R.length c] 33)) := (Below.refl _ _).alloc (Nat.le_refl _) _
  obtain ⟨W, hW⟩ : ∃ W, W = w.alloc (.cells #[.int .i64 q, .slice ad R.length c] 33) := ⟨_, rfl⟩
  have x0 : Bx W w.heap.size #[.int .i64 q, .slice ad R.length c] 33 := by rw [hW]; exact Bx.new w _ _
  rw [← hW] at hB0
  have HX := hide x0
  have HW := hide hW
  clear x0 hW
  go_enter Try.func17, Try.ntmps17
  go_wp2_with fail
  rw [← HW.out]
  clear HW
  go_loopw [8] (fun i w' => ∃ j : Nat, j ≤ R.length ∧ i = .int .i64 j ∧ G = (inB q 0 99 && decide (R.length = 3) && (R.drop j).all goodRu) ∧ Below w.heap.size w w' ∧ Below W.heap.size W w') (fun i _ => R.length - (intOf i).toNat)
  case atStart => exact ⟨0, by omega, rfl, HG2.out, hB0, Below.refl _ _⟩
  case round =>
    obtain ⟨j, hj, rfl, hG, hB, hBW⟩ := hrel
    have HGj := hide hG
    clear hG
    by_cases hlt : j < R.length
    · have hlt' : (j : Int) < (R.length : Int) := by omega
      obtain ⟨b, o, rfl, hb, p0, p1⟩ := RuRow.tok HR.out hB hlt
      have HS : Hid (G = (inB q 0 99 && decide (R.length = 3) && (goodRu R[j] && (R.drop (j + 1)).all goodRu))) := hide (HGj.out.trans (by rw [all_drop hlt]))
      obtain ⟨x, hx⟩ : ∃ x, x = R[j] := ⟨_, rfl⟩
      rw [← hx] at p0 p1 HS
      clear hx HGj
      obtain ⟨k, n⟩ := x
      rw [goodRu_spec] at HS
      simp only at p0 p1
      have HK := hide (l1In_any k 1 5)
      have HN := hide (l1In_any n 0 99)
      have HBa : Hid (Below w.heap.size w (wr.alloc (.cells #[.int .i64 k, .int .i64 n] 62)) ∧ Below W.heap.size W (wr.alloc (.cells #[.int .i64 k, .int .i64 n] 62))) := hide ⟨hB.alloc hB.size _, hBW.alloc hBW.size _⟩
      by_cases hk : inB k 1 5 = true
      · rw [hk] at HK HS
        by_cases hn : inB n 0 99 = true
        · rw [hn] at HN HS
          by_cases h4 : k = 4
          · subst h4
            have HS2 : Hid (G = (inB q 0 99 && decide (R.length = 3) && (R.drop (j + 1)).all goodRu)) := hide (HS.out.trans (by simp))
            clear hk hn HS
            go_wp2_with (go_at_call 29; (first | (with_reducible refine (HK.out _).mono ?_) | (with_reducible refine (HN.out _).mono ?_)); rintro e w' ⟨rfl, rfl⟩)
            exact ⟨⟨j + 1, by omega, by go_num, HS2.out, HBa.out⟩, by simp [intOf]; omega⟩
          · have h4b : (k == 4) = false := by simpa using h4
            by_cases h0 : n = 0
            · subst h0
              have HS2 : Hid (G = (inB q 0 99 && decide (R.length = 3) && (R.drop (j + 1)).all goodRu)) := hide (HS.out.trans (by simp))
              clear hk hn HS
              go_wp2_with (go_at_call 29; (first | (with_reducible refine (HK.out _).mono ?_) | (with_reducible refine (HN.out _).mono ?_)); rintro e w' ⟨rfl, rfl⟩)
              exact ⟨⟨j + 1, by omega, by go_num, HS2.out, HBa.out⟩, by simp [intOf]; omega⟩
            · have h0b : (n != 0) = true := by simp [h0]
              have h4c : (k != 4) = true := by simp [h4]
              have HS2 : Hid (G = false) := hide (HS.out.trans (by simp [h4, h0]))
              clear hk hn HS
              go_wp2_with (go_at_call 29; (first | (with_reducible refine (HK.out _).mono ?_) | (with_reducible refine (HN.out _).mono ?_)); rintro e w' ⟨rfl, rfl⟩)
              go_ret
              exact ⟨ret_bool HS2.out.symm, HBa.out.1⟩
        · rw [Bool.not_eq_true] at hn
          rw [hn] at HN HS
          have HS2 : Hid (G = false) := hide (HS.out.trans (by simp))
          clear hk hn HS
          go_wp2_with (go_at_call 29; (first | (with_reducible refine (HK.out _).mono ?_) | (with_reducible refine (HN.out _).mono ?_)); rintro e w' ⟨rfl, rfl⟩)
          go_ret
          exact ⟨ret_bool HS2.out.symm, HBa.out.1⟩
      · rw [Bool.not_eq_true] at hk
        rw [hk] at HK HS
        have HS2 : Hid (G = false) := hide (HS.out.trans (by simp))
        clear hk HS
        go_wp2_with (go_at_call 29; (with_reducible refine (HK.out _).mono ?_); rintro e w' ⟨rfl, rfl⟩)
        go_ret
        exact ⟨ret_bool HS2.out.symm, HBa.out.1⟩
    · obtain rfl : j = R.length := by omega
      have HS : Hid (G = (inB q 0 99 && decide (R.length = 3))) := hide (HGj.out.trans (by rw [List.drop_length]; simp))
      have cx := (HX.out.below hBW HX.out.lt).c
      have hlx := (HX.out.below hBW HX.out.lt).lt
      clear HGj
      by_cases hq : inB q 0 99 = true
      · rw [hq] at HT HS
        by_cases h3 : R.length = 3
        · have HS2 : Hid (G = true) := hide (HS.out.trans (by simp [h3]))
          have h3' : (R.length : Int) = 3 := by omega
          rw [h3] at cx ⊢
          clear hq HS h3'
          go_wp2_with (go_at_call 29; (with_reducible refine (HT.out _).mono ?_); rintro e w' ⟨rfl, rfl⟩)
          go_ret
          exact ⟨ret_bool HS2.out.symm, hB⟩
        · have HS2 : Hid (G = false) := hide (HS.out.trans (by simp [h3]))
          have h3' : ((R.length : Int) == 3) = false := by simp; omega
          clear hq HS
          go_wp2_with (go_at_call 29; (with_reducible refine (HT.out _).mono ?_); rintro e w' ⟨rfl, rfl⟩)
          go_ret
          exact ⟨ret_bool HS2.out.symm, hB⟩
      · rw [Bool.not_eq_true] at hq
        rw [hq] at HT HS
        have HS2 : Hid (G = false) := hide (HS.out.trans (by simp))
        clear hq HS
        go_wp2_with (go_at_call 29; (with_reducible refine (HT.out _).mono ?_); rintro e w' ⟨rfl, rfl⟩)
        go_ret
        exact ⟨ret_bool HS2.out.symm, hB⟩
end Go.Proofs.Ytaddopoafaojdaa.C
