/-
  Patterns by the program: contracts of onlyPattern, isBelow, goodPat, partsBehind, isPattern, cutFirst. Conditions: at most 1048576 cells; good data where parts are counted.
-/
import Derived.Test.YtmlpnmdckgppnaaPaP
import Derived.Deep.RegionHeld3
import Derived.Deep.RegionLaw
import Derived.Deep.AppendLies
import Derived.Deep.CutRange
namespace Go.Proofs.Ytmlpnmdckgppnaa.W
open Go.ChangeShapes Go.WideShapes Go.ChangeAt Go.RowKit
set_option linter.unusedVariables false

/-- The cell of a value's constructor. -/
def oP (c : Int) : Pt := ⟨2, c⟩

set_option maxHeartbeats 400000 in
theorem isBelow_any (n k : Int) (w : World) :
    Calls Try.prog 50 #[.int .i64 n, .int .i64 k] w fun e w' => e = .returned (.bool (decide (0 ≤ n) && decide (n < k))) ∧ w' = w := by
  go_enter Try.func50, Try.ntmps50
  go_wp2
  all_goals
    go_ret
    refine ⟨ret_bool ?_, rfl⟩
    rw [Bool.eq_iff_iff]
    simp [*]
  all_goals omega

set_option maxHeartbeats 1000000 in
theorem goodPat_any (ad : Option Addr) (c : Nat) (D : List Int) (x : Pt) (w : World) (hl : D.length ≤ 1048576) :
    Calls Try.prog 45 #[.agg #[.slice ad D.length c], x.v] w fun e w' => e = .returned (.bool (goodC D x)) ∧ Below w.heap.size w w' := by
  obtain ⟨k, n⟩ := x
  have HB := hide (show Below w.heap.size w ((w.alloc (.cells #[.slice ad D.length c] 31)).alloc (.cells #[.int .i64 k, .int .i64 n] 75)) from ((Below.refl _ _).alloc (Nat.le_refl _) _).alloc (by simp) _)
  by_cases k1 : k = 1
  · subst k1
    go_enter Try.func45, Try.ntmps45
    go_wp2_with fail
    go_ret
    refine ⟨ret_bool ?_, HB.out⟩
    rw [Bool.eq_iff_iff]; simp [goodC]
  · by_cases k2 : k = 2
    · subst k2
      go_enter Try.func45, Try.ntmps45
      go_wp2_with fail
      refine Calls.mono (isBelow_any _ _ _) ?_
      rintro e w1 ⟨rfl, hw1⟩
      obtain rfl := hw1.symm
      go_wp2_with fail
      go_ret
      refine ⟨ret_bool ?_, HB.out⟩
      simp [goodC]
    · go_enter Try.func45, Try.ntmps45
      go_wp2_with fail
      go_ret
      refine ⟨ret_bool ?_, HB.out⟩
      simp [goodC, k1, k2]

theorem ar_at {D : List Int} {x : Pt} (hd : goodD D = true) (h : goodC D x = true) (h1 : x.kd ≠ 1) : ∃ (i : Nat) (hi : i < D.length), x.con = (i : Int) ∧ D[i] = (ar D x : Int) := by
  simp only [goodC, if_neg h1, Bool.and_eq_true, decide_eq_true_eq] at h
  refine ⟨x.con.toNat, by omega, by omega, ?_⟩
  have hi : x.con.toNat < D.length := by omega
  have := goodD_parts hd hi
  rw [ar, if_neg h1, List.getD_eq_getElem?_getD, List.getElem?_eq_getElem hi, Option.getD_some]
  omega

set_option maxHeartbeats 1000000 in
theorem partsBehind_any (v : Value) (D : List Int) (x : Pt) (w : World) (h : DRow w v D) (hd : goodD D = true) (hg : goodC D x = true) :
    Calls Try.prog 46 #[v, x.v] w fun e w' => e = .returned (.int .i64 (ar D x : Int)) ∧ Below w.heap.size w w' := by
  obtain ⟨ad, c, rfl, hR, hl⟩ := h
  have HAr : Hid (x.kd ≠ 1 → ∃ (i : Nat) (hi : i < D.length), x.con = (i : Int) ∧ D[i] = (ar D x : Int)) := hide (ar_at hd hg)
  have HA1 : Hid (x.kd = 1 → ar D x = 0) := hide (fun h => by rw [ar, if_pos h])
  obtain ⟨R, hRr⟩ : ∃ R, R = ar D x := ⟨_, rfl⟩
  rw [← hRr] at HAr HA1 ⊢
  clear hRr hd hg
  obtain ⟨k, n⟩ := x
  have HR := hide hR
  clear hR
  have HB := hide (show Below w.heap.size w ((w.alloc (.cells #[.slice ad D.length c] 31)).alloc (.cells #[.int .i64 k, .int .i64 n] 75)) from ((Below.refl _ _).alloc (Nat.le_refl _) _).alloc (by simp) _)
  by_cases k1 : k = 1
  · obtain rfl := HA1.out k1
    subst k1
    clear HA1 HAr
    go_enter Try.func46, Try.ntmps46
    go_wp2_with fail
    go_ret
    exact ⟨rfl, HB.out⟩
  · obtain ⟨i, hi, hn, hD⟩ := HAr.out k1
    simp only at hn
    subst hn
    clear HA1 HAr
    obtain ⟨b, o, rfl, hb, p0⟩ := IRow.iat HR.out HB.out hi
    rw [hD] at p0
    have hi' : (i : Int) < (D.length : Int) := by omega
    clear hD HR
    go_enter Try.func46, Try.ntmps46
    go_wp2_with fail
    go_ret
    exact ⟨rfl, HB.out⟩

theorem sz_ends (D : List Int) : ∀ (l : List Pt) (m i : Nat), sz D l m i = some (i + l.length) ↔ (match l with | [] => m = 0 | x :: r => m ≠ 0 ∧ goodC D x = true ∧ sz D r (m - 1 + ar D x) (i + 1) = some (i + 1 + r.length))
  | [], m, i => by simp [sz]
  | x :: r, m, i => by
    simp only [sz, List.length_cons]
    by_cases hm : m = 0
    · rw [if_pos hm]; simp [hm]
    · rw [if_neg hm]
      by_cases hg : goodC D x = true
      · rw [if_pos hg]; simp only [hm, ne_eq, not_false_eq_true, hg, true_and]
        rw [show i + (r.length + 1) = i + 1 + r.length by omega]
      · rw [if_neg hg]; simp [hg]

set_option maxHeartbeats 2000000 in
theorem isPattern_any (v : Value) (D : List Int) (ad : Option Addr) (c : Nat) (l : List Pt) (w : World) (hD : DRow w v D) (hd : goodD D = true) (hl : l.length ≤ 1048576) (h : PtRow w ad l) :
    Calls Try.prog 38 #[v, .slice ad l.length c] w fun e w' => e = .returned (.bool (decide (sz D l 1 0 = some l.length))) ∧ Below w.heap.size w w' := by
  have HR := hide h
  have HD := hide hD
  obtain ⟨da, dc, rfl, -, hDl⟩ := hD
  have Hd := hide hd
  clear h hd
  obtain ⟨G, hG⟩ : ∃ G, G = decide (sz D l 1 0 = some l.length) := ⟨_, rfl⟩
  rw [← hG]
  have HG := hide hG
  clear hG
  have HB := hide (show Below w.heap.size w (w.alloc (.cells #[.slice da D.length dc] 31)) from (Below.refl _ _).alloc (Nat.le_refl _) _)
  have HX := hide (Bx.new w #[.slice da D.length dc] 31)
  go_enter Try.func38, Try.ntmps38
  go_wp2_with fail
  go_loopw [5, 10] (fun m i w' => ∃ (j M : Nat), j ≤ l.length ∧ M ≤ j + 1 ∧ m = .int .i64 M ∧ i = .int .i64 j ∧ G = decide (sz D (l.drop j) M j = some (j + (l.drop j).length)) ∧ Bx w' w.heap.size #[.slice da D.length dc] 31 ∧ Below w.heap.size w w') (fun _ i _ => l.length - (intOf i).toNat)
  case atStart => exact ⟨0, 1, by omega, by omega, rfl, rfl, by rw [HG.out]; simp, HX.out, HB.out⟩
  case round =>
    obtain ⟨j, M, hj, hM, rfl, rfl, hrun, hX, hB⟩ := hrel
    have HRun := hide hrun
    have HX1 := hide hX
    clear hrun hX HX HB HG
    have hxl : w.heap.size < wr.heap.size := HX1.out.lt
    by_cases hlt : j < l.length
    · have hlt' : (j : Int) < (l.length : Int) := by omega
      obtain ⟨b, o, rfl, hb, p0, p1⟩ := PtRow.tok HR.out hB hlt
      have hdr : l.drop j = l[j] :: l.drop (j + 1) := List.drop_eq_getElem_cons hlt
      obtain ⟨x, hx⟩ : ∃ x, x = l[j] := ⟨_, rfl⟩
      rw [← hx] at p0 p1 hdr
      rw [hdr] at HRun
      clear hx hdr
      have hrun : (G = true) ↔ (M ≠ 0 ∧ goodC D x = true ∧ sz D (l.drop (j + 1)) (M - 1 + ar D x) (j + 1) = some (j + 1 + (l.drop (j + 1)).length)) := by
        rw [HRun.out, decide_eq_true_eq]; exact sz_ends D (x :: l.drop (j + 1)) M j
      have HRun2 := hide hrun
      clear hrun HRun
      have hBa : Below w.heap.size w (wr.alloc (.cells #[.int .i64 x.kd, .int .i64 x.con] 75)) := hB.alloc hB.size _
      by_cases hM0 : M = 0
      · subst hM0
        have hg : G = false := by rw [← Bool.not_eq_true, HRun2.out]; simp
        have Hg := hide hg
        clear HRun2 hg
        go_wp2_with fail
        go_ret
        exact ⟨ret_bool Hg.out.symm, hBa⟩
      · have hM0' : ¬ (M : Int) = 0 := by omega
        have cx := ((HX1.out.alloc (.cells #[.int .i64 x.kd, .int .i64 x.con] 75))).c 0
        simp only [List.getElem?_toArray, List.getElem?_cons_zero] at cx
        go_wp2_with fail
        refine Calls.mono (goodPat_any da dc D x _ hDl) ?_
        rintro e w1 ⟨rfl, hb1⟩
        have c0 : w1.cell? ⟨wr.heap.size, 0, none⟩ = some (.int .i64 x.kd) := by rw [hb1.cell (by simp)]; simp
        have c1 : w1.cell? ⟨wr.heap.size, 1, none⟩ = some (.int .i64 x.con) := by rw [hb1.cell (by simp)]; simp
        have hB1 : Below w.heap.size w w1 := hBa.trans (hb1.mono hBa.size)
        have HX2 := hide ((HX1.out.alloc (.cells #[.int .i64 x.kd, .int .i64 x.con] 75)).below hb1 (by simp; omega))
        clear hb1 p0 p1 cx
        by_cases hg : goodC D x = true
        · have hr : G = decide (sz D (l.drop (j + 1)) (M - 1 + ar D x) (j + 1) = some (j + 1 + (l.drop (j + 1)).length)) := by
            rw [Bool.eq_iff_iff, HRun2.out, decide_eq_true_eq]; simp [hM0, hg]
          have Hr := hide hr
          have HP := hide (fun w' hb => partsBehind_any (.agg #[.slice da D.length dc]) D x w' (HD.out.below hb) Hd.out hg)
          clear hr HRun2
          rw [hg]
          have cx := HX2.out.c 0
          simp only [List.getElem?_toArray, List.getElem?_cons_zero] at cx
          have hxl1 : w.heap.size < w1.heap.size := HX2.out.lt
          go_wp2_with fail
          refine Calls.mono (HP.out _ hB1) ?_
          rintro e w2 ⟨rfl, hb2⟩
          have hB2 : Below w.heap.size w w2 := hB1.trans (hb2.mono hB1.size)
          have HX3 := hide (HX2.out.below hb2 hxl1)
          have hle := ar_le Hd.out x
          clear c0 c1 cx hb2
          obtain ⟨R, hR⟩ : ∃ R, R = ar D x := ⟨_, rfl⟩
          rw [← hR] at Hr hle ⊢
          clear hR
          go_wp2_with fail
          refine ⟨⟨j + 1, M - 1 + R, by omega, by omega, by go_num, by go_num, Hr.out, HX3.out, hB2⟩, by simp [intOf]; omega⟩
        · rw [Bool.not_eq_true] at hg
          have hr : G = false := by rw [← Bool.not_eq_true, HRun2.out]; simp [hg]
          have Hr := hide hr
          clear HRun2 hr
          rw [hg]
          go_wp2_with fail
          go_ret
          exact ⟨ret_bool Hr.out.symm, hB1⟩
    · obtain rfl : j = l.length := by omega
      have hr : G = decide (M = 0) := by rw [HRun.out, List.drop_length]; simp [sz]
      have Hr := hide hr
      clear HRun hr
      go_wp2_with fail
      go_ret
      refine ⟨ret_bool (by rw [Hr.out, Bool.eq_iff_iff]; simp), hB⟩
end Go.Proofs.Ytmlpnmdckgppnaa.W
