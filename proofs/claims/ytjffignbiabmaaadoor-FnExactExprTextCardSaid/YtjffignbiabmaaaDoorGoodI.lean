/-
  Contracts of the program's goodPart, partsBehind and GoodExpr. Conditions: texts no longer than Go allows; the table of signs reads as its text lays it.
-/
import Derived.Test.YtjffignbiabmaaaDoorExP
import Derived.Test.YtjffignbiabmaaaDoorDoorS
namespace Go.Proofs.YtjffignbiabmaaaDoor.W
open Go.ChangeShapes Go.WideShapes Go.ChangeAt Go.RowKit

set_option maxHeartbeats 1000000 in
theorem partsBehind_any (x : Xx) (w : World) :
    Calls Tryd.prog 93 #[.agg #[.int .i64 x.k, .int .i64 x.n, .string x.t]] w fun e w' => e = .returned (.int .i64 (behind x : Int)) ∧ Below w.heap.size w w' := by
  obtain ⟨k, n, t⟩ := x
  simp only
  go_enter Tryd.func93, Tryd.ntmps93
  go_wp2
  all_goals
    go_ret
    refine ⟨ret_int ?_, (Below.refl _ _).alloc (Nat.le_refl _) _⟩
    simp_all [behind]

set_option maxHeartbeats 2000000 in
theorem goodPart_any (x : Xx) (w : World) (hs : x.t.size ≤ maxLen) (ht : SgTab w) :
    Calls Tryd.prog 92 #[.agg #[.int .i64 x.k, .int .i64 x.n, .string x.t]] w fun e w' => e = .returned (.bool (goodX x)) ∧ Below w.heap.size w w' := by
  have HT := hide ht
  clear ht
  obtain ⟨k, n, t⟩ := x
  simp only at hs ⊢
  by_cases k1 : k = 1
  · subst k1
    go_enter Tryd.func92, Tryd.ntmps92
    go_wp2
    all_goals
      go_ret
      refine ⟨ret_bool ?_, (Below.refl _ _).alloc (Nat.le_refl _) _⟩
      simp [goodX, inB, *]
    all_goals omega
  · by_cases k2 : k = 2
    · subst k2
      clear k1
      have hg : goodX ⟨2, n, t⟩ = (decide (n = 0) && nameB t) := rfl
      rw [hg]
      by_cases hn : n = 0
      · subst hn
        go_enter Tryd.func92, Tryd.ntmps92
        go_wp2_with (go_at_call 133; refine (isName_any _ _ hs).mono ?_; rintro e w' ⟨rfl, hb⟩)
        go_ret
        exact ⟨ret_bool (by simp), ((Below.refl _ _).alloc (Nat.le_refl _) _).trans (hb.mono (by simp))⟩
      · go_enter Tryd.func92, Tryd.ntmps92
        go_wp2
        go_ret
        exact ⟨ret_bool (by simp [hn]), (Below.refl _ _).alloc (Nat.le_refl _) _⟩
    · by_cases k3 : k = 3
      · subst k3
        go_enter Tryd.func92, Tryd.ntmps92
        go_wp2
        all_goals
          go_ret
          refine ⟨ret_bool ?_, (Below.refl _ _).alloc (Nat.le_refl _) _⟩
          simp_all [goodX]
      · by_cases k4 : k = 4
        · subst k4
          go_enter Tryd.func92, Tryd.ntmps92
          go_wp2
          all_goals
            go_ret
            refine ⟨ret_bool ?_, (Below.refl _ _).alloc (Nat.le_refl _) _⟩
            simp_all [goodX]
        · by_cases k5 : k = 5
          · subst k5
            clear k1 k2 k3 k4
            have hg : goodX ⟨5, n, t⟩ = (decide (n = 0) && decide (strN t ≠ 0)) := rfl
            rw [hg]
            clear hg
            go_enter Tryd.func92, Tryd.ntmps92
            go_wp2_with fail
            refine (StrengthOf_any _ _ (HT.out.below ((Below.refl _ _).alloc (Nat.le_refl _) _))).mono ?_
            rintro e w' ⟨rfl, hb⟩
            have hc : w'.cell? ⟨w.heap.size, 1, none⟩ = some (.int .i64 n) := by rw [hb.cell (by simp)]; simp
            have hB : Below w.heap.size w w' := ((Below.refl _ _).alloc (Nat.le_refl _) _).trans (hb.mono (by simp))
            clear hb
            by_cases hn : n = 0
            · subst hn
              go_wp2_with fail
              go_ret
              exact ⟨ret_bool (by simp), hB⟩
            · go_wp2_with fail
              go_ret
              exact ⟨ret_bool (by simp [hn]), hB⟩
          · have hg : goodX ⟨k, n, t⟩ = false := by simp [goodX, k1, k2, k3, k4, k5]
            rw [hg]
            go_enter Tryd.func92, Tryd.ntmps92
            go_wp2
            go_ret
            exact ⟨rfl, (Below.refl _ _).alloc (Nat.le_refl _) _⟩

set_option maxHeartbeats 2000000 in
theorem implGoodE_any (ad : Option Addr) (c : Nat) (l : List Xx) (w : World) (hl : l.length ≤ 1048576) (hs : ∀ x ∈ l, x.t.size ≤ 1048576) (h : Row w ad l) (ht : SgTab w) :
    Calls Tryd.prog 56 #[.slice ad l.length c] w fun e w' => e = .returned (.bool (goodE l)) ∧ Below w.heap.size w w' := by
  have HT := hide ht
  have HR := hide h
  have HS := hide hs
  clear ht h hs
  by_cases h0 : l.length = 0
  · have hg : goodE l = false := by rw [List.length_eq_zero_iff.1 h0]; rfl
    rw [hg]
    have h0' : (l.length : Int) = 0 := by omega
    go_enter Tryd.func56, Tryd.ntmps56
    go_wp2_with fail
    go_ret
    exact ⟨rfl, Below.refl _ _⟩
  · by_cases h40 : 40 < l.length
    · have hg : goodE l = false := by simp [goodE]; omega
      rw [hg]
      go_enter Tryd.func56, Tryd.ntmps56
      go_wp2_with fail
      all_goals
        go_ret
        exact ⟨rfl, Below.refl _ _⟩
    · have hg : goodE l = runB l 1 := by
        unfold goodE; rw [decide_eq_true (by omega : l.length ≤ 40), Bool.true_and]
      rw [hg]
      clear hg
      have h40' : ¬ (40 : Int) < (l.length : Int) := by omega
      have h0' : ¬ (l.length : Int) = 0 := by omega
      go_enter Tryd.func56, Tryd.ntmps56
      go_wp2_with fail
      go_loopw [3, 16] (fun m i w' => ∃ (j M : Nat), j ≤ l.length ∧ M ≤ j + 1 ∧ m = .int .i64 M ∧ i = .int .i64 j ∧ runB l 1 = runB (l.drop j) M ∧ Below w.heap.size w w') (fun _ i _ => l.length - (intOf i).toNat)
      case atStart => exact ⟨0, 1, by omega, by omega, rfl, rfl, rfl, Below.refl _ _⟩
      case round =>
        obtain ⟨j, M, hj, hM, rfl, rfl, hrun, hB⟩ := hrel
        have HRun := hide hrun
        clear hrun
        by_cases hlt : j < l.length
        · have hlt' : (j : Int) < (l.length : Int) := by omega
          obtain ⟨b, o, rfl, hb, p0, p1, p2⟩ := HR.out.tok hB hlt
          have hsz := HS.out _ (List.getElem_mem hlt)
          have hd : l.drop j = l[j] :: l.drop (j + 1) := List.drop_eq_getElem_cons hlt
          obtain ⟨x, hx⟩ : ∃ x, x = l[j] := ⟨_, rfl⟩
          rw [← hx] at p0 p1 p2 hsz hd
          rw [hd] at HRun
          clear hx hd
          have hszm : x.t.size ≤ maxLen := by unfold maxLen; omega
          by_cases hM0 : M = 0
          · subst hM0
            have hr : runB l 1 = false := by rw [HRun.out]; rfl
            have Hr := hide hr
            clear hr
            go_wp2_with fail
            go_ret
            exact ⟨ret_bool Hr.out.symm, hB.alloc hB.size _⟩
          · have hM1 : ¬ (M : Int) = 0 := by omega
            go_wp2_with fail
            refine (goodPart_any x _ hszm (HT.out.below (hB.alloc hB.size _))).mono ?_
            rintro e w1 ⟨rfl, hb1⟩
            have c0 : w1.cell? ⟨wr.heap.size, 0, none⟩ = some (.int .i64 x.k) := by rw [hb1.cell (by simp)]; simp
            have c1 : w1.cell? ⟨wr.heap.size, 1, none⟩ = some (.int .i64 x.n) := by rw [hb1.cell (by simp)]; simp
            have c2 : w1.cell? ⟨wr.heap.size, 2, none⟩ = some (.string x.t) := by rw [hb1.cell (by simp)]; simp
            have hB1 : Below w.heap.size w w1 := (hB.alloc hB.size _).trans (hb1.mono (by have := hB.size; simp; omega))
            clear hb1 p0 p1 p2
            by_cases hg : goodX x = true
            · rw [hg]
              go_wp2_with fail
              refine (partsBehind_any x _).mono ?_
              rintro e w2 ⟨rfl, hb2⟩
              have hB2 : Below w.heap.size w w2 := hB1.trans (hb2.mono hB1.size)
              have hle := behind_le x
              clear hb2 c0 c1 c2
              go_wp2_with fail
              refine ⟨⟨j + 1, M + behind x - 1, by omega, by omega, by go_num, by go_num, ?_, hB2⟩, by simp [intOf]; omega⟩
              rw [HRun.out]
              simp only [runB, hg, decide_eq_false hM0]
              rfl
            · rw [Bool.not_eq_true] at hg
              have hr : runB l 1 = false := by rw [HRun.out]; simp [runB, hg]
              have Hr := hide hr
              clear hr
              rw [hg]
              go_wp2_with fail
              go_ret
              exact ⟨ret_bool Hr.out.symm, hB1⟩
        · obtain rfl : j = l.length := by omega
          have hr : runB l 1 = decide (M = 0) := by rw [HRun.out, List.drop_length]; rfl
          have Hr := hide hr
          clear hr
          go_wp2_with fail
          go_ret
          exact ⟨ret_bool (by rw [Hr.out, Bool.eq_iff_iff]; simp), hB⟩
end Go.Proofs.YtjffignbiabmaaaDoor.W
