/-
  The specification's paths: spec.l8SamePath. Conditions: at most 1048576 numbers.
-/
import Derived.Test.YtmlpnmdckgppnaaCrP
namespace Go.Proofs.Ytmlpnmdckgppnaa.W
open Go.ChangeShapes Go.WideShapes Go.ChangeAt Go.RowKit
set_option linter.unusedVariables false
set_option linter.unusedSimpArgs false

set_option maxRecDepth 20000 in
set_option maxHeartbeats 8000000 in
theorem l8SamePath_any (pa : Option Addr) (pc : Nat) (p : List Int) (qa : Option Addr) (qc : Nat) (q : List Int) (w : World) (hp : IRow w pa p) (hq : IRow w qa q) (hpl : p.length ≤ 1048576) (hql : q.length ≤ 1048576) :
    Calls Try.prog 43 #[.slice pa p.length pc, .slice qa q.length qc] w fun e w' => e = .returned (.bool (decide (p = q))) ∧ Below w.heap.size w w' := by
  have HP := hide hp
  have HQ := hide hq
  obtain ⟨R, hR⟩ : ∃ R, R = decide (p = q) := ⟨_, rfl⟩
  have HR := hide hR
  rw [← hR]
  obtain ⟨n, hn⟩ : ∃ n, n = p.length := ⟨_, rfl⟩
  obtain ⟨m, hm⟩ : ∃ m, m = q.length := ⟨_, rfl⟩
  have Hn := hide hn
  have Hm := hide hm
  rw [← hn, ← hm]
  rw [← hn] at hpl
  rw [← hm] at hql
  clear hp hq hR hn hm
  by_cases hl : n = m
  · subst hl
    go_enter Try.func43, Try.ntmps43
    go_wp2_with fail
    go_loopw [13] (fun i w' => ∃ j : Nat, j ≤ n ∧ i = .int .i64 j ∧ (∀ k, k < j → p[k]? = q[k]?) ∧ Below w.heap.size w w') (fun i _ => n - (intOf i).toNat)
    case atStart => exact ⟨0, by omega, rfl, by intros; omega, Below.refl _ _⟩
    case round =>
      obtain ⟨j, hj, rfl, hall, hB⟩ := hrel
      have HA := hide hall
      have HB := hide hB
      clear hall hB
      by_cases hlt : j < n
      · have hlt' : (j : Int) < (n : Int) := by omega
        have hj0 : (0 : Int) ≤ (j : Int) := by omega
        have hjp : j < p.length := by rw [← Hn.out]; exact hlt
        have hjq : j < q.length := by rw [← Hm.out]; exact hlt
        obtain ⟨b, o, rfl, hb1, p0⟩ := IRow.iat HP.out HB.out hjp
        obtain ⟨b', o', rfl, hb2, q0⟩ := IRow.iat HQ.out HB.out hjq
        obtain ⟨x, hx⟩ : ∃ x, x = p[j] := ⟨_, rfl⟩
        obtain ⟨y, hy⟩ : ∃ y, y = q[j] := ⟨_, rfl⟩
        rw [← hx] at p0
        rw [← hy] at q0
        have hx' : p[j]? = some x := by rw [hx]; exact List.getElem?_eq_getElem hjp
        have hy' : q[j]? = some y := by rw [hy]; exact List.getElem?_eq_getElem hjq
        have Hx := hide hx'
        have Hy := hide hy'
        have hBd : Below w.heap.size w wr.drew := belowDrew8' HB.out
        have HBd := hide hBd
        clear hx hy hx' hy' hjp hjq hBd
        go_upto_region 6 with fail
        refine wp_region_noPanic ?_
        refine wp_region_held_drew (S := fun w' => w'.cell? ⟨b, o + j, none⟩ = some (.int .i64 x) ∧ w'.cell? ⟨b', o' + j, none⟩ = some (.int .i64 y)) (by kernel_rfl) ⟨p0, q0⟩ (fun hHeld => ?_)
        refine wpAnyH_take (i := 0) (oi := _) (v := ?_) rfl (by kernel_rfl) (by kernel_rfl) (by kernel_rfl) (fun _ _ _ h => h) (Or.inl ⟨by rfl, ?_⟩) (by assumption) ?_
        rotate_left 1
        · (intro w hSw; obtain ⟨hSw1, hSw2⟩ := hSw; (first | (go_simp; done) | (go_simp; with_reducible rfl)))
        try simp only [Act.put, List.getElem_toArray, List.getElem_cons_zero, List.getElem_cons_succ, List.setIfInBounds_toArray, List.set_cons_zero, List.set_cons_succ]
        refine wpAnyH_take (i := 1) (oi := _) (v := ?_) rfl (by kernel_rfl) (by kernel_rfl) (by kernel_rfl) (fun _ _ _ h => h) (Or.inl ⟨by rfl, ?_⟩) (by assumption) ?_
        rotate_left 1
        · (intro w hSw; obtain ⟨hSw1, hSw2⟩ := hSw; (first | (go_simp; done) | (go_simp; with_reducible rfl)))
        try simp only [Act.put, List.getElem_toArray, List.getElem_cons_zero, List.getElem_cons_succ, List.setIfInBounds_toArray, List.set_cons_zero, List.set_cons_succ]
        refine wpAnyH_take (i := 2) (oi := _) (v := ?_) rfl (by kernel_rfl) (by kernel_rfl) (by kernel_rfl) (fun _ _ _ h => h) (Or.inl ⟨by rfl, ?_⟩) (by assumption) ?_
        rotate_left 1
        · (intro w hSw; obtain ⟨hSw1, hSw2⟩ := hSw; (first | (go_simp; done) | (go_simp; with_reducible rfl)))
        try simp only [Act.put, List.getElem_toArray, List.getElem_cons_zero, List.getElem_cons_succ, List.setIfInBounds_toArray, List.set_cons_zero, List.set_cons_succ]
        refine wpAnyH_take (i := 3) (oi := _) (v := ?_) rfl (by kernel_rfl) (by kernel_rfl) (by kernel_rfl) (fun _ _ _ h => h) (Or.inl ⟨by rfl, ?_⟩) (by assumption) ?_
        rotate_left 1
        · (intro w hSw; obtain ⟨hSw1, hSw2⟩ := hSw; (first | (go_simp; done) | (go_simp; with_reducible rfl)))
        try simp only [Act.put, List.getElem_toArray, List.getElem_cons_zero, List.getElem_cons_succ, List.setIfInBounds_toArray, List.set_cons_zero, List.set_cons_succ]
        refine wpAnyH_take (i := 4) (oi := _) (v := ?_) rfl (by kernel_rfl) (by kernel_rfl) (by kernel_rfl) (fun _ _ _ h => h) (Or.inl ⟨by rfl, ?_⟩) (by assumption) ?_
        rotate_left 1
        · (intro w hSw; obtain ⟨hSw1, hSw2⟩ := hSw; (first | (go_simp; done) | (go_simp; with_reducible rfl)))
        try simp only [Act.put, List.getElem_toArray, List.getElem_cons_zero, List.getElem_cons_succ, List.setIfInBounds_toArray, List.set_cons_zero, List.set_cons_succ]
        refine wpAnyH_take (i := 5) (oi := _) (v := ?_) rfl (by kernel_rfl) (by kernel_rfl) (by kernel_rfl) (fun _ _ _ h => h) (Or.inl ⟨by rfl, ?_⟩) (by assumption) ?_
        rotate_left 1
        · (intro w hSw; obtain ⟨hSw1, hSw2⟩ := hSw; (first | (go_simp; done) | (go_simp; with_reducible rfl)))
        try simp only [Act.put, List.getElem_toArray, List.getElem_cons_zero, List.getElem_cons_succ, List.setIfInBounds_toArray, List.set_cons_zero, List.set_cons_succ]
        refine wpAnyH_take (i := 6) (oi := _) (v := ?_) rfl (by kernel_rfl) (by kernel_rfl) (by kernel_rfl) (fun _ _ _ h => h) (Or.inl ⟨by rfl, ?_⟩) (by assumption) ?_
        rotate_left 1
        · (intro w hSw; obtain ⟨hSw1, hSw2⟩ := hSw; (first | (go_simp; done) | (go_simp; with_reducible rfl)))
        try simp only [Act.put, List.getElem_toArray, List.getElem_cons_zero, List.getElem_cons_succ, List.setIfInBounds_toArray, List.set_cons_zero, List.set_cons_succ]
        refine wpAnyH_take (i := 7) (oi := _) (v := ?_) rfl (by kernel_rfl) (by kernel_rfl) (by kernel_rfl) (fun _ _ _ h => h) (Or.inl ⟨by rfl, ?_⟩) (by assumption) ?_
        rotate_left 1
        · (intro w hSw; obtain ⟨hSw1, hSw2⟩ := hSw; (first | (go_simp; done) | (go_simp; with_reducible rfl)))
        try simp only [Act.put, List.getElem_toArray, List.getElem_cons_zero, List.getElem_cons_succ, List.setIfInBounds_toArray, List.set_cons_zero, List.set_cons_succ]
        refine wpAnyH_take (i := 8) (oi := _) (v := ?_) rfl (by kernel_rfl) (by kernel_rfl) (by kernel_rfl) (fun _ _ _ h => h) (Or.inl ⟨by rfl, ?_⟩) (by assumption) ?_
        rotate_left 1
        · (intro w hSw; obtain ⟨hSw1, hSw2⟩ := hSw; (first | (go_simp; done) | (go_simp; with_reducible rfl)))
        try simp only [Act.put, List.getElem_toArray, List.getElem_cons_zero, List.getElem_cons_succ, List.setIfInBounds_toArray, List.set_cons_zero, List.set_cons_succ]
        refine wpAnyH_done (by kernel_rfl) ?_ _
        refine NoPanic.normal ?_
        clear hHeld
        by_cases hxy : x = y
        · have HAn : Hid (∀ k, k < j + 1 → p[k]? = q[k]?) := hide (fun k hk => by
            by_cases e : k < j
            · exact HA.out k e
            · rw [show k = j by omega, Hx.out, Hy.out, hxy])
          have hb0 : (x != y) = false := by simp [hxy]
          rw [hb0]
          clear hxy p0 q0
          go_wp2_with fail
          exact ⟨⟨j + 1, by omega, by go_num, HAn.out, HBd.out⟩, by simp [intOf]; omega⟩
        · have HRf : Hid (R = false) := hide (by
            rw [HR.out, decide_eq_false_iff_not]
            intro e
            have h1 := Hx.out
            rw [e, Hy.out] at h1
            simp only [Option.some.injEq] at h1
            exact hxy h1.symm)
          have hb0 : (x != y) = true := by simp [hxy]
          rw [hb0]
          clear hxy p0 q0
          go_wp2_with fail
          go_ret
          exact ⟨by simp [HRf.out], HBd.out⟩
      · have hjn : j = n := by omega
        subst hjn
        have hRt : R = true := by
          rw [HR.out, decide_eq_true_eq]
          refine List.ext_getElem? (fun k => ?_)
          by_cases hk : k < j
          · exact HA.out k hk
          · rw [List.getElem?_eq_none (by have := Hn.out; omega), List.getElem?_eq_none (by have := Hm.out; omega)]
        have HRt := hide hRt
        clear hRt
        go_wp2_with fail
        go_ret
        exact ⟨by simp [HRt.out], HB.out⟩
  · have hne : ¬ (n : Int) = (m : Int) := by omega
    have hRf : R = false := by
      rw [HR.out, decide_eq_false_iff_not]
      intro e
      have h1 := Hn.out
      have h2 := Hm.out
      rw [e] at h1
      omega
    have HRf := hide hRf
    clear hRf
    go_enter Try.func43, Try.ntmps43
    go_wp2_with fail
    go_ret
    exact ⟨by simp [HRf.out], Below.refl _ _⟩
end Go.Proofs.Ytmlpnmdckgppnaa.W
