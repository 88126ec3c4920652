/-
  Asks put together: a contract of slices.Concat at asks. Conditions: at most 100 rows, 1048576 asks.
-/
import Derived.Test.YtmlpnmdckgppnaaCrF
namespace Go.Proofs.Ytmlpnmdckgppnaa.W
open Go.ChangeShapes Go.WideShapes Go.ChangeAt Go.RowKit
set_option linter.unusedVariables false

theorem PtA.form {w : World} {u : Value} {m : Nat} {vs : List Value} (h : PtA w u m vs) : ∃ ad c, u = .slice ad m c := by
  rcases h with ⟨h, rfl, -⟩ | ⟨ad, c, h, -⟩
  · exact ⟨none, 0, h⟩
  · exact ⟨some ad, c, h⟩
abbrev Prt := Value × Nat × List Value
def sumN (ps : List Prt) : Nat := (ps.map (fun q => q.2.1)).sum
def catV (ps : List Prt) : List Value := (ps.map (fun q => q.2.2)).flatten
theorem sumN_succ {ps : List Prt} {j : Nat} (h : j < ps.length) : sumN (ps.take (j + 1)) = sumN (ps.take j) + ps[j].2.1 := by
  rw [List.take_succ_eq_append_getElem h]; simp only [sumN, List.map_append, List.sum_append, List.map_cons, List.map_nil, List.sum_cons, List.sum_nil, Nat.add_zero]
theorem catV_succ {ps : List Prt} {j : Nat} (h : j < ps.length) : catV (ps.take (j + 1)) = catV (ps.take j) ++ ps[j].2.2 := by
  rw [List.take_succ_eq_append_getElem h]; simp only [catV, List.map_append, List.flatten_append, List.map_cons, List.map_nil, List.flatten_cons, List.flatten_nil, List.append_nil]
theorem sumN_take (ps : List Prt) (j : Nat) : sumN (ps.take j) ≤ sumN ps := by
  have : sumN ps = sumN (ps.take j) + sumN (ps.drop j) := by
    conv => lhs; rw [← List.take_append_drop j ps]
    simp only [sumN, List.map_append, List.sum_append]
  omega

set_option maxRecDepth 20000 in
set_option maxHeartbeats 4000000 in
theorem concatA_any (g : Nat) (ps : List Prt) (w : World) (hk : ps.length ≤ 100) (hg : g < w.heap.size) (hq : ∀ i (h : i < ps.length), w.cell? ⟨g, i, none⟩ = some ps[i].1) (hp : ∀ i (h : i < ps.length), PtA w ps[i].1 ps[i].2.1 ps[i].2.2) (hs : sumN ps ≤ 1048576) :
    Calls Try.prog 55 #[.slice (some ⟨g, 0, none⟩) ps.length ps.length] w fun e w' => ∃ v, e = .returned v ∧ w'.ownsRow w.heap.size 92 2 v (sumN ps) (catV ps) ∧ Below w.heap.size w w' := by
  have HQ := hide hq
  have HP := hide hp
  have HS := hide hs
  obtain ⟨K, hK⟩ : ∃ K, K = ps.length := ⟨_, rfl⟩
  rw [← hK] at hk ⊢
  have HK := hide hK
  clear hq hp hs hK
  go_enter Try.func55, Try.ntmps55
  go_wp2_with fail
  go_loopw [3, 11] (fun s i w' => w' = w ∧ ∃ j : Nat, j ≤ K ∧ i = .int .i64 j ∧ s = .int .i64 (sumN (ps.take j) : Int)) (fun _ i _ => K - (intOf i).toNat)
  case atStart => exact ⟨rfl, 0, by omega, rfl, rfl⟩
  case round =>
    obtain ⟨rfl, j, hj, rfl, rfl⟩ := hrel
    by_cases hlt : j < K
    · have hlt' : (j : Int) < (K : Int) := by omega
      have hj0 : (0 : Int) ≤ (j : Int) := by omega
      have hlt2 : j < ps.length := by rw [← HK.out]; exact hlt
      have q0 := HQ.out j hlt2
      obtain ⟨ua, uc, hu⟩ := (HP.out j hlt2).form
      rw [hu] at q0
      have h1 := sumN_succ hlt2
      have h2 := sumN_take ps (j + 1)
      have h3 := HS.out
      obtain ⟨m, hm⟩ : ∃ m, m = ps[j].2.1 := ⟨_, rfl⟩
      rw [← hm] at q0 h1
      obtain ⟨S, hS⟩ : ∃ S, S = sumN (ps.take j) := ⟨_, rfl⟩
      rw [← hS] at h1 ⊢
      have hSm : S + m ≤ 1048576 := by omega
      have H1 := hide h1
      clear hu hm hS h1 h2 h3 hlt2
      go_wp2_with fail
      exact ⟨⟨trivial, j + 1, by omega, by go_num, by rw [H1.out]; go_num⟩, by simp [intOf]; omega⟩
    · obtain rfl : j = K := by omega
      have hS : sumN (ps.take j) = sumN ps := by rw [HK.out, List.take_length]
      rw [hS]
      obtain ⟨S, hS'⟩ : ∃ S, S = sumN ps := ⟨_, rfl⟩
      have h3 := HS.out
      rw [← hS'] at h3 ⊢
      have HSn := hide hS'
      clear hS hS'
      go_wp2_with fail
      refine (growA_any S h3 _).mono ?_
      rintro e w1 ⟨v1, rfl, ho1, hb1⟩
      have HO1 := hide ho1
      obtain ⟨sa, sn, sc, hsf⟩ : ∃ sad sn sc, v1 = .slice sad sn sc := by
        obtain ⟨a, c, e⟩ := own_form ho1
        exact ⟨_, _, _, e⟩
      subst hsf
      clear ho1
      obtain ⟨W0, hW0⟩ : ∃ W0, W0 = wr := ⟨_, rfl⟩
      subst hW0
      go_wp2_with fail
      go_loopw [6, 27] (fun v i w' => Below W0.heap.size W0 w' ∧ ∃ i2 : Nat, i2 ≤ j ∧ i = .int .i64 i2 ∧ w'.ownsRow W0.heap.size 92 2 v (sumN (ps.take i2)) (catV (ps.take i2))) (fun _ i _ => j - (intOf i).toNat)
      case atStart => exact ⟨hb1, 0, by omega, rfl, HO1.out⟩
      case round =>
        clear HO1 hb1
        obtain ⟨hBr, i2, hi2, rfl, ho⟩ := hrel
        obtain ⟨ta, tn, tc, htf⟩ : ∃ sad sn sc, u6 = .slice sad sn sc := by
          obtain ⟨a, c, e⟩ := own_form ho
          exact ⟨_, _, _, e⟩
        subst htf
        have HO := hide ho
        clear ho
        by_cases hlt2 : i2 < j
        · have hlt' : (i2 : Int) < (j : Int) := by omega
          have hj0 : (0 : Int) ≤ (i2 : Int) := by omega
          have hlt3 : i2 < ps.length := by rw [← HK.out]; exact hlt2
          have q0 := (hBr.cell (p := ⟨g, i2, none⟩) hg).trans (HQ.out i2 hlt3)
          have hpt := (HP.out i2 hlt3).below hBr
          obtain ⟨ua, uc, hu⟩ := (HP.out i2 hlt3).form
          rw [hu] at q0 hpt
          have h1 := sumN_succ hlt3
          have h2 := sumN_take ps (i2 + 1)
          have h4 := catV_succ hlt3
          have h5 := HS.out
          have HPt := hide hpt
          have H1 := hide h1
          have H4 := hide h4
          have Hle := hide (show sumN (ps.take i2) + ps[i2].2.1 ≤ 1048576 by omega)
          have hlo : W0.heap.size ≤ wr.heap.size := hBr.size
          have HOb := hide (fun k hk => (HO.out.lt k hk).1)
          obtain ⟨m, hm⟩ : ∃ m, m = ps[i2].2.1 := ⟨_, rfl⟩
          rw [← hm] at q0 HPt H1 Hle
          clear hu hm h1 h2 h4 h5 hpt
          go_wp2_with (at_builtin; refine wpList_append_part rfl _ _ rfl W0.heap.size _ _ _ rfl HO.out _ m _ rfl HPt.out Hle.out hlo ?_)
          intro v2 w2 hown2 hgrow2
          have hB2 : Below W0.heap.size W0 w2 := hBr.grown hgrow2 hlo (fun k hk => HOb.out k hk)
          rw [← H1.out, ← H4.out] at hown2
          have HO2 := hide hown2
          obtain ⟨ra, rn, rc, hrf⟩ : ∃ sad sn sc, v2 = .slice sad sn sc := by
            obtain ⟨a, c, e⟩ := own_form hown2
            exact ⟨_, _, _, e⟩
          subst hrf
          clear hown2 hgrow2 HOb
          go_wp2_with fail
          exact ⟨⟨hB2, i2 + 1, by omega, by go_num, HO2.out⟩, by simp [intOf]; omega⟩
        · obtain rfl : i2 = j := by omega
          have ho := HO.out
          rw [HK.out, List.take_length] at ho
          have HOe := hide ho
          clear ho HO
          go_wp2_with fail
          go_ret
          exact ⟨_, rfl, by rw [HSn.out]; exact HOe.out, hBr⟩
end Go.Proofs.Ytmlpnmdckgppnaa.W
