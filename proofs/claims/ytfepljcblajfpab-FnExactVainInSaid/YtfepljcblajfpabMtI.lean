/-
  The specification's l8Named and l8Rest: whether some row names a constructor first, and the rows behind their first patterns. Conditions: good rows, at most 8.
-/
import Derived.Test.YtfepljcblajfpabMtE
namespace Go.Proofs.Ytfepljcblajfpab.W
open Go.ChangeShapes Go.WideShapes Go.ChangeAt Go.RowKit
set_option linter.unusedVariables false
set_option linter.unusedSimpArgs false

theorem ret_bool8 {a b : Bool} (h : a = b) : Ending.returned (.bool a) = .returned (.bool b) := by rw [h]

set_option maxRecDepth 20000 in
set_option maxHeartbeats 4000000 in
theorem l8Named_any (D : List Int) (R : List F) (vR : Value) (w : World) (hV : RV w vR R) (hok : ∀ b ∈ R, b.ok D ∧ 1 ≤ b.len) (h8 : R.length ≤ 8) :
    Calls Try.prog 50 #[vR] w fun e w' => e = .returned (.bool (R.any nam1)) ∧ Below w.heap.size w w' := by
  have HV := hide hV
  have Hok := hide hok
  obtain ⟨ra, rc, rfl, -⟩ := hV.form
  obtain ⟨RN, hRN⟩ : ∃ RN, RN = R.length := ⟨_, rfl⟩
  rw [← hRN] at h8 HV ⊢
  have HRN := hide hRN
  obtain ⟨NM, hNM⟩ : ∃ NM, NM = R.any nam1 := ⟨_, rfl⟩
  have HNM := hide hNM
  rw [← hNM]
  clear hV hok hRN hNM
  go_enter Try.func50, Try.ntmps50
  go_wp2_with fail
  go_loopw [7] (fun i w' => ∃ j : Nat, j ≤ RN ∧ i = .int .i64 j ∧ Hid ((R.take j).any nam1 = false) ∧ Below w.heap.size w w') (fun i _ => RN - (intOf i).toNat)
  case atStart => exact ⟨0, Nat.zero_le _, rfl, hide (by simp), Below.refl _ _⟩
  case round =>
    obtain ⟨j, hj, rfl, HTj, hB⟩ := hrel
    have hsz := hB.size
    by_cases hlt : j < RN
    · have hltR : j < R.length := by have := HRN.out; omega
      have hlt' : (j : Int) < (RN : Int) := by omega
      obtain ⟨b, o, rc', u, e1, hb, p0, gu, cu⟩ := RV.at HV.out hB hltR
      simp only [Value.slice.injEq] at e1
      obtain ⟨rfl, -, rfl⟩ := e1
      obtain ⟨ok, hl⟩ := Hok.out R[j] (List.getElem_mem hltR)
      have htk := take_any hltR
      have hany : nam1 R[j] = true → NM = true := fun h => by rw [HNM.out]; exact List.any_eq_true.2 ⟨_, List.getElem_mem hltR, h⟩
      obtain ⟨a, ha⟩ : ∃ a, a = R[j] := ⟨_, rfl⟩
      rw [← ha] at gu ok hl htk hany
      clear ha
      cases a with
      | nil => simp [F.len] at hl
      | cons x k r =>
        obtain ⟨g, o2, cc, sx, rfl, hcc, hgw, hgl, gk, q0, q1, tl⟩ := gu.head cu
        rw [tcon_nam ok.1] at htk hany
        obtain ⟨Y, hY⟩ : ∃ Y, Y = tcon x := ⟨_, rfl⟩
        rw [← hY] at q0 htk hany
        obtain ⟨RL, hRL⟩ : ∃ RL, RL = r.len := ⟨_, rfl⟩
        rw [← hRL] at p0
        rw [HTj.out] at htk
        have HTk := hide htk
        have HAn := hide hany
        obtain ⟨W1, hW1⟩ : ∃ W1, W1 = wr.alloc (.cells #[.slice (some ⟨g, o2, none⟩) (RL + 1) cc] 70) := ⟨_, rfl⟩
        have hb1 : Below wr.heap.size wr W1 := by rw [hW1]; exact (Below.refl _ _).alloc (Nat.le_refl _) _
        have HB1 : Hid (Below w.heap.size w W1) := hide (hB.trans (hb1.mono hsz))
        have HW1 := hide hW1
        clear tl gk htk ok hRL gu cu hl hY hW1 hb1 q1 hany HTj
        by_cases hY0 : 0 ≤ Y
        · have HN : Hid (true = NM) := hide (HAn.out (by simpa using hY0)).symm
          clear HTk HAn
          go_wp2_with fail
          rw [← HW1.out]
          go_ret
          exact ⟨ret_bool8 HN.out, HB1.out⟩
        · have HT2 : Hid ((R.take (j + 1)).any nam1 = false) := hide (by rw [HTk.out]; simp [hY0])
          clear HTk HAn
          go_wp2_with fail
          rw [← HW1.out]
          exact ⟨⟨j + 1, by omega, by go_num, HT2, HB1.out⟩, by simp [intOf]; omega⟩
    · obtain rfl : j = RN := by omega
      have HN : Hid (false = NM) := hide (by rw [HNM.out, ← HTj.out, HRN.out, List.take_length])
      clear HTj
      go_wp2_with fail
      go_ret
      exact ⟨ret_bool8 HN.out, hB⟩

set_option maxRecDepth 20000 in
set_option maxHeartbeats 8000000 in
theorem l8Rest_any (D : List Int) (R : List F) (vR : Value) (w : World) (hV : RV w vR R) (hok : ∀ b ∈ R, b.ok D ∧ 1 ≤ b.len) (h8 : R.length ≤ 8) (hn : R.any nam1 = false) :
    Calls Try.prog 51 #[vR] w fun e w' => ∃ v', e = .returned v' ∧ RV w' v' (R.map tlF) ∧ Below w.heap.size w w' := by
  have HV := hide hV
  have Hok := hide hok
  have Hnn : Hid (∀ b ∈ R, nam1 b = false) := hide (fun b hb => by
    have := List.any_eq_false.1 hn b hb
    simpa using this)
  obtain ⟨ra, rc, rfl, -⟩ := hV.form
  obtain ⟨RN, hRN⟩ : ∃ RN, RN = R.length := ⟨_, rfl⟩
  rw [← hRN] at h8 HV ⊢
  have HRN := hide hRN
  have HE := hide (World.ownsRow_nil w w.heap.size 70 1)
  clear hV hok hRN hn
  go_enter Try.func51, Try.ntmps51
  go_wp2_with fail
  go_loopw [3, 8] (fun s i w' => ∃ (j : Nat) (vs : List Value), j ≤ RN ∧ i = .int .i64 j ∧ ROs w' s vs ((R.take j).map tlF) ∧ w'.ownsRow w.heap.size 70 1 s vs.length vs ∧ vs.length ≤ j ∧ Below w.heap.size w w') (fun _ i _ => RN - (intOf i).toNat)
  case atStart => exact ⟨0, [], Nat.zero_le _, rfl, ROs.nil, HE.out, Nat.zero_le _, Below.refl _ _⟩
  case round =>
    clear HE
    obtain ⟨j, vs, hj, rfl, hRO, hO, hvj, hB⟩ := hrel
    obtain ⟨oad, oc, hof⟩ := own_form hO
    subst hof
    have HRO := hide hRO
    have HO := hide hO
    have HOl := hide (fun k hk => hO.lt k hk)
    have hsz := hB.size
    clear hRO hO
    by_cases hlt : j < RN
    · have hltR : j < R.length := by have := HRN.out; omega
      have hlt' : (j : Int) < (RN : Int) := by omega
      obtain ⟨b, o, rc', u, e1, hb, p0, gu, cu⟩ := RV.at HV.out hB hltR
      simp only [Value.slice.injEq] at e1
      obtain ⟨rfl, -, rfl⟩ := e1
      obtain ⟨ok, hl⟩ := Hok.out R[j] (List.getElem_mem hltR)
      have hnj := Hnn.out R[j] (List.getElem_mem hltR)
      have htk := take_tl hltR
      obtain ⟨a, ha⟩ : ∃ a, a = R[j] := ⟨_, rfl⟩
      rw [← ha] at gu ok hl htk hnj
      clear ha
      cases a with
      | nil => simp [F.len] at hl
      | cons x k r =>
        obtain ⟨g, o2, cc, sx, rfl, hcc, hgw, hgl, gk, q0, q1, tl⟩ := gu.head cu
        have HTl := hide tl
        have HTk := hide htk
        have HKn : Hid (k = .nil) := hide (by
          rcases good_kd ok.1 with ⟨h1, h2⟩ | ⟨h1, h2, h3⟩
          · exact F.len_0 (by rw [ok.2.1, ar, if_pos h1])
          · simp [nam1, h1] at hnj)
        obtain ⟨RL, hRL⟩ : ∃ RL, RL = r.len := ⟨_, rfl⟩
        rw [← hRL] at p0 hcc
        have HRL := hide hRL
        obtain ⟨W1, hW1⟩ : ∃ W1, W1 = wr.alloc (.cells #[.slice (some ⟨g, o2, none⟩) (RL + 1) cc] 70) := ⟨_, rfl⟩
        have s1 : W1.heap.size = wr.heap.size + 1 := by rw [hW1]; simp
        have HB1r : Hid (Below wr.heap.size wr W1) := hide (by rw [hW1]; exact (Below.refl _ _).alloc (Nat.le_refl _) _)
        have HW1 := hide hW1
        have k1 : (1 : Int) ≤ (RL : Int) + 1 := by omega
        have k2 : (RL : Int) + 1 ≤ (cc : Int) := by omega
        have k3 : (1 : Int) ≤ (cc : Int) := by omega
        clear tl gk htk ok hRL gu cu hl hW1 q0 q1 hnj
        by_cases hc1 : cc = 1
        · subst hc1
          obtain rfl : RL = 0 := by omega
          obtain ⟨u2, hu2⟩ : ∃ u2, u2 = Value.slice (some ⟨g, o2, none⟩) 0 0 := ⟨_, rfl⟩
          have HU2 := hide hu2
          obtain ⟨W2, hW2⟩ : ∃ W2, W2 = W1.alloc (.cells #[u2] 70) := ⟨_, rfl⟩
          have s2 : W2.heap.size = wr.heap.size + 1 + 1 := by rw [hW2]; simp [s1]
          have hb2 : Below wr.heap.size wr W2 := by rw [hW2]; exact HB1r.out.alloc (by omega) _
          have HUs : Hid (GT W1 (fun k => (Value.slice oad vs.length oc).ownBlock ≠ some k) (tlF (.cons x k r)) u2) := hide (by
            have h1 := HTl.out (o2) (.inl rfl)
            rw [← HRL.out] at h1
            have h2 : tlF (.cons x k r) = r := by rw [tlF, HKn.out]; rfl
            rw [h2, HU2.out]
            exact h1.keep (by omega) (fun k1 hk1 _ => ⟨HB1r.out.block k1 (by omega), fun e => by have := (HOl.out k1 e).1; omega⟩))
          have HUc : Hid (Cap u2) := hide (by rw [HU2.out]; intro ad m c e; simp only [Value.slice.injEq] at e; omega)
          have HSc : Hid (Sc W2 (.slice (some ⟨wr.heap.size + 1, 0, none⟩) 1 1) 1 1 [u2]) := hide (by
            have := sc_block (w := W2) (g := wr.heap.size + 1) (m := 1) (size := 1) (cs := #[u2]) (by rw [hW2, ← s1]; exact heap_alloc_new _ _) rfl (by rw [HU2.out]; simp [Value.oneCell']) 1
            exact this)
          have HO2 : Hid (W2.ownsRow w.heap.size 70 1 (.slice oad vs.length oc) vs.length vs) := hide (own_keep HO.out (fun k _ hk => hb2.block k hk))
          have HW2 := hide hW2
          have S1 := hide s1
          have S2 := hide s2
          have HB2r := hide hb2
          clear hu2 hW2 s2 hb2 s1
          go_wp2_with (at_builtin; rw [← HU2.out, ← HW1.out, ← HW2.out]; refine wpList_appR rfl _ _ rfl w.heap.size _ vs.length vs rfl HO2.out _ 1 _ rfl HSc.out ?c1 ?c2 ?_)
          case c1 => omega
          case c2 => have := S2.out; omega
          intro v' w4 hown hgrow hap
          have s1 := S1.out
          have s2 := S2.out
          have hb4 : Below w.heap.size W2 w4 := (Below.refl _ _).grown hgrow (by omega) (fun k hk => (HOl.out k hk).1)
          have HB4 : Hid (Below w.heap.size w w4) := hide (hB.trans ((HB2r.out.mono hsz).trans hb4))
          have HRO4 : Hid (ROs w4 v' (vs ++ [u2]) ((R.take (j + 1)).map tlF)) := hide (by
            rw [HTk.out]
            exact (HRO.out.below HB1r.out).app HUs.out HUc.out (by omega) (fun k hk => by rw [HW2.out]; exact heap_alloc_old _ _ hk) hgrow hap)
          have HO4 : Hid (w4.ownsRow w.heap.size 70 1 v' (vs ++ [u2]).length (vs ++ [u2])) := hide (by simpa using hown)
          have hl4 : (vs ++ [u2]).length ≤ j + 1 := by simp; omega
          clear hown hgrow hap hb4 HSc HO2 HW1 HW2 S1 S2 s1 s2 HUs HUc HRO HO
          go_wp2_with fail
          go_roundw
          case rel => exact ⟨j + 1, vs ++ [u2], by omega, by go_num, HRO4.out, HO4.out, hl4, HB4.out⟩
          case measure => simp [intOf]; omega
        · skip
          obtain ⟨u2, hu2⟩ : ∃ u2, u2 = Value.slice (some ⟨g, o2 + 2, none⟩) RL (cc - 1) := ⟨_, rfl⟩
          have HU2 := hide hu2
          obtain ⟨W2, hW2⟩ : ∃ W2, W2 = W1.alloc (.cells #[u2] 70) := ⟨_, rfl⟩
          have s2 : W2.heap.size = wr.heap.size + 1 + 1 := by rw [hW2]; simp [s1]
          have hb2 : Below wr.heap.size wr W2 := by rw [hW2]; exact HB1r.out.alloc (by omega) _
          have HUs : Hid (GT W1 (fun k => (Value.slice oad vs.length oc).ownBlock ≠ some k) (tlF (.cons x k r)) u2) := hide (by
            have h1 := HTl.out (o2 + 2) (.inr rfl)
            rw [← HRL.out] at h1
            have h2 : tlF (.cons x k r) = r := by rw [tlF, HKn.out]; rfl
            rw [h2, HU2.out]
            exact h1.keep (by omega) (fun k1 hk1 _ => ⟨HB1r.out.block k1 (by omega), fun e => by have := (HOl.out k1 e).1; omega⟩))
          have HUc : Hid (Cap u2) := hide (by rw [HU2.out]; intro ad m c e; simp only [Value.slice.injEq] at e; omega)
          have HSc : Hid (Sc W2 (.slice (some ⟨wr.heap.size + 1, 0, none⟩) 1 1) 1 1 [u2]) := hide (by
            have := sc_block (w := W2) (g := wr.heap.size + 1) (m := 1) (size := 1) (cs := #[u2]) (by rw [hW2, ← s1]; exact heap_alloc_new _ _) rfl (by rw [HU2.out]; simp [Value.oneCell']) 1
            exact this)
          have HO2 : Hid (W2.ownsRow w.heap.size 70 1 (.slice oad vs.length oc) vs.length vs) := hide (own_keep HO.out (fun k _ hk => hb2.block k hk))
          have HW2 := hide hW2
          have S1 := hide s1
          have S2 := hide s2
          have HB2r := hide hb2
          clear hu2 hW2 s2 hb2 s1
          go_wp2_with (at_builtin; rw [← HU2.out, ← HW1.out, ← HW2.out]; refine wpList_appR rfl _ _ rfl w.heap.size _ vs.length vs rfl HO2.out _ 1 _ rfl HSc.out ?c1 ?c2 ?_)
          case c1 => omega
          case c2 => have := S2.out; omega
          intro v' w4 hown hgrow hap
          have s1 := S1.out
          have s2 := S2.out
          have hb4 : Below w.heap.size W2 w4 := (Below.refl _ _).grown hgrow (by omega) (fun k hk => (HOl.out k hk).1)
          have HB4 : Hid (Below w.heap.size w w4) := hide (hB.trans ((HB2r.out.mono hsz).trans hb4))
          have HRO4 : Hid (ROs w4 v' (vs ++ [u2]) ((R.take (j + 1)).map tlF)) := hide (by
            rw [HTk.out]
            exact (HRO.out.below HB1r.out).app HUs.out HUc.out (by omega) (fun k hk => by rw [HW2.out]; exact heap_alloc_old _ _ hk) hgrow hap)
          have HO4 : Hid (w4.ownsRow w.heap.size 70 1 v' (vs ++ [u2]).length (vs ++ [u2])) := hide (by simpa using hown)
          have hl4 : (vs ++ [u2]).length ≤ j + 1 := by simp; omega
          clear hown hgrow hap hb4 HSc HO2 HW1 HW2 S1 S2 s1 s2 HUs HUc HRO HO
          go_wp2_with fail
          go_roundw
          case rel => exact ⟨j + 1, vs ++ [u2], by omega, by go_num, HRO4.out, HO4.out, hl4, HB4.out⟩
          case measure => simp [intOf]; omega
    · obtain rfl : j = RN := by omega
      have HRV : Hid (RV wr (.slice oad vs.length oc) (R.map tlF)) := hide (by
        have h1 := HRO.out.rv HO.out
        rw [HRN.out, List.take_length] at h1
        exact h1)
      clear HRO HO
      go_wp2_with fail
      go_ret
      exact ⟨_, rfl, HRV.out, hB⟩
end Go.Proofs.Ytfepljcblajfpab.W
