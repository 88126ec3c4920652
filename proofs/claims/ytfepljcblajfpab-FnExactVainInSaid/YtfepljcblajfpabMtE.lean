/-
  What rows miss, by the specification: l8Missed at no rows, at no patterns, and behind a pattern that any value fits. Conditions: good rows. Written by wip/build/mk_mte.py.
-/
import Derived.Test.YtfepljcblajfpabMtD
import Derived.Test.YtfepljcblajfpabMsO
namespace Go.Proofs.Ytfepljcblajfpab.W
open Go.ChangeShapes Go.WideShapes Go.ChangeAt Go.RowKit
set_option linter.unusedVariables false
set_option linter.unusedSimpArgs false

/-- What l8Missed tells. -/
def MOut (D : List Int) (R : List F) (many : Nat) (w' : World) (e : Ending) : Prop := ∃ s b, e = .returned (.tuple #[s, .bool (wn D (anys many) R).isSome]) ∧ GT w' (fun _ => True) b s ∧ Cap s ∧ b.len ≤ many ∧ ∀ l, wn D (anys many) R = some l → b.ok D ∧ b.len = many ∧ b.flat = l
theorem anys_flat_len : ∀ n : Nat, (anys n).flat.length = n
  | 0 => rfl
  | n + 1 => by simp [anys, F.flat, anys_flat_len n]
theorem Cap.nil : Cap (.slice none 0 0) := fun ad m c e => by simp at e; omega

set_option maxRecDepth 20000 in
set_option maxHeartbeats 4000000 in
theorem missed_noR (D : List Int) (hd : goodD D = true) (da : Option Addr) (dc : Nat) (R : List F) (many : Nat) (vR : Value) (w : World) (hD : DRow w (.agg #[.slice da D.length dc]) D) (hV : RV w vR R) (hwr : WR D (anys many) R) (hR : R = []) :
    Calls Try.prog 26 #[.agg #[.slice da D.length dc], vR, .int .i64 (many : Int)] w fun e w' => MOut D R many w' e ∧ Below w.heap.size w w' := by
  subst hR
  have hm : many ≤ 1000 := by have := hwr.big; rw [anys_flat_len] at this; omega
  have hw : wn D (anys many) [] = some (anys many).flat := wn_nil D _
  have HC := hide (fun (w' : World) => l8Anys_any many w' (by omega))
  have HB0 := hide (show Below w.heap.size w (w.alloc (.cells #[.slice da D.length dc] 31)) from (Below.refl _ _).alloc (Nat.le_refl _) _)
  have HO : Hid (∀ w' v, w'.ownsRow (w.heap.size + 1) 56 2 v many (anyC many) → MOut D [] many w' (.returned (.tuple #[v, .bool true]))) := hide (fun w' v h => ⟨v, anys many, by rw [hw]; rfl, own_gt h (anys_len many).symm (anyC_at many) (fun _ _ _ => trivial), own_cap h, by rw [anys_len]; exact Nat.le_refl _, fun l hl => by rw [hw] at hl; simp at hl; exact ⟨anys_ok D many, anys_len many, hl⟩⟩)
  obtain ⟨ra, rc, rfl, -⟩ := hV.form
  simp only [List.length_nil]
  clear hV hwr hw hD
  go_enter Try.func26, Try.ntmps26
  go_wp2_with fail
  refine Calls.mono (HC.out _) ?_
  rintro e w1 ⟨v, rfl, ho, hb⟩
  have hB1 : Below w.heap.size w w1 := HB0.out.trans (hb.mono HB0.out.size)
  have HM := hide (HO.out w1 v (by simpa using ho))
  obtain ⟨va, vc, rfl⟩ := own_form ho
  clear ho hb HO HC
  go_wp2_with fail
  exact bodyPost_ret (v := .tuple #[.slice va many vc, .bool true]) (by simp [results, Try.results26, go_sem]) rfl ⟨HM.out, hB1⟩

set_option maxRecDepth 20000 in
set_option maxHeartbeats 4000000 in
theorem missed_noA (D : List Int) (hd : goodD D = true) (da : Option Addr) (dc : Nat) (R : List F) (many : Nat) (vR : Value) (w : World) (hD : DRow w (.agg #[.slice da D.length dc]) D) (hV : RV w vR R) (hwr : WR D (anys many) R) (hR : R ≠ []) (hm : many = 0) :
    Calls Try.prog 26 #[.agg #[.slice da D.length dc], vR, .int .i64 (many : Int)] w fun e w' => MOut D R many w' e ∧ Below w.heap.size w w' := by
  subst hm
  have hw : wn D (anys 0) R = none := wn_none D hR
  have HB0 := hide (show Below w.heap.size w (w.alloc (.cells #[.slice da D.length dc] 31)) from (Below.refl _ _).alloc (Nat.le_refl _) _)
  have HM : Hid (∀ w', MOut D R 0 w' (.returned (.tuple #[.slice none 0 0, .bool false]))) := hide (fun w' => ⟨_, .nil, by rw [hw]; rfl, GT.nil, Cap.nil, Nat.le_refl _, fun l hl => by rw [hw] at hl; cases hl⟩)
  obtain ⟨ra, rc, rfl, -⟩ := hV.form
  have hRl : 0 < R.length := List.length_pos_iff.2 hR
  obtain ⟨N, hN⟩ : ∃ N, N = R.length := ⟨_, rfl⟩
  rw [← hN] at hRl ⊢
  have hn0 : ¬ (N : Int) = 0 := by omega
  have hnb : ((N : Int) == 0) = false := by simp; omega
  clear hV hwr hw hD hN
  go_enter Try.func26, Try.ntmps26
  go_wp2_with fail
  exact bodyPost_ret (v := .tuple #[.slice none 0 0, .bool false]) (by simp [results, Try.results26, go_sem]) rfl ⟨HM.out _, HB0.out⟩

theorem take_any {R : List F} {j : Nat} (h : j < R.length) : (R.take (j + 1)).any nam1 = ((R.take j).any nam1 || nam1 R[j]) := by
  rw [List.take_succ_eq_append_getElem h, List.any_append]
  simp
theorem tcon_nam {D : List Int} {x : Pt} {k r : F} (h : goodC D x = true) : nam1 (.cons x k r) = decide (0 ≤ tcon x) := by
  rcases good_kd h with ⟨h1, h2⟩ | ⟨h1, h2, h3⟩
  · simp [nam1, tcon, h1]
  · simp [nam1, tcon, h1, h2]

theorem take_tl {R : List F} {j : Nat} (h : j < R.length) : (R.take (j + 1)).map tlF = (R.take j).map tlF ++ [tlF R[j]] := by
  rw [List.take_succ_eq_append_getElem h, List.map_append]
  simp

set_option maxRecDepth 20000 in
set_option maxHeartbeats 8000000 in
theorem missed_tl (f : Nat) (D : List Int) (hd : goodD D = true) (da : Option Addr) (dc : Nat) (R : List F) (many : Nat) (vR : Value) (w : World) (hD : DRow w (.agg #[.slice da D.length dc]) D) (hV : RV w vR R) (hwr : WR D (anys many) R) (ih : (∀ (R : List F) (many : Nat) (vR : Value) (w : World), mea (anys many) R < f → WR D (anys many) R → DRow w (.agg #[.slice da D.length dc]) D → RV w vR R → Calls Try.prog 26 #[.agg #[.slice da D.length dc], vR, .int .i64 (many : Int)] w fun e w' => MOut D R many w' e ∧ Below w.heap.size w w')) (hf : mea (anys many) R < f + 1) (hR : R ≠ []) (hm0 : 0 < many) (hn : R.any nam1 = false) :
    Calls Try.prog 26 #[.agg #[.slice da D.length dc], vR, .int .i64 (many : Int)] w fun e w' => MOut D R many w' e ∧ Below w.heap.size w w' := by
  obtain ⟨m, rfl⟩ : ∃ m, many = m + 1 := ⟨many - 1, by omega⟩
  obtain ⟨wr1, me1⟩ := hwr.tl (by rw [anys_len]; omega) (by simp [anys, nam1]) hn
  have hwn := wn_tl hd (x := ⟨1, 0⟩) (k := .nil) (r := anys m) hwr hR rfl hn
  have HRec : Hid (∀ w' v', Below w.heap.size w w' → RV w' v' (R.map tlF) → Calls Try.prog 26 #[.agg #[.slice da D.length dc], v', .int .i64 (m : Int)] w' fun e w'' => MOut D (R.map tlF) m w'' e ∧ Below w'.heap.size w' w'') := hide (fun w' v' hb hq => ih _ m v' w' (show mea (anys m) (R.map tlF) < f by have h1 : mea (anys m) (R.map tlF) < mea (anys (m + 1)) R := me1; omega) wr1 (hD.below hb) hq)
  unfold MOut at HRec
  obtain ⟨T, hT⟩ : ∃ T, T = wn D (anys m) (R.map tlF) := ⟨_, rfl⟩
  have hwn2 : wn D (anys (m + 1)) R = T.map ((⟨1, 0⟩ : Pt) :: ·) := by rw [hT]; exact hwn
  rw [← hT] at HRec
  have HWn := hide hwn2
  have HAl := hide (fun (w' : World) => l8Anys_any 1 w' (by omega))
  have Hnn : Hid (∀ b ∈ R, nam1 b = false) := hide (fun b hb => by
    have := List.any_eq_false.1 hn b hb
    simpa using this)
  clear hwn hwn2 hT wr1 me1
  have HD := hide hD
  have HV := hide hV
  have Hd := hide hd
  have Hwr := hide hwr
  have HIh := hide ih
  have hRl : 0 < R.length := List.length_pos_iff.2 hR
  have h8 := hwr.few
  have hm : m + 1 ≤ 1000 := by have := hwr.big; rw [anys_flat_len] at this; omega
  obtain ⟨ra, rc, rfl, -⟩ := hV.form
  obtain ⟨RN, hRN⟩ : ∃ RN, RN = R.length := ⟨_, rfl⟩
  rw [← hRN] at hRl h8 HV ⊢
  have HRN := hide hRN
  have hn0 : ¬ (RN : Int) = 0 := by omega
  have hnb : ((RN : Int) == 0) = false := beq_false_of_ne (by omega)
  have hmz : ¬ (m : Int) + 1 = 0 := by omega
  have hmb : ((m : Int) + 1 == 0) = false := beq_false_of_ne (by omega)
  have hmp : (0 : Int) < (m : Int) + 1 := by omega
  have HB0 := hide (show Below w.heap.size w (w.alloc (.cells #[.slice da D.length dc] 31)) from (Below.refl _ _).alloc (Nat.le_refl _) _)
  have HX0 := hide (Bx.new w #[.slice da D.length dc] 31)
  have HLen : Hid (∀ b ∈ R, b.ok D ∧ b.len = m + 1) := hide (fun b hb => by have := hwr.oks b hb; rw [anys_len] at this; exact this)
  obtain ⟨NM, hNM⟩ : ∃ NM, NM = R.any nam1 := ⟨_, rfl⟩
  have HNM := hide hNM
  rw [hn] at hNM
  clear hD hV hd hwr ih hR hRN hNM
  rw [show ((m + 1 : Nat) : Int) = (m : Int) + 1 from by omega]
  go_enter Try.func26, Try.ntmps26
  go_wp2_with fail
  go_loopw [8, 29] (fun s i w' => ∃ j : Nat, j ≤ RN ∧ i = .int .i64 j ∧ s = .bool ((R.take j).any nam1) ∧ Bx w' w.heap.size #[.slice da D.length dc] 31 ∧ Below w.heap.size w w') (fun _ i _ => RN - (intOf i).toNat)
  case atStart => exact ⟨0, Nat.zero_le _, rfl, by simp, HX0.out, HB0.out⟩
  case round =>
    clear HX0 HB0
    obtain ⟨j, hj, rfl, rfl, hX, hB⟩ := hrel
    have HX := hide hX
    have xl := hX.lt
    have hsz := hB.size
    clear hX
    by_cases hlt : j < RN
    · have hltR : j < R.length := by have := HRN.out; omega
      have hlt' : (j : Int) < (RN : Int) := by omega
      obtain ⟨b, o, rc', u, e1, hb, p0, gu, cu⟩ := RV.at HV.out hB hltR
      simp only [Value.slice.injEq] at e1
      obtain ⟨rfl, -, rfl⟩ := e1
      obtain ⟨ok, hl⟩ := HLen.out R[j] (List.getElem_mem hltR)
      have htk := take_any hltR
      obtain ⟨a, ha⟩ : ∃ a, a = R[j] := ⟨_, rfl⟩
      rw [← ha] at gu ok hl htk
      clear ha
      cases a with
      | nil => simp [F.len] at hl
      | cons x k r =>
        obtain ⟨g, o2, cc, sx, rfl, hcc, hgw, hgl, gk, q0, q1, tl⟩ := gu.head cu
        rw [tcon_nam ok.1] at htk
        obtain ⟨Y, hY⟩ : ∃ Y, Y = tcon x := ⟨_, rfl⟩
        rw [← hY] at q0 htk
        obtain ⟨RL, hRL⟩ : ∃ RL, RL = r.len := ⟨_, rfl⟩
        rw [← hRL] at p0
        have HTk := hide htk
        obtain ⟨W1, hW1⟩ : ∃ W1, W1 = wr.alloc (.cells #[.slice (some ⟨g, o2, none⟩) (RL + 1) cc] 70) := ⟨_, rfl⟩
        have hb1 : Below wr.heap.size wr W1 := by rw [hW1]; exact (Below.refl _ _).alloc (Nat.le_refl _) _
        have HX1 := hide (HX.out.below hb1 xl)
        have HB1 : Hid (Below w.heap.size w W1) := hide (hB.trans (hb1.mono hsz))
        have HW1 := hide hW1
        clear tl gk htk ok hRL gu cu hl hY hW1 hb1 q1 HX
        cases hnm : (R.take j).any nam1 with
        | true =>
          rw [hnm] at HTk
          have HT2 : Hid ((R.take (j + 1)).any nam1 = true) := hide (by rw [HTk.out]; rfl)
          clear hnm HTk
          go_wp2_with fail
          rw [← HW1.out]
          exact ⟨⟨j + 1, by omega, by go_num, by rw [HT2.out], HX1.out, HB1.out⟩, by simp [intOf]; omega⟩
        | false =>
          rw [hnm] at HTk
          clear hnm
          by_cases hY0 : 0 ≤ Y
          · have HT2 : Hid ((R.take (j + 1)).any nam1 = true) := hide (by rw [HTk.out]; simp [hY0])
            clear HTk
            go_wp2_with fail
            rw [← HW1.out]
            exact ⟨⟨j + 1, by omega, by go_num, by rw [HT2.out], HX1.out, HB1.out⟩, by simp [intOf]; omega⟩
          · have HT2 : Hid ((R.take (j + 1)).any nam1 = false) := hide (by rw [HTk.out]; simp [hY0])
            clear HTk
            go_wp2_with fail
            rw [← HW1.out]
            exact ⟨⟨j + 1, by omega, by go_num, by rw [HT2.out], HX1.out, HB1.out⟩, by simp [intOf]; omega⟩
    · obtain rfl : j = RN := by omega
      have hnt : (R.take j).any nam1 = NM := by rw [HRN.out, List.take_length, HNM.out]
      rw [hnt]
      have hNf : NM = false := by rw [HNM.out, hn]
      rw [hNf]
      have HE := hide (World.ownsRow_nil wr (w.heap.size + 1) 70 1)
      have HXa := HX
      have HBa := hide hB
      obtain ⟨RN, hRNj⟩ : ∃ RN, RN = j := ⟨_, rfl⟩
      rw [← hRNj] at hRl h8 HV hn0 hnb HRN ⊢
      clear hnt hNf hB HX xl hsz hlt hj hRNj HNM
      go_wp2_with fail
      go_loopw [11, 47] (fun s i w' => ∃ (j : Nat) (vs : List Value), j ≤ RN ∧ i = .int .i64 j ∧ ROs w' s vs ((R.take j).map tlF) ∧ w'.ownsRow (w.heap.size + 1) 70 1 s vs.length vs ∧ vs.length ≤ j ∧ Bx w' w.heap.size #[.slice da D.length dc] 31 ∧ Below w.heap.size w w') (fun _ i _ => RN - (intOf i).toNat)
      case atStart => exact ⟨0, [], Nat.zero_le _, rfl, ROs.nil, HE.out, Nat.zero_le _, HXa.out, HBa.out⟩
      case round =>
        clear HE HXa HBa
        obtain ⟨j, vs, hj, rfl, hRO, hO, hvj, hX, hB⟩ := hrel
        obtain ⟨oad, oc, hof⟩ := own_form hO
        subst hof
        have HRO := hide hRO
        have HO := hide hO
        have HOl := hide (fun k hk => hO.lt k hk)
        have HX := hide hX
        have xl := hX.lt
        have hsz := hB.size
        clear hRO hO hX
        by_cases hlt : j < RN
        · have hltR : j < R.length := by have := HRN.out; omega
          have hlt' : (j : Int) < (RN : Int) := by omega
          obtain ⟨b, o, rc', u, e1, hb, p0, gu, cu⟩ := RV.at HV.out hB hltR
          simp only [Value.slice.injEq] at e1
          obtain ⟨rfl, -, rfl⟩ := e1
          obtain ⟨ok, hl⟩ := HLen.out R[j] (List.getElem_mem hltR)
          have hnj := Hnn.out R[j] (List.getElem_mem hltR)
          have htk := take_tl hltR
          obtain ⟨a, ha⟩ : ∃ a, a = R[j] := ⟨_, rfl⟩
          rw [← ha] at gu ok hl htk hnj
          clear ha
          cases a with
          | nil => simp [F.len] at hl
          | cons x k r =>
            obtain ⟨g, o2, cc, sx, rfl, hcc, hgw, hgl, gk, q0, q1, tl⟩ := gu.head cu
            have HTl := hide tl
            have HTk := hide htk
            have HKn : Hid (k = .nil) := hide (by
              rcases good_kd ok.1 with ⟨h1, h2⟩ | ⟨h1, h2, h3⟩
              · exact F.len_0 (by rw [ok.2.1, ar, if_pos h1])
              · simp [nam1, h1] at hnj)
            obtain ⟨RL, hRL⟩ : ∃ RL, RL = r.len := ⟨_, rfl⟩
            rw [← hRL] at p0 hcc
            have HRL := hide hRL
            obtain ⟨W1, hW1⟩ : ∃ W1, W1 = wr.alloc (.cells #[.slice (some ⟨g, o2, none⟩) (RL + 1) cc] 70) := ⟨_, rfl⟩
            have s1 : W1.heap.size = wr.heap.size + 1 := by rw [hW1]; simp
            have HB1r : Hid (Below wr.heap.size wr W1) := hide (by rw [hW1]; exact (Below.refl _ _).alloc (Nat.le_refl _) _)
            have HW1 := hide hW1
            have k1 : (1 : Int) ≤ (RL : Int) + 1 := by omega
            have k2 : (RL : Int) + 1 ≤ (cc : Int) := by omega
            have k3 : (1 : Int) ≤ (cc : Int) := by omega
            clear tl gk htk ok hRL gu cu hl hW1 q0 q1 hnj
            by_cases hc1 : cc = 1
            · subst hc1
              obtain rfl : RL = 0 := by omega
              obtain ⟨u2, hu2⟩ : ∃ u2, u2 = Value.slice (some ⟨g, o2, none⟩) 0 0 := ⟨_, rfl⟩
              have HU2 := hide hu2
              obtain ⟨W2, hW2⟩ : ∃ W2, W2 = W1.alloc (.cells #[u2] 70) := ⟨_, rfl⟩
              have s2 : W2.heap.size = wr.heap.size + 1 + 1 := by rw [hW2]; simp [s1]
              have hb2 : Below wr.heap.size wr W2 := by rw [hW2]; exact HB1r.out.alloc (by omega) _
              have HUs : Hid (GT W1 (fun k => (Value.slice oad vs.length oc).ownBlock ≠ some k) (tlF (.cons x k r)) u2) := hide (by
                have h1 := HTl.out (o2) (.inl rfl)
                rw [← HRL.out] at h1
                have h2 : tlF (.cons x k r) = r := by rw [tlF, HKn.out]; rfl
                rw [h2, HU2.out]
                exact h1.keep (by omega) (fun k1 hk1 _ => ⟨HB1r.out.block k1 (by omega), fun e => by have := (HOl.out k1 e).1; omega⟩))
              have HUc : Hid (Cap u2) := hide (by rw [HU2.out]; intro ad m c e; simp only [Value.slice.injEq] at e; omega)
              have HSc : Hid (Sc W2 (.slice (some ⟨wr.heap.size + 1, 0, none⟩) 1 1) 1 1 [u2]) := hide (by
                have := sc_block (w := W2) (g := wr.heap.size + 1) (m := 1) (size := 1) (cs := #[u2]) (by rw [hW2, ← s1]; exact heap_alloc_new _ _) rfl (by rw [HU2.out]; simp [Value.oneCell']) 1
                exact this)
              have HO2 : Hid (W2.ownsRow (w.heap.size + 1) 70 1 (.slice oad vs.length oc) vs.length vs) := hide (own_keep HO.out (fun k _ hk => hb2.block k hk))
              have HW2 := hide hW2
              have S1 := hide s1
              have S2 := hide s2
              have HB2r := hide hb2
              clear hu2 hW2 s2 hb2 s1
              go_wp2_with (at_builtin; rw [← HU2.out, ← HW1.out, ← HW2.out]; refine wpList_appR rfl _ _ rfl (w.heap.size + 1) _ vs.length vs rfl HO2.out _ 1 _ rfl HSc.out ?c1 ?c2 ?_)
              case c1 => omega
              case c2 => have := S2.out; omega
              intro v' w4 hown hgrow hap
              have s1 := S1.out
              have s2 := S2.out
              have hb4 : Below (w.heap.size + 1) W2 w4 := (Below.refl _ _).grown hgrow (by omega) (fun k hk => (HOl.out k hk).1)
              have HB4 : Hid (Below w.heap.size w w4) := hide (hB.trans ((HB2r.out.mono hsz).trans (hb4.mono (by omega))))
              have HX4 := hide ((HX.out.below HB2r.out xl).below hb4 (by omega))
              have HRO4 : Hid (ROs w4 v' (vs ++ [u2]) ((R.take (j + 1)).map tlF)) := hide (by
                rw [HTk.out]
                exact (HRO.out.below HB1r.out).app HUs.out HUc.out (by omega) (fun k hk => by rw [HW2.out]; exact heap_alloc_old _ _ hk) hgrow hap)
              have HO4 : Hid (w4.ownsRow (w.heap.size + 1) 70 1 v' (vs ++ [u2]).length (vs ++ [u2])) := hide (by simpa using hown)
              have hl4 : (vs ++ [u2]).length ≤ j + 1 := by simp; omega
              clear hown hgrow hap hb4 HSc HO2 HW1 HW2 S1 S2 s1 s2 HUs HUc HRO HO HX
              go_wp2_with fail
              go_roundw
              case rel => exact ⟨j + 1, vs ++ [u2], by omega, by go_num, HRO4.out, HO4.out, hl4, HX4.out, HB4.out⟩
              case measure => simp [intOf]; omega
            · skip
              obtain ⟨u2, hu2⟩ : ∃ u2, u2 = Value.slice (some ⟨g, o2 + 2, none⟩) RL (cc - 1) := ⟨_, rfl⟩
              have HU2 := hide hu2
              obtain ⟨W2, hW2⟩ : ∃ W2, W2 = W1.alloc (.cells #[u2] 70) := ⟨_, rfl⟩
              have s2 : W2.heap.size = wr.heap.size + 1 + 1 := by rw [hW2]; simp [s1]
              have hb2 : Below wr.heap.size wr W2 := by rw [hW2]; exact HB1r.out.alloc (by omega) _
              have HUs : Hid (GT W1 (fun k => (Value.slice oad vs.length oc).ownBlock ≠ some k) (tlF (.cons x k r)) u2) := hide (by
                have h1 := HTl.out (o2 + 2) (.inr rfl)
                rw [← HRL.out] at h1
                have h2 : tlF (.cons x k r) = r := by rw [tlF, HKn.out]; rfl
                rw [h2, HU2.out]
                exact h1.keep (by omega) (fun k1 hk1 _ => ⟨HB1r.out.block k1 (by omega), fun e => by have := (HOl.out k1 e).1; omega⟩))
              have HUc : Hid (Cap u2) := hide (by rw [HU2.out]; intro ad m c e; simp only [Value.slice.injEq] at e; omega)
              have HSc : Hid (Sc W2 (.slice (some ⟨wr.heap.size + 1, 0, none⟩) 1 1) 1 1 [u2]) := hide (by
                have := sc_block (w := W2) (g := wr.heap.size + 1) (m := 1) (size := 1) (cs := #[u2]) (by rw [hW2, ← s1]; exact heap_alloc_new _ _) rfl (by rw [HU2.out]; simp [Value.oneCell']) 1
                exact this)
              have HO2 : Hid (W2.ownsRow (w.heap.size + 1) 70 1 (.slice oad vs.length oc) vs.length vs) := hide (own_keep HO.out (fun k _ hk => hb2.block k hk))
              have HW2 := hide hW2
              have S1 := hide s1
              have S2 := hide s2
              have HB2r := hide hb2
              clear hu2 hW2 s2 hb2 s1
              go_wp2_with (at_builtin; rw [← HU2.out, ← HW1.out, ← HW2.out]; refine wpList_appR rfl _ _ rfl (w.heap.size + 1) _ vs.length vs rfl HO2.out _ 1 _ rfl HSc.out ?c1 ?c2 ?_)
              case c1 => omega
              case c2 => have := S2.out; omega
              intro v' w4 hown hgrow hap
              have s1 := S1.out
              have s2 := S2.out
              have hb4 : Below (w.heap.size + 1) W2 w4 := (Below.refl _ _).grown hgrow (by omega) (fun k hk => (HOl.out k hk).1)
              have HB4 : Hid (Below w.heap.size w w4) := hide (hB.trans ((HB2r.out.mono hsz).trans (hb4.mono (by omega))))
              have HX4 := hide ((HX.out.below HB2r.out xl).below hb4 (by omega))
              have HRO4 : Hid (ROs w4 v' (vs ++ [u2]) ((R.take (j + 1)).map tlF)) := hide (by
                rw [HTk.out]
                exact (HRO.out.below HB1r.out).app HUs.out HUc.out (by omega) (fun k hk => by rw [HW2.out]; exact heap_alloc_old _ _ hk) hgrow hap)
              have HO4 : Hid (w4.ownsRow (w.heap.size + 1) 70 1 v' (vs ++ [u2]).length (vs ++ [u2])) := hide (by simpa using hown)
              have hl4 : (vs ++ [u2]).length ≤ j + 1 := by simp; omega
              clear hown hgrow hap hb4 HSc HO2 HW1 HW2 S1 S2 s1 s2 HUs HUc HRO HO HX
              go_wp2_with fail
              go_roundw
              case rel => exact ⟨j + 1, vs ++ [u2], by omega, by go_num, HRO4.out, HO4.out, hl4, HX4.out, HB4.out⟩
              case measure => simp [intOf]; omega
        · obtain rfl : j = RN := by omega
          have HRV : Hid (RV wr (.slice oad vs.length oc) (R.map tlF)) := hide (by
            have h1 := HRO.out.rv HO.out
            rw [HRN.out, List.take_length] at h1
            exact h1)
          have cx := HX.out.c
          have HC := hide (HRec.out wr _ hB HRV.out)
          clear HRO HO HRV
          go_wp2_with fail
          refine Calls.mono HC.out ?_
          rintro e w5 ⟨⟨s5, b5, rfl, hg5, hc5, hl5, hs5⟩, hb5⟩
          have hB5 : Below w.heap.size w w5 := hB.trans (hb5.mono hB.size)
          obtain ⟨a5, c5, hf5⟩ := hg5.form
          have HG5 := hide hg5
          have HS5 := hide hs5
          subst hf5
          obtain ⟨BL, hBL⟩ : ∃ BL, BL = b5.len := ⟨_, rfl⟩
          rw [← hBL] at HG5 hl5 hc5 ⊢
          have HBL := hide hBL
          clear HC hb5 hg5 hs5 hc5 hBL cx
          go_wp2_with fail
          refine Calls.mono (HAl.out _) ?_
          rintro e w6 ⟨v6, rfl, ho6, hb6⟩
          obtain ⟨a6, c6, rfl⟩ := own_form ho6
          have hs56 := hb6.size
          have hB6 : Below w.heap.size w w6 := hB5.trans (hb6.mono hB5.size)
          obtain ⟨ck, hck⟩ := GT.sc' HG5.out
          rw [← HBL.out] at hck
          have HSc := hide (hck w6 hb6).2
          have HCk : Hid (∀ w', Below w5.heap.size w5 w' → GAt w' (fun _ => True) b5 ck) := hide (fun w' hb => (hck w' hb).1)
          have HO6 := hide ho6
          have HOl6 := hide (fun k hk => ho6.lt k hk)
          have HB6 := hide hb6
          clear ho6 hb6 hck
          go_wp2_with (at_builtin; go_loud (refine wpList_appT rfl _ _ rfl w5.heap.size _ 1 (anyC 1) rfl HO6.out _ BL _ rfl HSc.out ?c1 ?c2 ?_))
          case c1 => omega
          case c2 => omega
          intro v7 w7 hown7 hgrow7 hap7
          have hb7 : Below w5.heap.size w5 w7 := HB6.out.grown hgrow7 HB6.out.size (fun k hk => (HOl6.out k hk).1)
          have hB7 : Below w.heap.size w w7 := hB5.trans (hb7.mono hB5.size)
          have hG7 : GT w7 (fun _ => True) ((anys 1).app b5) v7 := own_gt hown7 (by rw [F.app_len, anys_len, HBL.out]) (GAt.app (anyC_at 1) (HCk.out w7 hb7)) (fun _ _ _ => trivial)
          have hC7 := own_cap hown7
          have HM : Hid (MOut D R (m + 1) w7 (.returned (.tuple #[v7, .bool T.isSome]))) := hide (by
            refine ⟨v7, _, by rw [HWn.out]; simp, hG7, hC7, by rw [F.app_len, anys_len, ← HBL.out]; omega, fun l hl => ?_⟩
            rw [HWn.out] at hl
            obtain ⟨l0, h0, rfl⟩ := Option.map_eq_some_iff.1 hl
            obtain ⟨g1, g2, g3⟩ := HS5.out l0 h0
            refine ⟨(F.app_ok D _ _).2 ⟨anys_ok D 1, g1⟩, by rw [F.app_len, anys_len, g2]; omega, ?_⟩
            rw [F.app_flat, g3]
            rfl)
          obtain ⟨a7, c7, rfl⟩ := own_form hown7
          clear hown7 hgrow7 hap7 hG7 hC7 hb7 HO6 HSc
          go_wp2_with fail
          exact bodyPost_ret (v := .tuple #[.slice a7 (1 + BL) c7, .bool T.isSome]) (by simp [results, Try.results26, go_sem]) rfl ⟨HM.out, hB7⟩

end Go.Proofs.Ytfepljcblajfpab.W
