/-
  Frontiers: listsOf of the program, l11Frontier of the specification, both FrontierOf. Conditions: none but those that each theorem states. Written by wip/build/mk_jng.py.
-/
import Derived.Test.YtochhnibegcbpaaJnF
import Derived.Test.YtochhnibegcbpaaJnQ
namespace Go.Proofs.Ytochhnibegcbpaa.W
open Go.ChangeShapes Go.WideShapes Go.ChangeAt Go.RowKit Go.Joins
set_option linter.unusedVariables false
set_option linter.unusedSimpArgs false

theorem NV.oth {w w' : World} {v : Value} {l : List Int} (h : NV w v l) {S : Nat} {Ls : List (List Int)} (hS : QS w S Ls) (ho : Oth S w w') : NV w' v l := by
  rcases h with h | ⟨g, o, c, h1, h2, h3, h4⟩
  · exact .inl h
  · refine .inr ⟨g, o, c, h1, h2, Nat.lt_of_lt_of_le h3 ho.size, fun k hk => ?_⟩
    have hne : g ≠ S := by
      rintro rfl
      obtain ⟨cur, c1, c2, c3⟩ := hS
      have := h4 k hk
      rw [cell_of_blk c1] at this
      have hlt := (Array.getElem?_eq_some_iff.1 this).1
      obtain ⟨x, x1, x2⟩ := c3 (o + k) (by omega)
      rw [this] at x1
      obtain ⟨a, b, e, -⟩ := x2.form
      simp only [Option.some.injEq] at x1
      rw [e] at x1
      cases x1
    exact (World.cell?_of_block (a := ⟨g, o + k, none⟩) (ho.block g h3 hne)).trans (h4 k hk)
theorem QS.oth {w w' : World} {S3 S : Nat} {L3 Ls : List (List Int)} (h : QS w S3 L3) (hS : QS w S Ls) (hne : S3 ≠ S) (ho : Oth S w w') : QS w' S3 L3 := by
  have hlt := h.lt
  obtain ⟨cur, h1, h2, h3⟩ := h
  refine ⟨cur, (ho.block S3 hlt hne).trans h1, h2, fun q hq => ?_⟩
  obtain ⟨x, x1, x2⟩ := h3 q hq
  exact ⟨x, x1, x2.oth hS ho⟩

set_option maxHeartbeats 4000000 in
theorem listsOf_any (F : Nat → Nat → Bool) (n : Nat) (hn : n ≤ 12) (w : World) :
    Calls Try.prog 37 #[.agg (dA F), .int .i64 (n : Int)] w fun e w' => ∃ v', e = .returned v' ∧ OO w' w.heap.size v' ((List.range n).map fun b => lst (F b) 12) ∧ Below w.heap.size w w' := by
  have hB0 : Below w.heap.size w (w.alloc (.cells (dA F) 53)) := (Below.refl _ _).alloc (Nat.le_refl _) _
  have HX0 := hide (Bx.new w (dA F) 53)
  go_enter Try.func37, Try.ntmps37
  go_upto_region 1 with fail
  obtain ⟨w3, hw3⟩ : ∃ w3, w3 = w.alloc (.cells (dA F) 53) := ⟨_, rfl⟩
  obtain ⟨B4, hB4⟩ : ∃ B4, B4 = w.heap.size := ⟨_, rfl⟩
  rw [← hw3] at HX0 hB0 ⊢
  rw [← hB4] at HX0 ⊢
  have h4 : w.heap.size ≤ B4 := by omega
  clear hw3 hB4
  have hmk := mk_ISS n (by omega)
  go_wp2_with fail
  clear hmk
  have HO0 := hide (OOv.new w3 w.heap.size n (by omega) hB0.size)
  have hB5 : Below w.heap.size w (w3.alloc (.cells (madeCells #[.slice none 0 0] n) 35)) := hB0.alloc hB0.size _
  have HY5 : Hid (Bx (w3.alloc (.cells (madeCells #[.slice none 0 0] n) 35)) B4 (dA F) 53) := hide (HX0.out.alloc _)
  obtain ⟨S, hS⟩ : ∃ S, S = w3.heap.size := ⟨_, rfl⟩
  rw [← hS] at HO0 ⊢
  have hS4 : B4 < S := by rw [hS]; exact HX0.out.lt
  clear hS HX0 hB0
  go_loopw [11] (fun i w' => ∃ (j : Nat) (Ls : List (List Int)) (vs : List Value), j ≤ n ∧ i = .int .i64 j ∧ Ls.length = n ∧ OOv w' w.heap.size (.slice (some ⟨S, 0, none⟩) n n) Ls vs ∧ (∀ q (h : q < Ls.length), q < j → Ls[q] = lst (F q) 12) ∧ Bx w' B4 (dA F) 53 ∧ Below w.heap.size w w') (fun i _ => n - (intOf i).toNat)
  case atStart => exact ⟨0, _, _, by omega, rfl, by simp, HO0.out, by intros; omega, HY5.out, hB5⟩
  case round =>
    clear HO0 hB5 HY5
    obtain ⟨j, Ls, vs, hj, rfl, hLl, hO, hD, hX, hB⟩ := hrel
    have HO := hide hO
    have HD := hide hD
    have HX := hide hX
    have HB := hide hB
    have HLl := hide hLl
    clear hO hD hX hB
    by_cases hlt : j < n
    · have hlt' : (j : Int) < (n : Int) := by omega
      have hj12 : j < 12 := by omega
      have hj12' : (j : Int) < 12 := by omega
      have hj2 : j < Ls.length := by omega
      clear hLl
      go_wp2_with (refine wpList_load_set rfl _ rfl B4 j _ _ HX.out hj12 rfl ?_)
      refine Calls.mono (list_any (F j) _) ?_
      rintro e w5 ⟨v5, rfl, hO5, hb⟩
      have HOn := hide (HO.out.put (l := lst (F j) 12) (x := v5) HLl.out.symm hj2 HB.out.size hb hO5)
      have hB5 := HB.out.trans (hb.mono HB.out.size)
      have HBn := hide (hB5.setCell (p := ⟨S, j, none⟩) (show w.heap.size ≤ S by omega) v5)
      have hX5 := HX.out.below hb HX.out.lt
      have HXn := hide (hX5.setne S j v5 (by omega))
      obtain ⟨gS, capS, eS, hgS, hlS, cS⟩ := tOwn_lies HO.out.own (by omega)
      simp only [Value.slice.injEq, Option.some.injEq, Addr.mk.injEq, and_true] at eS
      obtain ⟨rfl, -, -⟩ := eS
      obtain ⟨y, y1, -⟩ := HO.out.at_ j hj2
      have c5 : w5.cell? ⟨S, j, none⟩ = some y := (hb.cell (p := ⟨S, j, none⟩) hlS).trans (cS j y y1)
      have f5 : ∀ i, w5.frozen? ⟨S, i, none⟩ = false := by
        rcases HO.out.own.2 with ⟨h1, -⟩ | ⟨g, cap, cur, h1, hg, hh, -⟩
        · cases h1
        · simp only [Value.slice.injEq, Option.some.injEq, Addr.mk.injEq, and_true] at h1
          obtain ⟨rfl, -, -⟩ := h1
          exact fun i => unfrozen_of_blk ((hb.block S hlS).trans hh) i
      have HDn : Hid (∀ q (h : q < (Ls.set j (lst (F j) 12)).length), q < j + 1 → (Ls.set j (lst (F j) 12))[q] = lst (F q) 12) := hide (fun q h hq => by
        by_cases e : j = q
        · subst e; rw [List.getElem_set_self]
        · rw [List.getElem_set_ne e]; exact HD.out q (by simpa using h) (by omega))
      have HLn : Hid ((Ls.set j (lst (F j) 12)).length = n) := hide (by rw [List.length_set]; exact HLl.out)
      obtain ⟨y5, z5, e5⟩ := own_form hO5
      obtain ⟨n5, hn5⟩ : ∃ n5, n5 = (lst (F j) 12).length := ⟨_, rfl⟩
      rw [← hn5] at e5
      subst e5
      clear hO5 hb cS y1 hX5 hB5 hn5
      go_wp2_with fail
      exact ⟨⟨j + 1, _, _, by omega, by go_num, HLn.out, HOn.out, HDn.out, HXn.out, HBn.out⟩, by simp [intOf]; omega⟩
    · have HE : Hid (Ls = (List.range n).map fun b => lst (F b) 12) := hide (by
        refine List.ext_getElem (by simp [HLl.out]) (fun k h1 h2 => ?_)
        rw [HD.out k h1 (by have := HLl.out; omega)]
        simp)
      clear hLl
      go_wp2_with fail
      go_ret
      exact ⟨_, rfl, ⟨vs, by rw [← HE.out]; exact HO.out⟩, HB.out⟩

set_option maxHeartbeats 8000000 in
theorem l11Front_any (v : Value) (L : List (List Int)) (w : World) (h : GRow w v L) (hg : GG L) :
    Calls Try.prog 34 #[v] w fun e w' => ∃ S, e = .returned (.slice (some ⟨S, 0, none⟩) L.length L.length) ∧ w.heap.size ≤ S ∧ QS w' S (frs L) ∧ Below w.heap.size w w' := by
  obtain ⟨ad, c, rfl, hR, hs, hlc⟩ := h
  have hB0 : Below w.heap.size w (w.alloc (.cells #[.slice ad L.length c] 28)) := (Below.refl _ _).alloc (Nat.le_refl _) _
  have HX := hide (Bx.new w #[.slice ad L.length c] 28)
  have HV : Hid (∀ w', Below w.heap.size w w' → GRow w' (.agg #[.slice ad L.length c]) L) := hide (fun w' hb => ⟨ad, c, rfl, hR.below hb, hs, hlc⟩)
  have HG := hide hg
  have hl12 := hg.2.1
  clear hR hs hlc hg
  go_enter Try.func34, Try.ntmps34
  go_wp2_with fail
  refine Calls.mono (l10Dom_any _ L _ (HV.out _ hB0) HG.out) ?_
  rintro e W1 ⟨S3, rfl, -, hQ3, hb⟩
  have hB1 := hB0.trans (hb.mono hB0.size)
  have HX1 := hide (HX.out.below hb HX.out.lt)
  have HQ3 := hide hQ3
  clear hb hB0 HX hQ3
  have cx := HX1.out.c
  have lx := HX1.out.lt
  go_wp2_with fail
  refine Calls.mono (l11Preds_any _ L _ (HV.out _ hB1) HG.out) ?_
  rintro e W2 ⟨S4, rfl, -, hQ4, hb⟩
  have hB2 := hB1.trans (hb.mono hB1.size)
  have HX2 := hide (HX1.out.below hb HX1.out.lt)
  replace HQ3 := hide (HQ3.out.below hb)
  have HQ4 := hide hQ4
  clear hb hB1 HX1 hQ4 cx lx
  have cx := HX2.out.c
  have lx := HX2.out.lt
  have hmk := mk_ISS L.length (by omega)
  go_upto_region 4 with fail
  clear cx lx hmk
  have hb5 : Below W2.heap.size W2 (W2.alloc (.cells (madeCells #[.slice none 0 0] L.length) 35)) := (Below.refl _ _).alloc (Nat.le_refl _) _
  have HX5 := hide (HX2.out.below hb5 HX2.out.lt)
  have HQ35 := hide (HQ3.out.below hb5)
  have HQ45 := hide (HQ4.out.below hb5)
  have HQ50 := hide (QS.new W2 L.length)
  have hB5 := hB2.trans (hb5.mono hB2.size)
  have hS35 := HQ3.out.lt
  have hS45 := HQ4.out.lt
  obtain ⟨W5, hW5⟩ : ∃ W5, W5 = W2.alloc (.cells (madeCells #[.slice none 0 0] L.length) 35) := ⟨_, rfl⟩
  obtain ⟨S, hS⟩ : ∃ S, S = W2.heap.size := ⟨_, rfl⟩
  rw [← hW5] at HX5 HQ35 HQ45 HQ50 hB5 ⊢
  rw [← hS] at HQ50 hS35 hS45 ⊢
  have hSw : w.heap.size ≤ S := by rw [hS]; exact hB2.size
  have hSl : S < W5.heap.size := HQ50.out.lt
  clear hW5 hS HQ3 HQ4 HX2 hB2 hb5
  have cx := HX5.out.c
  have lx := HX5.out.lt
  go_wp2_with fail
  refine Calls.mono (l10Reach_any _ L (-1) _ (HV.out _ hB5) HG.out) ?_
  rintro e W6 ⟨v21, rfl, hN, hb⟩
  have hB6 := hB5.trans (hb.mono hB5.size)
  have HQ36 := hide (HQ35.out.below hb)
  have HQ46 := hide (HQ45.out.below hb)
  have HQ56 := hide (HQ50.out.below hb)
  have hSl6 : S < W6.heap.size := HQ56.out.lt
  clear hb HX5 HQ35 HQ45 HQ50 cx lx hB5 HV
  obtain ⟨R, hRR⟩ : ∃ R, R = rl L (-1) 0 := ⟨_, rfl⟩
  rw [← hRR] at hN
  have hR12 : R.length ≤ 12 := by rw [hRR]; exact lst_len _ _
  have HRi : Hid (Ris R) := hide (by rw [hRR]; exact lst_ris _ _)
  have HRm : Hid (∀ q (h : q < R.length), ∃ k : Nat, R[q] = (k : Int) ∧ k < L.length) := hide (fun q h => by
    have hm : R[q] ∈ rl L (-1) 0 := by rw [← hRR]; exact List.getElem_mem h
    obtain ⟨k, e, -, hk⟩ := lst_mem.1 hm
    exact ⟨k, e, (rc_iff.1 hk).lt HG.out HG.out.1⟩)
  have HRc : Hid (∀ k : Nat, Rc L (-1) 0 k → ∃ q, ∃ h : q < R.length, R[q] = (k : Int)) := hide (fun k hk => by
    have hm : (k : Int) ∈ R := by
      rw [hRR]
      have := hk.lt HG.out HG.out.1
      exact lst_mem.2 ⟨k, rfl, by omega, rc_iff.2 hk⟩
    obtain ⟨q, hq, e⟩ := List.getElem_of_mem hm
    exact ⟨q, hq, e⟩)
  clear hRR
  obtain ⟨a21, c21, rfl, -⟩ := hN.form
  have HN := hide hN
  clear hN
  go_wp2_with fail
  go_loopw [23] (fun i w' => ∃ (j : Nat) (Ls : List (List Int)), j ≤ R.length ∧ i = .int .i64 j ∧ QS w' S Ls ∧ Ls.length = L.length ∧ (∀ k (h : k < Ls.length), ((∃ q, ∃ hq : q < R.length, q < j ∧ R[q] = (k : Int)) → Ls[k] = frL L k) ∧ ((¬ ∃ q, ∃ hq : q < R.length, q < j ∧ R[q] = (k : Int)) → Ls[k] = [])) ∧ Oth S W6 w') (fun i _ => R.length - (intOf i).toNat)
  case atStart => exact ⟨0, _, by omega, rfl, HQ56.out, by simp, fun k h => ⟨fun ⟨q, hq, h1, _⟩ => by omega, fun _ => by simp⟩, Oth.refl _ _⟩
  case round =>
    obtain ⟨j, Ls, hj, rfl, hQ, hLl, hD, hB⟩ := hrel
    have HQ := hide hQ
    have HD := hide hD
    have HB := hide hB
    have HLl := hide hLl
    clear hQ hD hB hLl
    by_cases hlt : j < R.length
    · have hlt' : (j : Int) < (R.length : Int) := by omega
      obtain ⟨D, hD, hDl⟩ := HRm.out j hlt
      obtain ⟨b21, o21, rfl, p3⟩ := NV.at (HN.out.oth HQ56.out HB.out) (Below.refl _ _) hlt
      rw [hD] at p3
      have HDd := hide hD
      have hD2 : D < Ls.length := by have := HLl.out; omega
      have HD0 : Hid (Ls[D] = []) := hide ((HD.out D hD2).2 (fun ⟨q, hq, h1, h2⟩ => by
        have := ris_inj HRi.out hq hlt (by rw [h2, HDd.out])
        omega))
      have HQ0 : Hid (QS wr S (Ls.set D [])) := hide (by rw [← HD0.out, List.set_getElem_self]; exact HQ.out)
      clear hD HD0
      go_wp2_with fail
      clear p3
      go_loopw [29] (fun i w' => ∃ (y : Nat) (o : List Int), y ≤ L.length ∧ i = .int .i64 y ∧ QS w' S (Ls.set D o) ∧ SR L D y 0 o ∧ Oth S W6 w') (fun i _ => L.length - (intOf i).toNat)
      case atStart => exact ⟨0, [], by omega, rfl, HQ0.out, SR.zero L D, HB.out⟩
      case round =>
        clear HQ HQ0 HB
        obtain ⟨y, o, hy, rfl, hQ, hS, hB⟩ := hrel
        have HQ := hide hQ
        have HSr := hide hS
        have HB := hide hB
        clear hQ hS hB
        by_cases hly : y < L.length
        · have hly' : (y : Int) < (L.length : Int) := by omega
          obtain ⟨x4, q4, hN4⟩ := (HQ46.out.oth HQ56.out (by omega) HB.out).at (q := y) (by rw [pds_len]; exact hly)
          rw [pds_at] at hN4
          obtain ⟨l, hl1⟩ : ∃ l, l = pdL L y := ⟨_, rfl⟩
          rw [← hl1] at hN4
          have hll : l.length ≤ 12 := by rw [hl1]; have := pdL_len L y; omega
          have HL := hide hl1
          obtain ⟨a4, k4, rfl, -⟩ := hN4.form
          have HN4 : Hid (∀ w', QS w' S (Ls.set D o) → Oth S W6 w' → True) := hide (fun _ _ _ => trivial)
          have HNl := hide hN4
          obtain ⟨nl, hnl⟩ : ∃ nl, nl = l.length := ⟨_, rfl⟩
          rw [← hnl] at q4 HNl hll
          have Hnl := hide hnl
          clear hl1 hN4 hnl HN4
          go_wp2_with fail
          clear q4
          obtain ⟨WY, hWY⟩ : ∃ WY, WY = wr := ⟨_, rfl⟩
          have HQY : Hid (QS WY S (Ls.set D o)) := hide (by rw [hWY]; exact HQ.out)
          have HBY : Hid (Oth S WY wr) := hide (by rw [hWY]; exact Oth.refl _ _)
          rw [← hWY] at HNl
          have HB0 : Hid (Oth S W6 WY) := hide (by rw [hWY]; exact HB.out)
          clear hWY HB
          go_loopw [36] (fun i w' => ∃ (m : Nat) (o : List Int), m ≤ nl ∧ i = .int .i64 m ∧ QS w' S (Ls.set D o) ∧ SR L D y m o ∧ Oth S WY w') (fun i _ => nl - (intOf i).toNat)
          case atStart => exact ⟨0, o, by omega, rfl, HQ.out, HSr.out, HBY.out⟩
          case round =>
            clear HQ HSr HBY
            obtain ⟨m, o, hm, rfl, hQ, hS, hB⟩ := hrel
            have HQ := hide hQ
            have HSr := hide hS
            have HB := hide hB
            have HBw := hide (HB0.out.trans hB)
            clear hQ hS hB
            by_cases hlm : m < nl
            · have hlm' : (m : Int) < (nl : Int) := by omega
              have hlml : m < l.length := by rw [← Hnl.out]; exact hlm
              have hNv := HNl.out.oth HQY.out HB.out
              rw [Hnl.out] at hNv
              obtain ⟨b4, o4, rfl, p0⟩ := NV.at hNv (Below.refl _ _) hlml
              have hm1 : l[m] ∈ pdL L y := by rw [← HL.out]; exact List.getElem_mem hlml
              obtain ⟨P, hP, hPl, -, -⟩ := pdL_mem.1 hm1
              rw [hP] at p0
              have HPe : Hid (∀ hl : m < (pdL L y).length, (pdL L y)[m] = (P : Int)) := hide (fun hl => by rw [← hP]; simp only [HL.out])
              have HmL : Hid (m < (pdL L y).length) := hide (by rw [← HL.out]; exact hlml)
              have hPl' : (P : Int) < (L.length : Int) := by omega
              obtain ⟨xP, qP, hNP⟩ := (HQ36.out.oth HQ56.out (by omega) HBw.out).at (q := P) (by rw [dls_len]; exact hPl)
              rw [dls_at] at hNP
              have hPM : decide ((D : Int) ∈ dl L P) = dm L P D := by rw [Bool.eq_iff_iff, decide_eq_true_eq, dl_mem HG.out, dm_iff]
              have hPn := dl_len L P
              obtain ⟨LP, hLP⟩ : ∃ LP, LP = dl L P := ⟨_, rfl⟩
              rw [← hLP] at hNP hPM hPn
              obtain ⟨aP, cP, rfl, -⟩ := hNP.form
              have HNP := hide hNP
              have HPM := hide hPM
              clear hm1 hP hNv hNP hPM hLP hlml
              go_wp2_with fail
              refine Calls.mono (l1Has_v _ LP D _ HNP.out (by omega)) ?_
              rintro e w7 ⟨rfl, hw⟩
              obtain rfl := hw.symm
              rw [HPM.out]
              obtain ⟨pb, hpb⟩ : ∃ pb, pb = dm L P D := ⟨_, rfl⟩
              rw [← hpb]
              have Hpb := hide hpb
              clear qP p0 hpb HNP HPM hPn
              cases pb with
              | false =>
                have HS2 := hide (HSr.out.skip HPe.out (by unfold cnd; rw [← Hpb.out]; rfl))
                go_wp2_with fail
                exact ⟨⟨m + 1, o, by omega, by go_num, HQ.out, HS2.out, HB.out⟩, by simp [intOf]; omega⟩
              | true =>
                have HPutAll : Hid (cnd L y P D = true → SR L D y (m + 1) (putL o (y : Int))) := hide (fun hc => HSr.out.put HmL.out (HPe.out HmL.out) hc)
                have hol := HSr.out.len HG.out
                have hDs : D < (Ls.set D o).length := by rw [List.length_set]; exact hD2
                obtain ⟨xS, cS, hNS⟩ := HQ.out.at hDs
                rw [List.getElem_set_self] at hNS
                have fS := HQ.out.f
                obtain ⟨aS, kS, rfl, -⟩ := hNS.form
                have HNS := hide hNS
                clear hNS
                by_cases hDy : D = y
                · have hkb : ((D : Int) == (y : Int)) = true := by rw [beq_iff_eq]; omega
                  have HS2 := hide (HPutAll.out (by unfold cnd; rw [← Hpb.out, decide_eq_true hDy]; rfl))
                  subst hDy
                  have hDl3 : (D : Int) < (L.length : Int) := by omega
                  go_wp2_with fail
                  refine Calls.mono (l1Put_any _ o D _ HNS.out (by omega)) ?_
                  rintro e w8 ⟨v8, rfl, hN8, hb⟩
                  have hN8' := hN8
                  obtain ⟨y8, z8, ev8, -⟩ := hN8'.form
                  obtain ⟨n8, hn8⟩ : ∃ n8, n8 = (putL o (D : Int)).length := ⟨_, rfl⟩
                  rw [← hn8] at ev8
                  subst ev8
                  have hQ8 := HQ.out.below hb
                  have HQn : Hid (QS (w8.setCell ⟨S, D, none⟩ (.slice y8 n8 z8)) S (Ls.set D (putL o (D : Int)))) := hide (by
                    have := hQ8.set (i := D) hDs hN8
                    rwa [List.set_set] at this)
                  obtain ⟨yy, cS8, -⟩ := hQ8.at hDs
                  have fS8 := hQ8.f
                  have HBn : Hid (Oth S WY (w8.setCell ⟨S, D, none⟩ (.slice y8 n8 z8))) := hide ((HB.out.trans (Oth.ofBelow hb)).setCell D _)
                  clear hb hQ8 hN8 hN8' hn8 cS fS
                  go_wp2_with fail
                  exact ⟨⟨m + 1, _, by omega, by go_num, HQn.out, HS2.out, HBn.out⟩, by simp [intOf]; omega⟩
                · have hkb : ((D : Int) == (y : Int)) = false := by rw [beq_eq_false_iff_ne]; omega
                  obtain ⟨xY, qY, hNY⟩ := (HQ36.out.oth HQ56.out (by omega) HBw.out).at (q := y) (by rw [dls_len]; exact hly)
                  rw [dls_at] at hNY
                  have hYM : decide ((D : Int) ∈ dl L y) = dm L y D := by rw [Bool.eq_iff_iff, decide_eq_true_eq, dl_mem HG.out, dm_iff]
                  have hYn := dl_len L y
                  obtain ⟨LY, hLY⟩ : ∃ LY, LY = dl L y := ⟨_, rfl⟩
                  rw [← hLY] at hNY hYM hYn
                  obtain ⟨aY, cY, rfl, -⟩ := hNY.form
                  have HNY := hide hNY
                  have HYM := hide hYM
                  have HDy := hide hDy
                  clear hNY hYM hLY hDy
                  go_wp2_with fail
                  refine Calls.mono (l1Has_v _ LY D _ HNY.out (by omega)) ?_
                  rintro e w7 ⟨rfl, hw⟩
                  obtain rfl := hw.symm
                  rw [HYM.out]
                  obtain ⟨qb, hqb⟩ : ∃ qb, qb = dm L y D := ⟨_, rfl⟩
                  rw [← hqb]
                  have Hqb := hide hqb
                  clear qY hqb HNY HYM hYn
                  cases qb with
                  | true =>
                    have HS2 := hide (HSr.out.skip HPe.out (by unfold cnd; rw [← Hpb.out, decide_eq_false HDy.out, ← Hqb.out]; rfl))
                    clear cS fS
                    go_wp2_with fail
                    exact ⟨⟨m + 1, o, by omega, by go_num, HQ.out, HS2.out, HB.out⟩, by simp [intOf]; omega⟩
                  | false =>
                    have HS2 := hide (HPutAll.out (by unfold cnd; rw [← Hpb.out, ← Hqb.out]; simp))
                    have hDl3 : (D : Int) < (L.length : Int) := by omega
                    go_wp2_with fail
                    refine Calls.mono (l1Put_any _ o y _ HNS.out (by omega)) ?_
                    rintro e w8 ⟨v8, rfl, hN8, hb⟩
                    have hN8' := hN8
                    obtain ⟨y8, z8, ev8, -⟩ := hN8'.form
                    obtain ⟨n8, hn8⟩ : ∃ n8, n8 = (putL o (y : Int)).length := ⟨_, rfl⟩
                    rw [← hn8] at ev8
                    subst ev8
                    have hQ8 := HQ.out.below hb
                    have HQn : Hid (QS (w8.setCell ⟨S, D, none⟩ (.slice y8 n8 z8)) S (Ls.set D (putL o (y : Int)))) := hide (by
                      have := hQ8.set (i := D) hDs hN8
                      rwa [List.set_set] at this)
                    obtain ⟨yy, cS8, -⟩ := hQ8.at hDs
                    have fS8 := hQ8.f
                    have HBn : Hid (Oth S WY (w8.setCell ⟨S, D, none⟩ (.slice y8 n8 z8))) := hide ((HB.out.trans (Oth.ofBelow hb)).setCell D _)
                    clear hb hQ8 hN8 hN8' hn8 cS fS
                    go_wp2_with fail
                    exact ⟨⟨m + 1, _, by omega, by go_num, HQn.out, HS2.out, HBn.out⟩, by simp [intOf]; omega⟩
            · have HS2 := hide (HSr.out.next (by rw [← HL.out, ← Hnl.out]; omega))
              go_wp2_with fail
              exact ⟨⟨y + 1, o, by omega, by go_num, HQ.out, HS2.out, HBw.out⟩, by simp [intOf]; omega⟩
        · have HDn : Hid (∀ k (h : k < (Ls.set D o).length), ((∃ q, ∃ hq : q < R.length, q < j + 1 ∧ R[q] = (k : Int)) → (Ls.set D o)[k] = frL L k) ∧ ((¬ ∃ q, ∃ hq : q < R.length, q < j + 1 ∧ R[q] = (k : Int)) → (Ls.set D o)[k] = [])) := hide (fun k h => by
            by_cases e : D = k
            · subst e
              rw [List.getElem_set_self]
              refine ⟨fun _ => ?_, fun hn => absurd ⟨j, hlt, by omega, HDd.out⟩ hn⟩
              have h1 := HSr.out
              rw [show y = L.length by omega] at h1
              exact h1.done HG.out
            · rw [List.getElem_set_ne e]
              have hk : k < Ls.length := by simpa using h
              refine ⟨fun ⟨q, hq, h1, h2⟩ => (HD.out k hk).1 ⟨q, hq, ?_, h2⟩, fun hn => (HD.out k hk).2 (fun ⟨q, hq, h1, h2⟩ => hn ⟨q, hq, by omega, h2⟩)⟩
              by_cases e2 : q = j
              · subst e2; rw [HDd.out] at h2; omega
              · omega)
          have HLn : Hid ((Ls.set D o).length = L.length) := hide (by rw [List.length_set]; exact HLl.out)
          go_wp2_with fail
          exact ⟨⟨j + 1, _, by omega, by go_num, HQ.out, HLn.out, HDn.out, HB.out⟩, by simp [intOf]; omega⟩
    · have HE : Hid (Ls = frs L) := hide (by
        refine List.ext_getElem (by rw [frs_len]; exact HLl.out) (fun k h1 h2 => ?_)
        rw [frs_at L h2]
        by_cases e : ∃ q, ∃ hq : q < R.length, q < j ∧ R[q] = (k : Int)
        · exact (HD.out k h1).1 e
        · rw [(HD.out k h1).2 e, frL_none HG.out (fun hr => e (by
            obtain ⟨q, hq, h3⟩ := HRc.out k hr
            exact ⟨q, hq, by omega, h3⟩))])
      have HBw := hide (hB6.trans (HB.out.below hB6.size hSw))
      go_wp2_with fail
      go_ret
      exact ⟨S, rfl, hSw, by rw [← HE.out]; exact HQ.out, HBw.out⟩

/-- What FrontierOf tells. -/
noncomputable def frR (L : List (List Int)) : List (List Int) := if goodG L = true then frs L else []
theorem frR_sm (L : List (List Int)) : (frR L).length ≤ 600 ∧ ∀ l ∈ frR L, l.length ≤ 600 := by
  unfold frR
  split
  · rename_i h
    have h12 := (goodG_iff.1 h).2.1
    refine ⟨by rw [frs_len]; omega, fun l hl => ?_⟩
    obtain ⟨k, -, rfl⟩ := List.mem_map.1 hl
    have := frL_len L k
    omega
  · exact ⟨by simp, by simp⟩
theorem frR_QSm (L : List (List Int)) : QSm (frR L) := by
  have := frR_sm L
  exact ⟨by omega, fun l hl => by have := this.2 l hl; omega⟩

set_option maxHeartbeats 2000000 in
theorem specFront_any (v : Value) (L : List (List Int)) (w : World) (h : GRow w v L) :
    Calls Try.prog 10 #[v] w fun e w' => ∃ v', e = .returned (.tuple #[v', .bool (goodG L)]) ∧ QV w' v' (frR L) ∧ Below w.heap.size w w' := by
  obtain ⟨ad, c, rfl, hR, hs, hlc⟩ := h
  have hB0 : Below w.heap.size w (w.alloc (.cells #[.slice ad L.length c] 28)) := (Below.refl _ _).alloc (Nat.le_refl _) _
  have HX := hide (Bx.new w #[.slice ad L.length c] 28)
  have HV : Hid (∀ w', Below w.heap.size w w' → GRow w' (.agg #[.slice ad L.length c]) L) := hide (fun w' hb => ⟨ad, c, rfl, hR.below hb, hs, hlc⟩)
  clear hR hs hlc
  go_enter Try.func10, Try.ntmps10
  go_wp2_with fail
  refine Calls.mono (specGoodG_any _ L _ (HV.out _ hB0)) ?_
  rintro e w1 ⟨rfl, hb⟩
  have hB1 := hB0.trans (hb.mono hB0.size)
  have HX1 := hide (HX.out.below hb HX.out.lt)
  clear hb hB0 HX
  have cx := HX1.out.c
  have lx := HX1.out.lt
  by_cases hg : goodG L = true
  · have HRe : Hid (frR L = frs L) := hide (by rw [frR, if_pos hg])
    have HGG := hide (goodG_iff.1 hg)
    have Hg := hide hg
    rw [hg]
    clear hg
    go_wp2_with fail
    refine Calls.mono (l11Front_any _ L _ (HV.out _ hB1) HGG.out) ?_
    rintro e w2 ⟨S, rfl, -, hQ, hb⟩
    have HQ := hide hQ
    have hB2 := hB1.trans (hb.mono hB1.size)
    clear hQ hb cx
    go_wp2_with fail
    refine bodyPost_ret (v := .tuple #[.slice (some ⟨S, 0, none⟩) L.length L.length, .bool true]) (by simp [results, Try.results10, go_sem]) rfl ?_
    have hq := HQ.out.qv (by rw [← HRe.out]; exact frR_QSm L)
    rw [frs_len] at hq
    exact ⟨_, by rw [Hg.out], by rw [HRe.out]; exact hq, hB2⟩
  · have HRe : Hid (frR L = []) := hide (by rw [frR, if_neg hg])
    rw [Bool.not_eq_true] at hg
    have Hg := hide hg
    rw [hg]
    clear hg
    go_wp2_with fail
    refine bodyPost_ret (v := .tuple #[.slice none 0 0, .bool false]) (by simp [results, Try.results10, go_sem]) rfl ?_
    exact ⟨_, by rw [Hg.out], by rw [HRe.out]; exact ⟨none, 0, rfl, .inl rfl, ⟨by simp, by simp⟩, Nat.le_refl _⟩, hB1⟩

set_option maxHeartbeats 2000000 in
theorem implFront_any (v : Value) (L : List (List Int)) (w : World) (h : GRow w v L) :
    Calls Try.prog 12 #[v] w fun e w' => ∃ v', e = .returned (.tuple #[v', .bool (goodG L)]) ∧ OO w' w.heap.size v' (frR L) ∧ Below w.heap.size w w' := by
  obtain ⟨ad, c, rfl, hR, hs, hlc⟩ := h
  have hB0 : Below w.heap.size w (w.alloc (.cells #[.slice ad L.length c] 28)) := (Below.refl _ _).alloc (Nat.le_refl _) _
  have HX := hide (Bx.new w #[.slice ad L.length c] 28)
  have HV : Hid (∀ w', Below w.heap.size w w' → GRow w' (.agg #[.slice ad L.length c]) L) := hide (fun w' hb => ⟨ad, c, rfl, hR.below hb, hs, hlc⟩)
  clear hR hs hlc
  go_enter Try.func12, Try.ntmps12
  go_wp2_with fail
  refine Calls.mono (implGoodG_any _ L _ (HV.out _ hB0)) ?_
  rintro e w1 ⟨rfl, hb⟩
  have hB1 := hB0.trans (hb.mono hB0.size)
  have HX1 := hide (HX.out.below hb HX.out.lt)
  clear hb hB0 HX
  have cx := HX1.out.c
  have lx := HX1.out.lt
  by_cases hg : goodG L = true
  · have HRe : Hid (frR L = frs L) := hide (by rw [frR, if_pos hg])
    have HGG := hide (goodG_iff.1 hg)
    have Hg := hide hg
    rw [hg]
    clear hg
    have hB1d : Below w.heap.size w w1.drew := belowDrew8 hB1
    have c0 := cx 0
    have hl12 := HGG.out.2.1
    go_upto_region 3 with fail
    refine wp_region_noPanic ?_
    refine wp_region_held_drew (S := fun w' => w'.cell? ⟨w.heap.size, 0, none⟩ = some (.slice ad L.length c)) (by kernel_rfl) c0 (fun hHeld => ?_)
    refine wpAnyH_take (i := 0) (oi := _) (v := ?_) rfl (by kernel_rfl) (by kernel_rfl) (by kernel_rfl) (fun _ _ _ h => h) (Or.inl ⟨by rfl, ?_⟩) (by assumption) ?_
    rotate_left 1
    · (intro w hSw; (try dsimp only at hSw); (first | (go_simp; done) | (go_simp; with_reducible rfl)))
    try simp only [Act.put, List.getElem_toArray, List.getElem_cons_zero, List.getElem_cons_succ, List.setIfInBounds_toArray, List.set_cons_zero, List.set_cons_succ]
    refine wpAnyH_take (i := 2) (oi := _) (v := ?_) rfl (by kernel_rfl) (by kernel_rfl) (by kernel_rfl) (fun _ _ _ h => h) (Or.inl ⟨by rfl, ?_⟩) (by assumption) ?_
    rotate_left 1
    · (intro w hSw; (try dsimp only at hSw); (first | (go_simp; done) | (go_simp; with_reducible rfl)))
    try simp only [Act.put, List.getElem_toArray, List.getElem_cons_zero, List.getElem_cons_succ, List.setIfInBounds_toArray, List.set_cons_zero, List.set_cons_succ]
    refine wpAnyH_take (i := 3) (oi := _) (v := ?_) rfl (by kernel_rfl) (by kernel_rfl) (by kernel_rfl) (fun _ _ _ h => h) (Or.inl ⟨by rfl, ?_⟩) (by assumption) ?_
    rotate_left 1
    · (intro w hSw; (try dsimp only at hSw); (first | (go_simp; done) | (go_simp; with_reducible rfl)))
    try simp only [Act.put, List.getElem_toArray, List.getElem_cons_zero, List.getElem_cons_succ, List.setIfInBounds_toArray, List.set_cons_zero, List.set_cons_succ]
    refine wpAnyH_take (i := 4) (oi := _) (v := ?_) rfl (by kernel_rfl) (by kernel_rfl) (by kernel_rfl) (fun _ _ _ h => h) (Or.inl ⟨by rfl, ?_⟩) (by assumption) ?_
    rotate_left 1
    · (intro w hSw; (try dsimp only at hSw); (first | (go_simp; done) | (go_simp; with_reducible rfl)))
    try simp only [Act.put, List.getElem_toArray, List.getElem_cons_zero, List.getElem_cons_succ, List.setIfInBounds_toArray, List.set_cons_zero, List.set_cons_succ]
    refine wpAnyH_ready (rs := [1]) (by kernel_rfl) (by simp) ?_
    refine AllReadyH.cons (o := _) rfl (fun K hK => ?_) AllReadyH.nil
    go_simp
    (with_reducible refine Calls.mono (frontiers_any _ L _ (HV.out _ hB1d) HGG.out) ?_)
    rintro r w2 ⟨rfl, hb⟩
    have c2 := (hb.cell (p := ⟨w.heap.size, 0, none⟩) lx).trans c0
    have lx2 := Nat.lt_of_lt_of_le lx hb.size
    have hB2 := hB1d.trans (hb.mono hB1d.size)
    clear hb
    (try go_wp2_with fail)
    refine hK.out _ _ c2 (fun hHeld => ?_)
    clear hK K
    try simp only [Act.put, List.getElem_toArray, List.getElem_cons_zero, List.getElem_cons_succ, List.setIfInBounds_toArray, List.set_cons_zero, List.set_cons_succ]
    refine wpAnyH_ready (rs := [5]) (by kernel_rfl) (by simp) ?_
    refine AllReadyH.cons (o := _) rfl (fun K hK => ?_) AllReadyH.nil
    go_simp
    (with_reducible refine Calls.mono (listsOf_any (fr L) L.length hl12 _) ?_)
    rintro r w3 ⟨v3, rfl, hO, hb⟩
    have c3 := (hb.cell (p := ⟨w.heap.size, 0, none⟩) lx2).trans c2
    have hB3 := hB2.trans (hb.mono hB2.size)
    have HO : Hid (OO w3 w.heap.size v3 (frs L)) := hide (hO.lower hB2.size)
    obtain ⟨a3, k3, e3⟩ := hO.form
    obtain ⟨n3, hn3⟩ : ∃ n3, n3 = ((List.range L.length).map fun b => lst (fr L b) 12).length := ⟨_, rfl⟩
    rw [← hn3] at e3
    subst e3
    clear hb hO hn3
    (try go_wp2_with fail)
    refine hK.out _ _ c3 (fun hHeld => ?_)
    clear hK K
    try simp only [Act.put, List.getElem_toArray, List.getElem_cons_zero, List.getElem_cons_succ, List.setIfInBounds_toArray, List.set_cons_zero, List.set_cons_succ]
    refine wpAnyH_take (i := 6) (oi := _) (v := ?_) rfl (by kernel_rfl) (by kernel_rfl) (by kernel_rfl) (fun _ _ _ h => h) (Or.inl ⟨by rfl, ?_⟩) (by assumption) ?_
    rotate_left 1
    · (intro w hSw; (try dsimp only at hSw); (first | (go_simp; done) | (go_simp; with_reducible rfl)))
    try simp only [Act.put, List.getElem_toArray, List.getElem_cons_zero, List.getElem_cons_succ, List.setIfInBounds_toArray, List.set_cons_zero, List.set_cons_succ]
    refine wpAnyH_take (i := 7) (oi := _) (v := ?_) rfl (by kernel_rfl) (by kernel_rfl) (by kernel_rfl) (fun _ _ _ h => h) (Or.inl ⟨by rfl, ?_⟩) (by assumption) ?_
    rotate_left 1
    · (intro w hSw; (try dsimp only at hSw); (first | (go_simp; done) | (go_simp; with_reducible rfl)))
    try simp only [Act.put, List.getElem_toArray, List.getElem_cons_zero, List.getElem_cons_succ, List.setIfInBounds_toArray, List.set_cons_zero, List.set_cons_succ]
    refine wpAnyH_done (by kernel_rfl) ?_ _
    refine NoPanic.normal ?_
    clear hHeld
    go_wp2_with fail
    refine bodyPost_ret (v := .tuple #[.slice a3 n3 k3, .bool true]) (by simp [results, Try.results12, go_sem]) rfl ?_
    exact ⟨_, by rw [Hg.out], by rw [HRe.out]; exact HO.out, hB3⟩
  · have HRe : Hid (frR L = []) := hide (by rw [frR, if_neg hg])
    rw [Bool.not_eq_true] at hg
    have Hg := hide hg
    rw [hg]
    clear hg
    go_wp2_with fail
    refine bodyPost_ret (v := .tuple #[.slice none 0 0, .bool false]) (by simp [results, Try.results12, go_sem]) rfl ?_
    exact ⟨_, by rw [Hg.out], by rw [HRe.out]; exact OO.nil _ _, hB1⟩
end Go.Proofs.Ytochhnibegcbpaa.W
