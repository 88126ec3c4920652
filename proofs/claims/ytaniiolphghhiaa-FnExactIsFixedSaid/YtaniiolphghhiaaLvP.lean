/-
  Both IsFixed. Conditions: none but those that each theorem states.
-/
import Derived.Test.YtaniiolphghhiaaLvV
import Derived.Test.YtaniiolphghhiaaLvI
namespace Go.Proofs.Ytaniiolphghhiaa.W
open Go.ChangeShapes Go.WideShapes Go.ChangeAt Go.RowKit Go.Joins
set_option linter.unusedVariables false
set_option linter.unusedSimpArgs false
set_option maxRecDepth 20000

/-- A good flow, and as many rising lists of names as it has blocks. -/
def FxP (D F ls : List (List Int)) : Prop := GF D F ∧ ls.length = D.length ∧ ∀ k, k < D.length → RisL (row ls k) 8
open Classical in
noncomputable def fxB (D F ls : List (List Int)) : Bool := decide (FxP D F ls)
noncomputable def fxR (D F ls : List (List Int)) : Bool := fxB D F ls && decide (nx D F ls = ls)
theorem fxB_yes {D F ls : List (List Int)} (h : FxP D F ls) : fxB D F ls = true := by simp [fxB, h]
theorem fxB_no {D F ls : List (List Int)} (h : ¬ FxP D F ls) : fxB D F ls = false := by simp [fxB, h]
theorem fxR_no {D F ls : List (List Int)} (h : fxB D F ls = false) : fxR D F ls = false := by simp [fxR, h]
theorem fxR_yes {D F ls : List (List Int)} (h : fxB D F ls = true) : fxR D F ls = decide (nx D F ls = ls) := by simp [fxR, h]
theorem FxP.r8 {D F ls : List (List Int)} (h : FxP D F ls) (k : Nat) : R8 (row ls k) := by
  by_cases hk : k < D.length
  · exact (h.2.2 k hk).r8
  · rw [row_out (by rw [h.2.1]; exact hk)]; exact r8_nil
theorem nx_iff {D F ls : List (List Int)} (hl : ls.length = D.length) : nx D F ls = ls ↔ ∀ k, k < D.length → ni D F ls k = row ls k := by
  constructor
  · intro e k hk; rw [← nx_row hk, e]
  · intro h
    refine List.ext_getElem (by rw [nx_len, hl]) (fun k h1 h2 => ?_)
    have hk : k < D.length := by rw [← hl]; exact h2
    rw [← row_at h1, ← row_at h2, nx_row hk, h k hk]

set_option maxHeartbeats 8000000 in
theorem implFixed_any (v vin : Value) (D : List (List Int)) (n : Nat) (F ls : List (List Int)) (w : World) (h : FRow w v D n F) (hin : QV w vin ls) :
    Calls Try.prog 31 #[v, vin] w fun e w' => e = .returned (.tuple #[.bool (fxR D F ls), .bool (fxB D F ls)]) ∧ Below w.heap.size w w' := by
  have HGf := hide (fun (w' : World) (hb : Below w.heap.size w w') => implGoodF_any v D n F w' (h.below hb))
  have HNe := hide (fun (Z : Nat) (w' : World) (hb : Below w.heap.size w w') (hx : FxP D F ls) (hQ : QSS w' Z ls) => needed_any v D n F ls Z D.length w' (h.below hb) hx.1 hQ hx.2.1 hx.r8)
  obtain ⟨ad, c, bd, bc, rfl, -, -, -, -, -, -, hF2⟩ := h
  obtain ⟨ai, ci, rfl, hI, hsm, hci⟩ := hin
  have HI := hide hI
  have HSm := hide hsm.2
  have hl1 := hsm.1
  obtain ⟨nd, hnd⟩ : ∃ nd, nd = D.length := ⟨_, rfl⟩
  obtain ⟨nl, hnl⟩ : ∃ nl, nl = ls.length := ⟨_, rfl⟩
  have hB0 : Below w.heap.size w (w.alloc (.cells #[.slice ad D.length c, .slice bd n bc] 33)) := (Below.refl _ _).alloc (Nat.le_refl _) _
  have HX := hide (Bx.new w #[.slice ad D.length c, .slice bd n bc] 33)
  rw [← hnd] at HX hB0 HGf HNe ⊢
  rw [← hnl] at hl1 ⊢
  have HND := hide hnd
  have HNl := hide hnl
  have HF2 := hide hF2
  have HNo : Hid (¬ FxP D F ls → ∀ w' : World, Below w.heap.size w w' → Ending.returned (.tuple #[.bool false, .bool false]) = Ending.returned (.tuple #[.bool (fxR D F ls), .bool (fxB D F ls)]) ∧ Below w.heap.size w w') := hide (fun h w' hb => by rw [fxR_no (fxB_no h), fxB_no h]; exact ⟨rfl, hb⟩)
  clear hnd hnl hI hsm hci hF2
  go_enter Try.func31, Try.ntmps31
  go_upto_region 1 with fail
  obtain ⟨W1, hW1⟩ : ∃ W1, W1 = w.alloc (.cells #[.slice ad nd c, .slice bd n bc] 33) := ⟨_, rfl⟩
  obtain ⟨X, hX⟩ : ∃ X, X = w.heap.size := ⟨_, rfl⟩
  rw [← hW1] at HX hB0 ⊢
  rw [← hX] at HX ⊢
  clear hW1 hX
  have cX := HX.out.c
  go_wp2_with fail
  refine Calls.mono (HGf.out _ hB0) ?_
  rintro e w1 ⟨rfl, hb⟩
  have HB1 := hide (hB0.trans (hb.mono hB0.size))
  have HX1 := hide (HX.out.below hb HX.out.lt)
  clear cX hb HGf hB0 HX
  have cX := HX1.out.c
  by_cases hg : goodF D F = true
  · have HF := hide (goodF_iff.1 hg)
    have HNn : Hid (n = nd) := hide (by rw [HND.out]; have := (goodF_iff.1 hg).2.1; have := HF2.out; omega)
    have hn12 : nd ≤ 12 := by rw [HND.out]; exact (goodF_iff.1 hg).1.2.1
    rw [hg]
    clear hg
    by_cases hln : nl = n
    · have hln' : ((nl : Int) != (n : Int)) = false := by rw [hln]; simp
      have HLn := hide hln
      have hmk := mk_SetS nl hl1
      clear hln
      go_wp2_with fail
      clear hmk cX hln'
      have HQ0 := hide (QST.new 73 w1 nl)
      have HB2 := hide (HB1.out.alloc HB1.out.size (.cells (madeCells #[.slice none 0 0] nl) 73))
      have HX2 := hide (HX1.out.alloc (.cells (madeCells #[.slice none 0 0] nl) 73))
      obtain ⟨W2, hW2⟩ : ∃ W2, W2 = w1.alloc (.cells (madeCells #[.slice none 0 0] nl) 73) := ⟨_, rfl⟩
      obtain ⟨Z, hZ⟩ : ∃ Z, Z = w1.heap.size := ⟨_, rfl⟩
      rw [← hW2] at HX2 HQ0 HB2 ⊢
      rw [← hZ] at HQ0 ⊢
      have hZw : w.heap.size ≤ Z := by rw [hZ]; exact HB1.out.size
      have hXZ : X < Z := by rw [hZ]; exact HX1.out.lt
      clear hW2 hZ HX1 HB1
      go_loopw [25] (fun i w' => ∃ (j : Nat) (Ls : List (List Int)), j ≤ nl ∧ i = .int .i64 j ∧ QSS w' Z Ls ∧ Ls.length = nl ∧ (∀ q, q < j → RisL (row ls q) 8 ∧ row Ls q = row ls q) ∧ Bx w' X #[.slice ad nd c, .slice bd n bc] 33 ∧ Below w.heap.size w w') (fun i _ => nl - (intOf i).toNat)
      case atStart => exact ⟨0, _, by omega, rfl, HQ0.out, by simp, by intros; omega, HX2.out, HB2.out⟩
      case round =>
        clear HQ0 HB2 HX2
        obtain ⟨j, Ls, hj, rfl, hQ, hLs, hlo, hx, hB⟩ := hrel
        have HQ := hide hQ
        have HLo := hide hlo
        have HB := hide hB
        have HX := hide hx
        have HLs9 := hide hLs
        clear hQ hlo hB hLs hx
        by_cases hlt : j < nl
        · have hlt' : (j : Int) < (nl : Int) := by omega
          have hj0 : (0 : Int) ≤ (j : Int) := by omega
          have hjl : j < ls.length := by rw [← HNl.out]; exact hlt
          obtain ⟨b, o, a0, c0, rfl, p0, r0, -⟩ := QV.pv HI.out HB.out hjl
          have hs6 : (row ls j).length ≤ 1048576 := row_sm HSm.out j
          obtain ⟨l, hl⟩ : ∃ l, l = row ls j := ⟨_, rfl⟩
          rw [← hl] at p0 r0 hs6
          have HRs := hide (isRising_any a0 c0 8 l wr r0 hs6 (by omega))
          obtain ⟨m0, hm0⟩ : ∃ m, m = l.length := ⟨_, rfl⟩
          have HT := hide (show IV wr (.slice a0 m0 c0) l by rw [hm0]; exact ⟨_, _, rfl, r0, hs6⟩)
          rw [← hm0] at p0 HRs hs6
          have HL := hide hl
          have HM := hide hm0
          have hzl := HQ.out.lt
          have HFr : Hid (∀ (w' : World), Below wr.heap.size wr w' → (∃ y, w'.cell? ⟨Z, j, none⟩ = some y) ∧ ∀ i, w'.frozen? ⟨Z, i, none⟩ = false) := hide (fun w' hb => by
            obtain ⟨y, cy, -⟩ := HQ.out.at (q := j) (by rw [HLs9.out]; exact hlt)
            exact ⟨⟨y, (hb.cell (p := ⟨Z, j, none⟩) HQ.out.lt).trans cy⟩, fun i => (HQ.out.below hb).f i⟩)
          clear hl hm0 r0
          go_wp2_with fail
          refine Calls.mono HRs.out ?_
          rintro e w2 ⟨rfl, hw⟩
          obtain rfl := hw.symm
          by_cases hr : risB l 8 = true
          · have HRi := hide (risB_iff.1 hr)
            rw [hr]
            have hm8 : m0 ≤ 8 := by rw [HM.out]; exact r8_len HRi.out.r8
            have HSs := hide (setOf_any (.slice a0 m0 c0) l wr HT.out (by rw [← HM.out]; omega) HRi.out.r8.2)
            rw [r8_lst HRi.out.r8] at HSs
            clear hr HRs p0
            go_wp2_with fail
            refine Calls.mono HSs.out ?_
            rintro e w3 ⟨v3, rfl, hv, hb⟩
            obtain ⟨⟨y, cy⟩, fz⟩ := HFr.out w3 hb
            have HQn := hide ((HQ.out.below hb).set (i := j) (by rw [HLs9.out]; exact hlt) hv)
            have HBn := hide ((HB.out.trans (hb.mono HB.out.size)).setCell (p := ⟨Z, j, none⟩) hZw v3)
            have HXn := hide ((HX.out.below hb HX.out.lt).setne Z j v3 (by omega))
            have HRn : Hid (∀ q, row (Ls.set j l) q = if q = j then l else row Ls q) := hide (fun q => row_set (by rw [HLs9.out]; exact hlt) _ q)
            have HLn2 : Hid ((Ls.set j l).length = nl) := hide (by rw [List.length_set]; exact HLs9.out)
            obtain ⟨g3, h3, e3, -⟩ := hv.form
            rw [← HM.out] at e3
            subst e3
            clear hv hb HSs HQ HB HX HFr
            go_wp2_with fail
            refine ⟨⟨j + 1, _, by omega, by go_num, HQn.out, HLn2.out, fun q hq => ?_, HXn.out, HBn.out⟩, by simp [intOf]; omega⟩
            rw [HRn.out]
            by_cases e : q = j
            · rw [if_pos e, e, ← HL.out]; exact ⟨HRi.out, rfl⟩
            · rw [if_neg e]; exact HLo.out q (by omega)
          · have hrf : risB l 8 = false := by simpa using hr
            have HFl := hide (HNo.out (fun h => hr (risB_iff.2 (by rw [HL.out]; exact h.2.2 j (by have h1 := h.2.1; have h2 := HNl.out; omega)))) wr HB.out)
            rw [hrf]
            clear hr hrf HRs p0
            go_wp2_with fail
            exact bodyPost_ret (v := .tuple #[.bool false, .bool false]) (by simp [results, Try.results31, go_sem]) rfl HFl.out
        · obtain rfl : j = nl := by omega
          have HE : Hid (Ls = ls) := hide (by
            refine List.ext_getElem (by rw [HLs9.out, HNl.out]) (fun k h1 h2 => ?_)
            rw [← row_at h1, ← row_at h2]
            exact (HLo.out k (by rw [HNl.out]; exact h2)).2)
          have HXp : Hid (FxP D F ls) := hide ⟨HF.out, by rw [← HNl.out, HLn.out, HNn.out, HND.out], fun k hk => (HLo.out k (by rw [HLn.out, HNn.out, HND.out]; exact hk)).1⟩
          have HQl : Hid (QSS wr Z ls) := hide (by rw [← HE.out]; exact HQ.out)
          have HN1 := HNe.out Z wr HB.out HXp.out HQl.out
          rw [show nd = j by rw [HLn.out, HNn.out]] at HN1
          have HN1 := hide HN1
          have cX := HX.out.c
          go_wp2_with fail
          rw [show nd = j by rw [HLn.out, HNn.out]]
          refine Calls.mono HN1.out ?_
          rintro e w2 ⟨Z2, rfl, -, hQ2, hb⟩
          have HQ2 := hide hQ2
          have HQb := hide (HQl.out.below hb)
          have HB2 := hide (HB.out.trans (hb.mono HB.out.size))
          clear hQ2 hb HN1 cX
          go_wp2_with fail
          refine Calls.mono (areSame_any Z2 Z j j j (nx D F ls) ls _ HQ2.out HQb.out (by rw [nx_len, ← HND.out, HLn.out, HNn.out]) HNl.out.symm (by have := HLn.out; have := HNn.out; omega) (fun k => ?_) HXp.out.r8) ?_
          · by_cases hk : k < D.length
            · rw [nx_row hk]; exact lst_r8 _
            · rw [row_out (by rw [nx_len]; exact hk)]; exact r8_nil
          rintro e w3 ⟨rfl, hb⟩
          have HB3 := hide (HB2.out.trans (hb.mono HB2.out.size))
          have HFl : Hid (fxR D F ls = decide (nx D F ls = ls) ∧ fxB D F ls = true) := hide ⟨fxR_yes (fxB_yes HXp.out), fxB_yes HXp.out⟩
          obtain ⟨R, hR⟩ : ∃ R, R = decide (nx D F ls = ls) := ⟨_, rfl⟩
          rw [← hR] at HFl ⊢
          clear hb hR
          go_wp2_with fail
          exact bodyPost_ret (v := .tuple #[.bool R, .bool true]) (by simp [results, Try.results31, go_sem]) rfl ⟨by rw [HFl.out.1, HFl.out.2], HB3.out⟩
    · have hln' : ((nl : Int) != (n : Int)) = true := by simp; omega
      have HFl := hide (HNo.out (fun h => hln (by have h1 := h.2.1; have h2 := HNl.out; have h3 := HNn.out; have h4 := HND.out; omega)) w1 HB1.out)
      clear hln
      go_wp2_with fail
      exact bodyPost_ret (v := .tuple #[.bool false, .bool false]) (by simp [results, Try.results31, go_sem]) rfl HFl.out
  · have hgf : goodF D F = false := by simpa using hg
    have HFl := hide (HNo.out (fun h => hg (goodF_iff.2 h.1)) w1 HB1.out)
    rw [hgf]
    clear hg hgf
    go_wp2_with fail
    exact bodyPost_ret (v := .tuple #[.bool false, .bool false]) (by simp [results, Try.results31, go_sem]) rfl HFl.out
set_option maxHeartbeats 8000000 in
theorem specFixed_any (v vin : Value) (D : List (List Int)) (n : Nat) (F ls : List (List Int)) (w : World) (h : FRow w v D n F) (hin : QV w vin ls) :
    Calls Try.prog 29 #[v, vin] w fun e w' => e = .returned (.tuple #[.bool (fxR D F ls), .bool (fxB D F ls)]) ∧ Below w.heap.size w w' := by
  have HGf := hide (fun (w' : World) (hb : Below w.heap.size w w') => specGoodF_any v D n F w' (h.below hb))
  have HIn := hide (fun (k : Nat) (w' : World) (hb : Below w.heap.size w w') (hx : FxP D F ls) (hk : k < D.length) => l12In_any v vin D n F ls k w' (h.below hb) hx.1 (hin.below hb) hx.2.1 hx.r8 hk)
  obtain ⟨ad, c, bd, bc, rfl, -, -, -, -, -, -, hF2⟩ := h
  obtain ⟨ai, ci, rfl, hI, hsm, hci⟩ := hin
  have HI := hide hI
  have HSm := hide hsm.2
  have hl1 := hsm.1
  obtain ⟨nd, hnd⟩ : ∃ nd, nd = D.length := ⟨_, rfl⟩
  obtain ⟨nl, hnl⟩ : ∃ nl, nl = ls.length := ⟨_, rfl⟩
  have hB0 : Below w.heap.size w (w.alloc (.cells #[.slice ad D.length c, .slice bd n bc] 33)) := (Below.refl _ _).alloc (Nat.le_refl _) _
  have HX := hide (Bx.new w #[.slice ad D.length c, .slice bd n bc] 33)
  rw [← hnd] at HX hB0 HGf HIn ⊢
  rw [← hnl] at hl1 HIn ⊢
  have HND := hide hnd
  have HNl := hide hnl
  have HF2 := hide hF2
  have HNo : Hid (¬ FxP D F ls → ∀ w' : World, Below w.heap.size w w' → Ending.returned (.tuple #[.bool false, .bool false]) = Ending.returned (.tuple #[.bool (fxR D F ls), .bool (fxB D F ls)]) ∧ Below w.heap.size w w') := hide (fun h w' hb => by rw [fxR_no (fxB_no h), fxB_no h]; exact ⟨rfl, hb⟩)
  clear hnd hnl hI hsm hci hF2
  go_enter Try.func29, Try.ntmps29
  go_upto_region 1 with fail
  obtain ⟨W1, hW1⟩ : ∃ W1, W1 = w.alloc (.cells #[.slice ad nd c, .slice bd n bc] 33) := ⟨_, rfl⟩
  obtain ⟨X, hX⟩ : ∃ X, X = w.heap.size := ⟨_, rfl⟩
  rw [← hW1] at HX hB0 ⊢
  rw [← hX] at HX ⊢
  clear hW1 hX
  have cX := HX.out.c
  go_wp2_with fail
  refine Calls.mono (HGf.out _ hB0) ?_
  rintro e w1 ⟨rfl, hb⟩
  have HB1 := hide (hB0.trans (hb.mono hB0.size))
  have HX1 := hide (HX.out.below hb HX.out.lt)
  clear cX hb HGf hB0 HX
  have cX := HX1.out.c
  by_cases hg : goodF D F = true
  · have HF := hide (goodF_iff.1 hg)
    have HNn : Hid (n = nd) := hide (by rw [HND.out]; have := (goodF_iff.1 hg).2.1; have := HF2.out; omega)
    have hn12 : nd ≤ 12 := by rw [HND.out]; exact (goodF_iff.1 hg).1.2.1
    rw [hg]
    clear hg
    by_cases hln : nl = n
    · have hln' : ((nl : Int) != (n : Int)) = false := by rw [hln]; simp
      have HLn := hide hln
      clear hln
      go_wp2_with fail
      clear cX hln'
      go_loopw [22] (fun i w' => ∃ (j : Nat), j ≤ nl ∧ i = .int .i64 j ∧ (∀ q, q < j → RisL (row ls q) 8) ∧ w' = w1) (fun i _ => nl - (intOf i).toNat)
      case atStart => exact ⟨0, by omega, rfl, by intros; omega, rfl⟩
      case round =>
        obtain ⟨j, hj, rfl, hlo, rfl⟩ := hrel
        have HLo := hide hlo
        clear hlo
        by_cases hlt : j < nl
        · have hlt' : (j : Int) < (nl : Int) := by omega
          have hjl : j < ls.length := by rw [← HNl.out]; exact hlt
          obtain ⟨b, o, a0, c0, rfl, p0, r0, -⟩ := QV.pv HI.out HB1.out hjl
          have hs6 : (row ls j).length ≤ 1048576 := row_sm HSm.out j
          have HRs := hide (l12Names_any a0 c0 (row ls j) wr r0 hs6)
          obtain ⟨m0, hm0⟩ : ∃ m, m = (row ls j).length := ⟨_, rfl⟩
          rw [← hm0] at p0 HRs
          clear hm0 r0 hs6
          go_wp2_with fail
          refine Calls.mono HRs.out ?_
          rintro e w2 ⟨rfl, hw⟩
          obtain rfl := hw.symm
          by_cases hr : risB (row ls j) 8 = true
          · have HA2 : Hid (∀ q, q < j + 1 → RisL (row ls q) 8) := hide (fun q hq => by
              by_cases e : q = j
              · rw [e]; exact risB_iff.1 hr
              · exact HLo.out q (by omega))
            rw [hr]
            clear hr HRs p0
            go_wp2_with fail
            exact ⟨⟨j + 1, by omega, by go_num, HA2.out, trivial⟩, by simp [intOf]; omega⟩
          · have hrf : risB (row ls j) 8 = false := by simpa using hr
            have HFl := hide (HNo.out (fun h => hr (risB_iff.2 (h.2.2 j (by have h1 := h.2.1; have h2 := HNl.out; omega)))) wr HB1.out)
            rw [hrf]
            clear hr hrf HRs p0
            go_wp2_with fail
            exact bodyPost_ret (v := .tuple #[.bool false, .bool false]) (by simp [results, Try.results29, go_sem]) rfl HFl.out
        · obtain rfl : j = nl := by omega
          have HXp : Hid (FxP D F ls) := hide ⟨HF.out, by rw [← HNl.out, HLn.out, HNn.out, HND.out], fun k hk => HLo.out k (by rw [HLn.out, HNn.out, HND.out]; exact hk)⟩
          have cX := HX1.out.c
          go_wp2_with fail
          clear cX
          obtain ⟨W2, hW2⟩ : ∃ W2, W2 = wr := ⟨_, rfl⟩
          rw [← hW2] at HX1 HB1 ⊢
          clear hW2
          go_loopw [33] (fun i w' => ∃ (k : Nat), k ≤ n ∧ i = .int .i64 k ∧ (∀ q, q < k → ni D F ls q = row ls q) ∧ Below W2.heap.size W2 w') (fun i _ => n - (intOf i).toNat)
          case atStart => exact ⟨0, by omega, rfl, by intros; omega, Below.refl _ _⟩
          case round =>
            obtain ⟨k, hk, rfl, hA, hB⟩ := hrel
            have HA := hide hA
            have HB := hide hB
            by_cases hkn : k < n
            · have hkn' : (k : Int) < (n : Int) := by omega
              have hk0 : (0 : Int) ≤ (k : Int) := by omega
              have hkj : k < j := by have := HLn.out; omega
              have hkj' : (k : Int) < (j : Int) := by omega
              have hknd : k < nd := by have := HNn.out; omega
              have hkl : k < ls.length := by rw [← HNl.out]; exact hkj
              have hkD : k < D.length := by rw [← HND.out]; exact hknd
              have hBw := HB1.out.trans (hB.mono HB1.out.size)
              obtain ⟨b, o, a0, c0, rfl, p0, r0, -⟩ := QV.pv HI.out hBw hkl
              have R8k := HXp.out.r8 k
              have HC := hide (fun (w' : World) (hb : Below wr.heap.size wr w') => HIn.out k w' (hBw.trans (hb.mono hBw.size)) HXp.out hknd)
              have HSame := hide (fun (x : Value) (w' : World) (hb : Below wr.heap.size wr w') (hx : NV w' x (ni D F ls k)) => l12Same_any x (.slice a0 (row ls k).length c0) (ni D F ls k) (row ls k) w' (hx.iv (by have := r8_len (lst_r8 (niB D F ls k)); unfold ni; omega)) ⟨_, _, rfl, RRow.below r0 hb, by have := r8_len R8k; omega⟩)
              have HCell : Hid (∀ (w' : World), Below wr.heap.size wr w' → w'.cell? ⟨b, o + k, none⟩ = some (.slice a0 (row ls k).length c0) ∧ ∀ oo, w'.cell? ⟨X, oo, none⟩ = #[Value.slice ad nd c, .slice bd n bc][oo]?) := hide (fun w' hb => ⟨(hb.cell (p := ⟨b, o + k, none⟩) (World.block_lt_of_cell? _ _ p0)).trans p0, ((HX1.out.below hB HX1.out.lt).below hb (HX1.out.below hB HX1.out.lt).lt).c⟩)
              obtain ⟨m0, hm0⟩ : ∃ m, m = (row ls k).length := ⟨_, rfl⟩
              rw [← hm0] at p0 HSame HCell
              obtain ⟨R, hR⟩ : ∃ R, R = decide (ni D F ls k = row ls k) := ⟨_, rfl⟩
              rw [← hR] at HSame
              have HRr := hide hR
              obtain ⟨nn, hnn⟩ : ∃ nn, nn = ni D F ls k := ⟨_, rfl⟩
              rw [← hnn] at HC HSame
              have cX := (HCell.out wr (Below.refl _ _)).2
              have HW0 := hide (Below.refl wr.heap.size wr)
              clear r0 hm0 R8k hA hB hBw hR hnn
              go_wp2_with fail
              go_region_with (first
                | (with_reducible refine Calls.mono (HSame.out _ _ HW2.out HNv.out) ?_); rintro e w4 ⟨rfl, hb⟩; have HW4 := hide (HW2.out.trans (hb.mono HW2.out.size)); clear hb
                | (with_reducible refine Calls.mono (HC.out _ (belowDrwK HW0.out)) ?_); rintro e w2 ⟨x, rfl, hv, hb⟩; have HNv := hide hv; obtain ⟨xa, xc, rfl, -⟩ := hv.form; have HW2 := hide (show Below wr.heap.size wr w2 from ⟨hb.os, hb.tape, hb.output, hb.size, hb.block⟩); have hcc := HCell.out w2 HW2.out; have p2 := hcc.1; have c2 := hcc.2; clear hv hb hcc)
              all_goals
                have HB4 := hide (HB.out.trans (HW4.out.mono HB.out.size))
                clear p0 p2 c2 cX HCell HSame HC
                cases R with
                | true =>
                  have HA2 : Hid (∀ q, q < k + 1 → ni D F ls q = row ls q) := hide (fun q hq => by
                    by_cases e : q = k
                    · rw [e]; exact of_decide_eq_true HRr.out.symm
                    · exact HA.out q (by omega))
                  go_wp2_with fail
                  exact ⟨⟨k + 1, by omega, by go_num, HA2.out, HB4.out⟩, by simp [intOf]; omega⟩
                | false =>
                  have HFl : Hid (fxR D F ls = false ∧ fxB D F ls = true) := hide ⟨by
                    rw [fxR_yes (fxB_yes HXp.out)]
                    exact decide_eq_false (fun e => of_decide_eq_false HRr.out.symm ((nx_iff HXp.out.2.1).1 e k hkD)), fxB_yes HXp.out⟩
                  have HBf := hide (HB1.out.trans (HB4.out.mono HB1.out.size))
                  go_wp2_with fail
                  exact bodyPost_ret (v := .tuple #[.bool false, .bool true]) (by simp [results, Try.results29, go_sem]) rfl ⟨by rw [HFl.out.1, HFl.out.2], HBf.out⟩
            · obtain rfl : k = n := by omega
              have HFl : Hid (fxR D F ls = true ∧ fxB D F ls = true) := hide ⟨by
                rw [fxR_yes (fxB_yes HXp.out)]
                exact decide_eq_true ((nx_iff HXp.out.2.1).2 (fun q hq => HA.out q (by rw [HNn.out, HND.out]; exact hq))), fxB_yes HXp.out⟩
              have HBf := hide (HB1.out.trans (HB.out.mono HB1.out.size))
              go_wp2_with fail
              exact bodyPost_ret (v := .tuple #[.bool true, .bool true]) (by simp [results, Try.results29, go_sem]) rfl ⟨by rw [HFl.out.1, HFl.out.2], HBf.out⟩
    · have hln' : ((nl : Int) != (n : Int)) = true := by simp; omega
      have HFl := hide (HNo.out (fun h => hln (by have h1 := h.2.1; have h2 := HNl.out; have h3 := HNn.out; have h4 := HND.out; omega)) w1 HB1.out)
      clear hln
      go_wp2_with fail
      exact bodyPost_ret (v := .tuple #[.bool false, .bool false]) (by simp [results, Try.results29, go_sem]) rfl HFl.out
  · have hgf : goodF D F = false := by simpa using hg
    have HFl := hide (HNo.out (fun h => hg (goodF_iff.2 h.1)) w1 HB1.out)
    rw [hgf]
    clear hg hgf
    go_wp2_with fail
    exact bodyPost_ret (v := .tuple #[.bool false, .bool false]) (by simp [results, Try.results29, go_sem]) rfl HFl.out
end Go.Proofs.Ytaniiolphghhiaa.W
