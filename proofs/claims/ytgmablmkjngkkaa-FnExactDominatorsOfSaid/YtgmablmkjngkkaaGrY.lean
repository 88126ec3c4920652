/-
  reachedFrom: what is reached, by the program. Conditions: a good graph, a first block that is one of it.
-/
import Derived.Test.YtgmablmkjngkkaaGrX
import Derived.Test.YtgmablmkjngkkaaGrV
import Derived.Deep.CutRange
import Derived.WalkMore
namespace Go.Proofs.Ytgmablmkjngkkaa.W
open Go.ChangeShapes Go.WideShapes Go.ChangeAt Go.RowKit Go.Joins
set_option linter.unusedVariables false
set_option maxRecDepth 20000

/-- Nothing is left out behind block k. -/
def ClF (L : List (List Int)) (no : Int) (f : Nat → Bool) (k : Nat) : Prop := f k = true → ∀ h : k < L.length, ∀ x ∈ L[k], x ≠ no → f x.toNat = true
theorem rc_unique {L : List (List Int)} {no : Int} {s : Nat} (hg : GG L) (hs : s < L.length) {f : Nat → Bool} (hf : ∀ k, k < 12 → f k = true → Rc L no s k) (h0 : (s : Int) ≠ no → f s = true)
    (hc : ∀ k, k < L.length → ClF L no f k) : ∀ k, k < 12 → f k = rc L no s k := by
  intro k hk
  rw [Bool.eq_iff_iff, rc_iff]
  constructor
  · exact hf k hk
  · intro h
    induction h with
    | start h => exact h0 h
    | step h1 h2 h3 ih =>
      have hl := h2.lt hg
      have := hg.2.1
      have := hc _ hl.1 (ih (by omega)) hl.1 _ h2.2 h3
      simpa using this

set_option maxHeartbeats 8000000 in
theorem reachedFrom_any (v : Value) (L : List (List Int)) (s : Nat) (no : Int) (w : World) (h : GRow w v L) (hg : GG L) (hs : s < L.length) :
    Calls Try.prog 68 #[v, .int .i64 (s : Int), .int .i64 no] w fun e w' => e = .returned (.agg (sA (rc L no s))) ∧ Below w.heap.size w w' := by
  obtain ⟨ad, c, rfl, hR, hsm, hlc⟩ := h
  obtain ⟨W2, hW2⟩ : ∃ W2, W2 = ((w.alloc (.cells #[.slice ad L.length c] 28)).alloc (.cells (sA fun _ => false) 60)).alloc (.cells (sA fun _ => false) 60) := ⟨_, rfl⟩
  have hB2 : Below w.heap.size w W2 := by rw [hW2]; exact (((Below.refl _ _).alloc (Nat.le_refl _) _).alloc (by simp) _).alloc (by simp; omega) _
  have HX : Hid (Bx W2 w.heap.size #[.slice ad L.length c] 28) := hide (by rw [hW2]; exact ((Bx.new w _ _).alloc _).alloc _)
  have HX6 : Hid (Bx W2 (w.heap.size + 1) (sA fun _ => false) 60) := hide (by rw [hW2]; have := (Bx.new (w.alloc (.cells #[.slice ad L.length c] 28)) (sA fun _ => false) 60).alloc (.cells (sA fun _ => false) 60); simpa using this)
  have HX7 : Hid (Bx W2 (w.heap.size + 2) (sA fun _ => false) 60) := hide (by rw [hW2]; have := Bx.new ((w.alloc (.cells #[.slice ad L.length c] 28)).alloc (.cells (sA fun _ => false) 60)) (sA fun _ => false) 60; simpa using this)
  have HR := hide (hR.below hB2)
  have hR0 := hR
  have HG := hide hg
  have HW2 := hide hW2
  have hl12 := hg.2.1
  clear hR hsm hlc hg hW2
  go_enter Try.func68, Try.ntmps68
  go_wp2_with fail
  refine wp_scope_straight ?_
  go_upto_region 2 with fail
  rw [show (((w.alloc (.cells #[.slice ad L.length c] 28)).alloc (.cells #[.bool false, .bool false, .bool false, .bool false, .bool false, .bool false, .bool false, .bool false, .bool false, .bool false, .bool false, .bool false] 60)).alloc (.cells #[.bool false, .bool false, .bool false, .bool false, .bool false, .bool false, .bool false, .bool false, .bool false, .bool false, .bool false, .bool false] 60)) = W2 from HW2.out.symm]
  obtain ⟨B7, hB7⟩ : ∃ B7, B7 = w.heap.size + 2 := ⟨_, rfl⟩
  obtain ⟨B6, hB6⟩ : ∃ B6, B6 = w.heap.size + 1 := ⟨_, rfl⟩
  rw [← hB7] at HX7 ⊢
  rw [← hB6] at HX6 ⊢
  have hl7 : w.heap.size < B7 := by omega
  have hl6 : w.heap.size < B6 := by omega
  have h67 : B6 ≠ B7 := by omega
  have h76 : B7 ≠ B6 := by omega
  clear hB7 hB6 HW2
  by_cases hsn : (s : Int) = no
  · have hsb : ((s : Int) == no) = true := by rw [beq_iff_eq]; exact hsn
    have HE : Hid (sA (rc L no s) = sA (fun _ => false)) := hide (sA_congr (fun i _ => by
      rw [Bool.eq_false_iff]
      intro h
      exact (rc_iff.1 h).first hsn))
    clear hsn
    go_wp2_with (first | (refine wpList_load_row rfl 60 _ rfl B7 rfl 60 _ (0, 0) _ HX7.out Try.underlying60 rfl bsInfo ?_) | (refine wpList_store_row rfl 60 _ _ rfl B6 _ rfl rfl 60 _ HX6.out bsInfo rfl (sA_one _) ?_))
    rw [Exit.noGoto_ret]
    refine bodyPost_ret (v := .agg (sA fun _ => false)) (results_cell_row (p := 6) rfl _ _ B6 60 _ (0, 0) _ rfl (setRow_same HX6.out _) Try.underlying60 rfl bsInfo) rfl ⟨by rw [HE.out], setRow_below _ hB2 (by omega)⟩
  have hsb : ((s : Int) == no) = false := beq_eq_false_iff_ne.2 hsn
  have hs12 : (s : Int) < 12 := by omega
  have c7 : W2.cell? ⟨B7, s, none⟩ = some (.bool false) := by rw [HX7.out.c]; exact sA_at _ (by omega)
  have f7 := HX7.out.f
  have HX7b := hide (HX7.out.set s (.bool true))
  rw [sA_set] at HX7b
  have HX6b := hide (HX6.out.setne B7 s (.bool true) h67)
  have HXb := hide (HX.out.setne B7 s (.bool true) (by omega))
  have hB3 := hB2.setCell (p := ⟨B7, s, none⟩) (show w.heap.size ≤ B7 by omega) (.bool true)
  have HR3 : Hid (QRow (W2.setCell ⟨B7, s, none⟩ (.bool true)) ad L) := hide (hR0.below hB3)
  have Hsn := hide hsn
  clear hsn
  go_upto_region 5 with (refine wp_label ?_)
  clear c7 f7 hsb
  obtain ⟨W3, hW3⟩ : ∃ W3, W3 = W2.setCell ⟨B7, s, none⟩ (.bool true) := ⟨_, rfl⟩
  rw [← hW3] at HX7b HX6b HXb hB3 HR3 ⊢
  clear hW3 HX7 HX6 HX HR hB2
  go_loopw [18] (fun _ w' => ∃ f : Nat → Bool, Bx w' B7 (sA f) 60 ∧ (∀ k, k < 12 → f k = true → Rc L no s k) ∧ f s = true ∧ Bx w' B6 (sA fun _ => false) 60 ∧ Bx w' w.heap.size #[.slice ad L.length c] 28 ∧ Below w.heap.size w w') (fun _ w' => cntF w' B7)
  case atStart =>
    refine ⟨_, HX7b.out, fun k hk h => ?_, upd_same _ _ _, HX6b.out, HXb.out, hB3⟩
    by_cases e : k = s
    · subst e; exact .start Hsn.out
    · rw [upd_other _ _ _ e] at h; cases h
  case round =>
    clear HX7b HX6b HXb hB3 HR3
    obtain ⟨f, hX7, hf, hfs, hX6, hX, hB⟩ := hrel
    have HX7 := hide hX7
    have HX6 := hide hX6
    have HF := hide hf
    have HFs := hide hfs
    have HX := hide hX
    have HB := hide hB
    have cx := hX.c
    have hbs : w.heap.size < wr.heap.size := hX.lt
    have HR : Hid (QRow wr ad L) := hide (hR0.below hB)
    have HCt := hide (cntF_bx hX7)
    clear hX7 hX6 hf hfs hX hB
    go_wp2_with fail
    clear cx
    go_loopw [21] (fun i w' => ∃ j : Nat, j ≤ L.length ∧ i = .int .i64 j ∧ (∀ k, k < j → ClF L no f k) ∧ w' = wr) (fun i _ => L.length - (intOf i).toNat)
    case atStart => exact ⟨0, by omega, rfl, by intros; omega, rfl⟩
    case round =>
      obtain ⟨j, hj, rfl, hcl, rfl⟩ := hrel
      have HC := hide hcl
      clear hcl
      by_cases hlt : j < L.length
      · have hlt' : (j : Int) < (L.length : Int) := by omega
        obtain ⟨b, oo, v, rfl, hb, p0, pv⟩ := QRow.at HR.out (Below.refl _ _) hlt
        obtain ⟨ad1, c1, rfl, pr, -⟩ := pv
        obtain ⟨l, hl1⟩ : ∃ l, l = L[j] := ⟨_, rfl⟩
        rw [← hl1] at p0 pr
        have HL := hide hl1
        have HP := hide pr
        have hll : l.length ≤ 12 := by
          have := (HG.out.2.2 j hlt).len
          rw [← hl1] at this
          omega
        clear hl1 pr
        go_wp2_with fail
        clear p0
        go_loopw [28] (fun i w' => ∃ m : Nat, m ≤ l.length ∧ i = .int .i64 m ∧ (∀ q (hq : q < l.length), q < m → f j = true → l[q] ≠ no → f l[q].toNat = true) ∧ w' = wr) (fun i _ => l.length - (intOf i).toNat)
        case atStart => exact ⟨0, by omega, rfl, by intros; omega, rfl⟩
        case round =>
          obtain ⟨m, hm, rfl, hcl, rfl⟩ := hrel
          have HC2 := hide hcl
          clear hcl
          by_cases hlm : m < l.length
          · have hlm' : (m : Int) < (l.length : Int) := by omega
            obtain ⟨b1, o1, rfl, hb1, p0⟩ := IRow.iat HP.out (Below.refl _ _) hlm
            have hmem : l[m] ∈ L[j] := by rw [← HL.out]; exact List.getElem_mem hlm
            have hbd := (HG.out.2.2 j hlt).mem hmem
            obtain ⟨X, hX⟩ : ∃ X : Nat, l[m] = (X : Int) := ⟨l[m].toNat, by omega⟩
            rw [hX] at p0 hbd
            have HXx := hide hX
            have HXm := hide hmem
            clear hX hmem
            have hX12 : X < 12 := by omega
            have hX12' : (X : Int) < 12 := by omega
            have hj12 : (j : Int) < 12 := by omega
            have cj : wr.cell? ⟨B7, j, none⟩ = some (.bool (f j)) := by rw [HX7.out.c]; exact sA_at _ (by omega)
            have cX : wr.cell? ⟨B7, X, none⟩ = some (.bool (f X)) := by rw [HX7.out.c]; exact sA_at _ (by omega)
            have fz := HX7.out.f
            obtain ⟨bj, hbj⟩ : ∃ bj, bj = f j := ⟨_, rfl⟩
            obtain ⟨bX, hbX⟩ : ∃ bX, bX = f X := ⟨_, rfl⟩
            rw [← hbj] at cj
            rw [← hbX] at cX
            have Hbj := hide hbj
            have HbX := hide hbX
            clear hbj hbX hbd
            have HN : Hid ((bj = true → (X : Int) ≠ no → bX = true) → ∀ q (hq : q < l.length), q < m + 1 → f j = true → l[q] ≠ no → f l[q].toNat = true) := hide (fun hh q hq hqm h1 h2 => by
              by_cases e : q = m
              · subst e
                rw [HXx.out] at h2 ⊢
                rw [show ((X : Int)).toNat = X by omega, ← HbX.out]
                exact hh (by rw [Hbj.out]; exact h1) h2
              · exact HC2.out q hq (by omega) h1 h2)
            cases bj with
            | false =>
              have HN2 := hide (HN.out (fun h => by cases h))
              clear cX
              go_wp2_with fail
              exact ⟨⟨m + 1, by omega, by go_num, HN2.out, trivial⟩, by simp [intOf]; omega⟩
            | true =>
              cases bX with
              | true =>
                have HN2 := hide (HN.out (fun _ _ => rfl))
                go_wp2_with fail
                exact ⟨⟨m + 1, by omega, by go_num, HN2.out, trivial⟩, by simp [intOf]; omega⟩
              | false =>
                by_cases hxn : (X : Int) = no
                · have hxb : ((X : Int) == no) = true := by rw [beq_iff_eq]; exact hxn
                  have HN2 := hide (HN.out (fun _ h => absurd hxn h))
                  clear hxn
                  go_wp2_with fail
                  exact ⟨⟨m + 1, by omega, by go_num, HN2.out, trivial⟩, by simp [intOf]; omega⟩
                · have hxb : ((X : Int) == no) = false := beq_eq_false_iff_ne.2 hxn
                  have HX7n := hide (HX7.out.set X (.bool true))
                  rw [sA_set] at HX7n
                  have HX6n := hide (HX6.out.setne B7 X (.bool true) h67)
                  have HXn := hide (HX.out.setne B7 X (.bool true) (by omega))
                  have HBn := hide (HB.out.setCell (p := ⟨B7, X, none⟩) (show w.heap.size ≤ B7 by omega) (.bool true))
                  have HFn : Hid (∀ k, k < 12 → upd f X true k = true → Rc L no s k) := hide (fun k hk h => by
                    by_cases e : k = X
                    · subst e
                      exact (HF.out j (by omega) Hbj.out.symm).step ⟨hlt, by rw [← HXx.out]; exact HXm.out⟩ hxn
                    · rw [upd_other _ _ _ e] at h; exact HF.out k hk h)
                  have HFsn : Hid (upd f X true s = true) := hide (by
                    by_cases e : s = X
                    · subst e; exact upd_same _ _ _
                    · rw [upd_other _ _ _ e]; exact HFs.out)
                  have HM : Hid (cntF (wr.setCell ⟨B7, X, none⟩ (.bool true)) B7 < cntF wr B7) := hide (by
                    rw [cntF_bx HX7n.out, HCt.out]
                    have := nF_upd f HbX.out.symm 12 hX12
                    omega)
                  clear hxn
                  go_wp2_with fail
                  exact ⟨⟨_, HX7n.out, HFn.out, HFsn.out, HX6n.out, HXn.out, HBn.out⟩, HM.out⟩
          · have HN : Hid (∀ k, k < j + 1 → ClF L no f k) := hide (fun k hk => by
              by_cases e : k = j
              · subst e
                intro h1 hkl x hx hn
                rw [← HL.out] at hx
                obtain ⟨q, hq, rfl⟩ := List.getElem_of_mem hx
                exact HC2.out q hq (by omega) h1 hn
              · exact HC.out k (by omega))
            go_wp2_with fail
            exact ⟨⟨j + 1, by omega, by go_num, HN.out, trivial⟩, by simp [intOf]; omega⟩
      · have HE : Hid (sA (rc L no s) = sA f) := hide (sA_congr (fun k hk => (rc_unique HG.out hs HF.out (fun _ => HFs.out) (fun k hk => HC.out k (by omega)) k hk).symm))
        go_wp2_with (first | (refine wpList_load_row rfl 60 _ rfl B7 rfl 60 _ (0, 0) _ HX7.out Try.underlying60 rfl bsInfo ?_) | (refine wpList_store_row rfl 60 _ _ rfl B6 _ rfl rfl 60 _ HX6.out bsInfo rfl (sA_one _) ?_))
        rw [Exit.noGoto_ret]
        refine bodyPost_ret (v := .agg (sA f)) (results_cell_row (p := 6) rfl _ _ B6 60 _ (0, 0) _ rfl (setRow_same HX6.out _) Try.underlying60 rfl bsInfo) rfl ⟨by rw [HE.out], setRow_below _ HB.out (by omega)⟩
end Go.Proofs.Ytgmablmkjngkkaa.W
