/-
  Both IsStrict. Conditions: at most 1048576 numbers. Written by wip/build/mk_jns.py.
-/
import Derived.Test.YtochhnibegcbpaaJnJ
namespace Go.Proofs.Ytochhnibegcbpaa.W
open Go.ChangeShapes Go.WideShapes Go.ChangeAt Go.RowKit Go.Joins
set_option linter.unusedVariables false
set_option linter.unusedSimpArgs false

/-- One of the set dominates u. -/
def StP (L : List (List Int)) (s : List Int) (u : Nat) : Prop := ∃ d : Nat, (d : Int) ∈ s ∧ Dom L u d
noncomputable def isB (L : List (List Int)) (s us : List Int) : Bool := goodG L && (bG L s && bG L us)
open Classical in
noncomputable def stB (L : List (List Int)) (s us : List Int) : Bool := decide (∀ u : Nat, (u : Int) ∈ us → StP L s u)
theorem stB_iff {L : List (List Int)} {s us : List Int} : stB L s us = true ↔ ∀ u : Nat, (u : Int) ∈ us → StP L s u := by simp [stB]
/-- What IsStrict tells. -/
noncomputable def isR (L : List (List Int)) (s us : List Int) : Bool := isB L s us && stB L s us
theorem isR_no {L : List (List Int)} {s us : List Int} (h : isB L s us = false) : isR L s us = false := by rw [isR, h]; rfl
theorem isR_yes {L : List (List Int)} {s us : List Int} (h : isB L s us = true) (h2 : ∀ u : Nat, (u : Int) ∈ us → StP L s u) : isR L s us = true := by
  rw [isR, h, Bool.true_and]; exact stB_iff.2 h2
theorem isR_not {L : List (List Int)} {s us : List Int} {u : Nat} (h1 : (u : Int) ∈ us) (h2 : ¬ StP L s u) : isR L s us = false := by
  rw [isR, Bool.and_eq_false_iff]
  right
  rw [Bool.eq_false_iff]
  exact fun h => h2 (stB_iff.1 h u h1)
theorem shared_none {L : List (List Int)} (hg : GG L) {s : List Int} {u : Nat} : sEq (fun i => dm L u i && inS s i) (fun _ => false) = false ↔ StP L s u := by
  rw [Bool.eq_false_iff, ne_eq, sEq_iff]
  constructor
  · intro h
    refine Classical.byContradiction (fun hn => h (sA_congr (fun i hi => ?_)))
    rw [Bool.eq_false_iff]
    intro hc
    rw [Bool.and_eq_true, dm_iff, inS_iff] at hc
    exact hn ⟨i, hc.2, hc.1⟩
  · rintro ⟨d, h1, h2⟩ h
    have := sA_inj h d (by have := (h2.lt hg).2; have := hg.2.1; omega)
    rw [Bool.eq_false_iff] at this
    exact this (by rw [Bool.and_eq_true, dm_iff, inS_iff]; exact ⟨h2, h1⟩)

set_option maxHeartbeats 8000000 in
theorem implStrict_any (v s1 s2 : Value) (L : List (List Int)) (l us : List Int) (w : World) (h : GRow w v L) (hs : NV w s1 l) (hl : l.length ≤ 1048576) (hu : NV w s2 us) (hul : us.length ≤ 1048576) :
    Calls Try.prog 31 #[v, s1, s2] w fun e w' => e = .returned (.tuple #[.bool (isR L l us), .bool (isB L l us)]) ∧ Below w.heap.size w w' := by
  obtain ⟨ad, c, rfl, hR, hsm, hlc⟩ := h
  obtain ⟨sa, sc, rfl, -⟩ := hs.form
  obtain ⟨ua, uc, rfl, -⟩ := hu.form
  have hB0 : Below w.heap.size w (w.alloc (.cells #[.slice ad L.length c] 28)) := (Below.refl _ _).alloc (Nat.le_refl _) _
  have HX := hide (Bx.new w #[.slice ad L.length c] 28)
  have HV : Hid (∀ w', Below w.heap.size w w' → GRow w' (.agg #[.slice ad L.length c]) L) := hide (fun w' hb => ⟨ad, c, rfl, hR.below hb, hsm, hlc⟩)
  have HS : Hid (∀ w', Below w.heap.size w w' → NV w' (.slice sa l.length sc) l) := hide (fun w' hb => hs.below hb)
  have HU : Hid (∀ w', Below w.heap.size w w' → NV w' (.slice ua us.length uc) us) := hide (fun w' hb => hu.below hb)
  have hz := (zero_of_info dInfo).1
  clear hR hsm hlc hs hu
  go_enter Try.func31, Try.ntmps31
  go_wp2_with fail
  refine Calls.mono (implGoodG_any _ L _ (HV.out _ hB0)) ?_
  rintro e w1 ⟨rfl, hb⟩
  have hB1 := hB0.trans (hb.mono hB0.size)
  have HX1 := hide (HX.out.below hb HX.out.lt)
  clear hb hB0 HX
  have cx := HX1.out.c
  have lx := HX1.out.lt
  have HNo : Hid (isB L l us = false → ∀ w', Below w.heap.size w w' → Ending.returned (.tuple #[.bool false, .bool false]) = .returned (.tuple #[.bool (isR L l us), .bool (isB L l us)]) ∧ Below w.heap.size w w') := hide (fun he w' hb => ⟨by rw [isR_no he, he], hb⟩)
  by_cases hg : goodG L = true
  · have HGG := hide (goodG_iff.1 hg)
    have Hg := hide hg
    rw [hg]
    clear hg
    go_wp2_with fail
    refine Calls.mono (areReached_any _ _ L l _ (HV.out _ hB1) HGG.out (HS.out _ hB1) hl) ?_
    rintro e w2 ⟨rfl, hb⟩
    have hB2 := hB1.trans (hb.mono hB1.size)
    have HX2 := hide (HX1.out.below hb HX1.out.lt)
    clear hb cx lx HX1 hB1
    by_cases hbg : bG L l = true
    · have HBG := hide (bG_iff.1 hbg)
      have Hbg := hide hbg
      rw [hbg]
      clear hbg
      have cx := HX2.out.c
      have lx := HX2.out.lt
      go_wp2_with fail
      refine Calls.mono (areReached_any _ _ L us _ (HV.out _ hB2) HGG.out (HU.out _ hB2) hul) ?_
      rintro e w3 ⟨rfl, hb⟩
      have hB3 := hB2.trans (hb.mono hB2.size)
      have HX3 := hide (HX2.out.below hb HX2.out.lt)
      clear hb cx lx HX2 hB2
      by_cases hbu : bG L us = true
      · have HBU := hide (bG_iff.1 hbu)
        have HRe : Hid (isB L l us = true) := hide (by rw [isB, Hg.out, Hbg.out, hbu]; rfl)
        rw [hbu]
        clear hbu
        have cx := HX3.out.c
        have lx := HX3.out.lt
        go_wp2_with fail
        refine Calls.mono (dominators_any _ L _ (HV.out _ hB3) HGG.out) ?_
        rintro e w4 ⟨rfl, hb⟩
        have hB4 := hB3.trans (hb.mono hB3.size)
        clear hb cx lx HX3 hB3
        go_wp2_with fail
        refine Calls.mono (marksOf_any _ l _ (HS.out _ hB4) hl (HBG.out.blk HGG.out)) ?_
        rintro e w5 ⟨rfl, hb⟩
        have hB5 := hB4.trans (hb.mono hB4.size)
        clear hb hB4
        obtain ⟨f, hf⟩ : ∃ f, f = inS l := ⟨_, rfl⟩
        rw [← hf]
        have Hf := hide hf
        clear hf
        obtain ⟨W6, hW6⟩ : ∃ W6, W6 = (w5.alloc (.cells (dA fun _ _ => false) 65)).alloc (.cells (sA fun _ => false) 52) := ⟨_, rfl⟩
        have HD6 : Hid (Bx W6 w5.heap.size (dA fun _ _ => false) 65) := hide (by rw [hW6]; exact (Bx.new w5 _ _).alloc _)
        have HS6 : Hid (Bx W6 (w5.heap.size + 1) (sA fun _ => false) 52) := hide (by rw [hW6]; have := Bx.new (w5.alloc (.cells (dA fun _ _ => false) 65)) (sA fun _ => false) 52; simpa using this)
        have hB6 : Below w.heap.size w W6 := by rw [hW6]; exact (hB5.alloc hB5.size _).alloc (by have := hB5.size; simp; omega) _
        have HD7 : Hid (Bx (W6.setRow w5.heap.size (dA (dm L))) w5.heap.size (dA (dm L)) 65) := hide (setRow_same HD6.out _)
        have HS7 : Hid (Bx (W6.setRow w5.heap.size (dA (dm L))) (w5.heap.size + 1) (sA fun _ => false) 52) := hide ((setRow_ne _ (by omega)).trans HS6.out)
        have hB7 : Below w.heap.size w (W6.setRow w5.heap.size (dA (dm L))) := setRow_below _ hB6 hB5.size
        have HE6 : Hid ((w5.alloc (.cells (dA fun _ _ => false) 65)).alloc (.cells #[.bool false, .bool false, .bool false, .bool false, .bool false, .bool false, .bool false, .bool false, .bool false, .bool false, .bool false, .bool false] 52) = W6) := hide hW6.symm
        clear hW6
        go_upto_region 4 with (first | (rw [HE6.out]; refine wpList_store_row rfl 65 _ _ rfl w5.heap.size _ rfl rfl 65 _ HD6.out (by rw [dA_size]; exact dSize) (by rw [dA_size, dA_size]) (dA_one _) ?_) | (refine wpList_store_row rfl 52 _ _ rfl (w5.heap.size + 1) _ rfl rfl 52 _ HS7.out bsInfo rfl (sA_one _) ?_))
        obtain ⟨W8, hW8⟩ : ∃ W8, W8 = (W6.setRow w5.heap.size (dA (dm L))).setRow (w5.heap.size + 1) (sA f) := ⟨_, rfl⟩
        have HD8 : Hid (Bx W8 w5.heap.size (dA (dm L)) 65) := hide (by rw [hW8]; exact (setRow_ne _ (by omega)).trans HD7.out)
        have HS8 : Hid (Bx W8 (w5.heap.size + 1) (sA f) 52) := hide (by rw [hW8]; exact setRow_same HS7.out _)
        have hB8 : Below w.heap.size w W8 := by rw [hW8]; exact setRow_below _ hB7 (by have := hB5.size; omega)
        rw [← hW8]
        obtain ⟨B9, hB9⟩ : ∃ B9, B9 = w5.heap.size + 1 := ⟨_, rfl⟩
        obtain ⟨B8, hB8'⟩ : ∃ B8, B8 = w5.heap.size := ⟨_, rfl⟩
        rw [← hB9] at HS8 ⊢
        rw [← hB8'] at HD8 ⊢
        clear hW8 hB9 hB8' HE6 HD6 HS6 HD7 HS7 hB7 hB6 hz
        have HUs := hide (HU.out _ hB8)
        obtain ⟨nu, hnu⟩ : ∃ nu, nu = us.length := ⟨_, rfl⟩
        have Hnu := hide hnu
        rw [← hnu] at hul ⊢
        clear hnu hB5
        go_wp2_with fail
        go_loopw [33] (fun i w' => ∃ j : Nat, j ≤ nu ∧ i = .int .i64 j ∧ (∀ q (h : q < us.length), q < j → StP L l us[q].toNat) ∧ Bx w' B8 (dA (dm L)) 65 ∧ Bx w' B9 (sA f) 52 ∧ Below W8.heap.size W8 w') (fun i _ => nu - (intOf i).toNat)
        case atStart => exact ⟨0, by omega, rfl, by intros; omega, HD8.out, HS8.out, Below.refl _ _⟩
        case round =>
          clear HD8 HS8
          obtain ⟨j, hj, rfl, hall, hD, hS, hB⟩ := hrel
          have HA := hide hall
          have HD := hide hD
          have HSb := hide hS
          have HB := hide hB
          clear hall hD hS hB
          by_cases hlt : j < nu
          · have hlt' : (j : Int) < (nu : Int) := by omega
            have hju : j < us.length := by rw [← Hnu.out]; exact hlt
            obtain ⟨b1, o1, rfl, p0⟩ := NV.at HUs.out HB.out hju
            have hmem := List.getElem_mem hju
            have hbd := HBU.out.1.mem hmem
            obtain ⟨X, hX⟩ : ∃ X : Nat, us[j] = (X : Int) := ⟨us[j].toNat, by omega⟩
            rw [hX] at p0 hbd hmem
            have HXx := hide hX
            have HXm := hide hmem
            have hX12 : X < 12 := by have := HGG.out.2.1; omega
            have hX12' : (X : Int) < 12 := by omega
            clear hX hmem hbd
            obtain ⟨g, hg⟩ : ∃ g, g = dm L X := ⟨_, rfl⟩
            have Hg2 := hide hg
            clear hg
            have heq := run_eql_s (fun i => g i && f i) (fun _ => false)
            obtain ⟨q, hq⟩ : ∃ q, q = sEq (fun i => g i && f i) (fun _ => false) := ⟨_, rfl⟩
            rw [← hq] at heq
            have HQ : Hid (q = sEq (fun i => dm L X i && inS l i) (fun _ => false)) := hide (by rw [hq, Hg2.out, Hf.out])
            clear hq
            have hgu := fun w => run_eqGuard_agg (P := Try.prog) w .eql 52 (.tmp 41) (.tmp 42) (sA fun i => g i && f i) (sA fun _ => false) sGuard
            have k0 : Bx wr.drew B8 (dA (dm L)) 65 := HD.out
            have k1 : Bx wr.drew B9 (sA f) 52 := HSb.out
            have l0 := HD.out.lt
            have l1 := HSb.out.lt
            have hB : Below W8.heap.size W8 wr.drew := belowDrew8 HB.out
            go_upto_region 7 with fail
            clear p0
            refine wp_region_noPanic ?_
            refine wp_region_held_drew (S := fun w' => Bx w' B8 (dA (dm L)) 65 ∧ Bx w' B9 (sA f) 52) (by kernel_rfl) ⟨k0, k1⟩ (fun hHeld => ?_)
            refine wpAnyH_take (i := 0) (oi := _) (v := ?_) rfl (by kernel_rfl) (by kernel_rfl) (by kernel_rfl) (fun _ _ _ h => h) (Or.inl ⟨by rfl, ?_⟩) (by assumption) ?_
            rotate_left 1
            · (intro w hSw; clear hSw; (first | (go_simp; done) | (go_simp; with_reducible rfl)))
            try simp only [Act.put, List.getElem_toArray, List.getElem_cons_zero, List.getElem_cons_succ, List.setIfInBounds_toArray, List.set_cons_zero, List.set_cons_succ]
            refine wpAnyH_take (i := 1) (oi := _) (v := ?_) rfl (by kernel_rfl) (by kernel_rfl) (by kernel_rfl) (fun _ _ _ h => h) (Or.inl ⟨by rfl, ?_⟩) (by assumption) ?_
            rotate_left 1
            · (intro w hSw; clear hSw; (first | (go_simp; done) | (go_simp; with_reducible rfl)))
            try simp only [Act.put, List.getElem_toArray, List.getElem_cons_zero, List.getElem_cons_succ, List.setIfInBounds_toArray, List.set_cons_zero, List.set_cons_succ]
            refine wpAnyH_take (i := 2) (oi := _) (v := .agg (sA g)) rfl (by kernel_rfl) (by kernel_rfl) (by kernel_rfl) (fun _ _ _ h => h) (yieldsIf_load_mid (by rfl) 52 _ rfl B8 (X * 12) rfl (sL g) _ (fun w h => by rw [Hg2.out]; exact dA_rng h.1 hX12) Try.underlying52 rfl (bsInfo' _)) (by assumption) ?_
            try simp only [Act.put, List.getElem_toArray, List.getElem_cons_zero, List.getElem_cons_succ, List.setIfInBounds_toArray, List.set_cons_zero, List.set_cons_succ]
            refine wpAnyH_take (i := 3) (oi := _) (v := .agg (sA (f))) rfl (by kernel_rfl) (by kernel_rfl) (by kernel_rfl) (fun _ _ _ h => h) (yieldsIf_load_mid (by rfl) 52 _ rfl B9 (0) rfl (sL (f)) _ (fun w h => sA_rng h.2) Try.underlying52 rfl (bsInfo' _)) (by assumption) ?_
            try simp only [Act.put, List.getElem_toArray, List.getElem_cons_zero, List.getElem_cons_succ, List.setIfInBounds_toArray, List.set_cons_zero, List.set_cons_succ]
            refine wpAnyH_take (i := 5) (oi := _) (v := .agg (sA fun _ => false)) rfl (by kernel_rfl) (by kernel_rfl) (by kernel_rfl) (fun _ _ _ h => h) (Or.inl ⟨by rfl, ?_⟩) (by assumption) ?_
            · (intro w hSw; clear hSw; (first | (go_simp; done) | (go_simp; rfl)))
            try simp only [Act.put, List.getElem_toArray, List.getElem_cons_zero, List.getElem_cons_succ, List.setIfInBounds_toArray, List.set_cons_zero, List.set_cons_succ]
            refine wpAnyH_ready (rs := [4]) (by kernel_rfl) (by simp) ?_
            refine AllReadyH.cons (o := _) rfl (fun K hK => ?_) AllReadyH.nil
            go_simp
            (with_reducible refine Calls.mono (shared_any g f _) ?_)
            rintro r w9 ⟨rfl, hbc⟩
            replace k0 := k0.below hbc l0
            replace k1 := k1.below hbc l1
            replace hB := hB.trans (hbc.mono hB.size)
            clear hbc
            (try go_wp2_with fail)
            refine hK.out _ _ ⟨k0, k1⟩ (fun hHeld => ?_)
            clear hK K
            try simp only [Act.put, List.getElem_toArray, List.getElem_cons_zero, List.getElem_cons_succ, List.setIfInBounds_toArray, List.set_cons_zero, List.set_cons_succ]
            refine wpAnyH_take (i := 6) (oi := _) (v := .bool q) rfl (by kernel_rfl) (by kernel_rfl) (by kernel_rfl) (fun _ _ _ h => h) (Or.inl ⟨by rfl, ?_⟩) (by assumption) ?_
            · (intro w hSw; clear hSw; go_simp)
            try simp only [Act.put, List.getElem_toArray, List.getElem_cons_zero, List.getElem_cons_succ, List.setIfInBounds_toArray, List.set_cons_zero, List.set_cons_succ]
            refine wpAnyH_done (by kernel_rfl) ?_ _
            refine NoPanic.normal ?_
            clear hHeld
            clear heq hgu
            cases q with
            | true =>
              have HE : Hid (isR L l us = false) := hide (isR_not HXm.out (fun h => by have := (shared_none HGG.out).2 h; rw [← HQ.out] at this; cases this))
              have HBf := hide (hB8.trans (hB.mono hB8.size))
              go_wp2_with fail
              exact bodyPost_ret (v := .tuple #[.bool false, .bool true]) (by simp [results, Try.results31, go_sem]) rfl ⟨by rw [HE.out, HRe.out], HBf.out⟩
            | false =>
              have HA2 : Hid (∀ q (h : q < us.length), q < j + 1 → StP L l us[q].toNat) := hide (fun p h hp => by
                by_cases e : p = j
                · subst e
                  rw [HXx.out]
                  have h1 := (shared_none (u := X) HGG.out).1 HQ.out.symm
                  simpa using h1
                · exact HA.out p h (by omega))
              have HKs := hide (And.intro k0 (And.intro k1 hB))
              clear k0 k1 hB
              go_wp2_with fail
              exact ⟨⟨j + 1, by omega, by go_num, HA2.out, HKs.out.1, HKs.out.2.1, HKs.out.2.2⟩, by simp [intOf]; omega⟩
          · have HE : Hid (isR L l us = true) := hide (isR_yes HRe.out (fun u hu => by
              obtain ⟨q, hq, e⟩ := List.getElem_of_mem hu
              have := HA.out q hq (by have := Hnu.out; omega)
              rw [e] at this
              simpa using this))
            have HBf := hide (hB8.trans (HB.out.mono hB8.size))
            go_wp2_with fail
            exact bodyPost_ret (v := .tuple #[.bool true, .bool true]) (by simp [results, Try.results31, go_sem]) rfl ⟨by rw [HE.out, HRe.out], HBf.out⟩
      · rw [Bool.not_eq_true] at hbu
        have HRe : Hid (isB L l us = false) := hide (by rw [isB, Hg.out, Hbg.out, hbu]; rfl)
        rw [hbu]
        clear hbu hz
        go_wp2_with fail
        exact bodyPost_ret (v := .tuple #[.bool false, .bool false]) (by simp [results, Try.results31, go_sem]) rfl (HNo.out HRe.out _ hB3)
    · rw [Bool.not_eq_true] at hbg
      have HRe : Hid (isB L l us = false) := hide (by rw [isB, Hg.out, hbg]; rfl)
      rw [hbg]
      clear hbg hz
      go_wp2_with fail
      exact bodyPost_ret (v := .tuple #[.bool false, .bool false]) (by simp [results, Try.results31, go_sem]) rfl (HNo.out HRe.out _ hB2)
  · rw [Bool.not_eq_true] at hg
    have HRe : Hid (isB L l us = false) := hide (by rw [isB, hg]; rfl)
    rw [hg]
    clear hg hz
    go_wp2_with fail
    exact bodyPost_ret (v := .tuple #[.bool false, .bool false]) (by simp [results, Try.results31, go_sem]) rfl (HNo.out HRe.out _ hB1)

set_option maxHeartbeats 8000000 in
theorem specStrict_any (v s1 s2 : Value) (L : List (List Int)) (l us : List Int) (w : World) (h : GRow w v L) (hs : NV w s1 l) (hl : l.length ≤ 1048576) (hu : NV w s2 us) (hul : us.length ≤ 1048576) :
    Calls Try.prog 30 #[v, s1, s2] w fun e w' => e = .returned (.tuple #[.bool (isR L l us), .bool (isB L l us)]) ∧ Below w.heap.size w w' := by
  obtain ⟨ad, c, rfl, hR, hsm, hlc⟩ := h
  obtain ⟨sa, sc, rfl, -⟩ := hs.form
  obtain ⟨ua, uc, rfl, -⟩ := hu.form
  have hB0 : Below w.heap.size w (w.alloc (.cells #[.slice ad L.length c] 28)) := (Below.refl _ _).alloc (Nat.le_refl _) _
  have HX := hide (Bx.new w #[.slice ad L.length c] 28)
  have HV : Hid (∀ w', Below w.heap.size w w' → GRow w' (.agg #[.slice ad L.length c]) L) := hide (fun w' hb => ⟨ad, c, rfl, hR.below hb, hsm, hlc⟩)
  have HS : Hid (∀ w', Below w.heap.size w w' → NV w' (.slice sa l.length sc) l) := hide (fun w' hb => hs.below hb)
  have HU : Hid (∀ w', Below w.heap.size w w' → NV w' (.slice ua us.length uc) us) := hide (fun w' hb => hu.below hb)
  clear hR hsm hlc hs hu
  go_enter Try.func30, Try.ntmps30
  go_wp2_with fail
  refine Calls.mono (specGoodG_any _ L _ (HV.out _ hB0)) ?_
  rintro e w1 ⟨rfl, hb⟩
  have hB1 := hB0.trans (hb.mono hB0.size)
  have HX1 := hide (HX.out.below hb HX.out.lt)
  clear hb hB0 HX
  have cx := HX1.out.c
  have lx := HX1.out.lt
  have HNo : Hid (isB L l us = false → ∀ w', Below w.heap.size w w' → Ending.returned (.tuple #[.bool false, .bool false]) = .returned (.tuple #[.bool (isR L l us), .bool (isB L l us)]) ∧ Below w.heap.size w w') := hide (fun he w' hb => ⟨by rw [isR_no he, he], hb⟩)
  by_cases hg : goodG L = true
  · have HGG := hide (goodG_iff.1 hg)
    have Hg := hide hg
    rw [hg]
    clear hg
    go_wp2_with fail
    refine Calls.mono (l11Blocks_any _ _ L l _ (HV.out _ hB1) HGG.out (HS.out _ hB1) hl) ?_
    rintro e w2 ⟨rfl, hb⟩
    have hB2 := hB1.trans (hb.mono hB1.size)
    have HX2 := hide (HX1.out.below hb HX1.out.lt)
    clear hb cx lx HX1 hB1
    by_cases hbg : bG L l = true
    · have HBG := hide (bG_iff.1 hbg)
      have Hbg := hide hbg
      rw [hbg]
      clear hbg
      have cx := HX2.out.c
      have lx := HX2.out.lt
      go_wp2_with fail
      refine Calls.mono (l11Blocks_any _ _ L us _ (HV.out _ hB2) HGG.out (HU.out _ hB2) hul) ?_
      rintro e w3 ⟨rfl, hb⟩
      have hB3 := hB2.trans (hb.mono hB2.size)
      have HX3 := hide (HX2.out.below hb HX2.out.lt)
      clear hb cx lx HX2 hB2
      by_cases hbu : bG L us = true
      · have HBU := hide (bG_iff.1 hbu)
        have HRe : Hid (isB L l us = true) := hide (by rw [isB, Hg.out, Hbg.out, hbu]; rfl)
        rw [hbu]
        clear hbu
        have cx := HX3.out.c
        have lx := HX3.out.lt
        go_wp2_with fail
        refine Calls.mono (l10Dom_any _ L _ (HV.out _ hB3) HGG.out) ?_
        rintro e w4 ⟨S, rfl, -, hQ, hb⟩
        have hB4 := hB3.trans (hb.mono hB3.size)
        have HQ := hide hQ
        have HUs := hide (HU.out _ hB4)
        have HSs := hide (HS.out _ hB4)
        clear hb cx lx HX3 hB3 hQ
        obtain ⟨nu, hnu⟩ : ∃ nu, nu = us.length := ⟨_, rfl⟩
        have Hnu := hide hnu
        obtain ⟨nl, hnl⟩ : ∃ nl, nl = l.length := ⟨_, rfl⟩
        have Hnl := hide hnl
        rw [← hnu] at hul ⊢
        rw [← hnl] at hl ⊢
        clear hnu hnl
        go_wp2_with fail
        go_loopw [33] (fun i w' => ∃ j : Nat, j ≤ nu ∧ i = .int .i64 j ∧ (∀ q (h : q < us.length), q < j → StP L l us[q].toNat) ∧ w' = w4) (fun i _ => nu - (intOf i).toNat)
        case atStart => exact ⟨0, by omega, rfl, by intros; omega, rfl⟩
        case round =>
          obtain ⟨j, hj, rfl, hall, rfl⟩ := hrel
          have HA := hide hall
          clear hall
          by_cases hlt : j < nu
          · have hlt' : (j : Int) < (nu : Int) := by omega
            have hju : j < us.length := by rw [← Hnu.out]; exact hlt
            obtain ⟨b1, o1, rfl, p0⟩ := NV.at HUs.out (Below.refl _ _) hju
            have hmem := List.getElem_mem hju
            have hbd := HBU.out.1.mem hmem
            obtain ⟨X, hX⟩ : ∃ X : Nat, us[j] = (X : Int) := ⟨us[j].toNat, by omega⟩
            rw [hX] at p0 hbd hmem
            have HXx := hide hX
            have HXm := hide hmem
            have hXl : X < L.length := by omega
            have hXl' : (X : Int) < (L.length : Int) := by omega
            clear hX hmem hbd
            go_wp2_with fail
            clear p0
            obtain ⟨xP, qP, hNP⟩ := HQ.out.at (q := X) (by rw [dls_len]; exact hXl)
            rw [dls_at] at hNP
            have HPM : Hid (∀ D : Nat, decide ((D : Int) ∈ dl L X) = dm L X D) := hide (fun D => by rw [Bool.eq_iff_iff, decide_eq_true_eq, dl_mem HGG.out, dm_iff])
            have hPn := dl_len L X
            obtain ⟨LP, hLP⟩ : ∃ LP, LP = dl L X := ⟨_, rfl⟩
            rw [← hLP] at hNP HPM hPn
            obtain ⟨aP, cP, rfl, -⟩ := hNP.form
            have HNP := hide hNP
            clear hNP hLP
            go_loopw [11, 39] (fun v11 i w' => ∃ (m : Nat) (b : Bool), m ≤ nl ∧ i = .int .i64 m ∧ v11 = .bool b ∧ (b = true ↔ ∃ q, ∃ h : q < l.length, q < m ∧ Dom L X l[q].toNat) ∧ w' = wr) (fun _ i _ => nl - (intOf i).toNat)
            case atStart => exact ⟨0, false, by omega, rfl, rfl, by constructor <;> simp, rfl⟩
            case round =>
              obtain ⟨m, b, hm, rfl, rfl, hbq, rfl⟩ := hrel
              have Hb := hide hbq
              clear hbq
              by_cases hlm : m < nl
              · have hlm' : (m : Int) < (nl : Int) := by omega
                have hml : m < l.length := by rw [← Hnl.out]; exact hlm
                obtain ⟨b2, o2, rfl, p0⟩ := NV.at HSs.out (Below.refl _ _) hml
                have hbd := HBG.out.1.mem (List.getElem_mem hml)
                obtain ⟨D, hD⟩ : ∃ D : Nat, l[m] = (D : Int) := ⟨l[m].toNat, by omega⟩
                rw [hD] at p0
                have HD := hide hD
                have HN : Hid (∀ b2 : Bool, b2 = (b || dm L X D) → (b2 = true ↔ ∃ q, ∃ h : q < l.length, q < m + 1 ∧ Dom L X l[q].toNat)) := hide (fun b2 e => by
                  rw [e, Bool.or_eq_true, Hb.out, dm_iff]
                  constructor
                  · rintro (⟨q, hq, h1, h2⟩ | h)
                    · exact ⟨q, hq, by omega, h2⟩
                    · exact ⟨m, hml, by omega, by rw [HD.out]; simpa using h⟩
                  · rintro ⟨q, hq, h1, h2⟩
                    by_cases e : q = m
                    · subst e; rw [HD.out] at h2; exact .inr (by simpa using h2)
                    · exact .inl ⟨q, hq, by omega, h2⟩)
                clear hD hbd
                cases b with
                | true =>
                  have HN2 := hide (HN.out true rfl)
                  clear qP
                  go_wp2_with fail
                  exact ⟨⟨m + 1, true, by omega, by go_num, rfl, HN2.out, trivial⟩, by simp [intOf]; omega⟩
                | false =>
                  go_wp2_with fail
                  refine Calls.mono (l1Has_v _ LP D _ HNP.out (by omega)) ?_
                  rintro e w7 ⟨rfl, hw⟩
                  obtain rfl := hw.symm
                  rw [HPM.out D]
                  obtain ⟨q, hq⟩ : ∃ q, q = dm L X D := ⟨_, rfl⟩
                  have HN2 := hide (HN.out q (by rw [hq]; rfl))
                  rw [← hq]
                  clear hq p0
                  go_wp2_with fail
                  exact ⟨⟨m + 1, q, by omega, by go_num, rfl, HN2.out, trivial⟩, by simp [intOf]; omega⟩
              · have HSt : Hid (b = true ↔ StP L l X) := hide (by
                  rw [Hb.out]
                  constructor
                  · rintro ⟨q, hq, -, h2⟩
                    have := HBG.out.1.mem (List.getElem_mem hq)
                    exact ⟨l[q].toNat, by rw [show ((l[q].toNat : Nat) : Int) = l[q] by omega]; exact List.getElem_mem hq, h2⟩
                  · rintro ⟨d, hd, h2⟩
                    obtain ⟨q, hq, e⟩ := List.getElem_of_mem hd
                    exact ⟨q, hq, by have := Hnl.out; omega, by rw [e]; simpa using h2⟩)
                clear qP
                cases b with
                | true =>
                  have HA2 : Hid (∀ q (h : q < us.length), q < j + 1 → StP L l us[q].toNat) := hide (fun p h hp => by
                    by_cases e : p = j
                    · subst e
                      rw [HXx.out]
                      have h1 := HSt.out.1 rfl
                      simpa using h1
                    · exact HA.out p h (by omega))
                  go_wp2_with fail
                  exact ⟨⟨j + 1, by omega, by go_num, HA2.out, trivial⟩, by simp [intOf]; omega⟩
                | false =>
                  have HE : Hid (isR L l us = false) := hide (isR_not HXm.out (fun h => by have := HSt.out.2 h; cases this))
                  go_wp2_with fail
                  exact bodyPost_ret (v := .tuple #[.bool false, .bool true]) (by simp [results, Try.results30, go_sem]) rfl ⟨by rw [HE.out, HRe.out], hB4⟩
          · have HE : Hid (isR L l us = true) := hide (isR_yes HRe.out (fun u hu => by
              obtain ⟨q, hq, e⟩ := List.getElem_of_mem hu
              have := HA.out q hq (by have := Hnu.out; omega)
              rw [e] at this
              simpa using this))
            go_wp2_with fail
            exact bodyPost_ret (v := .tuple #[.bool true, .bool true]) (by simp [results, Try.results30, go_sem]) rfl ⟨by rw [HE.out, HRe.out], hB4⟩
      · rw [Bool.not_eq_true] at hbu
        have HRe : Hid (isB L l us = false) := hide (by rw [isB, Hg.out, Hbg.out, hbu]; rfl)
        rw [hbu]
        clear hbu
        go_wp2_with fail
        exact bodyPost_ret (v := .tuple #[.bool false, .bool false]) (by simp [results, Try.results30, go_sem]) rfl (HNo.out HRe.out _ hB3)
    · rw [Bool.not_eq_true] at hbg
      have HRe : Hid (isB L l us = false) := hide (by rw [isB, Hg.out, hbg]; rfl)
      rw [hbg]
      clear hbg
      go_wp2_with fail
      exact bodyPost_ret (v := .tuple #[.bool false, .bool false]) (by simp [results, Try.results30, go_sem]) rfl (HNo.out HRe.out _ hB2)
  · rw [Bool.not_eq_true] at hg
    have HRe : Hid (isB L l us = false) := hide (by rw [isB, hg]; rfl)
    rw [hg]
    clear hg
    go_wp2_with fail
    exact bodyPost_ret (v := .tuple #[.bool false, .bool false]) (by simp [results, Try.results30, go_sem]) rfl (HNo.out HRe.out _ hB1)
end Go.Proofs.Ytochhnibegcbpaa.W
