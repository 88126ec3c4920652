/-
  Both NearestOf. Conditions: none but those that each theorem states. Written by wip/build/mk_grt.py.
-/
import Derived.Test.YtangkpbehpgmiaaGrN
import Derived.Test.YtangkpbehpgmiaaGrK
namespace Go.Proofs.Ytangkpbehpgmiaa.W
open Go.ChangeShapes Go.WideShapes Go.ChangeAt Go.RowKit Go.Joins
set_option linter.unusedVariables false
set_option linter.unusedSimpArgs false

noncomputable def nrs (L : List (List Int)) (j : Nat) : List Int := (List.range j).map (nr L)
theorem nrs_len (L : List (List Int)) (j : Nat) : (nrs L j).length = j := by simp [nrs]
theorem nrs_succ (L : List (List Int)) (j : Nat) : nrs L (j + 1) = nrs L j ++ [nr L j] := by simp [nrs, List.range_succ]
noncomputable def neR (L : List (List Int)) : List Int := if goodG L = true then nrs L L.length else []
theorem neR_len (L : List (List Int)) : (neR L).length ≤ 12 := by
  unfold neR; split
  · rename_i h; rw [nrs_len]; exact (goodG_iff.1 h).2.1
  · simp
/-- The best so far, of the first m of block j's dominators. -/
def BP (L : List (List Int)) (j : Nat) (l : List Int) (m : Nat) (b : Int) : Prop :=
  (b = -1 ∧ ∀ q (h : q < l.length), q < m → l[q] = (j : Int)) ∨ ∃ K : Nat, b = (K : Int) ∧ b ∈ l ∧ K ≠ j ∧ ∀ q (h : q < l.length), q < m → l[q] ≠ (j : Int) → (dl L l[q].toNat).length ≤ (dl L K).length
theorem BP.skip {L : List (List Int)} {j : Nat} {l : List Int} {m : Nat} {b : Int} (h : BP L j l m b) (hm : m < l.length) (he : l[m] = (j : Int)) : BP L j l (m + 1) b := by
  rcases h with ⟨h1, h2⟩ | ⟨K, h1, h2, h3, h4⟩
  · refine .inl ⟨h1, fun q hq hqm => ?_⟩
    by_cases e : q = m
    · subst e; exact he
    · exact h2 q hq (by omega)
  · refine .inr ⟨K, h1, h2, h3, fun q hq hqm hne => ?_⟩
    by_cases e : q = m
    · subst e; exact absurd he hne
    · exact h4 q hq (by omega) hne
theorem BP.stay {L : List (List Int)} {j : Nat} {l : List Int} {m K : Nat} (h : BP L j l m (K : Int)) (hm : m < l.length) (hle : (dl L l[m].toNat).length ≤ (dl L K).length) : BP L j l (m + 1) (K : Int) := by
  rcases h with ⟨h1, h2⟩ | ⟨K', h1, h2, h3, h4⟩
  · omega
  · obtain rfl : K = K' := by omega
    refine .inr ⟨K, rfl, h2, h3, fun q hq hqm hne => ?_⟩
    by_cases e : q = m
    · subst e; exact hle
    · exact h4 q hq (by omega) hne
theorem BP.take {L : List (List Int)} {j : Nat} {l : List Int} {m X : Nat} {b : Int} (h : BP L j l m b) (hm : m < l.length) (hX : l[m] = (X : Int)) (hj : X ≠ j) (hgt : ∀ K : Nat, b = (K : Int) → (dl L K).length ≤ (dl L X).length) : BP L j l (m + 1) (X : Int) := by
  refine .inr ⟨X, rfl, hX ▸ List.getElem_mem hm, hj, fun q hq hqm hne => ?_⟩
  by_cases e : q = m
  · subst e; rw [hX, show ((X : Int)).toNat = X by omega]; exact Nat.le_refl _
  · rcases h with ⟨h1, h2⟩ | ⟨K, h1, h2, h3, h4⟩
    · exact absurd (h2 q hq (by omega)) hne
    · exact Nat.le_trans (h4 q hq (by omega) hne) (hgt K h1)
theorem BP.done {L : List (List Int)} (hg : GG L) {j : Nat} {b : Int} (h : BP L j (dl L j) (dl L j).length b) : b = nr L j := by
  rcases h with ⟨h1, h2⟩ | ⟨K, h1, h2, h3, h4⟩
  · rw [h1, nr_none (fun k hk => ?_)]
    obtain ⟨q, hq, e⟩ := List.getElem_of_mem ((dl_mem hg).2 hk.1)
    have := h2 q hq hq
    have := hk.2.1
    omega
  · rw [h1] at h2 ⊢
    refine (nr_some (near_of_most hg ((dl_mem hg).1 h2) h3 (fun d hd hne => ?_))).symm
    obtain ⟨q, hq, e⟩ := List.getElem_of_mem ((dl_mem hg).2 hd)
    have := h4 q hq hq (by rw [e]; omega)
    rw [e] at this
    simpa using this

set_option maxHeartbeats 8000000 in
theorem l10Nearest_any (v : Value) (L : List (List Int)) (w : World) (h : GRow w v L) (hg : GG L) :
    Calls Try.prog 40 #[v] w fun e w' => ∃ v', e = .returned v' ∧ NV w' v' (nrs L L.length) ∧ Below w.heap.size w w' := by
  obtain ⟨ad, c, rfl, hR, hs, hlc⟩ := h
  have hB0 : Below w.heap.size w (w.alloc (.cells #[.slice ad L.length c] 27)) := (Below.refl _ _).alloc (Nat.le_refl _) _
  have HX := hide (Bx.new w #[.slice ad L.length c] 27)
  have HV : Hid (∀ w', Below w.heap.size w w' → GRow w' (.agg #[.slice ad L.length c]) L) := hide (fun w' hb => ⟨ad, c, rfl, hR.below hb, hs, hlc⟩)
  have HGG := hide hg
  have hl12 := hg.2.1
  clear hR hs hlc hg
  go_enter Try.func40, Try.ntmps40
  go_wp2_with fail
  refine Calls.mono (l10Dom_any _ L _ (HV.out _ hB0) HGG.out) ?_
  rintro e w3 ⟨S, rfl, -, hQ, hb⟩
  have HY3 := hide hQ
  have hB3 := hB0.trans (hb.mono hB0.size)
  clear hQ hb HX hB0 HV
  go_wp2_with fail
  go_loopw [4, 14] (fun v4 i w' => ∃ j : Nat, j ≤ L.length ∧ i = .int .i64 j ∧ w'.ownsRow w3.heap.size 3 1 v4 j (ic (nrs L j)) ∧ Below w3.heap.size w3 w') (fun _ i _ => L.length - (intOf i).toNat)
  case atStart => exact ⟨0, by omega, rfl, World.ownsRow_nil _ _ _ _, Below.refl _ _⟩
  case round =>
    obtain ⟨j, hj, rfl, hO, hB⟩ := hrel
    have HO := hide hO
    have HB := hide hB
    obtain ⟨a4, c4, rfl⟩ := own_form hO
    have Hge := hide (own_ge hO)
    have hbw := hB.size
    clear hO hB
    by_cases hlt : j < L.length
    · have hlt' : (j : Int) < (L.length : Int) := by omega
      obtain ⟨y, cy, hNy⟩ := (HY3.out.below HB.out).at (q := j) (by rw [dls_len]; exact hlt)
      rw [dls_at] at hNy
      obtain ⟨ay, cyy, rfl, -⟩ := hNy.form
      have hyl := dl_len L j
      obtain ⟨DL, hDL⟩ : ∃ DL, DL = dl L j := ⟨_, rfl⟩
      rw [← hDL] at cy hNy hyl
      have HNy := hide hNy
      have HDL := hide hDL
      have HDm : Hid (∀ q (h : q < DL.length), ∃ X : Nat, DL[q] = (X : Int) ∧ X < L.length) := hide (fun q h => by
        have hm : DL[q] ∈ dl L j := by rw [← hDL]; exact List.getElem_mem h
        obtain ⟨X, e, -, hd⟩ := lst_mem.1 hm
        exact ⟨X, e, ((dm_iff.1 hd).lt HGG.out).2⟩)
      clear hNy hDL
      go_wp2_with fail
      clear cy
      obtain ⟨WS, hWS⟩ : ∃ WS, WS = wr := ⟨_, rfl⟩
      rw [← hWS] at HNy HO hbw
      have HBS : Hid (Below w3.heap.size w3 WS) := hide (by rw [hWS]; exact HB.out)
      have HBR : Hid (Below WS.heap.size WS wr) := hide (by rw [hWS]; exact Below.refl _ _)
      clear hWS HB
      go_loopw [7, 21] (fun v7 i w' => ∃ (m : Nat) (b : Int), m ≤ DL.length ∧ i = .int .i64 m ∧ v7 = .int .i64 b ∧ BP L j DL m b ∧ Below WS.heap.size WS w') (fun _ i _ => DL.length - (intOf i).toNat)
      case atStart => exact ⟨0, -1, by omega, rfl, rfl, .inl ⟨rfl, by intros; omega⟩, HBR.out⟩
      case round =>
        clear HBR
        obtain ⟨m, b, hm, rfl, rfl, hP, hB⟩ := hrel
        have HP := hide hP
        have HB := hide hB
        have HBd : Hid (Below WS.heap.size WS wr.drew) := hide (belowDrew8 hB)
        clear hP hB
        by_cases hlm : m < DL.length
        · have hlm' : (m : Int) < (DL.length : Int) := by omega
          obtain ⟨b1, o1, rfl, p0⟩ := NV.at HNy.out HB.out hlm
          obtain ⟨X, hX, hXl⟩ := HDm.out m hlm
          rw [hX] at p0
          have HXx := hide hX
          clear hX
          have hXl' : (X : Int) < (L.length : Int) := by omega
          by_cases hxj : X = j
          · have hxb : ((X : Int) == (j : Int)) = true := by rw [beq_iff_eq]; omega
            have hxe : (X : Int) = (j : Int) := by omega
            have HN2 := hide (HP.out.skip hlm (by rw [HXx.out]; omega))
            clear hxj
            go_upto_region 10 with fail
            clear p0
            refine wp_region_noPanic ?_
            refine wp_region_held_drew (S := fun w' => True) (by kernel_rfl) trivial (fun hHeld => ?_)
            refine wpAnyH_take (i := 0) (oi := _) (v := ?_) rfl (by kernel_rfl) (by kernel_rfl) (by kernel_rfl) (fun _ _ _ h => h) (Or.inl ⟨by rfl, ?_⟩) (by assumption) ?_
            rotate_left 1
            · (intro w hSw; (try dsimp only at hSw); (first | (go_simp; done) | (go_simp; with_reducible rfl)))
            try simp only [Act.put, List.getElem_toArray, List.getElem_cons_zero, List.getElem_cons_succ, List.setIfInBounds_toArray, List.set_cons_zero, List.set_cons_succ]
            refine wpAnyH_take (i := 1) (oi := _) (v := ?_) rfl (by kernel_rfl) (by kernel_rfl) (by kernel_rfl) (fun _ _ _ h => h) (Or.inl ⟨by rfl, ?_⟩) (by assumption) ?_
            rotate_left 1
            · (intro w hSw; (try dsimp only at hSw); (first | (go_simp; done) | (go_simp; with_reducible rfl)))
            try simp only [Act.put, List.getElem_toArray, List.getElem_cons_zero, List.getElem_cons_succ, List.setIfInBounds_toArray, List.set_cons_zero, List.set_cons_succ]
            refine wpAnyH_take (i := 2) (oi := _) (v := .bool false) rfl (by kernel_rfl) (by kernel_rfl) (by kernel_rfl) (fun _ _ _ h => h) (Or.inl ⟨by rfl, ?_⟩) (by assumption) ?_
            · (intro w hSw; (try dsimp only at hSw); (first | (go_simp; done) | (go_simp; with_reducible rfl) | (go_simp; simp [*]; done)))
            try simp only [Act.put, List.getElem_toArray, List.getElem_cons_zero, List.getElem_cons_succ, List.setIfInBounds_toArray, List.set_cons_zero, List.set_cons_succ]
            refine wpAnyH_take (i := 3) (oi := _) (v := .bool false) rfl (by kernel_rfl) (by kernel_rfl) (by kernel_rfl) (fun _ _ _ h => h) (Or.inl ⟨by rfl, ?_⟩) (by assumption) ?_
            · (intro w hSw; (try dsimp only at hSw); (first | (go_simp; done) | (go_simp; with_reducible rfl) | (go_simp; simp [*]; done)))
            try simp only [Act.put, List.getElem_toArray, List.getElem_cons_zero, List.getElem_cons_succ, List.setIfInBounds_toArray, List.set_cons_zero, List.set_cons_succ]
            refine wpAnyH_take (i := 4) (oi := _) (v := undef) rfl (by kernel_rfl) (by kernel_rfl) (by kernel_rfl) (fun _ _ _ h => h) (Or.inr ⟨by rfl, rfl⟩) (by assumption) ?_
            try simp only [Act.put, List.getElem_toArray, List.getElem_cons_zero, List.getElem_cons_succ, List.setIfInBounds_toArray, List.set_cons_zero, List.set_cons_succ]
            refine wpAnyH_take (i := 5) (oi := _) (v := undef) rfl (by kernel_rfl) (by kernel_rfl) (by kernel_rfl) (fun _ _ _ h => h) (Or.inr ⟨by rfl, rfl⟩) (by assumption) ?_
            try simp only [Act.put, List.getElem_toArray, List.getElem_cons_zero, List.getElem_cons_succ, List.setIfInBounds_toArray, List.set_cons_zero, List.set_cons_succ]
            refine wpAnyH_take (i := 6) (oi := _) (v := undef) rfl (by kernel_rfl) (by kernel_rfl) (by kernel_rfl) (fun _ _ _ h => h) (Or.inr ⟨by rfl, rfl⟩) (by assumption) ?_
            try simp only [Act.put, List.getElem_toArray, List.getElem_cons_zero, List.getElem_cons_succ, List.setIfInBounds_toArray, List.set_cons_zero, List.set_cons_succ]
            refine wpAnyH_take (i := 7) (oi := _) (v := undef) rfl (by kernel_rfl) (by kernel_rfl) (by kernel_rfl) (fun _ _ _ h => h) (Or.inr ⟨by rfl, rfl⟩) (by assumption) ?_
            try simp only [Act.put, List.getElem_toArray, List.getElem_cons_zero, List.getElem_cons_succ, List.setIfInBounds_toArray, List.set_cons_zero, List.set_cons_succ]
            refine wpAnyH_take (i := 8) (oi := _) (v := undef) rfl (by kernel_rfl) (by kernel_rfl) (by kernel_rfl) (fun _ _ _ h => h) (Or.inr ⟨by rfl, rfl⟩) (by assumption) ?_
            try simp only [Act.put, List.getElem_toArray, List.getElem_cons_zero, List.getElem_cons_succ, List.setIfInBounds_toArray, List.set_cons_zero, List.set_cons_succ]
            refine wpAnyH_take (i := 9) (oi := _) (v := undef) rfl (by kernel_rfl) (by kernel_rfl) (by kernel_rfl) (fun _ _ _ h => h) (Or.inr ⟨by rfl, rfl⟩) (by assumption) ?_
            try simp only [Act.put, List.getElem_toArray, List.getElem_cons_zero, List.getElem_cons_succ, List.setIfInBounds_toArray, List.set_cons_zero, List.set_cons_succ]
            refine wpAnyH_take (i := 10) (oi := _) (v := undef) rfl (by kernel_rfl) (by kernel_rfl) (by kernel_rfl) (fun _ _ _ h => h) (Or.inr ⟨by rfl, rfl⟩) (by assumption) ?_
            try simp only [Act.put, List.getElem_toArray, List.getElem_cons_zero, List.getElem_cons_succ, List.setIfInBounds_toArray, List.set_cons_zero, List.set_cons_succ]
            refine wpAnyH_take (i := 11) (oi := _) (v := undef) rfl (by kernel_rfl) (by kernel_rfl) (by kernel_rfl) (fun _ _ _ h => h) (Or.inr ⟨by rfl, rfl⟩) (by assumption) ?_
            try simp only [Act.put, List.getElem_toArray, List.getElem_cons_zero, List.getElem_cons_succ, List.setIfInBounds_toArray, List.set_cons_zero, List.set_cons_succ]
            refine wpAnyH_take (i := 12) (oi := _) (v := undef) rfl (by kernel_rfl) (by kernel_rfl) (by kernel_rfl) (fun _ _ _ h => h) (Or.inr ⟨by rfl, rfl⟩) (by assumption) ?_
            try simp only [Act.put, List.getElem_toArray, List.getElem_cons_zero, List.getElem_cons_succ, List.setIfInBounds_toArray, List.set_cons_zero, List.set_cons_succ]
            refine wpAnyH_take (i := 13) (oi := _) (v := undef) rfl (by kernel_rfl) (by kernel_rfl) (by kernel_rfl) (fun _ _ _ h => h) (Or.inr ⟨by rfl, rfl⟩) (by assumption) ?_
            try simp only [Act.put, List.getElem_toArray, List.getElem_cons_zero, List.getElem_cons_succ, List.setIfInBounds_toArray, List.set_cons_zero, List.set_cons_succ]
            refine wpAnyH_take (i := 14) (oi := _) (v := undef) rfl (by kernel_rfl) (by kernel_rfl) (by kernel_rfl) (fun _ _ _ h => h) (Or.inr ⟨by rfl, rfl⟩) (by assumption) ?_
            try simp only [Act.put, List.getElem_toArray, List.getElem_cons_zero, List.getElem_cons_succ, List.setIfInBounds_toArray, List.set_cons_zero, List.set_cons_succ]
            refine wpAnyH_take (i := 15) (oi := _) (v := undef) rfl (by kernel_rfl) (by kernel_rfl) (by kernel_rfl) (fun _ _ _ h => h) (Or.inr ⟨by rfl, rfl⟩) (by assumption) ?_
            try simp only [Act.put, List.getElem_toArray, List.getElem_cons_zero, List.getElem_cons_succ, List.setIfInBounds_toArray, List.set_cons_zero, List.set_cons_succ]
            refine wpAnyH_take (i := 16) (oi := _) (v := undef) rfl (by kernel_rfl) (by kernel_rfl) (by kernel_rfl) (fun _ _ _ h => h) (Or.inr ⟨by rfl, rfl⟩) (by assumption) ?_
            try simp only [Act.put, List.getElem_toArray, List.getElem_cons_zero, List.getElem_cons_succ, List.setIfInBounds_toArray, List.set_cons_zero, List.set_cons_succ]
            refine wpAnyH_take (i := 17) (oi := _) (v := undef) rfl (by kernel_rfl) (by kernel_rfl) (by kernel_rfl) (fun _ _ _ h => h) (Or.inr ⟨by rfl, rfl⟩) (by assumption) ?_
            try simp only [Act.put, List.getElem_toArray, List.getElem_cons_zero, List.getElem_cons_succ, List.setIfInBounds_toArray, List.set_cons_zero, List.set_cons_succ]
            refine wpAnyH_take (i := 18) (oi := _) (v := undef) rfl (by kernel_rfl) (by kernel_rfl) (by kernel_rfl) (fun _ _ _ h => h) (Or.inr ⟨by rfl, rfl⟩) (by assumption) ?_
            try simp only [Act.put, List.getElem_toArray, List.getElem_cons_zero, List.getElem_cons_succ, List.setIfInBounds_toArray, List.set_cons_zero, List.set_cons_succ]
            refine wpAnyH_take (i := 19) (oi := _) (v := .bool false) rfl (by kernel_rfl) (by kernel_rfl) (by kernel_rfl) (fun _ _ _ h => h) (Or.inl ⟨by rfl, ?_⟩) (by assumption) ?_
            · (intro w hSw; (try dsimp only at hSw); (first | (go_simp; done) | (go_simp; with_reducible rfl) | (go_simp; simp [*]; done)))
            try simp only [Act.put, List.getElem_toArray, List.getElem_cons_zero, List.getElem_cons_succ, List.setIfInBounds_toArray, List.set_cons_zero, List.set_cons_succ]
            refine wpAnyH_done (by kernel_rfl) ?_ _
            refine NoPanic.normal ?_
            clear hHeld
            go_wp2_with fail
            exact ⟨⟨m + 1, b, by omega, by go_num, rfl, HN2.out, HBd.out⟩, by simp [intOf]; omega⟩
          · have hxb : ((X : Int) == (j : Int)) = false := beq_eq_false_iff_ne.2 (by omega)
            have hxj2 : ¬ (X : Int) = (j : Int) := by omega
            have HNE := hide hxj
            clear hxj
            by_cases hb0 : b < 0
            · have HN2 := hide (HP.out.take hlm HXx.out HNE.out (fun K e => by omega))
              go_upto_region 10 with fail
              clear p0
              refine wp_region_noPanic ?_
              refine wp_region_held_drew (S := fun w' => True) (by kernel_rfl) trivial (fun hHeld => ?_)
              refine wpAnyH_take (i := 0) (oi := _) (v := ?_) rfl (by kernel_rfl) (by kernel_rfl) (by kernel_rfl) (fun _ _ _ h => h) (Or.inl ⟨by rfl, ?_⟩) (by assumption) ?_
              rotate_left 1
              · (intro w hSw; (try dsimp only at hSw); (first | (go_simp; done) | (go_simp; with_reducible rfl)))
              try simp only [Act.put, List.getElem_toArray, List.getElem_cons_zero, List.getElem_cons_succ, List.setIfInBounds_toArray, List.set_cons_zero, List.set_cons_succ]
              refine wpAnyH_take (i := 1) (oi := _) (v := ?_) rfl (by kernel_rfl) (by kernel_rfl) (by kernel_rfl) (fun _ _ _ h => h) (Or.inl ⟨by rfl, ?_⟩) (by assumption) ?_
              rotate_left 1
              · (intro w hSw; (try dsimp only at hSw); (first | (go_simp; done) | (go_simp; with_reducible rfl)))
              try simp only [Act.put, List.getElem_toArray, List.getElem_cons_zero, List.getElem_cons_succ, List.setIfInBounds_toArray, List.set_cons_zero, List.set_cons_succ]
              refine wpAnyH_take (i := 2) (oi := _) (v := .bool true) rfl (by kernel_rfl) (by kernel_rfl) (by kernel_rfl) (fun _ _ _ h => h) (Or.inl ⟨by rfl, ?_⟩) (by assumption) ?_
              · (intro w hSw; (try dsimp only at hSw); (first | (go_simp; done) | (go_simp; with_reducible rfl) | (go_simp; simp [*]; done)))
              try simp only [Act.put, List.getElem_toArray, List.getElem_cons_zero, List.getElem_cons_succ, List.setIfInBounds_toArray, List.set_cons_zero, List.set_cons_succ]
              refine wpAnyH_take (i := 3) (oi := _) (v := .bool true) rfl (by kernel_rfl) (by kernel_rfl) (by kernel_rfl) (fun _ _ _ h => h) (Or.inl ⟨by rfl, ?_⟩) (by assumption) ?_
              · (intro w hSw; (try dsimp only at hSw); (first | (go_simp; done) | (go_simp; with_reducible rfl) | (go_simp; simp [*]; done)))
              try simp only [Act.put, List.getElem_toArray, List.getElem_cons_zero, List.getElem_cons_succ, List.setIfInBounds_toArray, List.set_cons_zero, List.set_cons_succ]
              refine wpAnyH_take (i := 4) (oi := _) (v := ?_) rfl (by kernel_rfl) (by kernel_rfl) (by kernel_rfl) (fun _ _ _ h => h) (Or.inl ⟨by rfl, ?_⟩) (by assumption) ?_
              rotate_left 1
              · (intro w hSw; (try dsimp only at hSw); (first | (go_simp; done) | (go_simp; with_reducible rfl)))
              try simp only [Act.put, List.getElem_toArray, List.getElem_cons_zero, List.getElem_cons_succ, List.setIfInBounds_toArray, List.set_cons_zero, List.set_cons_succ]
              refine wpAnyH_take (i := 5) (oi := _) (v := .bool true) rfl (by kernel_rfl) (by kernel_rfl) (by kernel_rfl) (fun _ _ _ h => h) (Or.inl ⟨by rfl, ?_⟩) (by assumption) ?_
              · (intro w hSw; (try dsimp only at hSw); (first | (go_simp; done) | (go_simp; with_reducible rfl) | (go_simp; simp [*]; done)))
              try simp only [Act.put, List.getElem_toArray, List.getElem_cons_zero, List.getElem_cons_succ, List.setIfInBounds_toArray, List.set_cons_zero, List.set_cons_succ]
              refine wpAnyH_take (i := 6) (oi := _) (v := .bool true) rfl (by kernel_rfl) (by kernel_rfl) (by kernel_rfl) (fun _ _ _ h => h) (Or.inl ⟨by rfl, ?_⟩) (by assumption) ?_
              · (intro w hSw; (try dsimp only at hSw); (first | (go_simp; done) | (go_simp; with_reducible rfl) | (go_simp; simp [*]; done)))
              try simp only [Act.put, List.getElem_toArray, List.getElem_cons_zero, List.getElem_cons_succ, List.setIfInBounds_toArray, List.set_cons_zero, List.set_cons_succ]
              refine wpAnyH_take (i := 7) (oi := _) (v := undef) rfl (by kernel_rfl) (by kernel_rfl) (by kernel_rfl) (fun _ _ _ h => h) (Or.inr ⟨by rfl, rfl⟩) (by assumption) ?_
              try simp only [Act.put, List.getElem_toArray, List.getElem_cons_zero, List.getElem_cons_succ, List.setIfInBounds_toArray, List.set_cons_zero, List.set_cons_succ]
              refine wpAnyH_take (i := 8) (oi := _) (v := undef) rfl (by kernel_rfl) (by kernel_rfl) (by kernel_rfl) (fun _ _ _ h => h) (Or.inr ⟨by rfl, rfl⟩) (by assumption) ?_
              try simp only [Act.put, List.getElem_toArray, List.getElem_cons_zero, List.getElem_cons_succ, List.setIfInBounds_toArray, List.set_cons_zero, List.set_cons_succ]
              refine wpAnyH_take (i := 9) (oi := _) (v := undef) rfl (by kernel_rfl) (by kernel_rfl) (by kernel_rfl) (fun _ _ _ h => h) (Or.inr ⟨by rfl, rfl⟩) (by assumption) ?_
              try simp only [Act.put, List.getElem_toArray, List.getElem_cons_zero, List.getElem_cons_succ, List.setIfInBounds_toArray, List.set_cons_zero, List.set_cons_succ]
              refine wpAnyH_take (i := 10) (oi := _) (v := undef) rfl (by kernel_rfl) (by kernel_rfl) (by kernel_rfl) (fun _ _ _ h => h) (Or.inr ⟨by rfl, rfl⟩) (by assumption) ?_
              try simp only [Act.put, List.getElem_toArray, List.getElem_cons_zero, List.getElem_cons_succ, List.setIfInBounds_toArray, List.set_cons_zero, List.set_cons_succ]
              refine wpAnyH_take (i := 11) (oi := _) (v := undef) rfl (by kernel_rfl) (by kernel_rfl) (by kernel_rfl) (fun _ _ _ h => h) (Or.inr ⟨by rfl, rfl⟩) (by assumption) ?_
              try simp only [Act.put, List.getElem_toArray, List.getElem_cons_zero, List.getElem_cons_succ, List.setIfInBounds_toArray, List.set_cons_zero, List.set_cons_succ]
              refine wpAnyH_take (i := 12) (oi := _) (v := undef) rfl (by kernel_rfl) (by kernel_rfl) (by kernel_rfl) (fun _ _ _ h => h) (Or.inr ⟨by rfl, rfl⟩) (by assumption) ?_
              try simp only [Act.put, List.getElem_toArray, List.getElem_cons_zero, List.getElem_cons_succ, List.setIfInBounds_toArray, List.set_cons_zero, List.set_cons_succ]
              refine wpAnyH_take (i := 13) (oi := _) (v := undef) rfl (by kernel_rfl) (by kernel_rfl) (by kernel_rfl) (fun _ _ _ h => h) (Or.inr ⟨by rfl, rfl⟩) (by assumption) ?_
              try simp only [Act.put, List.getElem_toArray, List.getElem_cons_zero, List.getElem_cons_succ, List.setIfInBounds_toArray, List.set_cons_zero, List.set_cons_succ]
              refine wpAnyH_take (i := 14) (oi := _) (v := undef) rfl (by kernel_rfl) (by kernel_rfl) (by kernel_rfl) (fun _ _ _ h => h) (Or.inr ⟨by rfl, rfl⟩) (by assumption) ?_
              try simp only [Act.put, List.getElem_toArray, List.getElem_cons_zero, List.getElem_cons_succ, List.setIfInBounds_toArray, List.set_cons_zero, List.set_cons_succ]
              refine wpAnyH_take (i := 15) (oi := _) (v := undef) rfl (by kernel_rfl) (by kernel_rfl) (by kernel_rfl) (fun _ _ _ h => h) (Or.inr ⟨by rfl, rfl⟩) (by assumption) ?_
              try simp only [Act.put, List.getElem_toArray, List.getElem_cons_zero, List.getElem_cons_succ, List.setIfInBounds_toArray, List.set_cons_zero, List.set_cons_succ]
              refine wpAnyH_take (i := 16) (oi := _) (v := undef) rfl (by kernel_rfl) (by kernel_rfl) (by kernel_rfl) (fun _ _ _ h => h) (Or.inr ⟨by rfl, rfl⟩) (by assumption) ?_
              try simp only [Act.put, List.getElem_toArray, List.getElem_cons_zero, List.getElem_cons_succ, List.setIfInBounds_toArray, List.set_cons_zero, List.set_cons_succ]
              refine wpAnyH_take (i := 17) (oi := _) (v := undef) rfl (by kernel_rfl) (by kernel_rfl) (by kernel_rfl) (fun _ _ _ h => h) (Or.inr ⟨by rfl, rfl⟩) (by assumption) ?_
              try simp only [Act.put, List.getElem_toArray, List.getElem_cons_zero, List.getElem_cons_succ, List.setIfInBounds_toArray, List.set_cons_zero, List.set_cons_succ]
              refine wpAnyH_take (i := 18) (oi := _) (v := .bool true) rfl (by kernel_rfl) (by kernel_rfl) (by kernel_rfl) (fun _ _ _ h => h) (Or.inl ⟨by rfl, ?_⟩) (by assumption) ?_
              · (intro w hSw; (try dsimp only at hSw); (first | (go_simp; done) | (go_simp; with_reducible rfl) | (go_simp; simp [*]; done)))
              try simp only [Act.put, List.getElem_toArray, List.getElem_cons_zero, List.getElem_cons_succ, List.setIfInBounds_toArray, List.set_cons_zero, List.set_cons_succ]
              refine wpAnyH_take (i := 19) (oi := _) (v := .bool true) rfl (by kernel_rfl) (by kernel_rfl) (by kernel_rfl) (fun _ _ _ h => h) (Or.inl ⟨by rfl, ?_⟩) (by assumption) ?_
              · (intro w hSw; (try dsimp only at hSw); (first | (go_simp; done) | (go_simp; with_reducible rfl) | (go_simp; simp [*]; done)))
              try simp only [Act.put, List.getElem_toArray, List.getElem_cons_zero, List.getElem_cons_succ, List.setIfInBounds_toArray, List.set_cons_zero, List.set_cons_succ]
              refine wpAnyH_done (by kernel_rfl) ?_ _
              refine NoPanic.normal ?_
              clear hHeld
              go_wp2_with fail
              exact ⟨⟨m + 1, (X : Int), by omega, by go_num, rfl, HN2.out, HBd.out⟩, by simp [intOf]; omega⟩
            · obtain ⟨K, hK, hKm⟩ : ∃ K : Nat, b = (K : Int) ∧ b ∈ DL := by
                rcases HP.out with ⟨h1, -⟩ | ⟨K, h1, h2, -⟩
                · omega
                · exact ⟨K, h1, h2⟩
              subst hK
              obtain ⟨qk, hqk, eqk⟩ := List.getElem_of_mem hKm
              obtain ⟨K2, hK2, hKl2⟩ := HDm.out qk hqk
              have hKl : K < L.length := by omega
              have hKl' : (K : Int) < (L.length : Int) := by omega
              have HBw := hide (HBS.out.trans (HB.out.mono HBS.out.size))
              obtain ⟨yx, cX, hNx⟩ := (HY3.out.below HBw.out).at (q := X) (by rw [dls_len]; exact hXl)
              obtain ⟨yk, cK, hNk⟩ := (HY3.out.below HBw.out).at (q := K) (by rw [dls_len]; exact hKl)
              rw [dls_at] at hNx hNk
              obtain ⟨ax, cxx, rfl, -⟩ := hNx.form
              obtain ⟨ak, ck, rfl, -⟩ := hNk.form
              have hnx12 := dl_len L X
              have hnk12 := dl_len L K
              obtain ⟨nx, hnx⟩ : ∃ nx, nx = (dl L X).length := ⟨_, rfl⟩
              obtain ⟨nk, hnk⟩ : ∃ nk, nk = (dl L K).length := ⟨_, rfl⟩
              rw [← hnx] at cX hnx12
              rw [← hnk] at cK hnk12
              have Hnx := hide hnx
              have Hnk := hide hnk
              clear hNx hNk hnx hnk hqk eqk hKm hK2 hKl2
              by_cases hgt : nk < nx
              · have hgt' : (nk : Int) < (nx : Int) := by omega
                have HN2 := hide (HP.out.take hlm HXx.out HNE.out (fun K' e => by
                  obtain rfl : K = K' := by omega
                  rw [← Hnx.out, ← Hnk.out]; omega))
                go_upto_region 10 with fail
                clear p0
                refine wp_region_noPanic ?_
                refine wp_region_held_drew (S := fun w' => w'.cell? ⟨S, X, none⟩ = some (.slice ax nx cxx) ∧ w'.cell? ⟨S, K, none⟩ = some (.slice ak nk ck)) (by kernel_rfl) ⟨cX, cK⟩ (fun hHeld => ?_)
                refine wpAnyH_take (i := 0) (oi := _) (v := ?_) rfl (by kernel_rfl) (by kernel_rfl) (by kernel_rfl) (fun _ _ _ h => h) (Or.inl ⟨by rfl, ?_⟩) (by assumption) ?_
                rotate_left 1
                · (intro w hSw; (try dsimp only at hSw); (first | (go_simp; done) | (go_simp; with_reducible rfl)))
                try simp only [Act.put, List.getElem_toArray, List.getElem_cons_zero, List.getElem_cons_succ, List.setIfInBounds_toArray, List.set_cons_zero, List.set_cons_succ]
                refine wpAnyH_take (i := 1) (oi := _) (v := ?_) rfl (by kernel_rfl) (by kernel_rfl) (by kernel_rfl) (fun _ _ _ h => h) (Or.inl ⟨by rfl, ?_⟩) (by assumption) ?_
                rotate_left 1
                · (intro w hSw; (try dsimp only at hSw); (first | (go_simp; done) | (go_simp; with_reducible rfl)))
                try simp only [Act.put, List.getElem_toArray, List.getElem_cons_zero, List.getElem_cons_succ, List.setIfInBounds_toArray, List.set_cons_zero, List.set_cons_succ]
                refine wpAnyH_take (i := 2) (oi := _) (v := .bool true) rfl (by kernel_rfl) (by kernel_rfl) (by kernel_rfl) (fun _ _ _ h => h) (Or.inl ⟨by rfl, ?_⟩) (by assumption) ?_
                · (intro w hSw; (try dsimp only at hSw); (first | (go_simp; done) | (go_simp; with_reducible rfl) | (go_simp; simp [*]; done)))
                try simp only [Act.put, List.getElem_toArray, List.getElem_cons_zero, List.getElem_cons_succ, List.setIfInBounds_toArray, List.set_cons_zero, List.set_cons_succ]
                refine wpAnyH_take (i := 3) (oi := _) (v := .bool true) rfl (by kernel_rfl) (by kernel_rfl) (by kernel_rfl) (fun _ _ _ h => h) (Or.inl ⟨by rfl, ?_⟩) (by assumption) ?_
                · (intro w hSw; (try dsimp only at hSw); (first | (go_simp; done) | (go_simp; with_reducible rfl) | (go_simp; simp [*]; done)))
                try simp only [Act.put, List.getElem_toArray, List.getElem_cons_zero, List.getElem_cons_succ, List.setIfInBounds_toArray, List.set_cons_zero, List.set_cons_succ]
                refine wpAnyH_take (i := 4) (oi := _) (v := ?_) rfl (by kernel_rfl) (by kernel_rfl) (by kernel_rfl) (fun _ _ _ h => h) (Or.inl ⟨by rfl, ?_⟩) (by assumption) ?_
                rotate_left 1
                · (intro w hSw; (try dsimp only at hSw); (first | (go_simp; done) | (go_simp; with_reducible rfl)))
                try simp only [Act.put, List.getElem_toArray, List.getElem_cons_zero, List.getElem_cons_succ, List.setIfInBounds_toArray, List.set_cons_zero, List.set_cons_succ]
                refine wpAnyH_take (i := 5) (oi := _) (v := .bool false) rfl (by kernel_rfl) (by kernel_rfl) (by kernel_rfl) (fun _ _ _ h => h) (Or.inl ⟨by rfl, ?_⟩) (by assumption) ?_
                · (intro w hSw; (try dsimp only at hSw); (first | (go_simp; done) | (go_simp; with_reducible rfl) | (go_simp; simp [*]; done)))
                try simp only [Act.put, List.getElem_toArray, List.getElem_cons_zero, List.getElem_cons_succ, List.setIfInBounds_toArray, List.set_cons_zero, List.set_cons_succ]
                refine wpAnyH_take (i := 6) (oi := _) (v := .bool false) rfl (by kernel_rfl) (by kernel_rfl) (by kernel_rfl) (fun _ _ _ h => h) (Or.inl ⟨by rfl, ?_⟩) (by assumption) ?_
                · (intro w hSw; (try dsimp only at hSw); (first | (go_simp; done) | (go_simp; with_reducible rfl) | (go_simp; simp [*]; done)))
                try simp only [Act.put, List.getElem_toArray, List.getElem_cons_zero, List.getElem_cons_succ, List.setIfInBounds_toArray, List.set_cons_zero, List.set_cons_succ]
                refine wpAnyH_take (i := 7) (oi := _) (v := ?_) rfl (by kernel_rfl) (by kernel_rfl) (by kernel_rfl) (fun _ _ _ h => h) (Or.inl ⟨by rfl, ?_⟩) (by assumption) ?_
                rotate_left 1
                · (intro w hSw; (try dsimp only at hSw); (first | (go_simp; done) | (go_simp; with_reducible rfl)))
                try simp only [Act.put, List.getElem_toArray, List.getElem_cons_zero, List.getElem_cons_succ, List.setIfInBounds_toArray, List.set_cons_zero, List.set_cons_succ]
                refine wpAnyH_take (i := 8) (oi := _) (v := ?_) rfl (by kernel_rfl) (by kernel_rfl) (by kernel_rfl) (fun _ _ _ h => h) (Or.inl ⟨by rfl, ?_⟩) (by assumption) ?_
                rotate_left 1
                · (intro w hSw; (try dsimp only at hSw); (first | (go_simp; done) | (go_simp; with_reducible rfl)))
                try simp only [Act.put, List.getElem_toArray, List.getElem_cons_zero, List.getElem_cons_succ, List.setIfInBounds_toArray, List.set_cons_zero, List.set_cons_succ]
                refine wpAnyH_take (i := 9) (oi := _) (v := ?_) rfl (by kernel_rfl) (by kernel_rfl) (by kernel_rfl) (fun _ _ _ h => h) (Or.inl ⟨by rfl, ?_⟩) (by assumption) ?_
                rotate_left 1
                · (intro w hSw; (try dsimp only at hSw); (first | (go_simp; done) | (go_simp; with_reducible rfl)))
                try simp only [Act.put, List.getElem_toArray, List.getElem_cons_zero, List.getElem_cons_succ, List.setIfInBounds_toArray, List.set_cons_zero, List.set_cons_succ]
                refine wpAnyH_take (i := 10) (oi := _) (v := ?_) rfl (by kernel_rfl) (by kernel_rfl) (by kernel_rfl) (fun _ _ _ h => h) (Or.inl ⟨by rfl, ?_⟩) (by assumption) ?_
                rotate_left 1
                · (intro w hSw; (try dsimp only at hSw); (first | (go_simp; done) | (go_simp; with_reducible rfl)))
                try simp only [Act.put, List.getElem_toArray, List.getElem_cons_zero, List.getElem_cons_succ, List.setIfInBounds_toArray, List.set_cons_zero, List.set_cons_succ]
                refine wpAnyH_take (i := 11) (oi := _) (v := ?_) rfl (by kernel_rfl) (by kernel_rfl) (by kernel_rfl) (fun _ _ _ h => h) (Or.inl ⟨by rfl, ?_⟩) (by assumption) ?_
                rotate_left 1
                · (intro w hSw; (try dsimp only at hSw); (first | (go_simp; done) | (go_simp; with_reducible rfl)))
                try simp only [Act.put, List.getElem_toArray, List.getElem_cons_zero, List.getElem_cons_succ, List.setIfInBounds_toArray, List.set_cons_zero, List.set_cons_succ]
                refine wpAnyH_take (i := 12) (oi := _) (v := ?_) rfl (by kernel_rfl) (by kernel_rfl) (by kernel_rfl) (fun _ _ _ h => h) (Or.inl ⟨by rfl, ?_⟩) (by assumption) ?_
                rotate_left 1
                · (intro w hSw; (try dsimp only at hSw); (first | (go_simp; done) | (go_simp; with_reducible rfl)))
                try simp only [Act.put, List.getElem_toArray, List.getElem_cons_zero, List.getElem_cons_succ, List.setIfInBounds_toArray, List.set_cons_zero, List.set_cons_succ]
                refine wpAnyH_take (i := 13) (oi := _) (v := ?_) rfl (by kernel_rfl) (by kernel_rfl) (by kernel_rfl) (fun _ _ _ h => h) (Or.inl ⟨by rfl, ?_⟩) (by assumption) ?_
                rotate_left 1
                · (intro w hSw; (try dsimp only at hSw); (first | (go_simp; done) | (go_simp; with_reducible rfl)))
                try simp only [Act.put, List.getElem_toArray, List.getElem_cons_zero, List.getElem_cons_succ, List.setIfInBounds_toArray, List.set_cons_zero, List.set_cons_succ]
                refine wpAnyH_take (i := 14) (oi := _) (v := ?_) rfl (by kernel_rfl) (by kernel_rfl) (by kernel_rfl) (fun _ _ _ h => h) (Or.inl ⟨by rfl, ?_⟩) (by assumption) ?_
                rotate_left 1
                · (intro w hSw; (try dsimp only at hSw); (first | (go_simp; done) | (go_simp; with_reducible rfl)))
                try simp only [Act.put, List.getElem_toArray, List.getElem_cons_zero, List.getElem_cons_succ, List.setIfInBounds_toArray, List.set_cons_zero, List.set_cons_succ]
                refine wpAnyH_take (i := 15) (oi := _) (v := ?_) rfl (by kernel_rfl) (by kernel_rfl) (by kernel_rfl) (fun _ _ _ h => h) (Or.inl ⟨by rfl, ?_⟩) (by assumption) ?_
                rotate_left 1
                · (intro w hSw; (try dsimp only at hSw); (first | (go_simp; done) | (go_simp; with_reducible rfl)))
                try simp only [Act.put, List.getElem_toArray, List.getElem_cons_zero, List.getElem_cons_succ, List.setIfInBounds_toArray, List.set_cons_zero, List.set_cons_succ]
                refine wpAnyH_take (i := 16) (oi := _) (v := ?_) rfl (by kernel_rfl) (by kernel_rfl) (by kernel_rfl) (fun _ _ _ h => h) (Or.inl ⟨by rfl, ?_⟩) (by assumption) ?_
                rotate_left 1
                · (intro w hSw; (try dsimp only at hSw); (first | (go_simp; done) | (go_simp; with_reducible rfl)))
                try simp only [Act.put, List.getElem_toArray, List.getElem_cons_zero, List.getElem_cons_succ, List.setIfInBounds_toArray, List.set_cons_zero, List.set_cons_succ]
                refine wpAnyH_take (i := 17) (oi := _) (v := .bool true) rfl (by kernel_rfl) (by kernel_rfl) (by kernel_rfl) (fun _ _ _ h => h) (Or.inl ⟨by rfl, ?_⟩) (by assumption) ?_
                · (intro w hSw; (try dsimp only at hSw); (first | (go_simp; done) | (go_simp; with_reducible rfl) | (go_simp; simp [*]; done)))
                try simp only [Act.put, List.getElem_toArray, List.getElem_cons_zero, List.getElem_cons_succ, List.setIfInBounds_toArray, List.set_cons_zero, List.set_cons_succ]
                refine wpAnyH_take (i := 18) (oi := _) (v := .bool true) rfl (by kernel_rfl) (by kernel_rfl) (by kernel_rfl) (fun _ _ _ h => h) (Or.inl ⟨by rfl, ?_⟩) (by assumption) ?_
                · (intro w hSw; (try dsimp only at hSw); (first | (go_simp; done) | (go_simp; with_reducible rfl) | (go_simp; simp [*]; done)))
                try simp only [Act.put, List.getElem_toArray, List.getElem_cons_zero, List.getElem_cons_succ, List.setIfInBounds_toArray, List.set_cons_zero, List.set_cons_succ]
                refine wpAnyH_take (i := 19) (oi := _) (v := .bool true) rfl (by kernel_rfl) (by kernel_rfl) (by kernel_rfl) (fun _ _ _ h => h) (Or.inl ⟨by rfl, ?_⟩) (by assumption) ?_
                · (intro w hSw; (try dsimp only at hSw); (first | (go_simp; done) | (go_simp; with_reducible rfl) | (go_simp; simp [*]; done)))
                try simp only [Act.put, List.getElem_toArray, List.getElem_cons_zero, List.getElem_cons_succ, List.setIfInBounds_toArray, List.set_cons_zero, List.set_cons_succ]
                refine wpAnyH_done (by kernel_rfl) ?_ _
                refine NoPanic.normal ?_
                clear hHeld
                go_wp2_with fail
                exact ⟨⟨m + 1, (X : Int), by omega, by go_num, rfl, HN2.out, HBd.out⟩, by simp [intOf]; omega⟩
              · have hgt' : ¬ (nk : Int) < (nx : Int) := by omega
                have HN2 := hide (HP.out.stay hlm (by
                  rw [HXx.out, show ((X : Int)).toNat = X by omega, ← Hnx.out, ← Hnk.out]; omega))
                go_upto_region 10 with fail
                clear p0
                refine wp_region_noPanic ?_
                refine wp_region_held_drew (S := fun w' => w'.cell? ⟨S, X, none⟩ = some (.slice ax nx cxx) ∧ w'.cell? ⟨S, K, none⟩ = some (.slice ak nk ck)) (by kernel_rfl) ⟨cX, cK⟩ (fun hHeld => ?_)
                refine wpAnyH_take (i := 0) (oi := _) (v := ?_) rfl (by kernel_rfl) (by kernel_rfl) (by kernel_rfl) (fun _ _ _ h => h) (Or.inl ⟨by rfl, ?_⟩) (by assumption) ?_
                rotate_left 1
                · (intro w hSw; (try dsimp only at hSw); (first | (go_simp; done) | (go_simp; with_reducible rfl)))
                try simp only [Act.put, List.getElem_toArray, List.getElem_cons_zero, List.getElem_cons_succ, List.setIfInBounds_toArray, List.set_cons_zero, List.set_cons_succ]
                refine wpAnyH_take (i := 1) (oi := _) (v := ?_) rfl (by kernel_rfl) (by kernel_rfl) (by kernel_rfl) (fun _ _ _ h => h) (Or.inl ⟨by rfl, ?_⟩) (by assumption) ?_
                rotate_left 1
                · (intro w hSw; (try dsimp only at hSw); (first | (go_simp; done) | (go_simp; with_reducible rfl)))
                try simp only [Act.put, List.getElem_toArray, List.getElem_cons_zero, List.getElem_cons_succ, List.setIfInBounds_toArray, List.set_cons_zero, List.set_cons_succ]
                refine wpAnyH_take (i := 2) (oi := _) (v := .bool true) rfl (by kernel_rfl) (by kernel_rfl) (by kernel_rfl) (fun _ _ _ h => h) (Or.inl ⟨by rfl, ?_⟩) (by assumption) ?_
                · (intro w hSw; (try dsimp only at hSw); (first | (go_simp; done) | (go_simp; with_reducible rfl) | (go_simp; simp [*]; done)))
                try simp only [Act.put, List.getElem_toArray, List.getElem_cons_zero, List.getElem_cons_succ, List.setIfInBounds_toArray, List.set_cons_zero, List.set_cons_succ]
                refine wpAnyH_take (i := 3) (oi := _) (v := .bool true) rfl (by kernel_rfl) (by kernel_rfl) (by kernel_rfl) (fun _ _ _ h => h) (Or.inl ⟨by rfl, ?_⟩) (by assumption) ?_
                · (intro w hSw; (try dsimp only at hSw); (first | (go_simp; done) | (go_simp; with_reducible rfl) | (go_simp; simp [*]; done)))
                try simp only [Act.put, List.getElem_toArray, List.getElem_cons_zero, List.getElem_cons_succ, List.setIfInBounds_toArray, List.set_cons_zero, List.set_cons_succ]
                refine wpAnyH_take (i := 4) (oi := _) (v := ?_) rfl (by kernel_rfl) (by kernel_rfl) (by kernel_rfl) (fun _ _ _ h => h) (Or.inl ⟨by rfl, ?_⟩) (by assumption) ?_
                rotate_left 1
                · (intro w hSw; (try dsimp only at hSw); (first | (go_simp; done) | (go_simp; with_reducible rfl)))
                try simp only [Act.put, List.getElem_toArray, List.getElem_cons_zero, List.getElem_cons_succ, List.setIfInBounds_toArray, List.set_cons_zero, List.set_cons_succ]
                refine wpAnyH_take (i := 5) (oi := _) (v := .bool false) rfl (by kernel_rfl) (by kernel_rfl) (by kernel_rfl) (fun _ _ _ h => h) (Or.inl ⟨by rfl, ?_⟩) (by assumption) ?_
                · (intro w hSw; (try dsimp only at hSw); (first | (go_simp; done) | (go_simp; with_reducible rfl) | (go_simp; simp [*]; done)))
                try simp only [Act.put, List.getElem_toArray, List.getElem_cons_zero, List.getElem_cons_succ, List.setIfInBounds_toArray, List.set_cons_zero, List.set_cons_succ]
                refine wpAnyH_take (i := 6) (oi := _) (v := .bool false) rfl (by kernel_rfl) (by kernel_rfl) (by kernel_rfl) (fun _ _ _ h => h) (Or.inl ⟨by rfl, ?_⟩) (by assumption) ?_
                · (intro w hSw; (try dsimp only at hSw); (first | (go_simp; done) | (go_simp; with_reducible rfl) | (go_simp; simp [*]; done)))
                try simp only [Act.put, List.getElem_toArray, List.getElem_cons_zero, List.getElem_cons_succ, List.setIfInBounds_toArray, List.set_cons_zero, List.set_cons_succ]
                refine wpAnyH_take (i := 7) (oi := _) (v := ?_) rfl (by kernel_rfl) (by kernel_rfl) (by kernel_rfl) (fun _ _ _ h => h) (Or.inl ⟨by rfl, ?_⟩) (by assumption) ?_
                rotate_left 1
                · (intro w hSw; (try dsimp only at hSw); (first | (go_simp; done) | (go_simp; with_reducible rfl)))
                try simp only [Act.put, List.getElem_toArray, List.getElem_cons_zero, List.getElem_cons_succ, List.setIfInBounds_toArray, List.set_cons_zero, List.set_cons_succ]
                refine wpAnyH_take (i := 8) (oi := _) (v := ?_) rfl (by kernel_rfl) (by kernel_rfl) (by kernel_rfl) (fun _ _ _ h => h) (Or.inl ⟨by rfl, ?_⟩) (by assumption) ?_
                rotate_left 1
                · (intro w hSw; (try dsimp only at hSw); (first | (go_simp; done) | (go_simp; with_reducible rfl)))
                try simp only [Act.put, List.getElem_toArray, List.getElem_cons_zero, List.getElem_cons_succ, List.setIfInBounds_toArray, List.set_cons_zero, List.set_cons_succ]
                refine wpAnyH_take (i := 9) (oi := _) (v := ?_) rfl (by kernel_rfl) (by kernel_rfl) (by kernel_rfl) (fun _ _ _ h => h) (Or.inl ⟨by rfl, ?_⟩) (by assumption) ?_
                rotate_left 1
                · (intro w hSw; (try dsimp only at hSw); (first | (go_simp; done) | (go_simp; with_reducible rfl)))
                try simp only [Act.put, List.getElem_toArray, List.getElem_cons_zero, List.getElem_cons_succ, List.setIfInBounds_toArray, List.set_cons_zero, List.set_cons_succ]
                refine wpAnyH_take (i := 10) (oi := _) (v := ?_) rfl (by kernel_rfl) (by kernel_rfl) (by kernel_rfl) (fun _ _ _ h => h) (Or.inl ⟨by rfl, ?_⟩) (by assumption) ?_
                rotate_left 1
                · (intro w hSw; (try dsimp only at hSw); (first | (go_simp; done) | (go_simp; with_reducible rfl)))
                try simp only [Act.put, List.getElem_toArray, List.getElem_cons_zero, List.getElem_cons_succ, List.setIfInBounds_toArray, List.set_cons_zero, List.set_cons_succ]
                refine wpAnyH_take (i := 11) (oi := _) (v := ?_) rfl (by kernel_rfl) (by kernel_rfl) (by kernel_rfl) (fun _ _ _ h => h) (Or.inl ⟨by rfl, ?_⟩) (by assumption) ?_
                rotate_left 1
                · (intro w hSw; (try dsimp only at hSw); (first | (go_simp; done) | (go_simp; with_reducible rfl)))
                try simp only [Act.put, List.getElem_toArray, List.getElem_cons_zero, List.getElem_cons_succ, List.setIfInBounds_toArray, List.set_cons_zero, List.set_cons_succ]
                refine wpAnyH_take (i := 12) (oi := _) (v := ?_) rfl (by kernel_rfl) (by kernel_rfl) (by kernel_rfl) (fun _ _ _ h => h) (Or.inl ⟨by rfl, ?_⟩) (by assumption) ?_
                rotate_left 1
                · (intro w hSw; (try dsimp only at hSw); (first | (go_simp; done) | (go_simp; with_reducible rfl)))
                try simp only [Act.put, List.getElem_toArray, List.getElem_cons_zero, List.getElem_cons_succ, List.setIfInBounds_toArray, List.set_cons_zero, List.set_cons_succ]
                refine wpAnyH_take (i := 13) (oi := _) (v := ?_) rfl (by kernel_rfl) (by kernel_rfl) (by kernel_rfl) (fun _ _ _ h => h) (Or.inl ⟨by rfl, ?_⟩) (by assumption) ?_
                rotate_left 1
                · (intro w hSw; (try dsimp only at hSw); (first | (go_simp; done) | (go_simp; with_reducible rfl)))
                try simp only [Act.put, List.getElem_toArray, List.getElem_cons_zero, List.getElem_cons_succ, List.setIfInBounds_toArray, List.set_cons_zero, List.set_cons_succ]
                refine wpAnyH_take (i := 14) (oi := _) (v := ?_) rfl (by kernel_rfl) (by kernel_rfl) (by kernel_rfl) (fun _ _ _ h => h) (Or.inl ⟨by rfl, ?_⟩) (by assumption) ?_
                rotate_left 1
                · (intro w hSw; (try dsimp only at hSw); (first | (go_simp; done) | (go_simp; with_reducible rfl)))
                try simp only [Act.put, List.getElem_toArray, List.getElem_cons_zero, List.getElem_cons_succ, List.setIfInBounds_toArray, List.set_cons_zero, List.set_cons_succ]
                refine wpAnyH_take (i := 15) (oi := _) (v := ?_) rfl (by kernel_rfl) (by kernel_rfl) (by kernel_rfl) (fun _ _ _ h => h) (Or.inl ⟨by rfl, ?_⟩) (by assumption) ?_
                rotate_left 1
                · (intro w hSw; (try dsimp only at hSw); (first | (go_simp; done) | (go_simp; with_reducible rfl)))
                try simp only [Act.put, List.getElem_toArray, List.getElem_cons_zero, List.getElem_cons_succ, List.setIfInBounds_toArray, List.set_cons_zero, List.set_cons_succ]
                refine wpAnyH_take (i := 16) (oi := _) (v := ?_) rfl (by kernel_rfl) (by kernel_rfl) (by kernel_rfl) (fun _ _ _ h => h) (Or.inl ⟨by rfl, ?_⟩) (by assumption) ?_
                rotate_left 1
                · (intro w hSw; (try dsimp only at hSw); (first | (go_simp; done) | (go_simp; with_reducible rfl)))
                try simp only [Act.put, List.getElem_toArray, List.getElem_cons_zero, List.getElem_cons_succ, List.setIfInBounds_toArray, List.set_cons_zero, List.set_cons_succ]
                refine wpAnyH_take (i := 17) (oi := _) (v := .bool false) rfl (by kernel_rfl) (by kernel_rfl) (by kernel_rfl) (fun _ _ _ h => h) (Or.inl ⟨by rfl, ?_⟩) (by assumption) ?_
                · (intro w hSw; (try dsimp only at hSw); (first | (go_simp; done) | (go_simp; with_reducible rfl) | (go_simp; simp [*]; done)))
                try simp only [Act.put, List.getElem_toArray, List.getElem_cons_zero, List.getElem_cons_succ, List.setIfInBounds_toArray, List.set_cons_zero, List.set_cons_succ]
                refine wpAnyH_take (i := 18) (oi := _) (v := .bool false) rfl (by kernel_rfl) (by kernel_rfl) (by kernel_rfl) (fun _ _ _ h => h) (Or.inl ⟨by rfl, ?_⟩) (by assumption) ?_
                · (intro w hSw; (try dsimp only at hSw); (first | (go_simp; done) | (go_simp; with_reducible rfl) | (go_simp; simp [*]; done)))
                try simp only [Act.put, List.getElem_toArray, List.getElem_cons_zero, List.getElem_cons_succ, List.setIfInBounds_toArray, List.set_cons_zero, List.set_cons_succ]
                refine wpAnyH_take (i := 19) (oi := _) (v := .bool false) rfl (by kernel_rfl) (by kernel_rfl) (by kernel_rfl) (fun _ _ _ h => h) (Or.inl ⟨by rfl, ?_⟩) (by assumption) ?_
                · (intro w hSw; (try dsimp only at hSw); (first | (go_simp; done) | (go_simp; with_reducible rfl) | (go_simp; simp [*]; done)))
                try simp only [Act.put, List.getElem_toArray, List.getElem_cons_zero, List.getElem_cons_succ, List.setIfInBounds_toArray, List.set_cons_zero, List.set_cons_succ]
                refine wpAnyH_done (by kernel_rfl) ?_ _
                refine NoPanic.normal ?_
                clear hHeld
                go_wp2_with fail
                exact ⟨⟨m + 1, (K : Int), by omega, by go_num, rfl, HN2.out, HBd.out⟩, by simp [intOf]; omega⟩
        · have HE : Hid (b = nr L j) := hide (by
            have h1 := HP.out
            rw [show m = DL.length by omega, HDL.out] at h1
            exact h1.done HGG.out)
          have HO5 := hide (own_keep HO.out (fun k _ hk => HB.out.block k hk))
          have HB5 := hide (HBS.out.trans (HB.out.mono HBS.out.size))
          have hs5 := HB.out.size
          have HPt : Hid (PtI (wr.alloc (.cells #[.int .i64 b] 3)) (.slice (some ⟨wr.heap.size, 0, none⟩) 1 1) 1 (ic [b])) := hide (.inr ⟨_, _, rfl, rfl, fun q x hx => by
            obtain rfl : q = 0 := by have := (List.getElem?_eq_some_iff.1 hx).1; simp [ic] at this; omega
            rw [Addr.add_lit, (Bx.new wr #[.int .i64 b] 3).c]
            simpa [ic] using hx, ic_one _⟩)
          have HO' : Hid ((wr.alloc (.cells #[.int .i64 b] 3)).ownsRow w3.heap.size 3 1 (.slice a4 j c4) j (ic (nrs L j))) := hide (own_keep HO5.out (fun k _ hk => Below.heap_alloc wr _ k hk))
          have hS2 : wr.heap.size ≤ (wr.alloc (.cells #[.int .i64 b] 3)).heap.size := by simp
          have HBa := hide (HB5.out.alloc (by omega) (.cells #[.int .i64 b] 3))
          go_wp2_with (at_builtin; refine wpList_append_i rfl _ _ rfl w3.heap.size _ j _ rfl HO'.out _ 1 _ rfl HPt.out (by omega) (by omega) ?_)
          intro v' w' hO2 hg2
          have HB2 := hide (HBa.out.trans (grown_below hg2 (by omega) Hge.out))
          rw [← ic_app, HE.out, ← nrs_succ] at hO2
          have HO2 := hide hO2
          clear hO2 hg2
          go_wp2_with fail
          exact ⟨⟨j + 1, by omega, by go_num, HO2.out, HB2.out⟩, by simp [intOf]; omega⟩
    · have HE : Hid (NV wr (.slice a4 j c4) (nrs L L.length)) := hide (by
        have := NV.ofOwn HO.out (nrs_len L j).symm
        rw [show j = L.length by omega] at this ⊢
        exact this)
      have HBw := hide (hB3.trans (HB.out.mono hB3.size))
      go_wp2_with fail
      go_ret
      exact ⟨_, rfl, HE.out, HBw.out⟩

set_option maxHeartbeats 2000000 in
theorem specNearest_any (v : Value) (L : List (List Int)) (w : World) (h : GRow w v L) :
    Calls Try.prog 25 #[v] w fun e w' => ∃ v', e = .returned (.tuple #[v', .bool (goodG L)]) ∧ NV w' v' (neR L) ∧ Below w.heap.size w w' := by
  obtain ⟨ad, c, rfl, hR, hs, hlc⟩ := h
  have hB0 : Below w.heap.size w (w.alloc (.cells #[.slice ad L.length c] 27)) := (Below.refl _ _).alloc (Nat.le_refl _) _
  have HX := hide (Bx.new w #[.slice ad L.length c] 27)
  have HV : Hid (∀ w', Below w.heap.size w w' → GRow w' (.agg #[.slice ad L.length c]) L) := hide (fun w' hb => ⟨ad, c, rfl, hR.below hb, hs, hlc⟩)
  clear hR hs hlc
  go_enter Try.func25, Try.ntmps25
  go_wp2_with fail
  refine Calls.mono (specGoodG_any _ L _ (HV.out _ hB0)) ?_
  rintro e w1 ⟨rfl, hb⟩
  have hB1 := hB0.trans (hb.mono hB0.size)
  have HX1 := hide (HX.out.below hb HX.out.lt)
  clear hb hB0 HX
  have cx := HX1.out.c
  have lx := HX1.out.lt
  by_cases hg : goodG L = true
  · have HRe : Hid (neR L = nrs L L.length) := hide (by rw [neR, if_pos hg])
    have HGG := hide (goodG_iff.1 hg)
    have Hg := hide hg
    rw [hg]
    clear hg
    go_wp2_with fail
    refine Calls.mono (l10Nearest_any _ L _ (HV.out _ hB1) HGG.out) ?_
    rintro e w2 ⟨v2, rfl, hN, hb⟩
    have HN := hide hN
    have hB2 := hB1.trans (hb.mono hB1.size)
    clear hN hb cx
    go_wp2_with fail
    refine bodyPost_ret (v := .tuple #[v2, .bool true]) (by simp [results, Try.results25, go_sem]) rfl ?_
    exact ⟨_, by rw [Hg.out], by rw [HRe.out]; exact HN.out, hB2⟩
  · have HRe : Hid (neR L = []) := hide (by rw [neR, if_neg hg])
    rw [Bool.not_eq_true] at hg
    have Hg := hide hg
    rw [hg]
    clear hg
    go_wp2_with fail
    refine bodyPost_ret (v := .tuple #[.slice none 0 0, .bool false]) (by simp [results, Try.results25, go_sem]) rfl ?_
    exact ⟨_, by rw [Hg.out], .inl ⟨rfl, HRe.out⟩, hB1⟩

set_option maxHeartbeats 4000000 in
theorem implNearest_any (v : Value) (L : List (List Int)) (w : World) (h : GRow w v L) :
    Calls Try.prog 26 #[v] w fun e w' => ∃ v', e = .returned (.tuple #[v', .bool (goodG L)]) ∧ w'.ownsRow w.heap.size 3 1 v' (neR L).length (ic (neR L)) ∧ Below w.heap.size w w' := by
  obtain ⟨ad, c, rfl, hR, hs, hlc⟩ := h
  have hz := (zero_of_info dInfo).1
  have hB0 : Below w.heap.size w (w.alloc (.cells #[.slice ad L.length c] 27)) := (Below.refl _ _).alloc (Nat.le_refl _) _
  have HX := hide (Bx.new w #[.slice ad L.length c] 27)
  have HV : Hid (∀ w', Below w.heap.size w w' → GRow w' (.agg #[.slice ad L.length c]) L) := hide (fun w' hb => ⟨ad, c, rfl, hR.below hb, hs, hlc⟩)
  clear hR hs hlc
  go_enter Try.func26, Try.ntmps26
  go_wp2_with fail
  refine Calls.mono (implGoodG_any _ L _ (HV.out _ hB0)) ?_
  rintro e w1 ⟨rfl, hb⟩
  have hB1 := hB0.trans (hb.mono hB0.size)
  have HX1 := hide (HX.out.below hb HX.out.lt)
  clear hb hB0 HX
  have cx := HX1.out.c
  have lx := HX1.out.lt
  by_cases hg : goodG L = true
  · have HRe : Hid (neR L = nrs L L.length) := hide (by rw [neR, if_pos hg])
    have HGG := hide (goodG_iff.1 hg)
    have hl12 := HGG.out.2.1
    have Hg := hide hg
    rw [hg]
    clear hg
    go_wp2_with fail
    refine Calls.mono (dominators_any _ L _ (HV.out _ hB1) HGG.out) ?_
    rintro e w2 ⟨rfl, hb⟩
    have hB2 := hB1.trans (hb.mono hB1.size)
    have HX2 := hide (HX1.out.below hb HX1.out.lt)
    clear hb cx lx HX1 hB1
    have HX4 : Hid ((w2.alloc (.cells (dA fun _ _ => false) 53)).heap[w2.heap.size]? = some (.cells (dA fun _ _ => false) 53 (0, 0))) := hide (heap_alloc_new w2 _)
    go_upto_region 4 with (refine wpList_store_row rfl 53 _ _ rfl w2.heap.size _ rfl rfl 53 _ HX4.out (by rw [dA_size]; exact dSize) (by rw [dA_size, dA_size]) (dA_one _) ?_)
    rw [World.setRow_alloc_new]
    obtain ⟨w3, hw3⟩ : ∃ w3, w3 = w2.alloc (.cells (dA (dm L)) 53) := ⟨_, rfl⟩
    have hB3 : Below w.heap.size w w3 := by rw [hw3]; exact hB2.alloc hB2.size _
    have HY4 : Hid (Bx w3 w2.heap.size (dA (dm L)) 53) := hide (by rw [hw3]; exact Bx.new _ _ _)
    have HX3 : Hid (Bx w3 w.heap.size #[.slice ad L.length c] 27) := hide (by rw [hw3]; exact HX2.out.alloc _)
    rw [← hw3]
    obtain ⟨B4, hB4⟩ : ∃ B4, B4 = w2.heap.size := ⟨_, rfl⟩
    rw [← hB4] at HY4 ⊢
    have h4 : w.heap.size ≤ B4 := by rw [hB4]; exact hB2.size
    clear hw3 hB4 HX4 hz HX2 hB2
    have hmk := mk_Int1 L.length (by omega)
    have cx := HX3.out.c
    have lx := HX3.out.lt
    go_wp2_with fail
    clear cx hmk
    have hB5 : Below w.heap.size w (w3.alloc (.cells (madeCells #[.int .i64 0] L.length) 3)) := hB3.alloc hB3.size _
    have HY5 : Hid (Bx (w3.alloc (.cells (madeCells #[.int .i64 0] L.length) 3)) B4 (dA (dm L)) 53) := hide (HY4.out.alloc _)
    have HO0 : Hid (Bx (w3.alloc (.cells (madeCells #[.int .i64 0] L.length) 3)) w3.heap.size (madeCells #[.int .i64 0] L.length) 3) := hide (Bx.new _ _ _)
    obtain ⟨S, hS⟩ : ∃ S, S = w3.heap.size := ⟨_, rfl⟩
    rw [← hS] at HO0 ⊢
    have hS4 : B4 < S := by rw [hS]; exact HY4.out.lt
    clear hS
    go_loopw [18] (fun i w' => ∃ (j : Nat) (cur : Array Value), j ≤ L.length ∧ i = .int .i64 j ∧ Bx w' S cur 3 ∧ cur.size = L.length ∧ (∀ q, q < j → cur[q]? = some (.int .i64 (nr L q))) ∧ Bx w' B4 (dA (dm L)) 53 ∧ Below w.heap.size w w') (fun i _ => L.length - (intOf i).toNat)
    case atStart => exact ⟨0, _, by omega, rfl, HO0.out, by simp [madeCells], by intros; omega, HY5.out, hB5⟩
    case round =>
      clear HO0 hB5 HY5 HY4 HX3 hB3
      obtain ⟨j, cur, hj, rfl, hO, hcs, hD, hX, hB⟩ := hrel
      have HO := hide hO
      have HD := hide hD
      have HX := hide hX
      have HB := hide hB
      have HCs := hide hcs
      clear hO hD hX hB hcs
      by_cases hlt : j < L.length
      · have hlt' : (j : Int) < (L.length : Int) := by omega
        have hj12 : j < 12 := by omega
        go_wp2_with (refine wpList_load_row rfl 53 _ rfl B4 rfl 53 _ (0, 0) _ HX.out Try.underlying53 rfl (by rw [dA_size]; exact dSize) ?_)
        refine Calls.mono (nearest_any (dm L) j hj12 _) ?_
        rintro e w5 ⟨rfl, hb⟩
        rw [nrF_nr HGG.out]
        have hO5 := HO.out.below hb HO.out.lt
        have c5 : ∃ y, w5.cell? ⟨S, j, none⟩ = some y := by
          rw [hO5.c, Array.getElem?_eq_getElem (by have := HCs.out; omega)]; exact ⟨_, rfl⟩
        obtain ⟨y, c5⟩ := c5
        have f5 := hO5.f
        have hB5 := HB.out.trans (hb.mono HB.out.size)
        obtain ⟨z, hz⟩ : ∃ z, z = nr L j := ⟨_, rfl⟩
        rw [← hz]
        have HOn := hide (hO5.set j (.int .i64 z))
        have HXn := hide ((HX.out.below hb HX.out.lt).setne S j (.int .i64 z) (by omega))
        have HBn := hide (hB5.setCell (p := ⟨S, j, none⟩) (show w.heap.size ≤ S by omega) (.int .i64 z))
        have HDn : Hid (∀ q, q < j + 1 → (cur.setIfInBounds j (.int .i64 z))[q]? = some (.int .i64 (nr L q))) := hide (fun q hq => by
          rw [Array.getElem?_setIfInBounds]
          by_cases e : j = q
          · subst e; rw [if_pos rfl, if_pos (by have := HCs.out; omega), hz]
          · rw [if_neg e]; exact HD.out q (by omega))
        have HCn : Hid ((cur.setIfInBounds j (.int .i64 z)).size = L.length) := hide (by rw [Array.size_setIfInBounds]; exact HCs.out)
        clear hz hb hO5 hB5
        go_wp2_with fail
        exact ⟨⟨j + 1, _, by omega, by go_num, HOn.out, HCn.out, HDn.out, HXn.out, HBn.out⟩, by simp [intOf]; omega⟩
      · have HE : Hid (wr.ownsRow w.heap.size 3 1 (.slice (some ⟨S, 0, none⟩) L.length L.length) L.length (ic (nrs L L.length))) := hide (by
          refine ⟨by rw [ic_len, nrs_len, Nat.mul_one], .inr ⟨S, L.length, cur, rfl, by omega, HO.out, Nat.le_refl _, by unfold maxLen; omega, by rw [Nat.mul_one]; exact HCs.out, ?_⟩⟩
          apply List.ext_getElem?
          intro i
          by_cases hi : i < L.length
          · rw [List.getElem?_take_of_lt (by omega), ic_at _ i (by rw [nrs_len]; exact hi), Array.getElem?_toList, HD.out i (by omega)]
            simp [nrs]
          · rw [List.getElem?_eq_none (by simp; omega), List.getElem?_eq_none (by rw [ic_len, nrs_len]; omega)])
        go_wp2_with fail
        refine bodyPost_ret (v := .tuple #[.slice (some ⟨S, 0, none⟩) L.length L.length, .bool true]) (by simp [results, Try.results26, go_sem]) rfl ?_
        exact ⟨_, by rw [Hg.out], by rw [HRe.out, nrs_len]; exact HE.out, HB.out⟩
  · have HRe : Hid (neR L = []) := hide (by rw [neR, if_neg hg])
    rw [Bool.not_eq_true] at hg
    have Hg := hide hg
    rw [hg]
    clear hg
    go_wp2_with fail
    refine bodyPost_ret (v := .tuple #[.slice none 0 0, .bool false]) (by simp [results, Try.results26, go_sem]) rfl ?_
    exact ⟨_, by rw [Hg.out], by rw [HRe.out]; exact World.ownsRow_nil _ _ _ _, hB1⟩
end Go.Proofs.Ytangkpbehpgmiaa.W
