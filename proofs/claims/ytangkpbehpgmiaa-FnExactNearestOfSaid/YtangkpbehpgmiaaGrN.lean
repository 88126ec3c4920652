/-
  The nearest dominator: the model, and what the program's search comes to. Conditions: none but those that each theorem states. Written by wip/build/mk_grn.py.
-/
import Derived.Test.YtangkpbehpgmiaaGrF
namespace Go.Proofs.Ytangkpbehpgmiaa.W
open Go.ChangeShapes Go.WideShapes Go.ChangeAt Go.RowKit Go.Joins
set_option linter.unusedVariables false
set_option linter.unusedSimpArgs false

/-- k is the nearest of b's dominators but b itself. -/
def NearP (L : List (List Int)) (b k : Nat) : Prop := Dom L b k ∧ k ≠ b ∧ ∀ d, Dom L b d → d ≠ b → Dom L k d
theorem NearP.unique {L : List (List Int)} {b k k' : Nat} (h : NearP L b k) (h' : NearP L b k') : k = k' :=
  (h.2.2 k' h'.1 h'.2.1).antisymm (h'.2.2 k h.1 h.2.1)
open Classical in
noncomputable def nr (L : List (List Int)) (b : Nat) : Int := if h : ∃ k, NearP L b k then ((Classical.choose h : Nat) : Int) else -1
theorem nr_some {L : List (List Int)} {b k : Nat} (h : NearP L b k) : nr L b = (k : Int) := by
  have he : ∃ k, NearP L b k := ⟨k, h⟩
  unfold nr
  rw [dif_pos he, (Classical.choose_spec he).unique h]
theorem nr_none {L : List (List Int)} {b : Nat} (h : ∀ k, ¬ NearP L b k) : nr L b = -1 := by
  unfold nr
  rw [dif_neg (fun ⟨k, hk⟩ => h k hk)]
/-- The others of b's marks. -/
def oth (F : Nat → Nat → Bool) (b : Nat) : Nat → Bool := upd (F b) b false
def nrC (F : Nat → Nat → Bool) (b k : Nat) : Bool := oth F b k && sEq (F k) (oth F b)
/-- The first that the program takes. -/
def nrF (F : Nat → Nat → Bool) (b : Nat) : Int :=
  match (List.range 12).find? (nrC F b) with
  | some k => (k : Int)
  | none => -1
theorem nrF_at {F : Nat → Nat → Bool} {b j : Nat} (hj : j < 12) (h1 : ∀ k, k < j → nrC F b k = false) (h2 : nrC F b j = true) : nrF F b = (j : Int) := by
  have : (List.range 12).find? (nrC F b) = some j := by
    rw [show (12 : Nat) = j + (12 - j) by omega, List.range_add, List.find?_append, List.find?_eq_none.2 (fun k hk => by rw [h1 k (List.mem_range.1 hk)]; simp)]
    obtain ⟨m, hm⟩ : ∃ m, 12 - j = m + 1 := ⟨12 - j - 1, by omega⟩
    rw [hm, List.range_succ_eq_map, List.map_cons, List.find?_cons]
    simp [h2]
  simp [nrF, this]
theorem nrF_no {F : Nat → Nat → Bool} {b : Nat} (h1 : ∀ k, k < 12 → nrC F b k = false) : nrF F b = -1 := by
  have : (List.range 12).find? (nrC F b) = none := List.find?_eq_none.2 (fun k hk => by rw [h1 k (List.mem_range.1 hk)]; simp)
  simp [nrF, this]
theorem nrC_iff {L : List (List Int)} (hg : GG L) {b k : Nat} (hk : k < 12) : nrC (dm L) b k = true ↔ NearP L b k := by
  have h12 := hg.2.1
  have ho : ∀ d, oth (dm L) b d = true ↔ Dom L b d ∧ d ≠ b := fun d => by
    unfold oth
    by_cases e : d = b
    · subst e; rw [upd_same]; simp
    · rw [upd_other _ _ _ e, dm_iff]; simp [e]
  unfold nrC
  rw [Bool.and_eq_true, ho, sEq_iff]
  constructor
  · rintro ⟨⟨h1, h2⟩, h3⟩
    refine ⟨h1, h2, fun d hd hne => ?_⟩
    have hd12 := (hd.lt hg).2
    have := sA_inj h3 d (by omega)
    exact dm_iff.1 (this.trans ((ho d).2 ⟨hd, hne⟩))
  · rintro ⟨h1, h2, h3⟩
    refine ⟨⟨h1, h2⟩, sA_congr (fun d hd => ?_)⟩
    rw [Bool.eq_iff_iff, dm_iff, ho]
    constructor
    · intro h4
      exact ⟨h1.trans h4, fun e => by subst e; exact h2 (h4.antisymm h1)⟩
    · rintro ⟨h4, h5⟩
      exact h3 d h4 h5
theorem nrF_nr {L : List (List Int)} (hg : GG L) (b : Nat) : nrF (dm L) b = nr L b := by
  by_cases h : ∃ k, k < 12 ∧ NearP L b k
  · obtain ⟨k, hk, hn⟩ := h
    rw [nr_some hn]
    refine nrF_at hk (fun i hi => ?_) ((nrC_iff hg hk).2 hn)
    rw [Bool.eq_false_iff]
    intro hc
    have := ((nrC_iff hg (by omega)).1 hc).unique hn
    omega
  · rw [nr_none (fun k hk => h ⟨k, by have := (hk.1.lt hg).2; have := hg.2.1; omega, hk⟩)]
    refine nrF_no (fun k hk => ?_)
    rw [Bool.eq_false_iff]
    intro hc
    exact h ⟨k, hk, (nrC_iff hg hk).1 hc⟩
/-- Of those with most dominators it is the nearest. -/
theorem near_of_most {L : List (List Int)} (hg : GG L) {b k : Nat} (h1 : Dom L b k) (h2 : k ≠ b) (h3 : ∀ d, Dom L b d → d ≠ b → (dl L d).length ≤ (dl L k).length) : NearP L b k := by
  refine ⟨h1, h2, fun d hd hne => Classical.byContradiction (fun hn => ?_)⟩
  have hdk : Dom L d k := (Dom.row h1 hd).resolve_left hn
  have hl : ∀ x, (dl L x).length = (List.range 12).countP (dm L x) := fun x => by
    unfold dl lst
    rw [List.length_map, List.countP_eq_length_filter]
  have := countP_lt (p := dm L k) (q := dm L d) (List.range 12) (fun i _ hp => dm_iff.2 (hdk.trans (dm_iff.1 hp))) ⟨d, List.mem_range.2 (by have := (hd.lt hg).2; have := hg.2.1; omega), dm_iff.2 (Dom.self hd.reached), by
    rw [Bool.eq_false_iff]; intro h; exact hn (dm_iff.1 h)⟩
  have h4 := h3 d hd hne
  rw [hl, hl] at h4
  omega

set_option maxHeartbeats 8000000 in
theorem nearest_any (F : Nat → Nat → Bool) (b : Nat) (hb : b < 12) (w : World) :
    Calls Try.prog 41 #[.agg (dA F), .int .i64 (b : Int)] w fun e w' => e = .returned (.int .i64 (nrF F b)) ∧ Below w.heap.size w w' := by
  have hB0 : Below w.heap.size w (w.alloc (.cells (dA F) 53)) := (Below.refl _ _).alloc (Nat.le_refl _) _
  have HX0 := hide (Bx.new w (dA F) 53)
  have hb' : (b : Int) < 12 := by omega
  obtain ⟨R, hR⟩ : ∃ R, R = nrF F b := ⟨_, rfl⟩
  rw [← hR]
  have HR := hide hR
  clear hR
  go_enter Try.func41, Try.ntmps41
  go_upto_region 1 with fail
  obtain ⟨W0, hW0⟩ : ∃ W0, W0 = w.alloc (.cells (dA F) 53) := ⟨_, rfl⟩
  obtain ⟨BB, hBB⟩ : ∃ BB, BB = w.heap.size := ⟨_, rfl⟩
  rw [← hW0] at HX0 hB0 ⊢
  rw [← hBB] at HX0 ⊢
  have hwB : w.heap.size ≤ BB := by omega
  clear hW0 hBB
  have HX5 : Hid ((W0.alloc (.cells #[.bool false, .bool false, .bool false, .bool false, .bool false, .bool false, .bool false, .bool false, .bool false, .bool false, .bool false, .bool false] 48)).heap[W0.heap.size]? = some (.cells #[.bool false, .bool false, .bool false, .bool false, .bool false, .bool false, .bool false, .bool false, .bool false, .bool false, .bool false, .bool false] 48 (0, 0))) := hide (heap_alloc_new W0 _)
  go_upto_region 2 with (first | (refine wpList_load_set rfl _ rfl BB b _ _ HX0.out hb rfl ?_) | (refine wpList_store_row rfl 48 _ _ rfl W0.heap.size _ rfl rfl 48 _ HX5.out bsInfo rfl (sA_one _) ?_))
  rw [World.setRow_alloc_new]
  clear HX5
  obtain ⟨W1, hW1⟩ : ∃ W1, W1 = W0.alloc (.cells (sA (F b)) 48) := ⟨_, rfl⟩
  have hB1 : Below w.heap.size w W1 := by rw [hW1]; exact hB0.alloc hB0.size _
  have HX1 : Hid (Bx W1 BB (dA F) 53) := hide (by rw [hW1]; exact HX0.out.alloc _)
  have HO1 : Hid (Bx W1 W0.heap.size (sA (F b)) 48) := hide (by rw [hW1]; exact Bx.new _ _ _)
  rw [← hW1]
  obtain ⟨BO, hBO⟩ : ∃ BO, BO = W0.heap.size := ⟨_, rfl⟩
  have hlt0 : BB < BO := by rw [hBO]; exact HX0.out.lt
  rw [← hBO] at HO1 ⊢
  clear hW1 hBO hB0 HX0
  have cO : W1.cell? ⟨BO, b, none⟩ = some (.bool (F b b)) := by rw [HO1.out.c]; exact sA_at _ hb
  have fO := HO1.out.f
  have HO2 := hide (HO1.out.set b (.bool false))
  rw [sA_set] at HO2
  replace HO2 : Hid (Bx _ BO (sA (oth F b)) _) := HO2
  have HX2 := hide (HX1.out.setne BO b (.bool false) (by omega))
  have hB2 := hB1.setCell (p := ⟨BO, b, none⟩) (show w.heap.size ≤ BO by omega) (.bool false)
  go_upto_region 3 with fail
  clear cO fO HO1 HX1 hB1
  obtain ⟨W2, hW2⟩ : ∃ W2, W2 = W1.setCell ⟨BO, b, none⟩ (.bool false) := ⟨_, rfl⟩
  rw [← hW2] at HO2 HX2 hB2 ⊢
  clear hW2
  obtain ⟨os, hos⟩ : ∃ os, os = oth F b := ⟨_, rfl⟩
  rw [← hos] at HO2
  have HOs := hide hos
  clear hos
  go_wp2_with (refine wpList_load_row rfl 48 _ rfl BO rfl 48 _ (0, 0) _ HO2.out Try.underlying48 rfl bsInfo ?_)
  go_loopw [14] (fun i w' => ∃ j : Nat, j ≤ 12 ∧ i = .int .i64 j ∧ (∀ k, k < j → nrC F b k = false) ∧ Bx w' BO (sA os) 48 ∧ Bx w' BB (dA F) 53 ∧ Below w.heap.size w w') (fun i _ => 12 - (intOf i).toNat)
  case atStart => exact ⟨0, by omega, rfl, by intros; omega, HO2.out, HX2.out, hB2⟩
  case round =>
    clear HO2 HX2 hB2
    obtain ⟨j, hj, rfl, hN, hXo, hX, hB⟩ := hrel
    have HN := hide hN
    have HXo := hide hXo
    have HX := hide hX
    have HB := hide hB
    have HBd : Hid (Below w.heap.size w wr.drew) := hide (belowDrew8 hB)
    have HXd : Hid (Bx wr.drew BB (dA F) 53) := hide hX.drew
    have HXod : Hid (Bx wr.drew BO (sA os) 48) := hide hXo.drew
    clear hN hXo hX hB
    by_cases hlt : j < 12
    · have hlt' : (j : Int) < 12 := by omega
      have HI := hide (sIdx os wr j hlt)
      obtain ⟨p, hp⟩ : ∃ p, p = os j := ⟨_, rfl⟩
      rw [← hp] at HI
      have HPj := hide hp
      clear hp
      cases p with
      | false =>
        have HN2 : Hid (∀ k, k < j + 1 → nrC F b k = false) := hide (fun k hk => by
          by_cases e : k = j
          · subst e; unfold nrC; rw [← HOs.out, ← HPj.out]; rfl
          · exact HN.out k (by omega))
        go_upto_region 6 with (refine wpList_indexA rfl 48 _ _ rfl _ _ _ rfl rfl HI.out ?_)
        refine wp_region_noPanic ?_
        refine wp_region_held_drew (S := fun w' => Bx w' BO (sA os) 48 ∧ Bx w' BB (dA F) 53) (by kernel_rfl) ⟨HXo.out, HX.out⟩ (fun hHeld => ?_)
        refine wpAnyH_take (i := 0) (oi := _) (v := ?_) rfl (by kernel_rfl) (by kernel_rfl) (by kernel_rfl) (fun _ _ _ h => h) (Or.inl ⟨by rfl, ?_⟩) (by assumption) ?_
        rotate_left 1
        · (intro w hSw; clear hSw; (first | (go_simp; done) | (go_simp; with_reducible rfl)))
        try simp only [Act.put, List.getElem_toArray, List.getElem_cons_zero, List.getElem_cons_succ, List.setIfInBounds_toArray, List.set_cons_zero, List.set_cons_succ]
        refine wpAnyH_take (i := 1) (oi := _) (v := ?_) rfl (by kernel_rfl) (by kernel_rfl) (by kernel_rfl) (fun _ _ _ h => h) (Or.inl ⟨by rfl, ?_⟩) (by assumption) ?_
        rotate_left 1
        · (intro w hSw; clear hSw; (first | (go_simp; done) | (go_simp; with_reducible rfl)))
        try simp only [Act.put, List.getElem_toArray, List.getElem_cons_zero, List.getElem_cons_succ, List.setIfInBounds_toArray, List.set_cons_zero, List.set_cons_succ]
        refine wpAnyH_take (i := 2) (oi := _) (v := undef) rfl (by kernel_rfl) (by kernel_rfl) (by kernel_rfl) (fun _ _ _ h => h) (Or.inr ⟨by rfl, rfl⟩) (by assumption) ?_
        try simp only [Act.put, List.getElem_toArray, List.getElem_cons_zero, List.getElem_cons_succ, List.setIfInBounds_toArray, List.set_cons_zero, List.set_cons_succ]
        refine wpAnyH_take (i := 3) (oi := _) (v := undef) rfl (by kernel_rfl) (by kernel_rfl) (by kernel_rfl) (fun _ _ _ h => h) (Or.inr ⟨by rfl, rfl⟩) (by assumption) ?_
        try simp only [Act.put, List.getElem_toArray, List.getElem_cons_zero, List.getElem_cons_succ, List.setIfInBounds_toArray, List.set_cons_zero, List.set_cons_succ]
        refine wpAnyH_take (i := 4) (oi := _) (v := undef) rfl (by kernel_rfl) (by kernel_rfl) (by kernel_rfl) (fun _ _ _ h => h) (Or.inr ⟨by rfl, rfl⟩) (by assumption) ?_
        try simp only [Act.put, List.getElem_toArray, List.getElem_cons_zero, List.getElem_cons_succ, List.setIfInBounds_toArray, List.set_cons_zero, List.set_cons_succ]
        refine wpAnyH_take (i := 5) (oi := _) (v := undef) rfl (by kernel_rfl) (by kernel_rfl) (by kernel_rfl) (fun _ _ _ h => h) (Or.inr ⟨by rfl, rfl⟩) (by assumption) ?_
        try simp only [Act.put, List.getElem_toArray, List.getElem_cons_zero, List.getElem_cons_succ, List.setIfInBounds_toArray, List.set_cons_zero, List.set_cons_succ]
        refine wpAnyH_take (i := 6) (oi := _) (v := undef) rfl (by kernel_rfl) (by kernel_rfl) (by kernel_rfl) (fun _ _ _ h => h) (Or.inr ⟨by rfl, rfl⟩) (by assumption) ?_
        try simp only [Act.put, List.getElem_toArray, List.getElem_cons_zero, List.getElem_cons_succ, List.setIfInBounds_toArray, List.set_cons_zero, List.set_cons_succ]
        refine wpAnyH_take (i := 7) (oi := _) (v := ?_) rfl (by kernel_rfl) (by kernel_rfl) (by kernel_rfl) (fun _ _ _ h => h) (Or.inl ⟨by rfl, ?_⟩) (by assumption) ?_
        rotate_left 1
        · (intro w hSw; clear hSw; (first | (go_simp; done) | (go_simp; with_reducible rfl)))
        try simp only [Act.put, List.getElem_toArray, List.getElem_cons_zero, List.getElem_cons_succ, List.setIfInBounds_toArray, List.set_cons_zero, List.set_cons_succ]
        refine wpAnyH_done (by kernel_rfl) ?_ _
        refine NoPanic.normal ?_
        clear hHeld
        go_wp2_with fail
        exact ⟨⟨j + 1, by omega, by go_num, HN2.out, HXod.out, HXd.out, HBd.out⟩, by simp [intOf]; omega⟩
      | true =>
        have heq := run_eql_s (F j) os
        obtain ⟨q, hq⟩ : ∃ q, q = sEq (F j) os := ⟨_, rfl⟩
        rw [← hq] at heq
        have HQ := hide hq
        clear hq
        have hgu := fun w => run_eqGuard_agg (P := Try.prog) w .eql 48 (.tmp 22) (.tmp 23) (sA (F j)) (sA os) sGuard
        go_upto_region 6 with (refine wpList_indexA rfl 48 _ _ rfl _ _ _ rfl rfl HI.out ?_)
        refine wp_region_noPanic ?_
        refine wp_region_held_drew (S := fun w' => Bx w' BO (sA os) 48 ∧ Bx w' BB (dA F) 53) (by kernel_rfl) ⟨HXo.out, HX.out⟩ (fun hHeld => ?_)
        refine wpAnyH_take (i := 0) (oi := _) (v := ?_) rfl (by kernel_rfl) (by kernel_rfl) (by kernel_rfl) (fun _ _ _ h => h) (Or.inl ⟨by rfl, ?_⟩) (by assumption) ?_
        rotate_left 1
        · (intro w hSw; clear hSw; (first | (go_simp; done) | (go_simp; with_reducible rfl)))
        try simp only [Act.put, List.getElem_toArray, List.getElem_cons_zero, List.getElem_cons_succ, List.setIfInBounds_toArray, List.set_cons_zero, List.set_cons_succ]
        refine wpAnyH_take (i := 1) (oi := _) (v := ?_) rfl (by kernel_rfl) (by kernel_rfl) (by kernel_rfl) (fun _ _ _ h => h) (Or.inl ⟨by rfl, ?_⟩) (by assumption) ?_
        rotate_left 1
        · (intro w hSw; clear hSw; (first | (go_simp; done) | (go_simp; with_reducible rfl)))
        try simp only [Act.put, List.getElem_toArray, List.getElem_cons_zero, List.getElem_cons_succ, List.setIfInBounds_toArray, List.set_cons_zero, List.set_cons_succ]
        refine wpAnyH_take (i := 2) (oi := _) (v := ?_) rfl (by kernel_rfl) (by kernel_rfl) (by kernel_rfl) (fun _ _ _ h => h) (Or.inl ⟨by rfl, ?_⟩) (by assumption) ?_
        rotate_left 1
        · (intro w hSw; clear hSw; (first | (go_simp; done) | (go_simp; with_reducible rfl)))
        try simp only [Act.put, List.getElem_toArray, List.getElem_cons_zero, List.getElem_cons_succ, List.setIfInBounds_toArray, List.set_cons_zero, List.set_cons_succ]
        refine wpAnyH_take (i := 3) (oi := _) (v := ?_) rfl (by kernel_rfl) (by kernel_rfl) (by kernel_rfl) (fun _ _ _ h => h) (Or.inl ⟨by rfl, ?_⟩) (by assumption) ?_
        rotate_left 1
        · (intro w hSw; clear hSw; (first | (go_simp; done) | (go_simp; with_reducible rfl)))
        try simp only [Act.put, List.getElem_toArray, List.getElem_cons_zero, List.getElem_cons_succ, List.setIfInBounds_toArray, List.set_cons_zero, List.set_cons_succ]
        refine wpAnyH_take (i := 4) (oi := _) (v := .agg (sA (F j))) rfl (by kernel_rfl) (by kernel_rfl) (by kernel_rfl) (fun _ _ _ h => h) (yieldsIf_load_mid (by rfl) 48 _ rfl BB (j * 12) rfl (sL (F j)) _ (fun w h => dA_rng h.2 hlt) Try.underlying48 rfl (bsInfo' _)) (by assumption) ?_
        try simp only [Act.put, List.getElem_toArray, List.getElem_cons_zero, List.getElem_cons_succ, List.setIfInBounds_toArray, List.set_cons_zero, List.set_cons_succ]
        refine wpAnyH_take (i := 5) (oi := _) (v := .agg (sA os)) rfl (by kernel_rfl) (by kernel_rfl) (by kernel_rfl) (fun _ _ _ h => h) (yieldsIf_load_mid (by rfl) 48 _ rfl BO 0 rfl (sL os) _ (fun w h => sA_rng h.1) Try.underlying48 rfl (bsInfo' _)) (by assumption) ?_
        try simp only [Act.put, List.getElem_toArray, List.getElem_cons_zero, List.getElem_cons_succ, List.setIfInBounds_toArray, List.set_cons_zero, List.set_cons_succ]
        refine wpAnyH_take (i := 6) (oi := _) (v := .bool q) rfl (by kernel_rfl) (by kernel_rfl) (by kernel_rfl) (fun _ _ _ h => h) (Or.inl ⟨by rfl, ?_⟩) (by assumption) ?_
        · (intro w hSw; clear hSw; go_simp)
        try simp only [Act.put, List.getElem_toArray, List.getElem_cons_zero, List.getElem_cons_succ, List.setIfInBounds_toArray, List.set_cons_zero, List.set_cons_succ]
        refine wpAnyH_take (i := 7) (oi := _) (v := ?_) rfl (by kernel_rfl) (by kernel_rfl) (by kernel_rfl) (fun _ _ _ h => h) (Or.inl ⟨by rfl, ?_⟩) (by assumption) ?_
        rotate_left 1
        · (intro w hSw; clear hSw; (first | (go_simp; done) | (go_simp; with_reducible rfl)))
        try simp only [Act.put, List.getElem_toArray, List.getElem_cons_zero, List.getElem_cons_succ, List.setIfInBounds_toArray, List.set_cons_zero, List.set_cons_succ]
        clear heq hgu
        refine wpAnyH_done (by kernel_rfl) ?_ _
        refine NoPanic.normal ?_
        clear hHeld
        cases q with
        | true =>
          have HE : Hid (R = (j : Int)) := hide (by rw [HR.out]; exact nrF_at hlt HN.out (by unfold nrC; rw [← HOs.out, ← HPj.out, ← HQ.out]; rfl))
          go_wp2_with fail
          go_ret
          exact ⟨ret_int HE.out.symm, HBd.out⟩
        | false =>
          have HN2 : Hid (∀ k, k < j + 1 → nrC F b k = false) := hide (fun k hk => by
            by_cases e : k = j
            · subst e; unfold nrC; rw [← HOs.out, ← HQ.out]; simp
            · exact HN.out k (by omega))
          go_wp2_with fail
          exact ⟨⟨j + 1, by omega, by go_num, HN2.out, HXod.out, HXd.out, HBd.out⟩, by simp [intOf]; omega⟩
    · have HE : Hid (R = -1) := hide (by rw [HR.out]; exact nrF_no (fun k hk => HN.out k (by omega)))
      go_wp2_with fail
      go_ret
      exact ⟨ret_int HE.out.symm, HB.out⟩
end Go.Proofs.Ytangkpbehpgmiaa.W
