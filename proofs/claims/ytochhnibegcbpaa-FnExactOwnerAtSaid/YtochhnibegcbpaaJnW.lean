/-
  Owners: their model, ownerOf and OwnerAt of the program. Conditions: none but those that each theorem states. Written by wip/build/mk_jnw.py.
-/
import Derived.Test.YtochhnibegcbpaaJnK
namespace Go.Proofs.Ytochhnibegcbpaa.W
open Go.ChangeShapes Go.WideShapes Go.ChangeAt Go.RowKit Go.Joins
set_option linter.unusedVariables false
set_option linter.unusedSimpArgs false

/-- k is the nearest ahead of b among those marked. -/
def OwP (L : List (List Int)) (o : Nat → Bool) (b k : Nat) : Prop := Dom L b k ∧ o k = true ∧ ∀ d, Dom L b d → o d = true → Dom L k d
theorem OwP.unique {L : List (List Int)} {o : Nat → Bool} {b k k' : Nat} (h : OwP L o b k) (h' : OwP L o b k') : k = k' :=
  (h.2.2 k' h'.1 h'.2.1).antisymm (h'.2.2 k h.1 h.2.1)
open Classical in
noncomputable def ow (L : List (List Int)) (o : Nat → Bool) (b : Nat) : Int := if h : ∃ k, OwP L o b k then ((Classical.choose h : Nat) : Int) else -1
theorem ow_some {L : List (List Int)} {o : Nat → Bool} {b k : Nat} (h : OwP L o b k) : ow L o b = (k : Int) := by
  have he : ∃ k, OwP L o b k := ⟨k, h⟩
  unfold ow
  rw [dif_pos he, (Classical.choose_spec he).unique h]
theorem ow_none {L : List (List Int)} {o : Nat → Bool} {b : Nat} (h : ∀ k, ¬ OwP L o b k) : ow L o b = -1 := by
  unfold ow
  rw [dif_neg (fun ⟨k, hk⟩ => h k hk)]
/-- What is marked of both. -/
def bth2 (f o : Nat → Bool) (i : Nat) : Bool := f i && o i
def owC (F : Nat → Nat → Bool) (o : Nat → Bool) (b k : Nat) : Bool := bth2 (F b) o k && sEq (bth2 (F k) o) (bth2 (F b) o)
/-- The first that the program takes. -/
def owF (F : Nat → Nat → Bool) (o : Nat → Bool) (b : Nat) : Int :=
  match (List.range 12).find? (owC F o b) with
  | some k => (k : Int)
  | none => -1
theorem owF_at {F : Nat → Nat → Bool} {o : Nat → Bool} {b j : Nat} (hj : j < 12) (h1 : ∀ k, k < j → owC F o b k = false) (h2 : owC F o b j = true) : owF F o b = (j : Int) := by
  have : (List.range 12).find? (owC F o b) = some j := by
    rw [show (12 : Nat) = j + (12 - j) by omega, List.range_add, List.find?_append, List.find?_eq_none.2 (fun k hk => by rw [h1 k (List.mem_range.1 hk)]; simp)]
    obtain ⟨m, hm⟩ : ∃ m, 12 - j = m + 1 := ⟨12 - j - 1, by omega⟩
    rw [hm, List.range_succ_eq_map, List.map_cons, List.find?_cons]
    simp [h2]
  simp [owF, this]
theorem owF_no {F : Nat → Nat → Bool} {o : Nat → Bool} {b : Nat} (h1 : ∀ k, k < 12 → owC F o b k = false) : owF F o b = -1 := by
  have : (List.range 12).find? (owC F o b) = none := List.find?_eq_none.2 (fun k hk => by rw [h1 k (List.mem_range.1 hk)]; simp)
  simp [owF, this]
theorem owC_iff {L : List (List Int)} (hg : GG L) {o : Nat → Bool} {b k : Nat} (hk : k < 12) : owC (dm L) o b k = true ↔ OwP L o b k := by
  unfold owC bth2
  rw [Bool.and_eq_true, Bool.and_eq_true, dm_iff, sEq_iff]
  constructor
  · rintro ⟨⟨h1, h2⟩, h3⟩
    refine ⟨h1, h2, fun d hd ho => ?_⟩
    have := sA_inj h3 d (by have := (hd.lt hg).2; have := hg.2.1; omega)
    rw [dm_iff.2 hd, ho] at this
    simp only [Bool.and_true] at this
    exact dm_iff.1 this
  · rintro ⟨h1, h2, h3⟩
    refine ⟨⟨h1, h2⟩, sA_congr (fun d hd => ?_)⟩
    cases ho : o d with
    | false => simp
    | true =>
      simp only [Bool.and_true]
      rw [Bool.eq_iff_iff, dm_iff, dm_iff]
      exact ⟨fun h4 => h1.trans h4, fun h4 => h3 d h4 ho⟩
theorem owF_ow {L : List (List Int)} (hg : GG L) (o : Nat → Bool) (b : Nat) : owF (dm L) o b = ow L o b := by
  by_cases h : ∃ k, k < 12 ∧ OwP L o b k
  · obtain ⟨k, hk, hn⟩ := h
    rw [ow_some hn]
    refine owF_at hk (fun i hi => ?_) ((owC_iff hg hk).2 hn)
    rw [Bool.eq_false_iff]
    intro hc
    have := ((owC_iff hg (by omega)).1 hc).unique hn
    omega
  · rw [ow_none (fun k hk => h ⟨k, by have := (hk.1.lt hg).2; have := hg.2.1; omega, hk⟩)]
    refine owF_no (fun k hk => ?_)
    rw [Bool.eq_false_iff]
    intro hc
    exact h ⟨k, hk, (owC_iff hg hk).1 hc⟩
/-- Of those marked with most dominators it is the nearest. -/
theorem own_of_most {L : List (List Int)} (hg : GG L) {o : Nat → Bool} {b k : Nat} (h1 : Dom L b k) (h2 : o k = true) (h3 : ∀ d, Dom L b d → o d = true → (dl L d).length ≤ (dl L k).length) : OwP L o b k := by
  refine ⟨h1, h2, fun d hd ho => Classical.byContradiction (fun hn => ?_)⟩
  have hdk : Dom L d k := (Dom.row h1 hd).resolve_left hn
  have hl : ∀ x, (dl L x).length = (List.range 12).countP (dm L x) := fun x => by
    unfold dl lst
    rw [List.length_map, List.countP_eq_length_filter]
  have := countP_lt (p := dm L k) (q := dm L d) (List.range 12) (fun i _ hp => dm_iff.2 (hdk.trans (dm_iff.1 hp))) ⟨d, List.mem_range.2 (by have := (hd.lt hg).2; have := hg.2.1; omega), dm_iff.2 (Dom.self hd.reached), by
    rw [Bool.eq_false_iff]; intro h; exact hn (dm_iff.1 h)⟩
  have h4 := h3 d hd ho
  rw [hl, hl] at h4
  omega
/-- The sets and their joins. -/
noncomputable def osj (L : List (List Int)) (l : List Int) (y : Nat) : Bool := js (fr L) l y || inS l y
noncomputable def ows (L : List (List Int)) (l : List Int) (j : Nat) : List Int := (List.range j).map (ow L (osj L l))
theorem ows_len (L : List (List Int)) (l : List Int) (j : Nat) : (ows L l j).length = j := by simp [ows]
theorem ows_succ (L : List (List Int)) (l : List Int) (j : Nat) : ows L l (j + 1) = ows L l j ++ [ow L (osj L l) j] := by simp [ows, List.range_succ]
/-- What OwnerAt tells. -/
noncomputable def owR (L : List (List Int)) (l : List Int) : List Int := if joB L l = true then ows L l L.length else []
theorem owR_len (L : List (List Int)) (l : List Int) : (owR L l).length ≤ 12 := by
  unfold owR; split
  · rename_i h
    rw [ows_len]
    unfold joB at h
    rw [Bool.and_eq_true] at h
    exact (goodG_iff.1 h.1).2.1
  · simp

set_option maxHeartbeats 8000000 in
theorem ownerOf_any (F : Nat → Nat → Bool) (o : Nat → Bool) (b : Nat) (hb : b < 12) (w : World) :
    Calls Try.prog 51 #[.agg (dA F), .int .i64 (b : Int), .agg (sA o)] w fun e w' => e = .returned (.int .i64 (owF F o b)) ∧ Below w.heap.size w w' := by
  have hb' : (b : Int) < 12 := by omega
  obtain ⟨R, hR⟩ : ∃ R, R = owF F o b := ⟨_, rfl⟩
  rw [← hR]
  have HR := hide hR
  obtain ⟨W2, hW2⟩ : ∃ W2, W2 = (w.alloc (.cells (dA F) 65)).alloc (.cells (sA o) 52) := ⟨_, rfl⟩
  have hB2 : Below w.heap.size w W2 := by rw [hW2]; exact ((Below.refl _ _).alloc (Nat.le_refl _) _).alloc (by simp) _
  have HX1 : Hid (Bx W2 w.heap.size (dA F) 65) := hide (by rw [hW2]; exact (Bx.new w _ _).alloc _)
  have HX2 : Hid (Bx W2 (w.heap.size + 1) (sA o) 52) := hide (by rw [hW2]; have := Bx.new (w.alloc (.cells (dA F) 65)) (sA o) 52; simpa using this)
  have HW2 := hide hW2
  clear hR hW2
  go_enter Try.func51, Try.ntmps51
  go_upto_region 1 with fail
  rw [← HW2.out]
  obtain ⟨B5, hB5⟩ : ∃ B5, B5 = w.heap.size + 1 := ⟨_, rfl⟩
  obtain ⟨B3, hB3⟩ : ∃ B3, B3 = w.heap.size := ⟨_, rfl⟩
  rw [← hB5] at HX2 ⊢
  rw [← hB3] at HX1 ⊢
  have n3 : w.heap.size ≤ B3 := by omega
  have n5 : w.heap.size ≤ B5 := by omega
  clear hB5 hB3 HW2
  go_cut [7] from 10 to 14 (fun v wx => ∃ B : Nat, v = .pointer (some ⟨B, 0, none⟩) ∧ w.heap.size ≤ B ∧ Bx wx B (sA (bth2 (F b) o)) 52 ∧ Bx wx B3 (dA F) 65 ∧ Bx wx B5 (sA o) 52 ∧ Below w.heap.size w wx)
  case first =>
    have k0 : Bx W2.drew B3 (dA F) 65 := HX1.out
    have k1 : Bx W2.drew B5 (sA o) 52 := HX2.out
    have hB : Below w.heap.size w W2.drew := belowDrew8 hB2
    have HSh := hide (fun W => shared_any (F b) o W)
    refine wp_region_noPanic ?_
    refine wp_region_held_drew (S := fun w' => Bx w' B3 (dA F) 65 ∧ Bx w' B5 (sA o) 52) (by kernel_rfl) ⟨k0, k1⟩ (fun hHeld => ?_)
    refine wpAnyH_take (i := 0) (oi := _) (v := ?_) rfl (by kernel_rfl) (by kernel_rfl) (by kernel_rfl) (fun _ _ _ h => h) (Or.inl ⟨by rfl, ?_⟩) (by assumption) ?_
    rotate_left 1
    · (intro w hSw; clear hSw; (first | (go_simp; done) | (go_simp; with_reducible rfl)))
    try simp only [Act.put, List.getElem_toArray, List.getElem_cons_zero, List.getElem_cons_succ, List.setIfInBounds_toArray, List.set_cons_zero, List.set_cons_succ]
    refine wpAnyH_take (i := 1) (oi := _) (v := ?_) rfl (by kernel_rfl) (by kernel_rfl) (by kernel_rfl) (fun _ _ _ h => h) (Or.inl ⟨by rfl, ?_⟩) (by assumption) ?_
    rotate_left 1
    · (intro w hSw; clear hSw; (first | (go_simp; done) | (go_simp; with_reducible rfl)))
    try simp only [Act.put, List.getElem_toArray, List.getElem_cons_zero, List.getElem_cons_succ, List.setIfInBounds_toArray, List.set_cons_zero, List.set_cons_succ]
    refine wpAnyH_take (i := 2) (oi := _) (v := .agg (sA (F b))) rfl (by kernel_rfl) (by kernel_rfl) (by kernel_rfl) (fun _ _ _ h => h) (yieldsIf_load_mid (by rfl) 52 _ rfl B3 (b * 12) rfl (sL (F b)) _ (fun w h => dA_rng h.1 hb) Try.underlying52 rfl (bsInfo' _)) (by assumption) ?_
    try simp only [Act.put, List.getElem_toArray, List.getElem_cons_zero, List.getElem_cons_succ, List.setIfInBounds_toArray, List.set_cons_zero, List.set_cons_succ]
    refine wpAnyH_take (i := 3) (oi := _) (v := .agg (sA (o))) rfl (by kernel_rfl) (by kernel_rfl) (by kernel_rfl) (fun _ _ _ h => h) (yieldsIf_load_mid (by rfl) 52 _ rfl B5 (0) rfl (sL (o)) _ (fun w h => sA_rng h.2) Try.underlying52 rfl (bsInfo' _)) (by assumption) ?_
    try simp only [Act.put, List.getElem_toArray, List.getElem_cons_zero, List.getElem_cons_succ, List.setIfInBounds_toArray, List.set_cons_zero, List.set_cons_succ]
    refine wpAnyH_ready (rs := [4, 5]) (by kernel_rfl) (by simp) ?_
    refine AllReadyH.cons (o := _) rfl (fun K hK => ?_) (AllReadyH.cons (o := _) rfl (fun K hK => ?_) (AllReadyH.nil))
    · go_simp
      (with_reducible refine Calls.mono (HSh.out _) ?_)
      rintro r W4 ⟨rfl, hbc⟩
      replace k0 := k0.below hbc k0.lt
      replace k1 := k1.below hbc k1.lt
      replace hB := hB.trans (hbc.mono hB.size)
      clear hbc
      (try go_wp2_with fail)
      refine hK.out _ _ ⟨k0, k1⟩ (fun hHeld => ?_)
      clear hK K
      try simp only [Act.put, List.getElem_toArray, List.getElem_cons_zero, List.getElem_cons_succ, List.setIfInBounds_toArray, List.set_cons_zero, List.set_cons_succ]
      refine wpAnyH_ready (rs := [5]) (by kernel_rfl) (by simp) ?_
      refine AllReadyH.cons (o := _) rfl (fun K hK => ?_) (AllReadyH.nil)
      have l0 := k0.lt
      have l1 := k1.lt
      refine wp_alloc_s rfl (fun B7 W5 hn7 m7 hbc => ?_)
      have hx3 : B3 ≠ B7 := by omega
      have hx5 : B5 ≠ B7 := by omega
      replace hn7 : w.heap.size ≤ B7 := Nat.le_trans hB.size hn7
      clear l0 l1
      replace k0 := k0.below hbc k0.lt
      replace k1 := k1.below hbc k1.lt
      replace hB := hB.trans (hbc.mono hB.size)
      clear hbc
      refine hK.out _ _ ⟨k0, k1⟩ (fun hHeld => ?_)
      clear hK K
      try simp only [Act.put, List.getElem_toArray, List.getElem_cons_zero, List.getElem_cons_succ, List.setIfInBounds_toArray, List.set_cons_zero, List.set_cons_succ]
      refine wpAnyH_ready (rs := [6]) (by kernel_rfl) (by simp) ?_
      refine AllReadyH.cons (o := _) rfl (fun K hK => ?_) (AllReadyH.nil)
      refine wp_store_s _ _ rfl B7 _ _ m7 rfl rfl (fun W6 m8 hO => ?_)
      replace k0 := k0.oth hO hx3
      replace k1 := k1.oth hO hx5
      replace hB := hB.trans (hO.below hB.size hn7)
      clear m7 hO
      refine hK.out _ _ ⟨k0, k1⟩ (fun hHeld => ?_)
      clear hK K
      try simp only [Act.put, List.getElem_toArray, List.getElem_cons_zero, List.getElem_cons_succ, List.setIfInBounds_toArray, List.set_cons_zero, List.set_cons_succ]
      refine wpAnyH_done (by kernel_rfl) ?_ _
      refine NoPanic.normal ?_
      clear hHeld
      go_wp2_with fail
      go_meet
      exact ⟨B7, rfl, hn7, m8, k0, k1, hB⟩
    · have l0 := k0.lt
      have l1 := k1.lt
      refine wp_alloc_s rfl (fun B7 W5 hn7 m7 hbc => ?_)
      have hx3 : B3 ≠ B7 := by omega
      have hx5 : B5 ≠ B7 := by omega
      replace hn7 : w.heap.size ≤ B7 := Nat.le_trans hB.size hn7
      clear l0 l1
      replace k0 := k0.below hbc k0.lt
      replace k1 := k1.below hbc k1.lt
      replace hB := hB.trans (hbc.mono hB.size)
      clear hbc
      refine hK.out _ _ ⟨k0, k1⟩ (fun hHeld => ?_)
      clear hK K
      try simp only [Act.put, List.getElem_toArray, List.getElem_cons_zero, List.getElem_cons_succ, List.setIfInBounds_toArray, List.set_cons_zero, List.set_cons_succ]
      refine wpAnyH_ready (rs := [4]) (by kernel_rfl) (by simp) ?_
      refine AllReadyH.cons (o := _) rfl (fun K hK => ?_) (AllReadyH.nil)
      go_simp
      (with_reducible refine Calls.mono (HSh.out _) ?_)
      rintro r W4 ⟨rfl, hbc⟩
      replace k0 := k0.below hbc k0.lt
      replace k1 := k1.below hbc k1.lt
      replace m7 := m7.below hbc m7.lt
      replace hB := hB.trans (hbc.mono hB.size)
      clear hbc
      (try go_wp2_with fail)
      refine hK.out _ _ ⟨k0, k1⟩ (fun hHeld => ?_)
      clear hK K
      try simp only [Act.put, List.getElem_toArray, List.getElem_cons_zero, List.getElem_cons_succ, List.setIfInBounds_toArray, List.set_cons_zero, List.set_cons_succ]
      refine wpAnyH_ready (rs := [6]) (by kernel_rfl) (by simp) ?_
      refine AllReadyH.cons (o := _) rfl (fun K hK => ?_) (AllReadyH.nil)
      refine wp_store_s _ _ rfl B7 _ _ m7 rfl rfl (fun W6 m8 hO => ?_)
      replace k0 := k0.oth hO hx3
      replace k1 := k1.oth hO hx5
      replace hB := hB.trans (hO.below hB.size hn7)
      clear m7 hO
      refine hK.out _ _ ⟨k0, k1⟩ (fun hHeld => ?_)
      clear hK K
      try simp only [Act.put, List.getElem_toArray, List.getElem_cons_zero, List.getElem_cons_succ, List.setIfInBounds_toArray, List.set_cons_zero, List.set_cons_succ]
      refine wpAnyH_done (by kernel_rfl) ?_ _
      refine NoPanic.normal ?_
      clear hHeld
      go_wp2_with fail
      go_meet
      exact ⟨B7, rfl, hn7, m8, k0, k1, hB⟩
  case rest =>
    obtain ⟨B7, rfl, n7, hX7, hX3, hX5, hBc⟩ := hcut
    have HX7 := hide hX7
    have HX3 := hide hX3
    have HX5 := hide hX5
    have HBc := hide hBc
    obtain ⟨ab, hab⟩ : ∃ ab, ab = bth2 (F b) o := ⟨_, rfl⟩
    rw [← hab] at HX7
    have HAb := hide hab
    clear hX7 hX3 hX5 hBc HX1 HX2 hB2 hab
    go_wp2_with (refine wpList_load_row rfl 52 _ rfl B7 rfl 52 _ (0, 0) _ HX7.out Try.underlying52 rfl bsInfo ?_)
    go_loopw [16] (fun i w' => ∃ j : Nat, j ≤ 12 ∧ i = .int .i64 j ∧ (∀ k, k < j → owC F o b k = false) ∧ Bx w' B7 (sA ab) 52 ∧ Bx w' B3 (dA F) 65 ∧ Bx w' B5 (sA o) 52 ∧ Below w.heap.size w w') (fun i _ => 12 - (intOf i).toNat)
    case atStart => exact ⟨0, by omega, rfl, by intros; omega, HX7.out, HX3.out, HX5.out, HBc.out⟩
    case round =>
      clear HX7 HX3 HX5 HBc
      obtain ⟨j, hj, rfl, hN, hX7, hX3, hX5, hB⟩ := hrel
      have HN := hide hN
      have HX7 := hide hX7
      have HX3 := hide hX3
      have HX5 := hide hX5
      have HB := hide hB
      have k0 : Bx wr.drew B3 (dA F) 65 := hX3.drew
      have k1 : Bx wr.drew B5 (sA o) 52 := hX5.drew
      have k2 : Bx wr.drew B7 (sA ab) 52 := hX7.drew
      replace hB : Below w.heap.size w wr.drew := belowDrew8 hB
      clear hN hX7 hX3 hX5
      by_cases hlt : j < 12
      · have hlt' : (j : Int) < 12 := by omega
        have HI := hide (sIdx ab wr j hlt)
        obtain ⟨p, hp⟩ : ∃ p, p = ab j := ⟨_, rfl⟩
        rw [← hp] at HI
        have HPj := hide hp
        clear hp
        cases p with
        | false =>
          have HN2 : Hid (∀ k, k < j + 1 → owC F o b k = false) := hide (fun k hk => by
            by_cases e : k = j
            · subst e; unfold owC; rw [← HAb.out, ← HPj.out]; rfl
            · exact HN.out k (by omega))
          have HKs := hide (And.intro k2 (And.intro k0 (And.intro k1 hB)))
          clear k0 k1 k2 hB
          go_upto_region 5 with (refine wpList_indexA rfl 52 _ _ rfl _ _ _ rfl rfl HI.out ?_)
          refine wp_region_noPanic ?_
          refine wp_region_held_drew (S := fun w' => True) (by kernel_rfl) trivial (fun hHeld => ?_)
          refine wpAnyH_take (i := 0) (oi := _) (v := ?_) rfl (by kernel_rfl) (by kernel_rfl) (by kernel_rfl) (fun _ _ _ h => h) (Or.inl ⟨by rfl, ?_⟩) (by assumption) ?_
          rotate_left 1
          · (intro w hSw; clear hSw; (first | (go_simp; done) | (go_simp; with_reducible rfl)))
          try simp only [Act.put, List.getElem_toArray, List.getElem_cons_zero, List.getElem_cons_succ, List.setIfInBounds_toArray, List.set_cons_zero, List.set_cons_succ]
          refine wpAnyH_take (i := 1) (oi := _) (v := .bool false) rfl (by kernel_rfl) (by kernel_rfl) (by kernel_rfl) (fun _ _ _ h => h) (Or.inl ⟨by rfl, ?_⟩) (by assumption) ?_
          · (intro w hSw; clear hSw; (first | (go_simp; done) | (go_simp; with_reducible rfl) | (go_simp; simp [*]; done)))
          try simp only [Act.put, List.getElem_toArray, List.getElem_cons_zero, List.getElem_cons_succ, List.setIfInBounds_toArray, List.set_cons_zero, List.set_cons_succ]
          refine wpAnyH_take (i := 2) (oi := _) (v := undef) rfl (by kernel_rfl) (by kernel_rfl) (by kernel_rfl) (fun _ _ _ h => h) (Or.inr ⟨by rfl, rfl⟩) (by assumption) ?_
          try simp only [Act.put, List.getElem_toArray, List.getElem_cons_zero, List.getElem_cons_succ, List.setIfInBounds_toArray, List.set_cons_zero, List.set_cons_succ]
          refine wpAnyH_take (i := 3) (oi := _) (v := undef) rfl (by kernel_rfl) (by kernel_rfl) (by kernel_rfl) (fun _ _ _ h => h) (Or.inr ⟨by rfl, rfl⟩) (by assumption) ?_
          try simp only [Act.put, List.getElem_toArray, List.getElem_cons_zero, List.getElem_cons_succ, List.setIfInBounds_toArray, List.set_cons_zero, List.set_cons_succ]
          refine wpAnyH_take (i := 4) (oi := _) (v := undef) rfl (by kernel_rfl) (by kernel_rfl) (by kernel_rfl) (fun _ _ _ h => h) (Or.inr ⟨by rfl, rfl⟩) (by assumption) ?_
          try simp only [Act.put, List.getElem_toArray, List.getElem_cons_zero, List.getElem_cons_succ, List.setIfInBounds_toArray, List.set_cons_zero, List.set_cons_succ]
          refine wpAnyH_take (i := 5) (oi := _) (v := undef) rfl (by kernel_rfl) (by kernel_rfl) (by kernel_rfl) (fun _ _ _ h => h) (Or.inr ⟨by rfl, rfl⟩) (by assumption) ?_
          try simp only [Act.put, List.getElem_toArray, List.getElem_cons_zero, List.getElem_cons_succ, List.setIfInBounds_toArray, List.set_cons_zero, List.set_cons_succ]
          refine wpAnyH_take (i := 6) (oi := _) (v := undef) rfl (by kernel_rfl) (by kernel_rfl) (by kernel_rfl) (fun _ _ _ h => h) (Or.inr ⟨by rfl, rfl⟩) (by assumption) ?_
          try simp only [Act.put, List.getElem_toArray, List.getElem_cons_zero, List.getElem_cons_succ, List.setIfInBounds_toArray, List.set_cons_zero, List.set_cons_succ]
          refine wpAnyH_take (i := 7) (oi := _) (v := undef) rfl (by kernel_rfl) (by kernel_rfl) (by kernel_rfl) (fun _ _ _ h => h) (Or.inr ⟨by rfl, rfl⟩) (by assumption) ?_
          try simp only [Act.put, List.getElem_toArray, List.getElem_cons_zero, List.getElem_cons_succ, List.setIfInBounds_toArray, List.set_cons_zero, List.set_cons_succ]
          refine wpAnyH_take (i := 8) (oi := _) (v := undef) rfl (by kernel_rfl) (by kernel_rfl) (by kernel_rfl) (fun _ _ _ h => h) (Or.inr ⟨by rfl, rfl⟩) (by assumption) ?_
          try simp only [Act.put, List.getElem_toArray, List.getElem_cons_zero, List.getElem_cons_succ, List.setIfInBounds_toArray, List.set_cons_zero, List.set_cons_succ]
          refine wpAnyH_take (i := 9) (oi := _) (v := .bool false) rfl (by kernel_rfl) (by kernel_rfl) (by kernel_rfl) (fun _ _ _ h => h) (Or.inl ⟨by rfl, ?_⟩) (by assumption) ?_
          · (intro w hSw; clear hSw; (first | (go_simp; done) | (go_simp; with_reducible rfl) | (go_simp; simp [*]; done)))
          try simp only [Act.put, List.getElem_toArray, List.getElem_cons_zero, List.getElem_cons_succ, List.setIfInBounds_toArray, List.set_cons_zero, List.set_cons_succ]
          refine wpAnyH_done (by kernel_rfl) ?_ _
          refine NoPanic.normal ?_
          clear hHeld
          go_wp2_with fail
          exact ⟨⟨j + 1, by omega, by go_num, HN2.out, HKs.out.1, HKs.out.2.1, HKs.out.2.2.1, HKs.out.2.2.2⟩, by simp [intOf]; omega⟩
        | true =>
          have heq := run_eql_s (bth2 (F j) o) ab
          obtain ⟨q, hq⟩ : ∃ q, q = sEq (bth2 (F j) o) ab := ⟨_, rfl⟩
          rw [← hq] at heq
          have HQ := hide hq
          clear hq
          have hgu := fun w => run_eqGuard_agg (P := Try.prog) w .eql 52 (.tmp 26) (.tmp 27) (sA (bth2 (F j) o)) (sA ab) sGuard
          have HSh : Hid (∀ W : World, Calls Try.prog 48 #[.agg (sA (F j)), .agg (sA o)] W fun e w' => e = .returned (.agg (sA (bth2 (F j) o))) ∧ Below W.heap.size W w') := hide (fun W => shared_any (F j) o W)
          go_upto_region 5 with (refine wpList_indexA rfl 52 _ _ rfl _ _ _ rfl rfl HI.out ?_)
          refine wp_region_noPanic ?_
          refine wp_region_held_drew (S := fun w' => Bx w' B3 (dA F) 65 ∧ Bx w' B5 (sA o) 52 ∧ Bx w' B7 (sA ab) 52) (by kernel_rfl) ⟨k0, k1, k2⟩ (fun hHeld => ?_)
          refine wpAnyH_take (i := 0) (oi := _) (v := ?_) rfl (by kernel_rfl) (by kernel_rfl) (by kernel_rfl) (fun _ _ _ h => h) (Or.inl ⟨by rfl, ?_⟩) (by assumption) ?_
          rotate_left 1
          · (intro w hSw; clear hSw; (first | (go_simp; done) | (go_simp; with_reducible rfl)))
          try simp only [Act.put, List.getElem_toArray, List.getElem_cons_zero, List.getElem_cons_succ, List.setIfInBounds_toArray, List.set_cons_zero, List.set_cons_succ]
          refine wpAnyH_take (i := 1) (oi := _) (v := .bool true) rfl (by kernel_rfl) (by kernel_rfl) (by kernel_rfl) (fun _ _ _ h => h) (Or.inl ⟨by rfl, ?_⟩) (by assumption) ?_
          · (intro w hSw; clear hSw; (first | (go_simp; done) | (go_simp; with_reducible rfl) | (go_simp; simp [*]; done)))
          try simp only [Act.put, List.getElem_toArray, List.getElem_cons_zero, List.getElem_cons_succ, List.setIfInBounds_toArray, List.set_cons_zero, List.set_cons_succ]
          refine wpAnyH_take (i := 2) (oi := _) (v := ?_) rfl (by kernel_rfl) (by kernel_rfl) (by kernel_rfl) (fun _ _ _ h => h) (Or.inl ⟨by rfl, ?_⟩) (by assumption) ?_
          rotate_left 1
          · (intro w hSw; clear hSw; (first | (go_simp; done) | (go_simp; with_reducible rfl)))
          try simp only [Act.put, List.getElem_toArray, List.getElem_cons_zero, List.getElem_cons_succ, List.setIfInBounds_toArray, List.set_cons_zero, List.set_cons_succ]
          refine wpAnyH_take (i := 3) (oi := _) (v := ?_) rfl (by kernel_rfl) (by kernel_rfl) (by kernel_rfl) (fun _ _ _ h => h) (Or.inl ⟨by rfl, ?_⟩) (by assumption) ?_
          rotate_left 1
          · (intro w hSw; clear hSw; (first | (go_simp; done) | (go_simp; with_reducible rfl)))
          try simp only [Act.put, List.getElem_toArray, List.getElem_cons_zero, List.getElem_cons_succ, List.setIfInBounds_toArray, List.set_cons_zero, List.set_cons_succ]
          refine wpAnyH_take (i := 4) (oi := _) (v := .agg (sA (F j))) rfl (by kernel_rfl) (by kernel_rfl) (by kernel_rfl) (fun _ _ _ h => h) (yieldsIf_load_mid (by rfl) 52 _ rfl B3 (j * 12) rfl (sL (F j)) _ (fun w h => dA_rng h.1 hlt) Try.underlying52 rfl (bsInfo' _)) (by assumption) ?_
          try simp only [Act.put, List.getElem_toArray, List.getElem_cons_zero, List.getElem_cons_succ, List.setIfInBounds_toArray, List.set_cons_zero, List.set_cons_succ]
          refine wpAnyH_take (i := 5) (oi := _) (v := .agg (sA (o))) rfl (by kernel_rfl) (by kernel_rfl) (by kernel_rfl) (fun _ _ _ h => h) (yieldsIf_load_mid (by rfl) 52 _ rfl B5 (0) rfl (sL (o)) _ (fun w h => sA_rng h.2.1) Try.underlying52 rfl (bsInfo' _)) (by assumption) ?_
          try simp only [Act.put, List.getElem_toArray, List.getElem_cons_zero, List.getElem_cons_succ, List.setIfInBounds_toArray, List.set_cons_zero, List.set_cons_succ]
          refine wpAnyH_take (i := 7) (oi := _) (v := .agg (sA (ab))) rfl (by kernel_rfl) (by kernel_rfl) (by kernel_rfl) (fun _ _ _ h => h) (yieldsIf_load_mid (by rfl) 52 _ rfl B7 (0) rfl (sL (ab)) _ (fun w h => sA_rng h.2.2) Try.underlying52 rfl (bsInfo' _)) (by assumption) ?_
          try simp only [Act.put, List.getElem_toArray, List.getElem_cons_zero, List.getElem_cons_succ, List.setIfInBounds_toArray, List.set_cons_zero, List.set_cons_succ]
          refine wpAnyH_ready (rs := [6]) (by kernel_rfl) (by simp) ?_
          refine AllReadyH.cons (o := _) rfl (fun K hK => ?_) AllReadyH.nil
          go_simp
          (with_reducible refine Calls.mono (HSh.out _) ?_)
          rintro r w9 ⟨rfl, hbc⟩
          replace k0 := k0.below hbc k0.lt
          replace k1 := k1.below hbc k1.lt
          replace k2 := k2.below hbc k2.lt
          replace hB := hB.trans (hbc.mono hB.size)
          clear hbc
          (try go_wp2_with fail)
          refine hK.out _ _ ⟨k0, k1, k2⟩ (fun hHeld => ?_)
          clear hK K
          try simp only [Act.put, List.getElem_toArray, List.getElem_cons_zero, List.getElem_cons_succ, List.setIfInBounds_toArray, List.set_cons_zero, List.set_cons_succ]
          refine wpAnyH_take (i := 8) (oi := _) (v := .bool q) rfl (by kernel_rfl) (by kernel_rfl) (by kernel_rfl) (fun _ _ _ h => h) (Or.inl ⟨by rfl, ?_⟩) (by assumption) ?_
          · (intro w hSw; clear hSw; go_simp)
          try simp only [Act.put, List.getElem_toArray, List.getElem_cons_zero, List.getElem_cons_succ, List.setIfInBounds_toArray, List.set_cons_zero, List.set_cons_succ]
          refine wpAnyH_take (i := 9) (oi := _) (v := .bool q) rfl (by kernel_rfl) (by kernel_rfl) (by kernel_rfl) (fun _ _ _ h => h) (Or.inl ⟨by rfl, ?_⟩) (by assumption) ?_
          · (intro w hSw; clear hSw; (first | (go_simp; done) | (go_simp; with_reducible rfl) | (go_simp; simp [*]; done)))
          try simp only [Act.put, List.getElem_toArray, List.getElem_cons_zero, List.getElem_cons_succ, List.setIfInBounds_toArray, List.set_cons_zero, List.set_cons_succ]
          refine wpAnyH_done (by kernel_rfl) ?_ _
          refine NoPanic.normal ?_
          clear hHeld
          clear heq hgu
          have HKs := hide (And.intro k2 (And.intro k0 (And.intro k1 hB)))
          clear k0 k1 k2 hB
          cases q with
          | true =>
            have HE : Hid (R = (j : Int)) := hide (by rw [HR.out]; exact owF_at hlt HN.out (by unfold owC; rw [← HAb.out, ← HPj.out, ← HQ.out]; rfl))
            go_wp2_with fail
            go_ret
            exact ⟨ret_int HE.out.symm, HKs.out.2.2.2⟩
          | false =>
            have HN2 : Hid (∀ k, k < j + 1 → owC F o b k = false) := hide (fun k hk => by
              by_cases e : k = j
              · subst e; unfold owC; rw [← HAb.out, ← HQ.out]; simp
              · exact HN.out k (by omega))
            go_wp2_with fail
            exact ⟨⟨j + 1, by omega, by go_num, HN2.out, HKs.out.1, HKs.out.2.1, HKs.out.2.2.1, HKs.out.2.2.2⟩, by simp [intOf]; omega⟩
      · have HE : Hid (R = -1) := hide (by rw [HR.out]; exact owF_no (fun k hk => HN.out k (by omega)))
        go_wp2_with fail
        go_ret
        exact ⟨ret_int HE.out.symm, HB.out⟩

set_option maxHeartbeats 16000000 in
theorem implOwner_any (v s : Value) (L : List (List Int)) (l : List Int) (w : World) (h : GRow w v L) (hs : NV w s l) (hl : l.length ≤ 1048576) :
    Calls Try.prog 27 #[v, s] w fun e w' => ∃ v', e = .returned (.tuple #[v', .bool (joB L l)]) ∧ w'.ownsRow w.heap.size 3 1 v' (owR L l).length (ic (owR L l)) ∧ Below w.heap.size w w' := by
  obtain ⟨ad, c, rfl, hR, hsm, hlc⟩ := h
  obtain ⟨sa, sc, rfl, -⟩ := hs.form
  have hB0 : Below w.heap.size w (w.alloc (.cells #[.slice ad L.length c] 28)) := (Below.refl _ _).alloc (Nat.le_refl _) _
  have HX := hide (Bx.new w #[.slice ad L.length c] 28)
  have HV : Hid (∀ w', Below w.heap.size w w' → GRow w' (.agg #[.slice ad L.length c]) L) := hide (fun w' hb => ⟨ad, c, rfl, hR.below hb, hsm, hlc⟩)
  have HS : Hid (∀ w', Below w.heap.size w w' → NV w' (.slice sa l.length sc) l) := hide (fun w' hb => hs.below hb)
  clear hR hsm hlc hs
  go_enter Try.func27, Try.ntmps27
  go_wp2_with fail
  refine Calls.mono (implGoodG_any _ L _ (HV.out _ hB0)) ?_
  rintro e w1 ⟨rfl, hb⟩
  have hB1 := hB0.trans (hb.mono hB0.size)
  have HX1 := hide (HX.out.below hb HX.out.lt)
  clear hb hB0 HX
  have cx := HX1.out.c
  have lx := HX1.out.lt
  have HNo : Hid (joB L l = false → ∀ w', Below w.heap.size w w' → ∃ v', Ending.returned (.tuple #[.slice none 0 0, .bool false]) = .returned (.tuple #[v', .bool (joB L l)]) ∧ w'.ownsRow w.heap.size 3 1 v' (owR L l).length (ic (owR L l)) ∧ Below w.heap.size w w') := hide (fun he w' hb => ⟨_, by rw [he], by rw [owR, if_neg (by rw [he]; simp)]; exact World.ownsRow_nil _ _ _ _, hb⟩)
  by_cases hg : goodG L = true
  · have HGG := hide (goodG_iff.1 hg)
    have Hg := hide hg
    rw [hg]
    clear hg
    go_wp2_with fail
    refine Calls.mono (areSets_any _ _ L l _ (HV.out _ hB1) HGG.out (HS.out _ hB1) hl) ?_
    rintro e w2 ⟨rfl, hb⟩
    have hB2 := hB1.trans (hb.mono hB1.size)
    have HX2 := hide (HX1.out.below hb HX1.out.lt)
    clear hb cx lx HX1 hB1
    by_cases hbg : sG L l = true
    · have HBG : Hid (BG L l) := hide (by
        unfold sG at hbg
        rw [Bool.and_eq_true] at hbg
        exact bG_iff.1 hbg.1)
      have HRe : Hid (joB L l = true) := hide (by rw [joB, Hg.out, hbg]; rfl)
      have HOr : Hid (owR L l = ows L l L.length) := hide (by rw [owR, if_pos HRe.out])
      rw [hbg]
      clear hbg
      have hl12 : l.length ≤ 12 := by have := HBG.out.1.len; have := HGG.out.2.1; omega
      have HWj := hide (fun v W h => withJoins_any (fr L) (fr_lt HGG.out) v l W h (by omega) (HBG.out.blk HGG.out))
      have HDo := hide (fun W hb => dominators_any _ L W (HV.out W hb) HGG.out)
      have HFr := hide (fun W hb => frontiers_any _ L W (HV.out W hb) HGG.out)
      have hO0 : (fun y => js (fr L) l y || inS l y) = osj L l := rfl
      rw [hO0] at HWj
      obtain ⟨F, hF⟩ : ∃ F, F = fr L := ⟨_, rfl⟩
      obtain ⟨o, ho⟩ : ∃ o, o = osj L l := ⟨_, rfl⟩
      rw [← hF] at HWj HFr
      rw [← ho] at HWj
      have Ho := hide ho
      have cx := HX2.out.c
      have lx := HX2.out.lt
      clear hF ho hO0
      go_upto_region 3 with fail
      clear cx lx
      go_cut [6, 7] from 19 to 24 (fun v6 v7 wx => ∃ B6 B7 : Nat, v6 = .pointer (some ⟨B6, 0, none⟩) ∧ v7 = .pointer (some ⟨B7, 0, none⟩) ∧ w.heap.size < B6 ∧ w.heap.size < B7 ∧ B6 ≠ B7 ∧ Bx wx B6 (dA (dm L)) 65 ∧ Bx wx B7 (sA o) 52 ∧ Bx wx w.heap.size #[.slice ad L.length c] 28 ∧ Below w.heap.size w wx)
      case first =>
        have k0 : Bx w2.drew w.heap.size #[.slice ad L.length c] 28 := HX2.out
        have hB : Below w.heap.size w w2.drew := belowDrew8 hB2
        have hlw : w.heap.size < w2.heap.size := HX2.out.lt
        have hlw0 : w.heap.size < w2.drew.heap.size := hlw
        refine wp_region_noPanic ?_
        refine wp_region_held_drew (S := fun w' => w'.cell? ⟨w.heap.size, 0, none⟩ = some (.slice ad L.length c)) (by kernel_rfl) (k0.c 0) (fun hHeld => ?_)
        refine wpAnyH_take (i := 0) (oi := _) (v := ?_) rfl (by kernel_rfl) (by kernel_rfl) (by kernel_rfl) (fun _ _ _ h => h) (Or.inl ⟨by rfl, ?_⟩) (by assumption) ?_
        rotate_left 1
        · (intro w hSw; (try dsimp only at hSw); (first | (go_simp; done) | (go_simp; with_reducible rfl)))
        try simp only [Act.put, List.getElem_toArray, List.getElem_cons_zero, List.getElem_cons_succ, List.setIfInBounds_toArray, List.set_cons_zero, List.set_cons_succ]
        refine wpAnyH_take (i := 2) (oi := _) (v := ?_) rfl (by kernel_rfl) (by kernel_rfl) (by kernel_rfl) (fun _ _ _ h => h) (Or.inl ⟨by rfl, ?_⟩) (by assumption) ?_
        rotate_left 1
        · (intro w hSw; (try dsimp only at hSw); (first | (go_simp; done) | (go_simp; with_reducible rfl)))
        try simp only [Act.put, List.getElem_toArray, List.getElem_cons_zero, List.getElem_cons_succ, List.setIfInBounds_toArray, List.set_cons_zero, List.set_cons_succ]
        refine wpAnyH_take (i := 4) (oi := _) (v := ?_) rfl (by kernel_rfl) (by kernel_rfl) (by kernel_rfl) (fun _ _ _ h => h) (Or.inl ⟨by rfl, ?_⟩) (by assumption) ?_
        rotate_left 1
        · (intro w hSw; clear hSw; (first | (go_simp; done) | (go_simp; with_reducible rfl)))
        try simp only [Act.put, List.getElem_toArray, List.getElem_cons_zero, List.getElem_cons_succ, List.setIfInBounds_toArray, List.set_cons_zero, List.set_cons_succ]
        refine wpAnyH_ready (rs := [1, 6, 7]) (by kernel_rfl) (by simp) ?_
        refine AllReadyH.cons (o := _) rfl (fun K hK => ?_) (AllReadyH.cons (o := _) rfl (fun K hK => ?_) (AllReadyH.cons (o := _) rfl (fun K hK => ?_) (AllReadyH.nil)))
        · go_simp
          (with_reducible refine Calls.mono (HDo.out _ hB) ?_)
          rintro r W3 ⟨rfl, hbc⟩
          replace k0 := k0.below hbc k0.lt
          replace hB := hB.trans (hbc.mono hB.size)
          replace hlw0 := Nat.lt_of_lt_of_le hlw0 hbc.size
          clear hbc
          (try go_wp2_with fail)
          refine hK.out _ _ (k0.c 0) (fun hHeld => ?_)
          clear hK K
          try simp only [Act.put, List.getElem_toArray, List.getElem_cons_zero, List.getElem_cons_succ, List.setIfInBounds_toArray, List.set_cons_zero, List.set_cons_succ]
          refine wpAnyH_ready (rs := [3, 6, 7]) (by kernel_rfl) (by simp) ?_
          refine AllReadyH.cons (o := _) rfl (fun K hK => ?_) (AllReadyH.cons (o := _) rfl (fun K hK => ?_) (AllReadyH.cons (o := _) rfl (fun K hK => ?_) (AllReadyH.nil)))
          · go_simp
            (with_reducible refine Calls.mono (HFr.out _ hB) ?_)
            rintro r W4 ⟨rfl, hbc⟩
            replace k0 := k0.below hbc k0.lt
            replace hB := hB.trans (hbc.mono hB.size)
            replace hlw0 := Nat.lt_of_lt_of_le hlw0 hbc.size
            clear hbc
            (try go_wp2_with fail)
            refine hK.out _ _ (k0.c 0) (fun hHeld => ?_)
            clear hK K
            try simp only [Act.put, List.getElem_toArray, List.getElem_cons_zero, List.getElem_cons_succ, List.setIfInBounds_toArray, List.set_cons_zero, List.set_cons_succ]
            refine wpAnyH_ready (rs := [5, 6, 7]) (by kernel_rfl) (by simp) ?_
            refine AllReadyH.cons (o := _) rfl (fun K hK => ?_) (AllReadyH.cons (o := _) rfl (fun K hK => ?_) (AllReadyH.cons (o := _) rfl (fun K hK => ?_) (AllReadyH.nil)))
            · go_simp
              (with_reducible refine Calls.mono (HWj.out _ _ (HS.out _ hB)) ?_)
              rintro r W5 ⟨rfl, hbc⟩
              replace k0 := k0.below hbc k0.lt
              replace hB := hB.trans (hbc.mono hB.size)
              replace hlw0 := Nat.lt_of_lt_of_le hlw0 hbc.size
              clear hbc
              (try go_wp2_with fail)
              refine hK.out _ _ (k0.c 0) (fun hHeld => ?_)
              clear hK K
              try simp only [Act.put, List.getElem_toArray, List.getElem_cons_zero, List.getElem_cons_succ, List.setIfInBounds_toArray, List.set_cons_zero, List.set_cons_succ]
              refine wpAnyH_ready (rs := [6, 7]) (by kernel_rfl) (by simp) ?_
              refine AllReadyH.cons (o := _) rfl (fun K hK => ?_) (AllReadyH.cons (o := _) rfl (fun K hK => ?_) (AllReadyH.nil))
              · refine wp_alloc_d rfl (fun B6 W6 hn m6 hbc => ?_)
                have hn6 : w.heap.size < B6 := Nat.lt_of_lt_of_le hlw0 hn
                clear hn
                replace k0 := k0.below hbc k0.lt
                replace hB := hB.trans (hbc.mono hB.size)
                replace hlw0 := Nat.lt_of_lt_of_le hlw0 hbc.size
                clear hbc
                refine hK.out _ _ (k0.c 0) (fun hHeld => ?_)
                clear hK K
                try simp only [Act.put, List.getElem_toArray, List.getElem_cons_zero, List.getElem_cons_succ, List.setIfInBounds_toArray, List.set_cons_zero, List.set_cons_succ]
                refine wpAnyH_ready (rs := [7]) (by kernel_rfl) (by simp) ?_
                refine AllReadyH.cons (o := _) rfl (fun K hK => ?_) (AllReadyH.nil)
                have lo := m6.lt
                refine wp_alloc_s rfl (fun B7 W6 hn m7 hbc => ?_)
                have hn7 : w.heap.size < B7 := Nat.lt_of_lt_of_le hlw0 hn
                have hne : B6 ≠ B7 := by omega
                clear lo
                clear hn
                replace k0 := k0.below hbc k0.lt
                replace m6 := m6.below hbc m6.lt
                replace hB := hB.trans (hbc.mono hB.size)
                replace hlw0 := Nat.lt_of_lt_of_le hlw0 hbc.size
                clear hbc
                refine hK.out _ _ (k0.c 0) (fun hHeld => ?_)
                clear hK K
                try simp only [Act.put, List.getElem_toArray, List.getElem_cons_zero, List.getElem_cons_succ, List.setIfInBounds_toArray, List.set_cons_zero, List.set_cons_succ]
                refine wpAnyH_ready (rs := [8]) (by kernel_rfl) (by simp) ?_
                refine AllReadyH.cons (o := _) rfl (fun K hK => ?_) (AllReadyH.nil)
                refine wp_store_d _ _ rfl B6 _ _ m6 rfl rfl (fun W8 d6 hO => ?_)
                replace k0 := k0.oth hO (by omega)
                replace m7 := m7.oth hO (fun e => hne e.symm)
                replace hB := hB.trans (hO.below hB.size (by omega))
                clear m6 hO
                refine hK.out _ _ (k0.c 0) (fun hHeld => ?_)
                clear hK K
                try simp only [Act.put, List.getElem_toArray, List.getElem_cons_zero, List.getElem_cons_succ, List.setIfInBounds_toArray, List.set_cons_zero, List.set_cons_succ]
                refine wpAnyH_ready (rs := [9]) (by kernel_rfl) (by simp) ?_
                refine AllReadyH.cons (o := _) rfl (fun K hK => ?_) (AllReadyH.nil)
                refine wp_store_s _ _ rfl B7 _ _ m7 rfl rfl (fun W9 d7 hO => ?_)
                replace k0 := k0.oth hO (by omega)
                replace d6 := d6.oth hO hne
                replace hB := hB.trans (hO.below hB.size (by omega))
                clear m7 hO
                refine hK.out _ _ (k0.c 0) (fun hHeld => ?_)
                clear hK K
                try simp only [Act.put, List.getElem_toArray, List.getElem_cons_zero, List.getElem_cons_succ, List.setIfInBounds_toArray, List.set_cons_zero, List.set_cons_succ]
                refine wpAnyH_done (by kernel_rfl) ?_ _
                refine NoPanic.normal ?_
                clear hHeld
                go_wp2_with fail
                go_meet
                exact ⟨B6, B7, rfl, rfl, hn6, hn7, hne, d6, d7, k0, hB⟩
              · refine wp_alloc_s rfl (fun B7 W6 hn m7 hbc => ?_)
                have hn7 : w.heap.size < B7 := Nat.lt_of_lt_of_le hlw0 hn
                clear hn
                replace k0 := k0.below hbc k0.lt
                replace hB := hB.trans (hbc.mono hB.size)
                replace hlw0 := Nat.lt_of_lt_of_le hlw0 hbc.size
                clear hbc
                refine hK.out _ _ (k0.c 0) (fun hHeld => ?_)
                clear hK K
                try simp only [Act.put, List.getElem_toArray, List.getElem_cons_zero, List.getElem_cons_succ, List.setIfInBounds_toArray, List.set_cons_zero, List.set_cons_succ]
                refine wpAnyH_ready (rs := [6]) (by kernel_rfl) (by simp) ?_
                refine AllReadyH.cons (o := _) rfl (fun K hK => ?_) (AllReadyH.nil)
                have lo := m7.lt
                refine wp_alloc_d rfl (fun B6 W6 hn m6 hbc => ?_)
                have hn6 : w.heap.size < B6 := Nat.lt_of_lt_of_le hlw0 hn
                have hne : B6 ≠ B7 := by omega
                clear lo
                clear hn
                replace k0 := k0.below hbc k0.lt
                replace m7 := m7.below hbc m7.lt
                replace hB := hB.trans (hbc.mono hB.size)
                replace hlw0 := Nat.lt_of_lt_of_le hlw0 hbc.size
                clear hbc
                refine hK.out _ _ (k0.c 0) (fun hHeld => ?_)
                clear hK K
                try simp only [Act.put, List.getElem_toArray, List.getElem_cons_zero, List.getElem_cons_succ, List.setIfInBounds_toArray, List.set_cons_zero, List.set_cons_succ]
                refine wpAnyH_ready (rs := [8]) (by kernel_rfl) (by simp) ?_
                refine AllReadyH.cons (o := _) rfl (fun K hK => ?_) (AllReadyH.nil)
                refine wp_store_d _ _ rfl B6 _ _ m6 rfl rfl (fun W8 d6 hO => ?_)
                replace k0 := k0.oth hO (by omega)
                replace m7 := m7.oth hO (fun e => hne e.symm)
                replace hB := hB.trans (hO.below hB.size (by omega))
                clear m6 hO
                refine hK.out _ _ (k0.c 0) (fun hHeld => ?_)
                clear hK K
                try simp only [Act.put, List.getElem_toArray, List.getElem_cons_zero, List.getElem_cons_succ, List.setIfInBounds_toArray, List.set_cons_zero, List.set_cons_succ]
                refine wpAnyH_ready (rs := [9]) (by kernel_rfl) (by simp) ?_
                refine AllReadyH.cons (o := _) rfl (fun K hK => ?_) (AllReadyH.nil)
                refine wp_store_s _ _ rfl B7 _ _ m7 rfl rfl (fun W9 d7 hO => ?_)
                replace k0 := k0.oth hO (by omega)
                replace d6 := d6.oth hO hne
                replace hB := hB.trans (hO.below hB.size (by omega))
                clear m7 hO
                refine hK.out _ _ (k0.c 0) (fun hHeld => ?_)
                clear hK K
                try simp only [Act.put, List.getElem_toArray, List.getElem_cons_zero, List.getElem_cons_succ, List.setIfInBounds_toArray, List.set_cons_zero, List.set_cons_succ]
                refine wpAnyH_done (by kernel_rfl) ?_ _
                refine NoPanic.normal ?_
                clear hHeld
                go_wp2_with fail
                go_meet
                exact ⟨B6, B7, rfl, rfl, hn6, hn7, hne, d6, d7, k0, hB⟩
            · refine wp_alloc_d rfl (fun B6 W6 hn m6 hbc => ?_)
              have hn6 : w.heap.size < B6 := Nat.lt_of_lt_of_le hlw0 hn
              clear hn
              replace k0 := k0.below hbc k0.lt
              replace hB := hB.trans (hbc.mono hB.size)
              replace hlw0 := Nat.lt_of_lt_of_le hlw0 hbc.size
              clear hbc
              refine hK.out _ _ (k0.c 0) (fun hHeld => ?_)
              clear hK K
              try simp only [Act.put, List.getElem_toArray, List.getElem_cons_zero, List.getElem_cons_succ, List.setIfInBounds_toArray, List.set_cons_zero, List.set_cons_succ]
              refine wpAnyH_ready (rs := [5, 7]) (by kernel_rfl) (by simp) ?_
              refine AllReadyH.cons (o := _) rfl (fun K hK => ?_) (AllReadyH.cons (o := _) rfl (fun K hK => ?_) (AllReadyH.nil))
              · go_simp
                (with_reducible refine Calls.mono (HWj.out _ _ (HS.out _ hB)) ?_)
                rintro r W5 ⟨rfl, hbc⟩
                replace k0 := k0.below hbc k0.lt
                replace m6 := m6.below hbc m6.lt
                replace hB := hB.trans (hbc.mono hB.size)
                replace hlw0 := Nat.lt_of_lt_of_le hlw0 hbc.size
                clear hbc
                (try go_wp2_with fail)
                refine hK.out _ _ (k0.c 0) (fun hHeld => ?_)
                clear hK K
                try simp only [Act.put, List.getElem_toArray, List.getElem_cons_zero, List.getElem_cons_succ, List.setIfInBounds_toArray, List.set_cons_zero, List.set_cons_succ]
                refine wpAnyH_ready (rs := [7]) (by kernel_rfl) (by simp) ?_
                refine AllReadyH.cons (o := _) rfl (fun K hK => ?_) (AllReadyH.nil)
                have lo := m6.lt
                refine wp_alloc_s rfl (fun B7 W6 hn m7 hbc => ?_)
                have hn7 : w.heap.size < B7 := Nat.lt_of_lt_of_le hlw0 hn
                have hne : B6 ≠ B7 := by omega
                clear lo
                clear hn
                replace k0 := k0.below hbc k0.lt
                replace m6 := m6.below hbc m6.lt
                replace hB := hB.trans (hbc.mono hB.size)
                replace hlw0 := Nat.lt_of_lt_of_le hlw0 hbc.size
                clear hbc
                refine hK.out _ _ (k0.c 0) (fun hHeld => ?_)
                clear hK K
                try simp only [Act.put, List.getElem_toArray, List.getElem_cons_zero, List.getElem_cons_succ, List.setIfInBounds_toArray, List.set_cons_zero, List.set_cons_succ]
                refine wpAnyH_ready (rs := [8]) (by kernel_rfl) (by simp) ?_
                refine AllReadyH.cons (o := _) rfl (fun K hK => ?_) (AllReadyH.nil)
                refine wp_store_d _ _ rfl B6 _ _ m6 rfl rfl (fun W8 d6 hO => ?_)
                replace k0 := k0.oth hO (by omega)
                replace m7 := m7.oth hO (fun e => hne e.symm)
                replace hB := hB.trans (hO.below hB.size (by omega))
                clear m6 hO
                refine hK.out _ _ (k0.c 0) (fun hHeld => ?_)
                clear hK K
                try simp only [Act.put, List.getElem_toArray, List.getElem_cons_zero, List.getElem_cons_succ, List.setIfInBounds_toArray, List.set_cons_zero, List.set_cons_succ]
                refine wpAnyH_ready (rs := [9]) (by kernel_rfl) (by simp) ?_
                refine AllReadyH.cons (o := _) rfl (fun K hK => ?_) (AllReadyH.nil)
                refine wp_store_s _ _ rfl B7 _ _ m7 rfl rfl (fun W9 d7 hO => ?_)
                replace k0 := k0.oth hO (by omega)
                replace d6 := d6.oth hO hne
                replace hB := hB.trans (hO.below hB.size (by omega))
                clear m7 hO
                refine hK.out _ _ (k0.c 0) (fun hHeld => ?_)
                clear hK K
                try simp only [Act.put, List.getElem_toArray, List.getElem_cons_zero, List.getElem_cons_succ, List.setIfInBounds_toArray, List.set_cons_zero, List.set_cons_succ]
                refine wpAnyH_done (by kernel_rfl) ?_ _
                refine NoPanic.normal ?_
                clear hHeld
                go_wp2_with fail
                go_meet
                exact ⟨B6, B7, rfl, rfl, hn6, hn7, hne, d6, d7, k0, hB⟩
              · have lo := m6.lt
                refine wp_alloc_s rfl (fun B7 W6 hn m7 hbc => ?_)
                have hn7 : w.heap.size < B7 := Nat.lt_of_lt_of_le hlw0 hn
                have hne : B6 ≠ B7 := by omega
                clear lo
                clear hn
                replace k0 := k0.below hbc k0.lt
                replace m6 := m6.below hbc m6.lt
                replace hB := hB.trans (hbc.mono hB.size)
                replace hlw0 := Nat.lt_of_lt_of_le hlw0 hbc.size
                clear hbc
                refine hK.out _ _ (k0.c 0) (fun hHeld => ?_)
                clear hK K
                try simp only [Act.put, List.getElem_toArray, List.getElem_cons_zero, List.getElem_cons_succ, List.setIfInBounds_toArray, List.set_cons_zero, List.set_cons_succ]
                refine wpAnyH_ready (rs := [5]) (by kernel_rfl) (by simp) ?_
                refine AllReadyH.cons (o := _) rfl (fun K hK => ?_) (AllReadyH.nil)
                go_simp
                (with_reducible refine Calls.mono (HWj.out _ _ (HS.out _ hB)) ?_)
                rintro r W5 ⟨rfl, hbc⟩
                replace k0 := k0.below hbc k0.lt
                replace m6 := m6.below hbc m6.lt
                replace m7 := m7.below hbc m7.lt
                replace hB := hB.trans (hbc.mono hB.size)
                replace hlw0 := Nat.lt_of_lt_of_le hlw0 hbc.size
                clear hbc
                (try go_wp2_with fail)
                refine hK.out _ _ (k0.c 0) (fun hHeld => ?_)
                clear hK K
                try simp only [Act.put, List.getElem_toArray, List.getElem_cons_zero, List.getElem_cons_succ, List.setIfInBounds_toArray, List.set_cons_zero, List.set_cons_succ]
                refine wpAnyH_ready (rs := [8]) (by kernel_rfl) (by simp) ?_
                refine AllReadyH.cons (o := _) rfl (fun K hK => ?_) (AllReadyH.nil)
                refine wp_store_d _ _ rfl B6 _ _ m6 rfl rfl (fun W8 d6 hO => ?_)
                replace k0 := k0.oth hO (by omega)
                replace m7 := m7.oth hO (fun e => hne e.symm)
                replace hB := hB.trans (hO.below hB.size (by omega))
                clear m6 hO
                refine hK.out _ _ (k0.c 0) (fun hHeld => ?_)
                clear hK K
                try simp only [Act.put, List.getElem_toArray, List.getElem_cons_zero, List.getElem_cons_succ, List.setIfInBounds_toArray, List.set_cons_zero, List.set_cons_succ]
                refine wpAnyH_ready (rs := [9]) (by kernel_rfl) (by simp) ?_
                refine AllReadyH.cons (o := _) rfl (fun K hK => ?_) (AllReadyH.nil)
                refine wp_store_s _ _ rfl B7 _ _ m7 rfl rfl (fun W9 d7 hO => ?_)
                replace k0 := k0.oth hO (by omega)
                replace d6 := d6.oth hO hne
                replace hB := hB.trans (hO.below hB.size (by omega))
                clear m7 hO
                refine hK.out _ _ (k0.c 0) (fun hHeld => ?_)
                clear hK K
                try simp only [Act.put, List.getElem_toArray, List.getElem_cons_zero, List.getElem_cons_succ, List.setIfInBounds_toArray, List.set_cons_zero, List.set_cons_succ]
                refine wpAnyH_done (by kernel_rfl) ?_ _
                refine NoPanic.normal ?_
                clear hHeld
                go_wp2_with fail
                go_meet
                exact ⟨B6, B7, rfl, rfl, hn6, hn7, hne, d6, d7, k0, hB⟩
            · refine wp_alloc_s rfl (fun B7 W6 hn m7 hbc => ?_)
              have hn7 : w.heap.size < B7 := Nat.lt_of_lt_of_le hlw0 hn
              clear hn
              replace k0 := k0.below hbc k0.lt
              replace hB := hB.trans (hbc.mono hB.size)
              replace hlw0 := Nat.lt_of_lt_of_le hlw0 hbc.size
              clear hbc
              refine hK.out _ _ (k0.c 0) (fun hHeld => ?_)
              clear hK K
              try simp only [Act.put, List.getElem_toArray, List.getElem_cons_zero, List.getElem_cons_succ, List.setIfInBounds_toArray, List.set_cons_zero, List.set_cons_succ]
              refine wpAnyH_ready (rs := [5, 6]) (by kernel_rfl) (by simp) ?_
              refine AllReadyH.cons (o := _) rfl (fun K hK => ?_) (AllReadyH.cons (o := _) rfl (fun K hK => ?_) (AllReadyH.nil))
              · go_simp
                (with_reducible refine Calls.mono (HWj.out _ _ (HS.out _ hB)) ?_)
                rintro r W5 ⟨rfl, hbc⟩
                replace k0 := k0.below hbc k0.lt
                replace m7 := m7.below hbc m7.lt
                replace hB := hB.trans (hbc.mono hB.size)
                replace hlw0 := Nat.lt_of_lt_of_le hlw0 hbc.size
                clear hbc
                (try go_wp2_with fail)
                refine hK.out _ _ (k0.c 0) (fun hHeld => ?_)
                clear hK K
                try simp only [Act.put, List.getElem_toArray, List.getElem_cons_zero, List.getElem_cons_succ, List.setIfInBounds_toArray, List.set_cons_zero, List.set_cons_succ]
                refine wpAnyH_ready (rs := [6]) (by kernel_rfl) (by simp) ?_
                refine AllReadyH.cons (o := _) rfl (fun K hK => ?_) (AllReadyH.nil)
                have lo := m7.lt
                refine wp_alloc_d rfl (fun B6 W6 hn m6 hbc => ?_)
                have hn6 : w.heap.size < B6 := Nat.lt_of_lt_of_le hlw0 hn
                have hne : B6 ≠ B7 := by omega
                clear lo
                clear hn
                replace k0 := k0.below hbc k0.lt
                replace m7 := m7.below hbc m7.lt
                replace hB := hB.trans (hbc.mono hB.size)
                replace hlw0 := Nat.lt_of_lt_of_le hlw0 hbc.size
                clear hbc
                refine hK.out _ _ (k0.c 0) (fun hHeld => ?_)
                clear hK K
                try simp only [Act.put, List.getElem_toArray, List.getElem_cons_zero, List.getElem_cons_succ, List.setIfInBounds_toArray, List.set_cons_zero, List.set_cons_succ]
                refine wpAnyH_ready (rs := [8]) (by kernel_rfl) (by simp) ?_
                refine AllReadyH.cons (o := _) rfl (fun K hK => ?_) (AllReadyH.nil)
                refine wp_store_d _ _ rfl B6 _ _ m6 rfl rfl (fun W8 d6 hO => ?_)
                replace k0 := k0.oth hO (by omega)
                replace m7 := m7.oth hO (fun e => hne e.symm)
                replace hB := hB.trans (hO.below hB.size (by omega))
                clear m6 hO
                refine hK.out _ _ (k0.c 0) (fun hHeld => ?_)
                clear hK K
                try simp only [Act.put, List.getElem_toArray, List.getElem_cons_zero, List.getElem_cons_succ, List.setIfInBounds_toArray, List.set_cons_zero, List.set_cons_succ]
                refine wpAnyH_ready (rs := [9]) (by kernel_rfl) (by simp) ?_
                refine AllReadyH.cons (o := _) rfl (fun K hK => ?_) (AllReadyH.nil)
                refine wp_store_s _ _ rfl B7 _ _ m7 rfl rfl (fun W9 d7 hO => ?_)
                replace k0 := k0.oth hO (by omega)
                replace d6 := d6.oth hO hne
                replace hB := hB.trans (hO.below hB.size (by omega))
                clear m7 hO
                refine hK.out _ _ (k0.c 0) (fun hHeld => ?_)
                clear hK K
                try simp only [Act.put, List.getElem_toArray, List.getElem_cons_zero, List.getElem_cons_succ, List.setIfInBounds_toArray, List.set_cons_zero, List.set_cons_succ]
                refine wpAnyH_done (by kernel_rfl) ?_ _
                refine NoPanic.normal ?_
                clear hHeld
                go_wp2_with fail
                go_meet
                exact ⟨B6, B7, rfl, rfl, hn6, hn7, hne, d6, d7, k0, hB⟩
              · have lo := m7.lt
                refine wp_alloc_d rfl (fun B6 W6 hn m6 hbc => ?_)
                have hn6 : w.heap.size < B6 := Nat.lt_of_lt_of_le hlw0 hn
                have hne : B6 ≠ B7 := by omega
                clear lo
                clear hn
                replace k0 := k0.below hbc k0.lt
                replace m7 := m7.below hbc m7.lt
                replace hB := hB.trans (hbc.mono hB.size)
                replace hlw0 := Nat.lt_of_lt_of_le hlw0 hbc.size
                clear hbc
                refine hK.out _ _ (k0.c 0) (fun hHeld => ?_)
                clear hK K
                try simp only [Act.put, List.getElem_toArray, List.getElem_cons_zero, List.getElem_cons_succ, List.setIfInBounds_toArray, List.set_cons_zero, List.set_cons_succ]
                refine wpAnyH_ready (rs := [5]) (by kernel_rfl) (by simp) ?_
                refine AllReadyH.cons (o := _) rfl (fun K hK => ?_) (AllReadyH.nil)
                go_simp
                (with_reducible refine Calls.mono (HWj.out _ _ (HS.out _ hB)) ?_)
                rintro r W5 ⟨rfl, hbc⟩
                replace k0 := k0.below hbc k0.lt
                replace m7 := m7.below hbc m7.lt
                replace m6 := m6.below hbc m6.lt
                replace hB := hB.trans (hbc.mono hB.size)
                replace hlw0 := Nat.lt_of_lt_of_le hlw0 hbc.size
                clear hbc
                (try go_wp2_with fail)
                refine hK.out _ _ (k0.c 0) (fun hHeld => ?_)
                clear hK K
                try simp only [Act.put, List.getElem_toArray, List.getElem_cons_zero, List.getElem_cons_succ, List.setIfInBounds_toArray, List.set_cons_zero, List.set_cons_succ]
                refine wpAnyH_ready (rs := [8]) (by kernel_rfl) (by simp) ?_
                refine AllReadyH.cons (o := _) rfl (fun K hK => ?_) (AllReadyH.nil)
                refine wp_store_d _ _ rfl B6 _ _ m6 rfl rfl (fun W8 d6 hO => ?_)
                replace k0 := k0.oth hO (by omega)
                replace m7 := m7.oth hO (fun e => hne e.symm)
                replace hB := hB.trans (hO.below hB.size (by omega))
                clear m6 hO
                refine hK.out _ _ (k0.c 0) (fun hHeld => ?_)
                clear hK K
                try simp only [Act.put, List.getElem_toArray, List.getElem_cons_zero, List.getElem_cons_succ, List.setIfInBounds_toArray, List.set_cons_zero, List.set_cons_succ]
                refine wpAnyH_ready (rs := [9]) (by kernel_rfl) (by simp) ?_
                refine AllReadyH.cons (o := _) rfl (fun K hK => ?_) (AllReadyH.nil)
                refine wp_store_s _ _ rfl B7 _ _ m7 rfl rfl (fun W9 d7 hO => ?_)
                replace k0 := k0.oth hO (by omega)
                replace d6 := d6.oth hO hne
                replace hB := hB.trans (hO.below hB.size (by omega))
                clear m7 hO
                refine hK.out _ _ (k0.c 0) (fun hHeld => ?_)
                clear hK K
                try simp only [Act.put, List.getElem_toArray, List.getElem_cons_zero, List.getElem_cons_succ, List.setIfInBounds_toArray, List.set_cons_zero, List.set_cons_succ]
                refine wpAnyH_done (by kernel_rfl) ?_ _
                refine NoPanic.normal ?_
                clear hHeld
                go_wp2_with fail
                go_meet
                exact ⟨B6, B7, rfl, rfl, hn6, hn7, hne, d6, d7, k0, hB⟩
          · refine wp_alloc_d rfl (fun B6 W6 hn m6 hbc => ?_)
            have hn6 : w.heap.size < B6 := Nat.lt_of_lt_of_le hlw0 hn
            clear hn
            replace k0 := k0.below hbc k0.lt
            replace hB := hB.trans (hbc.mono hB.size)
            replace hlw0 := Nat.lt_of_lt_of_le hlw0 hbc.size
            clear hbc
            refine hK.out _ _ (k0.c 0) (fun hHeld => ?_)
            clear hK K
            try simp only [Act.put, List.getElem_toArray, List.getElem_cons_zero, List.getElem_cons_succ, List.setIfInBounds_toArray, List.set_cons_zero, List.set_cons_succ]
            refine wpAnyH_ready (rs := [3, 7]) (by kernel_rfl) (by simp) ?_
            refine AllReadyH.cons (o := _) rfl (fun K hK => ?_) (AllReadyH.cons (o := _) rfl (fun K hK => ?_) (AllReadyH.nil))
            · go_simp
              (with_reducible refine Calls.mono (HFr.out _ hB) ?_)
              rintro r W4 ⟨rfl, hbc⟩
              replace k0 := k0.below hbc k0.lt
              replace m6 := m6.below hbc m6.lt
              replace hB := hB.trans (hbc.mono hB.size)
              replace hlw0 := Nat.lt_of_lt_of_le hlw0 hbc.size
              clear hbc
              (try go_wp2_with fail)
              refine hK.out _ _ (k0.c 0) (fun hHeld => ?_)
              clear hK K
              try simp only [Act.put, List.getElem_toArray, List.getElem_cons_zero, List.getElem_cons_succ, List.setIfInBounds_toArray, List.set_cons_zero, List.set_cons_succ]
              refine wpAnyH_ready (rs := [5, 7]) (by kernel_rfl) (by simp) ?_
              refine AllReadyH.cons (o := _) rfl (fun K hK => ?_) (AllReadyH.cons (o := _) rfl (fun K hK => ?_) (AllReadyH.nil))
              · go_simp
                (with_reducible refine Calls.mono (HWj.out _ _ (HS.out _ hB)) ?_)
                rintro r W5 ⟨rfl, hbc⟩
                replace k0 := k0.below hbc k0.lt
                replace m6 := m6.below hbc m6.lt
                replace hB := hB.trans (hbc.mono hB.size)
                replace hlw0 := Nat.lt_of_lt_of_le hlw0 hbc.size
                clear hbc
                (try go_wp2_with fail)
                refine hK.out _ _ (k0.c 0) (fun hHeld => ?_)
                clear hK K
                try simp only [Act.put, List.getElem_toArray, List.getElem_cons_zero, List.getElem_cons_succ, List.setIfInBounds_toArray, List.set_cons_zero, List.set_cons_succ]
                refine wpAnyH_ready (rs := [7]) (by kernel_rfl) (by simp) ?_
                refine AllReadyH.cons (o := _) rfl (fun K hK => ?_) (AllReadyH.nil)
                have lo := m6.lt
                refine wp_alloc_s rfl (fun B7 W6 hn m7 hbc => ?_)
                have hn7 : w.heap.size < B7 := Nat.lt_of_lt_of_le hlw0 hn
                have hne : B6 ≠ B7 := by omega
                clear lo
                clear hn
                replace k0 := k0.below hbc k0.lt
                replace m6 := m6.below hbc m6.lt
                replace hB := hB.trans (hbc.mono hB.size)
                replace hlw0 := Nat.lt_of_lt_of_le hlw0 hbc.size
                clear hbc
                refine hK.out _ _ (k0.c 0) (fun hHeld => ?_)
                clear hK K
                try simp only [Act.put, List.getElem_toArray, List.getElem_cons_zero, List.getElem_cons_succ, List.setIfInBounds_toArray, List.set_cons_zero, List.set_cons_succ]
                refine wpAnyH_ready (rs := [8]) (by kernel_rfl) (by simp) ?_
                refine AllReadyH.cons (o := _) rfl (fun K hK => ?_) (AllReadyH.nil)
                refine wp_store_d _ _ rfl B6 _ _ m6 rfl rfl (fun W8 d6 hO => ?_)
                replace k0 := k0.oth hO (by omega)
                replace m7 := m7.oth hO (fun e => hne e.symm)
                replace hB := hB.trans (hO.below hB.size (by omega))
                clear m6 hO
                refine hK.out _ _ (k0.c 0) (fun hHeld => ?_)
                clear hK K
                try simp only [Act.put, List.getElem_toArray, List.getElem_cons_zero, List.getElem_cons_succ, List.setIfInBounds_toArray, List.set_cons_zero, List.set_cons_succ]
                refine wpAnyH_ready (rs := [9]) (by kernel_rfl) (by simp) ?_
                refine AllReadyH.cons (o := _) rfl (fun K hK => ?_) (AllReadyH.nil)
                refine wp_store_s _ _ rfl B7 _ _ m7 rfl rfl (fun W9 d7 hO => ?_)
                replace k0 := k0.oth hO (by omega)
                replace d6 := d6.oth hO hne
                replace hB := hB.trans (hO.below hB.size (by omega))
                clear m7 hO
                refine hK.out _ _ (k0.c 0) (fun hHeld => ?_)
                clear hK K
                try simp only [Act.put, List.getElem_toArray, List.getElem_cons_zero, List.getElem_cons_succ, List.setIfInBounds_toArray, List.set_cons_zero, List.set_cons_succ]
                refine wpAnyH_done (by kernel_rfl) ?_ _
                refine NoPanic.normal ?_
                clear hHeld
                go_wp2_with fail
                go_meet
                exact ⟨B6, B7, rfl, rfl, hn6, hn7, hne, d6, d7, k0, hB⟩
              · have lo := m6.lt
                refine wp_alloc_s rfl (fun B7 W6 hn m7 hbc => ?_)
                have hn7 : w.heap.size < B7 := Nat.lt_of_lt_of_le hlw0 hn
                have hne : B6 ≠ B7 := by omega
                clear lo
                clear hn
                replace k0 := k0.below hbc k0.lt
                replace m6 := m6.below hbc m6.lt
                replace hB := hB.trans (hbc.mono hB.size)
                replace hlw0 := Nat.lt_of_lt_of_le hlw0 hbc.size
                clear hbc
                refine hK.out _ _ (k0.c 0) (fun hHeld => ?_)
                clear hK K
                try simp only [Act.put, List.getElem_toArray, List.getElem_cons_zero, List.getElem_cons_succ, List.setIfInBounds_toArray, List.set_cons_zero, List.set_cons_succ]
                refine wpAnyH_ready (rs := [5]) (by kernel_rfl) (by simp) ?_
                refine AllReadyH.cons (o := _) rfl (fun K hK => ?_) (AllReadyH.nil)
                go_simp
                (with_reducible refine Calls.mono (HWj.out _ _ (HS.out _ hB)) ?_)
                rintro r W5 ⟨rfl, hbc⟩
                replace k0 := k0.below hbc k0.lt
                replace m6 := m6.below hbc m6.lt
                replace m7 := m7.below hbc m7.lt
                replace hB := hB.trans (hbc.mono hB.size)
                replace hlw0 := Nat.lt_of_lt_of_le hlw0 hbc.size
                clear hbc
                (try go_wp2_with fail)
                refine hK.out _ _ (k0.c 0) (fun hHeld => ?_)
                clear hK K
                try simp only [Act.put, List.getElem_toArray, List.getElem_cons_zero, List.getElem_cons_succ, List.setIfInBounds_toArray, List.set_cons_zero, List.set_cons_succ]
                refine wpAnyH_ready (rs := [8]) (by kernel_rfl) (by simp) ?_
                refine AllReadyH.cons (o := _) rfl (fun K hK => ?_) (AllReadyH.nil)
                refine wp_store_d _ _ rfl B6 _ _ m6 rfl rfl (fun W8 d6 hO => ?_)
                replace k0 := k0.oth hO (by omega)
                replace m7 := m7.oth hO (fun e => hne e.symm)
                replace hB := hB.trans (hO.below hB.size (by omega))
                clear m6 hO
                refine hK.out _ _ (k0.c 0) (fun hHeld => ?_)
                clear hK K
                try simp only [Act.put, List.getElem_toArray, List.getElem_cons_zero, List.getElem_cons_succ, List.setIfInBounds_toArray, List.set_cons_zero, List.set_cons_succ]
                refine wpAnyH_ready (rs := [9]) (by kernel_rfl) (by simp) ?_
                refine AllReadyH.cons (o := _) rfl (fun K hK => ?_) (AllReadyH.nil)
                refine wp_store_s _ _ rfl B7 _ _ m7 rfl rfl (fun W9 d7 hO => ?_)
                replace k0 := k0.oth hO (by omega)
                replace d6 := d6.oth hO hne
                replace hB := hB.trans (hO.below hB.size (by omega))
                clear m7 hO
                refine hK.out _ _ (k0.c 0) (fun hHeld => ?_)
                clear hK K
                try simp only [Act.put, List.getElem_toArray, List.getElem_cons_zero, List.getElem_cons_succ, List.setIfInBounds_toArray, List.set_cons_zero, List.set_cons_succ]
                refine wpAnyH_done (by kernel_rfl) ?_ _
                refine NoPanic.normal ?_
                clear hHeld
                go_wp2_with fail
                go_meet
                exact ⟨B6, B7, rfl, rfl, hn6, hn7, hne, d6, d7, k0, hB⟩
            · have lo := m6.lt
              refine wp_alloc_s rfl (fun B7 W6 hn m7 hbc => ?_)
              have hn7 : w.heap.size < B7 := Nat.lt_of_lt_of_le hlw0 hn
              have hne : B6 ≠ B7 := by omega
              clear lo
              clear hn
              replace k0 := k0.below hbc k0.lt
              replace m6 := m6.below hbc m6.lt
              replace hB := hB.trans (hbc.mono hB.size)
              replace hlw0 := Nat.lt_of_lt_of_le hlw0 hbc.size
              clear hbc
              refine hK.out _ _ (k0.c 0) (fun hHeld => ?_)
              clear hK K
              try simp only [Act.put, List.getElem_toArray, List.getElem_cons_zero, List.getElem_cons_succ, List.setIfInBounds_toArray, List.set_cons_zero, List.set_cons_succ]
              refine wpAnyH_ready (rs := [3]) (by kernel_rfl) (by simp) ?_
              refine AllReadyH.cons (o := _) rfl (fun K hK => ?_) (AllReadyH.nil)
              go_simp
              (with_reducible refine Calls.mono (HFr.out _ hB) ?_)
              rintro r W4 ⟨rfl, hbc⟩
              replace k0 := k0.below hbc k0.lt
              replace m6 := m6.below hbc m6.lt
              replace m7 := m7.below hbc m7.lt
              replace hB := hB.trans (hbc.mono hB.size)
              replace hlw0 := Nat.lt_of_lt_of_le hlw0 hbc.size
              clear hbc
              (try go_wp2_with fail)
              refine hK.out _ _ (k0.c 0) (fun hHeld => ?_)
              clear hK K
              try simp only [Act.put, List.getElem_toArray, List.getElem_cons_zero, List.getElem_cons_succ, List.setIfInBounds_toArray, List.set_cons_zero, List.set_cons_succ]
              refine wpAnyH_ready (rs := [5]) (by kernel_rfl) (by simp) ?_
              refine AllReadyH.cons (o := _) rfl (fun K hK => ?_) (AllReadyH.nil)
              go_simp
              (with_reducible refine Calls.mono (HWj.out _ _ (HS.out _ hB)) ?_)
              rintro r W5 ⟨rfl, hbc⟩
              replace k0 := k0.below hbc k0.lt
              replace m6 := m6.below hbc m6.lt
              replace m7 := m7.below hbc m7.lt
              replace hB := hB.trans (hbc.mono hB.size)
              replace hlw0 := Nat.lt_of_lt_of_le hlw0 hbc.size
              clear hbc
              (try go_wp2_with fail)
              refine hK.out _ _ (k0.c 0) (fun hHeld => ?_)
              clear hK K
              try simp only [Act.put, List.getElem_toArray, List.getElem_cons_zero, List.getElem_cons_succ, List.setIfInBounds_toArray, List.set_cons_zero, List.set_cons_succ]
              refine wpAnyH_ready (rs := [8]) (by kernel_rfl) (by simp) ?_
              refine AllReadyH.cons (o := _) rfl (fun K hK => ?_) (AllReadyH.nil)
              refine wp_store_d _ _ rfl B6 _ _ m6 rfl rfl (fun W8 d6 hO => ?_)
              replace k0 := k0.oth hO (by omega)
              replace m7 := m7.oth hO (fun e => hne e.symm)
              replace hB := hB.trans (hO.below hB.size (by omega))
              clear m6 hO
              refine hK.out _ _ (k0.c 0) (fun hHeld => ?_)
              clear hK K
              try simp only [Act.put, List.getElem_toArray, List.getElem_cons_zero, List.getElem_cons_succ, List.setIfInBounds_toArray, List.set_cons_zero, List.set_cons_succ]
              refine wpAnyH_ready (rs := [9]) (by kernel_rfl) (by simp) ?_
              refine AllReadyH.cons (o := _) rfl (fun K hK => ?_) (AllReadyH.nil)
              refine wp_store_s _ _ rfl B7 _ _ m7 rfl rfl (fun W9 d7 hO => ?_)
              replace k0 := k0.oth hO (by omega)
              replace d6 := d6.oth hO hne
              replace hB := hB.trans (hO.below hB.size (by omega))
              clear m7 hO
              refine hK.out _ _ (k0.c 0) (fun hHeld => ?_)
              clear hK K
              try simp only [Act.put, List.getElem_toArray, List.getElem_cons_zero, List.getElem_cons_succ, List.setIfInBounds_toArray, List.set_cons_zero, List.set_cons_succ]
              refine wpAnyH_done (by kernel_rfl) ?_ _
              refine NoPanic.normal ?_
              clear hHeld
              go_wp2_with fail
              go_meet
              exact ⟨B6, B7, rfl, rfl, hn6, hn7, hne, d6, d7, k0, hB⟩
          · refine wp_alloc_s rfl (fun B7 W6 hn m7 hbc => ?_)
            have hn7 : w.heap.size < B7 := Nat.lt_of_lt_of_le hlw0 hn
            clear hn
            replace k0 := k0.below hbc k0.lt
            replace hB := hB.trans (hbc.mono hB.size)
            replace hlw0 := Nat.lt_of_lt_of_le hlw0 hbc.size
            clear hbc
            refine hK.out _ _ (k0.c 0) (fun hHeld => ?_)
            clear hK K
            try simp only [Act.put, List.getElem_toArray, List.getElem_cons_zero, List.getElem_cons_succ, List.setIfInBounds_toArray, List.set_cons_zero, List.set_cons_succ]
            refine wpAnyH_ready (rs := [3, 6]) (by kernel_rfl) (by simp) ?_
            refine AllReadyH.cons (o := _) rfl (fun K hK => ?_) (AllReadyH.cons (o := _) rfl (fun K hK => ?_) (AllReadyH.nil))
            · go_simp
              (with_reducible refine Calls.mono (HFr.out _ hB) ?_)
              rintro r W4 ⟨rfl, hbc⟩
              replace k0 := k0.below hbc k0.lt
              replace m7 := m7.below hbc m7.lt
              replace hB := hB.trans (hbc.mono hB.size)
              replace hlw0 := Nat.lt_of_lt_of_le hlw0 hbc.size
              clear hbc
              (try go_wp2_with fail)
              refine hK.out _ _ (k0.c 0) (fun hHeld => ?_)
              clear hK K
              try simp only [Act.put, List.getElem_toArray, List.getElem_cons_zero, List.getElem_cons_succ, List.setIfInBounds_toArray, List.set_cons_zero, List.set_cons_succ]
              refine wpAnyH_ready (rs := [5, 6]) (by kernel_rfl) (by simp) ?_
              refine AllReadyH.cons (o := _) rfl (fun K hK => ?_) (AllReadyH.cons (o := _) rfl (fun K hK => ?_) (AllReadyH.nil))
              · go_simp
                (with_reducible refine Calls.mono (HWj.out _ _ (HS.out _ hB)) ?_)
                rintro r W5 ⟨rfl, hbc⟩
                replace k0 := k0.below hbc k0.lt
                replace m7 := m7.below hbc m7.lt
                replace hB := hB.trans (hbc.mono hB.size)
                replace hlw0 := Nat.lt_of_lt_of_le hlw0 hbc.size
                clear hbc
                (try go_wp2_with fail)
                refine hK.out _ _ (k0.c 0) (fun hHeld => ?_)
                clear hK K
                try simp only [Act.put, List.getElem_toArray, List.getElem_cons_zero, List.getElem_cons_succ, List.setIfInBounds_toArray, List.set_cons_zero, List.set_cons_succ]
                refine wpAnyH_ready (rs := [6]) (by kernel_rfl) (by simp) ?_
                refine AllReadyH.cons (o := _) rfl (fun K hK => ?_) (AllReadyH.nil)
                have lo := m7.lt
                refine wp_alloc_d rfl (fun B6 W6 hn m6 hbc => ?_)
                have hn6 : w.heap.size < B6 := Nat.lt_of_lt_of_le hlw0 hn
                have hne : B6 ≠ B7 := by omega
                clear lo
                clear hn
                replace k0 := k0.below hbc k0.lt
                replace m7 := m7.below hbc m7.lt
                replace hB := hB.trans (hbc.mono hB.size)
                replace hlw0 := Nat.lt_of_lt_of_le hlw0 hbc.size
                clear hbc
                refine hK.out _ _ (k0.c 0) (fun hHeld => ?_)
                clear hK K
                try simp only [Act.put, List.getElem_toArray, List.getElem_cons_zero, List.getElem_cons_succ, List.setIfInBounds_toArray, List.set_cons_zero, List.set_cons_succ]
                refine wpAnyH_ready (rs := [8]) (by kernel_rfl) (by simp) ?_
                refine AllReadyH.cons (o := _) rfl (fun K hK => ?_) (AllReadyH.nil)
                refine wp_store_d _ _ rfl B6 _ _ m6 rfl rfl (fun W8 d6 hO => ?_)
                replace k0 := k0.oth hO (by omega)
                replace m7 := m7.oth hO (fun e => hne e.symm)
                replace hB := hB.trans (hO.below hB.size (by omega))
                clear m6 hO
                refine hK.out _ _ (k0.c 0) (fun hHeld => ?_)
                clear hK K
                try simp only [Act.put, List.getElem_toArray, List.getElem_cons_zero, List.getElem_cons_succ, List.setIfInBounds_toArray, List.set_cons_zero, List.set_cons_succ]
                refine wpAnyH_ready (rs := [9]) (by kernel_rfl) (by simp) ?_
                refine AllReadyH.cons (o := _) rfl (fun K hK => ?_) (AllReadyH.nil)
                refine wp_store_s _ _ rfl B7 _ _ m7 rfl rfl (fun W9 d7 hO => ?_)
                replace k0 := k0.oth hO (by omega)
                replace d6 := d6.oth hO hne
                replace hB := hB.trans (hO.below hB.size (by omega))
                clear m7 hO
                refine hK.out _ _ (k0.c 0) (fun hHeld => ?_)
                clear hK K
                try simp only [Act.put, List.getElem_toArray, List.getElem_cons_zero, List.getElem_cons_succ, List.setIfInBounds_toArray, List.set_cons_zero, List.set_cons_succ]
                refine wpAnyH_done (by kernel_rfl) ?_ _
                refine NoPanic.normal ?_
                clear hHeld
                go_wp2_with fail
                go_meet
                exact ⟨B6, B7, rfl, rfl, hn6, hn7, hne, d6, d7, k0, hB⟩
              · have lo := m7.lt
                refine wp_alloc_d rfl (fun B6 W6 hn m6 hbc => ?_)
                have hn6 : w.heap.size < B6 := Nat.lt_of_lt_of_le hlw0 hn
                have hne : B6 ≠ B7 := by omega
                clear lo
                clear hn
                replace k0 := k0.below hbc k0.lt
                replace m7 := m7.below hbc m7.lt
                replace hB := hB.trans (hbc.mono hB.size)
                replace hlw0 := Nat.lt_of_lt_of_le hlw0 hbc.size
                clear hbc
                refine hK.out _ _ (k0.c 0) (fun hHeld => ?_)
                clear hK K
                try simp only [Act.put, List.getElem_toArray, List.getElem_cons_zero, List.getElem_cons_succ, List.setIfInBounds_toArray, List.set_cons_zero, List.set_cons_succ]
                refine wpAnyH_ready (rs := [5]) (by kernel_rfl) (by simp) ?_
                refine AllReadyH.cons (o := _) rfl (fun K hK => ?_) (AllReadyH.nil)
                go_simp
                (with_reducible refine Calls.mono (HWj.out _ _ (HS.out _ hB)) ?_)
                rintro r W5 ⟨rfl, hbc⟩
                replace k0 := k0.below hbc k0.lt
                replace m7 := m7.below hbc m7.lt
                replace m6 := m6.below hbc m6.lt
                replace hB := hB.trans (hbc.mono hB.size)
                replace hlw0 := Nat.lt_of_lt_of_le hlw0 hbc.size
                clear hbc
                (try go_wp2_with fail)
                refine hK.out _ _ (k0.c 0) (fun hHeld => ?_)
                clear hK K
                try simp only [Act.put, List.getElem_toArray, List.getElem_cons_zero, List.getElem_cons_succ, List.setIfInBounds_toArray, List.set_cons_zero, List.set_cons_succ]
                refine wpAnyH_ready (rs := [8]) (by kernel_rfl) (by simp) ?_
                refine AllReadyH.cons (o := _) rfl (fun K hK => ?_) (AllReadyH.nil)
                refine wp_store_d _ _ rfl B6 _ _ m6 rfl rfl (fun W8 d6 hO => ?_)
                replace k0 := k0.oth hO (by omega)
                replace m7 := m7.oth hO (fun e => hne e.symm)
                replace hB := hB.trans (hO.below hB.size (by omega))
                clear m6 hO
                refine hK.out _ _ (k0.c 0) (fun hHeld => ?_)
                clear hK K
                try simp only [Act.put, List.getElem_toArray, List.getElem_cons_zero, List.getElem_cons_succ, List.setIfInBounds_toArray, List.set_cons_zero, List.set_cons_succ]
                refine wpAnyH_ready (rs := [9]) (by kernel_rfl) (by simp) ?_
                refine AllReadyH.cons (o := _) rfl (fun K hK => ?_) (AllReadyH.nil)
                refine wp_store_s _ _ rfl B7 _ _ m7 rfl rfl (fun W9 d7 hO => ?_)
                replace k0 := k0.oth hO (by omega)
                replace d6 := d6.oth hO hne
                replace hB := hB.trans (hO.below hB.size (by omega))
                clear m7 hO
                refine hK.out _ _ (k0.c 0) (fun hHeld => ?_)
                clear hK K
                try simp only [Act.put, List.getElem_toArray, List.getElem_cons_zero, List.getElem_cons_succ, List.setIfInBounds_toArray, List.set_cons_zero, List.set_cons_succ]
                refine wpAnyH_done (by kernel_rfl) ?_ _
                refine NoPanic.normal ?_
                clear hHeld
                go_wp2_with fail
                go_meet
                exact ⟨B6, B7, rfl, rfl, hn6, hn7, hne, d6, d7, k0, hB⟩
            · have lo := m7.lt
              refine wp_alloc_d rfl (fun B6 W6 hn m6 hbc => ?_)
              have hn6 : w.heap.size < B6 := Nat.lt_of_lt_of_le hlw0 hn
              have hne : B6 ≠ B7 := by omega
              clear lo
              clear hn
              replace k0 := k0.below hbc k0.lt
              replace m7 := m7.below hbc m7.lt
              replace hB := hB.trans (hbc.mono hB.size)
              replace hlw0 := Nat.lt_of_lt_of_le hlw0 hbc.size
              clear hbc
              refine hK.out _ _ (k0.c 0) (fun hHeld => ?_)
              clear hK K
              try simp only [Act.put, List.getElem_toArray, List.getElem_cons_zero, List.getElem_cons_succ, List.setIfInBounds_toArray, List.set_cons_zero, List.set_cons_succ]
              refine wpAnyH_ready (rs := [3]) (by kernel_rfl) (by simp) ?_
              refine AllReadyH.cons (o := _) rfl (fun K hK => ?_) (AllReadyH.nil)
              go_simp
              (with_reducible refine Calls.mono (HFr.out _ hB) ?_)
              rintro r W4 ⟨rfl, hbc⟩
              replace k0 := k0.below hbc k0.lt
              replace m7 := m7.below hbc m7.lt
              replace m6 := m6.below hbc m6.lt
              replace hB := hB.trans (hbc.mono hB.size)
              replace hlw0 := Nat.lt_of_lt_of_le hlw0 hbc.size
              clear hbc
              (try go_wp2_with fail)
              refine hK.out _ _ (k0.c 0) (fun hHeld => ?_)
              clear hK K
              try simp only [Act.put, List.getElem_toArray, List.getElem_cons_zero, List.getElem_cons_succ, List.setIfInBounds_toArray, List.set_cons_zero, List.set_cons_succ]
              refine wpAnyH_ready (rs := [5]) (by kernel_rfl) (by simp) ?_
              refine AllReadyH.cons (o := _) rfl (fun K hK => ?_) (AllReadyH.nil)
              go_simp
              (with_reducible refine Calls.mono (HWj.out _ _ (HS.out _ hB)) ?_)
              rintro r W5 ⟨rfl, hbc⟩
              replace k0 := k0.below hbc k0.lt
              replace m7 := m7.below hbc m7.lt
              replace m6 := m6.below hbc m6.lt
              replace hB := hB.trans (hbc.mono hB.size)
              replace hlw0 := Nat.lt_of_lt_of_le hlw0 hbc.size
              clear hbc
              (try go_wp2_with fail)
              refine hK.out _ _ (k0.c 0) (fun hHeld => ?_)
              clear hK K
              try simp only [Act.put, List.getElem_toArray, List.getElem_cons_zero, List.getElem_cons_succ, List.setIfInBounds_toArray, List.set_cons_zero, List.set_cons_succ]
              refine wpAnyH_ready (rs := [8]) (by kernel_rfl) (by simp) ?_
              refine AllReadyH.cons (o := _) rfl (fun K hK => ?_) (AllReadyH.nil)
              refine wp_store_d _ _ rfl B6 _ _ m6 rfl rfl (fun W8 d6 hO => ?_)
              replace k0 := k0.oth hO (by omega)
              replace m7 := m7.oth hO (fun e => hne e.symm)
              replace hB := hB.trans (hO.below hB.size (by omega))
              clear m6 hO
              refine hK.out _ _ (k0.c 0) (fun hHeld => ?_)
              clear hK K
              try simp only [Act.put, List.getElem_toArray, List.getElem_cons_zero, List.getElem_cons_succ, List.setIfInBounds_toArray, List.set_cons_zero, List.set_cons_succ]
              refine wpAnyH_ready (rs := [9]) (by kernel_rfl) (by simp) ?_
              refine AllReadyH.cons (o := _) rfl (fun K hK => ?_) (AllReadyH.nil)
              refine wp_store_s _ _ rfl B7 _ _ m7 rfl rfl (fun W9 d7 hO => ?_)
              replace k0 := k0.oth hO (by omega)
              replace d6 := d6.oth hO hne
              replace hB := hB.trans (hO.below hB.size (by omega))
              clear m7 hO
              refine hK.out _ _ (k0.c 0) (fun hHeld => ?_)
              clear hK K
              try simp only [Act.put, List.getElem_toArray, List.getElem_cons_zero, List.getElem_cons_succ, List.setIfInBounds_toArray, List.set_cons_zero, List.set_cons_succ]
              refine wpAnyH_done (by kernel_rfl) ?_ _
              refine NoPanic.normal ?_
              clear hHeld
              go_wp2_with fail
              go_meet
              exact ⟨B6, B7, rfl, rfl, hn6, hn7, hne, d6, d7, k0, hB⟩
        · refine wp_alloc_d rfl (fun B6 W6 hn m6 hbc => ?_)
          have hn6 : w.heap.size < B6 := Nat.lt_of_lt_of_le hlw0 hn
          clear hn
          replace k0 := k0.below hbc k0.lt
          replace hB := hB.trans (hbc.mono hB.size)
          replace hlw0 := Nat.lt_of_lt_of_le hlw0 hbc.size
          clear hbc
          refine hK.out _ _ (k0.c 0) (fun hHeld => ?_)
          clear hK K
          try simp only [Act.put, List.getElem_toArray, List.getElem_cons_zero, List.getElem_cons_succ, List.setIfInBounds_toArray, List.set_cons_zero, List.set_cons_succ]
          refine wpAnyH_ready (rs := [1, 7]) (by kernel_rfl) (by simp) ?_
          refine AllReadyH.cons (o := _) rfl (fun K hK => ?_) (AllReadyH.cons (o := _) rfl (fun K hK => ?_) (AllReadyH.nil))
          · go_simp
            (with_reducible refine Calls.mono (HDo.out _ hB) ?_)
            rintro r W3 ⟨rfl, hbc⟩
            replace k0 := k0.below hbc k0.lt
            replace m6 := m6.below hbc m6.lt
            replace hB := hB.trans (hbc.mono hB.size)
            replace hlw0 := Nat.lt_of_lt_of_le hlw0 hbc.size
            clear hbc
            (try go_wp2_with fail)
            refine hK.out _ _ (k0.c 0) (fun hHeld => ?_)
            clear hK K
            try simp only [Act.put, List.getElem_toArray, List.getElem_cons_zero, List.getElem_cons_succ, List.setIfInBounds_toArray, List.set_cons_zero, List.set_cons_succ]
            refine wpAnyH_ready (rs := [3, 7]) (by kernel_rfl) (by simp) ?_
            refine AllReadyH.cons (o := _) rfl (fun K hK => ?_) (AllReadyH.cons (o := _) rfl (fun K hK => ?_) (AllReadyH.nil))
            · go_simp
              (with_reducible refine Calls.mono (HFr.out _ hB) ?_)
              rintro r W4 ⟨rfl, hbc⟩
              replace k0 := k0.below hbc k0.lt
              replace m6 := m6.below hbc m6.lt
              replace hB := hB.trans (hbc.mono hB.size)
              replace hlw0 := Nat.lt_of_lt_of_le hlw0 hbc.size
              clear hbc
              (try go_wp2_with fail)
              refine hK.out _ _ (k0.c 0) (fun hHeld => ?_)
              clear hK K
              try simp only [Act.put, List.getElem_toArray, List.getElem_cons_zero, List.getElem_cons_succ, List.setIfInBounds_toArray, List.set_cons_zero, List.set_cons_succ]
              refine wpAnyH_ready (rs := [5, 7]) (by kernel_rfl) (by simp) ?_
              refine AllReadyH.cons (o := _) rfl (fun K hK => ?_) (AllReadyH.cons (o := _) rfl (fun K hK => ?_) (AllReadyH.nil))
              · go_simp
                (with_reducible refine Calls.mono (HWj.out _ _ (HS.out _ hB)) ?_)
                rintro r W5 ⟨rfl, hbc⟩
                replace k0 := k0.below hbc k0.lt
                replace m6 := m6.below hbc m6.lt
                replace hB := hB.trans (hbc.mono hB.size)
                replace hlw0 := Nat.lt_of_lt_of_le hlw0 hbc.size
                clear hbc
                (try go_wp2_with fail)
                refine hK.out _ _ (k0.c 0) (fun hHeld => ?_)
                clear hK K
                try simp only [Act.put, List.getElem_toArray, List.getElem_cons_zero, List.getElem_cons_succ, List.setIfInBounds_toArray, List.set_cons_zero, List.set_cons_succ]
                refine wpAnyH_ready (rs := [7]) (by kernel_rfl) (by simp) ?_
                refine AllReadyH.cons (o := _) rfl (fun K hK => ?_) (AllReadyH.nil)
                have lo := m6.lt
                refine wp_alloc_s rfl (fun B7 W6 hn m7 hbc => ?_)
                have hn7 : w.heap.size < B7 := Nat.lt_of_lt_of_le hlw0 hn
                have hne : B6 ≠ B7 := by omega
                clear lo
                clear hn
                replace k0 := k0.below hbc k0.lt
                replace m6 := m6.below hbc m6.lt
                replace hB := hB.trans (hbc.mono hB.size)
                replace hlw0 := Nat.lt_of_lt_of_le hlw0 hbc.size
                clear hbc
                refine hK.out _ _ (k0.c 0) (fun hHeld => ?_)
                clear hK K
                try simp only [Act.put, List.getElem_toArray, List.getElem_cons_zero, List.getElem_cons_succ, List.setIfInBounds_toArray, List.set_cons_zero, List.set_cons_succ]
                refine wpAnyH_ready (rs := [8]) (by kernel_rfl) (by simp) ?_
                refine AllReadyH.cons (o := _) rfl (fun K hK => ?_) (AllReadyH.nil)
                refine wp_store_d _ _ rfl B6 _ _ m6 rfl rfl (fun W8 d6 hO => ?_)
                replace k0 := k0.oth hO (by omega)
                replace m7 := m7.oth hO (fun e => hne e.symm)
                replace hB := hB.trans (hO.below hB.size (by omega))
                clear m6 hO
                refine hK.out _ _ (k0.c 0) (fun hHeld => ?_)
                clear hK K
                try simp only [Act.put, List.getElem_toArray, List.getElem_cons_zero, List.getElem_cons_succ, List.setIfInBounds_toArray, List.set_cons_zero, List.set_cons_succ]
                refine wpAnyH_ready (rs := [9]) (by kernel_rfl) (by simp) ?_
                refine AllReadyH.cons (o := _) rfl (fun K hK => ?_) (AllReadyH.nil)
                refine wp_store_s _ _ rfl B7 _ _ m7 rfl rfl (fun W9 d7 hO => ?_)
                replace k0 := k0.oth hO (by omega)
                replace d6 := d6.oth hO hne
                replace hB := hB.trans (hO.below hB.size (by omega))
                clear m7 hO
                refine hK.out _ _ (k0.c 0) (fun hHeld => ?_)
                clear hK K
                try simp only [Act.put, List.getElem_toArray, List.getElem_cons_zero, List.getElem_cons_succ, List.setIfInBounds_toArray, List.set_cons_zero, List.set_cons_succ]
                refine wpAnyH_done (by kernel_rfl) ?_ _
                refine NoPanic.normal ?_
                clear hHeld
                go_wp2_with fail
                go_meet
                exact ⟨B6, B7, rfl, rfl, hn6, hn7, hne, d6, d7, k0, hB⟩
              · have lo := m6.lt
                refine wp_alloc_s rfl (fun B7 W6 hn m7 hbc => ?_)
                have hn7 : w.heap.size < B7 := Nat.lt_of_lt_of_le hlw0 hn
                have hne : B6 ≠ B7 := by omega
                clear lo
                clear hn
                replace k0 := k0.below hbc k0.lt
                replace m6 := m6.below hbc m6.lt
                replace hB := hB.trans (hbc.mono hB.size)
                replace hlw0 := Nat.lt_of_lt_of_le hlw0 hbc.size
                clear hbc
                refine hK.out _ _ (k0.c 0) (fun hHeld => ?_)
                clear hK K
                try simp only [Act.put, List.getElem_toArray, List.getElem_cons_zero, List.getElem_cons_succ, List.setIfInBounds_toArray, List.set_cons_zero, List.set_cons_succ]
                refine wpAnyH_ready (rs := [5]) (by kernel_rfl) (by simp) ?_
                refine AllReadyH.cons (o := _) rfl (fun K hK => ?_) (AllReadyH.nil)
                go_simp
                (with_reducible refine Calls.mono (HWj.out _ _ (HS.out _ hB)) ?_)
                rintro r W5 ⟨rfl, hbc⟩
                replace k0 := k0.below hbc k0.lt
                replace m6 := m6.below hbc m6.lt
                replace m7 := m7.below hbc m7.lt
                replace hB := hB.trans (hbc.mono hB.size)
                replace hlw0 := Nat.lt_of_lt_of_le hlw0 hbc.size
                clear hbc
                (try go_wp2_with fail)
                refine hK.out _ _ (k0.c 0) (fun hHeld => ?_)
                clear hK K
                try simp only [Act.put, List.getElem_toArray, List.getElem_cons_zero, List.getElem_cons_succ, List.setIfInBounds_toArray, List.set_cons_zero, List.set_cons_succ]
                refine wpAnyH_ready (rs := [8]) (by kernel_rfl) (by simp) ?_
                refine AllReadyH.cons (o := _) rfl (fun K hK => ?_) (AllReadyH.nil)
                refine wp_store_d _ _ rfl B6 _ _ m6 rfl rfl (fun W8 d6 hO => ?_)
                replace k0 := k0.oth hO (by omega)
                replace m7 := m7.oth hO (fun e => hne e.symm)
                replace hB := hB.trans (hO.below hB.size (by omega))
                clear m6 hO
                refine hK.out _ _ (k0.c 0) (fun hHeld => ?_)
                clear hK K
                try simp only [Act.put, List.getElem_toArray, List.getElem_cons_zero, List.getElem_cons_succ, List.setIfInBounds_toArray, List.set_cons_zero, List.set_cons_succ]
                refine wpAnyH_ready (rs := [9]) (by kernel_rfl) (by simp) ?_
                refine AllReadyH.cons (o := _) rfl (fun K hK => ?_) (AllReadyH.nil)
                refine wp_store_s _ _ rfl B7 _ _ m7 rfl rfl (fun W9 d7 hO => ?_)
                replace k0 := k0.oth hO (by omega)
                replace d6 := d6.oth hO hne
                replace hB := hB.trans (hO.below hB.size (by omega))
                clear m7 hO
                refine hK.out _ _ (k0.c 0) (fun hHeld => ?_)
                clear hK K
                try simp only [Act.put, List.getElem_toArray, List.getElem_cons_zero, List.getElem_cons_succ, List.setIfInBounds_toArray, List.set_cons_zero, List.set_cons_succ]
                refine wpAnyH_done (by kernel_rfl) ?_ _
                refine NoPanic.normal ?_
                clear hHeld
                go_wp2_with fail
                go_meet
                exact ⟨B6, B7, rfl, rfl, hn6, hn7, hne, d6, d7, k0, hB⟩
            · have lo := m6.lt
              refine wp_alloc_s rfl (fun B7 W6 hn m7 hbc => ?_)
              have hn7 : w.heap.size < B7 := Nat.lt_of_lt_of_le hlw0 hn
              have hne : B6 ≠ B7 := by omega
              clear lo
              clear hn
              replace k0 := k0.below hbc k0.lt
              replace m6 := m6.below hbc m6.lt
              replace hB := hB.trans (hbc.mono hB.size)
              replace hlw0 := Nat.lt_of_lt_of_le hlw0 hbc.size
              clear hbc
              refine hK.out _ _ (k0.c 0) (fun hHeld => ?_)
              clear hK K
              try simp only [Act.put, List.getElem_toArray, List.getElem_cons_zero, List.getElem_cons_succ, List.setIfInBounds_toArray, List.set_cons_zero, List.set_cons_succ]
              refine wpAnyH_ready (rs := [3]) (by kernel_rfl) (by simp) ?_
              refine AllReadyH.cons (o := _) rfl (fun K hK => ?_) (AllReadyH.nil)
              go_simp
              (with_reducible refine Calls.mono (HFr.out _ hB) ?_)
              rintro r W4 ⟨rfl, hbc⟩
              replace k0 := k0.below hbc k0.lt
              replace m6 := m6.below hbc m6.lt
              replace m7 := m7.below hbc m7.lt
              replace hB := hB.trans (hbc.mono hB.size)
              replace hlw0 := Nat.lt_of_lt_of_le hlw0 hbc.size
              clear hbc
              (try go_wp2_with fail)
              refine hK.out _ _ (k0.c 0) (fun hHeld => ?_)
              clear hK K
              try simp only [Act.put, List.getElem_toArray, List.getElem_cons_zero, List.getElem_cons_succ, List.setIfInBounds_toArray, List.set_cons_zero, List.set_cons_succ]
              refine wpAnyH_ready (rs := [5]) (by kernel_rfl) (by simp) ?_
              refine AllReadyH.cons (o := _) rfl (fun K hK => ?_) (AllReadyH.nil)
              go_simp
              (with_reducible refine Calls.mono (HWj.out _ _ (HS.out _ hB)) ?_)
              rintro r W5 ⟨rfl, hbc⟩
              replace k0 := k0.below hbc k0.lt
              replace m6 := m6.below hbc m6.lt
              replace m7 := m7.below hbc m7.lt
              replace hB := hB.trans (hbc.mono hB.size)
              replace hlw0 := Nat.lt_of_lt_of_le hlw0 hbc.size
              clear hbc
              (try go_wp2_with fail)
              refine hK.out _ _ (k0.c 0) (fun hHeld => ?_)
              clear hK K
              try simp only [Act.put, List.getElem_toArray, List.getElem_cons_zero, List.getElem_cons_succ, List.setIfInBounds_toArray, List.set_cons_zero, List.set_cons_succ]
              refine wpAnyH_ready (rs := [8]) (by kernel_rfl) (by simp) ?_
              refine AllReadyH.cons (o := _) rfl (fun K hK => ?_) (AllReadyH.nil)
              refine wp_store_d _ _ rfl B6 _ _ m6 rfl rfl (fun W8 d6 hO => ?_)
              replace k0 := k0.oth hO (by omega)
              replace m7 := m7.oth hO (fun e => hne e.symm)
              replace hB := hB.trans (hO.below hB.size (by omega))
              clear m6 hO
              refine hK.out _ _ (k0.c 0) (fun hHeld => ?_)
              clear hK K
              try simp only [Act.put, List.getElem_toArray, List.getElem_cons_zero, List.getElem_cons_succ, List.setIfInBounds_toArray, List.set_cons_zero, List.set_cons_succ]
              refine wpAnyH_ready (rs := [9]) (by kernel_rfl) (by simp) ?_
              refine AllReadyH.cons (o := _) rfl (fun K hK => ?_) (AllReadyH.nil)
              refine wp_store_s _ _ rfl B7 _ _ m7 rfl rfl (fun W9 d7 hO => ?_)
              replace k0 := k0.oth hO (by omega)
              replace d6 := d6.oth hO hne
              replace hB := hB.trans (hO.below hB.size (by omega))
              clear m7 hO
              refine hK.out _ _ (k0.c 0) (fun hHeld => ?_)
              clear hK K
              try simp only [Act.put, List.getElem_toArray, List.getElem_cons_zero, List.getElem_cons_succ, List.setIfInBounds_toArray, List.set_cons_zero, List.set_cons_succ]
              refine wpAnyH_done (by kernel_rfl) ?_ _
              refine NoPanic.normal ?_
              clear hHeld
              go_wp2_with fail
              go_meet
              exact ⟨B6, B7, rfl, rfl, hn6, hn7, hne, d6, d7, k0, hB⟩
          · have lo := m6.lt
            refine wp_alloc_s rfl (fun B7 W6 hn m7 hbc => ?_)
            have hn7 : w.heap.size < B7 := Nat.lt_of_lt_of_le hlw0 hn
            have hne : B6 ≠ B7 := by omega
            clear lo
            clear hn
            replace k0 := k0.below hbc k0.lt
            replace m6 := m6.below hbc m6.lt
            replace hB := hB.trans (hbc.mono hB.size)
            replace hlw0 := Nat.lt_of_lt_of_le hlw0 hbc.size
            clear hbc
            refine hK.out _ _ (k0.c 0) (fun hHeld => ?_)
            clear hK K
            try simp only [Act.put, List.getElem_toArray, List.getElem_cons_zero, List.getElem_cons_succ, List.setIfInBounds_toArray, List.set_cons_zero, List.set_cons_succ]
            refine wpAnyH_ready (rs := [1]) (by kernel_rfl) (by simp) ?_
            refine AllReadyH.cons (o := _) rfl (fun K hK => ?_) (AllReadyH.nil)
            go_simp
            (with_reducible refine Calls.mono (HDo.out _ hB) ?_)
            rintro r W3 ⟨rfl, hbc⟩
            replace k0 := k0.below hbc k0.lt
            replace m6 := m6.below hbc m6.lt
            replace m7 := m7.below hbc m7.lt
            replace hB := hB.trans (hbc.mono hB.size)
            replace hlw0 := Nat.lt_of_lt_of_le hlw0 hbc.size
            clear hbc
            (try go_wp2_with fail)
            refine hK.out _ _ (k0.c 0) (fun hHeld => ?_)
            clear hK K
            try simp only [Act.put, List.getElem_toArray, List.getElem_cons_zero, List.getElem_cons_succ, List.setIfInBounds_toArray, List.set_cons_zero, List.set_cons_succ]
            refine wpAnyH_ready (rs := [3]) (by kernel_rfl) (by simp) ?_
            refine AllReadyH.cons (o := _) rfl (fun K hK => ?_) (AllReadyH.nil)
            go_simp
            (with_reducible refine Calls.mono (HFr.out _ hB) ?_)
            rintro r W4 ⟨rfl, hbc⟩
            replace k0 := k0.below hbc k0.lt
            replace m6 := m6.below hbc m6.lt
            replace m7 := m7.below hbc m7.lt
            replace hB := hB.trans (hbc.mono hB.size)
            replace hlw0 := Nat.lt_of_lt_of_le hlw0 hbc.size
            clear hbc
            (try go_wp2_with fail)
            refine hK.out _ _ (k0.c 0) (fun hHeld => ?_)
            clear hK K
            try simp only [Act.put, List.getElem_toArray, List.getElem_cons_zero, List.getElem_cons_succ, List.setIfInBounds_toArray, List.set_cons_zero, List.set_cons_succ]
            refine wpAnyH_ready (rs := [5]) (by kernel_rfl) (by simp) ?_
            refine AllReadyH.cons (o := _) rfl (fun K hK => ?_) (AllReadyH.nil)
            go_simp
            (with_reducible refine Calls.mono (HWj.out _ _ (HS.out _ hB)) ?_)
            rintro r W5 ⟨rfl, hbc⟩
            replace k0 := k0.below hbc k0.lt
            replace m6 := m6.below hbc m6.lt
            replace m7 := m7.below hbc m7.lt
            replace hB := hB.trans (hbc.mono hB.size)
            replace hlw0 := Nat.lt_of_lt_of_le hlw0 hbc.size
            clear hbc
            (try go_wp2_with fail)
            refine hK.out _ _ (k0.c 0) (fun hHeld => ?_)
            clear hK K
            try simp only [Act.put, List.getElem_toArray, List.getElem_cons_zero, List.getElem_cons_succ, List.setIfInBounds_toArray, List.set_cons_zero, List.set_cons_succ]
            refine wpAnyH_ready (rs := [8]) (by kernel_rfl) (by simp) ?_
            refine AllReadyH.cons (o := _) rfl (fun K hK => ?_) (AllReadyH.nil)
            refine wp_store_d _ _ rfl B6 _ _ m6 rfl rfl (fun W8 d6 hO => ?_)
            replace k0 := k0.oth hO (by omega)
            replace m7 := m7.oth hO (fun e => hne e.symm)
            replace hB := hB.trans (hO.below hB.size (by omega))
            clear m6 hO
            refine hK.out _ _ (k0.c 0) (fun hHeld => ?_)
            clear hK K
            try simp only [Act.put, List.getElem_toArray, List.getElem_cons_zero, List.getElem_cons_succ, List.setIfInBounds_toArray, List.set_cons_zero, List.set_cons_succ]
            refine wpAnyH_ready (rs := [9]) (by kernel_rfl) (by simp) ?_
            refine AllReadyH.cons (o := _) rfl (fun K hK => ?_) (AllReadyH.nil)
            refine wp_store_s _ _ rfl B7 _ _ m7 rfl rfl (fun W9 d7 hO => ?_)
            replace k0 := k0.oth hO (by omega)
            replace d6 := d6.oth hO hne
            replace hB := hB.trans (hO.below hB.size (by omega))
            clear m7 hO
            refine hK.out _ _ (k0.c 0) (fun hHeld => ?_)
            clear hK K
            try simp only [Act.put, List.getElem_toArray, List.getElem_cons_zero, List.getElem_cons_succ, List.setIfInBounds_toArray, List.set_cons_zero, List.set_cons_succ]
            refine wpAnyH_done (by kernel_rfl) ?_ _
            refine NoPanic.normal ?_
            clear hHeld
            go_wp2_with fail
            go_meet
            exact ⟨B6, B7, rfl, rfl, hn6, hn7, hne, d6, d7, k0, hB⟩
        · refine wp_alloc_s rfl (fun B7 W6 hn m7 hbc => ?_)
          have hn7 : w.heap.size < B7 := Nat.lt_of_lt_of_le hlw0 hn
          clear hn
          replace k0 := k0.below hbc k0.lt
          replace hB := hB.trans (hbc.mono hB.size)
          replace hlw0 := Nat.lt_of_lt_of_le hlw0 hbc.size
          clear hbc
          refine hK.out _ _ (k0.c 0) (fun hHeld => ?_)
          clear hK K
          try simp only [Act.put, List.getElem_toArray, List.getElem_cons_zero, List.getElem_cons_succ, List.setIfInBounds_toArray, List.set_cons_zero, List.set_cons_succ]
          refine wpAnyH_ready (rs := [1, 6]) (by kernel_rfl) (by simp) ?_
          refine AllReadyH.cons (o := _) rfl (fun K hK => ?_) (AllReadyH.cons (o := _) rfl (fun K hK => ?_) (AllReadyH.nil))
          · go_simp
            (with_reducible refine Calls.mono (HDo.out _ hB) ?_)
            rintro r W3 ⟨rfl, hbc⟩
            replace k0 := k0.below hbc k0.lt
            replace m7 := m7.below hbc m7.lt
            replace hB := hB.trans (hbc.mono hB.size)
            replace hlw0 := Nat.lt_of_lt_of_le hlw0 hbc.size
            clear hbc
            (try go_wp2_with fail)
            refine hK.out _ _ (k0.c 0) (fun hHeld => ?_)
            clear hK K
            try simp only [Act.put, List.getElem_toArray, List.getElem_cons_zero, List.getElem_cons_succ, List.setIfInBounds_toArray, List.set_cons_zero, List.set_cons_succ]
            refine wpAnyH_ready (rs := [3, 6]) (by kernel_rfl) (by simp) ?_
            refine AllReadyH.cons (o := _) rfl (fun K hK => ?_) (AllReadyH.cons (o := _) rfl (fun K hK => ?_) (AllReadyH.nil))
            · go_simp
              (with_reducible refine Calls.mono (HFr.out _ hB) ?_)
              rintro r W4 ⟨rfl, hbc⟩
              replace k0 := k0.below hbc k0.lt
              replace m7 := m7.below hbc m7.lt
              replace hB := hB.trans (hbc.mono hB.size)
              replace hlw0 := Nat.lt_of_lt_of_le hlw0 hbc.size
              clear hbc
              (try go_wp2_with fail)
              refine hK.out _ _ (k0.c 0) (fun hHeld => ?_)
              clear hK K
              try simp only [Act.put, List.getElem_toArray, List.getElem_cons_zero, List.getElem_cons_succ, List.setIfInBounds_toArray, List.set_cons_zero, List.set_cons_succ]
              refine wpAnyH_ready (rs := [5, 6]) (by kernel_rfl) (by simp) ?_
              refine AllReadyH.cons (o := _) rfl (fun K hK => ?_) (AllReadyH.cons (o := _) rfl (fun K hK => ?_) (AllReadyH.nil))
              · go_simp
                (with_reducible refine Calls.mono (HWj.out _ _ (HS.out _ hB)) ?_)
                rintro r W5 ⟨rfl, hbc⟩
                replace k0 := k0.below hbc k0.lt
                replace m7 := m7.below hbc m7.lt
                replace hB := hB.trans (hbc.mono hB.size)
                replace hlw0 := Nat.lt_of_lt_of_le hlw0 hbc.size
                clear hbc
                (try go_wp2_with fail)
                refine hK.out _ _ (k0.c 0) (fun hHeld => ?_)
                clear hK K
                try simp only [Act.put, List.getElem_toArray, List.getElem_cons_zero, List.getElem_cons_succ, List.setIfInBounds_toArray, List.set_cons_zero, List.set_cons_succ]
                refine wpAnyH_ready (rs := [6]) (by kernel_rfl) (by simp) ?_
                refine AllReadyH.cons (o := _) rfl (fun K hK => ?_) (AllReadyH.nil)
                have lo := m7.lt
                refine wp_alloc_d rfl (fun B6 W6 hn m6 hbc => ?_)
                have hn6 : w.heap.size < B6 := Nat.lt_of_lt_of_le hlw0 hn
                have hne : B6 ≠ B7 := by omega
                clear lo
                clear hn
                replace k0 := k0.below hbc k0.lt
                replace m7 := m7.below hbc m7.lt
                replace hB := hB.trans (hbc.mono hB.size)
                replace hlw0 := Nat.lt_of_lt_of_le hlw0 hbc.size
                clear hbc
                refine hK.out _ _ (k0.c 0) (fun hHeld => ?_)
                clear hK K
                try simp only [Act.put, List.getElem_toArray, List.getElem_cons_zero, List.getElem_cons_succ, List.setIfInBounds_toArray, List.set_cons_zero, List.set_cons_succ]
                refine wpAnyH_ready (rs := [8]) (by kernel_rfl) (by simp) ?_
                refine AllReadyH.cons (o := _) rfl (fun K hK => ?_) (AllReadyH.nil)
                refine wp_store_d _ _ rfl B6 _ _ m6 rfl rfl (fun W8 d6 hO => ?_)
                replace k0 := k0.oth hO (by omega)
                replace m7 := m7.oth hO (fun e => hne e.symm)
                replace hB := hB.trans (hO.below hB.size (by omega))
                clear m6 hO
                refine hK.out _ _ (k0.c 0) (fun hHeld => ?_)
                clear hK K
                try simp only [Act.put, List.getElem_toArray, List.getElem_cons_zero, List.getElem_cons_succ, List.setIfInBounds_toArray, List.set_cons_zero, List.set_cons_succ]
                refine wpAnyH_ready (rs := [9]) (by kernel_rfl) (by simp) ?_
                refine AllReadyH.cons (o := _) rfl (fun K hK => ?_) (AllReadyH.nil)
                refine wp_store_s _ _ rfl B7 _ _ m7 rfl rfl (fun W9 d7 hO => ?_)
                replace k0 := k0.oth hO (by omega)
                replace d6 := d6.oth hO hne
                replace hB := hB.trans (hO.below hB.size (by omega))
                clear m7 hO
                refine hK.out _ _ (k0.c 0) (fun hHeld => ?_)
                clear hK K
                try simp only [Act.put, List.getElem_toArray, List.getElem_cons_zero, List.getElem_cons_succ, List.setIfInBounds_toArray, List.set_cons_zero, List.set_cons_succ]
                refine wpAnyH_done (by kernel_rfl) ?_ _
                refine NoPanic.normal ?_
                clear hHeld
                go_wp2_with fail
                go_meet
                exact ⟨B6, B7, rfl, rfl, hn6, hn7, hne, d6, d7, k0, hB⟩
              · have lo := m7.lt
                refine wp_alloc_d rfl (fun B6 W6 hn m6 hbc => ?_)
                have hn6 : w.heap.size < B6 := Nat.lt_of_lt_of_le hlw0 hn
                have hne : B6 ≠ B7 := by omega
                clear lo
                clear hn
                replace k0 := k0.below hbc k0.lt
                replace m7 := m7.below hbc m7.lt
                replace hB := hB.trans (hbc.mono hB.size)
                replace hlw0 := Nat.lt_of_lt_of_le hlw0 hbc.size
                clear hbc
                refine hK.out _ _ (k0.c 0) (fun hHeld => ?_)
                clear hK K
                try simp only [Act.put, List.getElem_toArray, List.getElem_cons_zero, List.getElem_cons_succ, List.setIfInBounds_toArray, List.set_cons_zero, List.set_cons_succ]
                refine wpAnyH_ready (rs := [5]) (by kernel_rfl) (by simp) ?_
                refine AllReadyH.cons (o := _) rfl (fun K hK => ?_) (AllReadyH.nil)
                go_simp
                (with_reducible refine Calls.mono (HWj.out _ _ (HS.out _ hB)) ?_)
                rintro r W5 ⟨rfl, hbc⟩
                replace k0 := k0.below hbc k0.lt
                replace m7 := m7.below hbc m7.lt
                replace m6 := m6.below hbc m6.lt
                replace hB := hB.trans (hbc.mono hB.size)
                replace hlw0 := Nat.lt_of_lt_of_le hlw0 hbc.size
                clear hbc
                (try go_wp2_with fail)
                refine hK.out _ _ (k0.c 0) (fun hHeld => ?_)
                clear hK K
                try simp only [Act.put, List.getElem_toArray, List.getElem_cons_zero, List.getElem_cons_succ, List.setIfInBounds_toArray, List.set_cons_zero, List.set_cons_succ]
                refine wpAnyH_ready (rs := [8]) (by kernel_rfl) (by simp) ?_
                refine AllReadyH.cons (o := _) rfl (fun K hK => ?_) (AllReadyH.nil)
                refine wp_store_d _ _ rfl B6 _ _ m6 rfl rfl (fun W8 d6 hO => ?_)
                replace k0 := k0.oth hO (by omega)
                replace m7 := m7.oth hO (fun e => hne e.symm)
                replace hB := hB.trans (hO.below hB.size (by omega))
                clear m6 hO
                refine hK.out _ _ (k0.c 0) (fun hHeld => ?_)
                clear hK K
                try simp only [Act.put, List.getElem_toArray, List.getElem_cons_zero, List.getElem_cons_succ, List.setIfInBounds_toArray, List.set_cons_zero, List.set_cons_succ]
                refine wpAnyH_ready (rs := [9]) (by kernel_rfl) (by simp) ?_
                refine AllReadyH.cons (o := _) rfl (fun K hK => ?_) (AllReadyH.nil)
                refine wp_store_s _ _ rfl B7 _ _ m7 rfl rfl (fun W9 d7 hO => ?_)
                replace k0 := k0.oth hO (by omega)
                replace d6 := d6.oth hO hne
                replace hB := hB.trans (hO.below hB.size (by omega))
                clear m7 hO
                refine hK.out _ _ (k0.c 0) (fun hHeld => ?_)
                clear hK K
                try simp only [Act.put, List.getElem_toArray, List.getElem_cons_zero, List.getElem_cons_succ, List.setIfInBounds_toArray, List.set_cons_zero, List.set_cons_succ]
                refine wpAnyH_done (by kernel_rfl) ?_ _
                refine NoPanic.normal ?_
                clear hHeld
                go_wp2_with fail
                go_meet
                exact ⟨B6, B7, rfl, rfl, hn6, hn7, hne, d6, d7, k0, hB⟩
            · have lo := m7.lt
              refine wp_alloc_d rfl (fun B6 W6 hn m6 hbc => ?_)
              have hn6 : w.heap.size < B6 := Nat.lt_of_lt_of_le hlw0 hn
              have hne : B6 ≠ B7 := by omega
              clear lo
              clear hn
              replace k0 := k0.below hbc k0.lt
              replace m7 := m7.below hbc m7.lt
              replace hB := hB.trans (hbc.mono hB.size)
              replace hlw0 := Nat.lt_of_lt_of_le hlw0 hbc.size
              clear hbc
              refine hK.out _ _ (k0.c 0) (fun hHeld => ?_)
              clear hK K
              try simp only [Act.put, List.getElem_toArray, List.getElem_cons_zero, List.getElem_cons_succ, List.setIfInBounds_toArray, List.set_cons_zero, List.set_cons_succ]
              refine wpAnyH_ready (rs := [3]) (by kernel_rfl) (by simp) ?_
              refine AllReadyH.cons (o := _) rfl (fun K hK => ?_) (AllReadyH.nil)
              go_simp
              (with_reducible refine Calls.mono (HFr.out _ hB) ?_)
              rintro r W4 ⟨rfl, hbc⟩
              replace k0 := k0.below hbc k0.lt
              replace m7 := m7.below hbc m7.lt
              replace m6 := m6.below hbc m6.lt
              replace hB := hB.trans (hbc.mono hB.size)
              replace hlw0 := Nat.lt_of_lt_of_le hlw0 hbc.size
              clear hbc
              (try go_wp2_with fail)
              refine hK.out _ _ (k0.c 0) (fun hHeld => ?_)
              clear hK K
              try simp only [Act.put, List.getElem_toArray, List.getElem_cons_zero, List.getElem_cons_succ, List.setIfInBounds_toArray, List.set_cons_zero, List.set_cons_succ]
              refine wpAnyH_ready (rs := [5]) (by kernel_rfl) (by simp) ?_
              refine AllReadyH.cons (o := _) rfl (fun K hK => ?_) (AllReadyH.nil)
              go_simp
              (with_reducible refine Calls.mono (HWj.out _ _ (HS.out _ hB)) ?_)
              rintro r W5 ⟨rfl, hbc⟩
              replace k0 := k0.below hbc k0.lt
              replace m7 := m7.below hbc m7.lt
              replace m6 := m6.below hbc m6.lt
              replace hB := hB.trans (hbc.mono hB.size)
              replace hlw0 := Nat.lt_of_lt_of_le hlw0 hbc.size
              clear hbc
              (try go_wp2_with fail)
              refine hK.out _ _ (k0.c 0) (fun hHeld => ?_)
              clear hK K
              try simp only [Act.put, List.getElem_toArray, List.getElem_cons_zero, List.getElem_cons_succ, List.setIfInBounds_toArray, List.set_cons_zero, List.set_cons_succ]
              refine wpAnyH_ready (rs := [8]) (by kernel_rfl) (by simp) ?_
              refine AllReadyH.cons (o := _) rfl (fun K hK => ?_) (AllReadyH.nil)
              refine wp_store_d _ _ rfl B6 _ _ m6 rfl rfl (fun W8 d6 hO => ?_)
              replace k0 := k0.oth hO (by omega)
              replace m7 := m7.oth hO (fun e => hne e.symm)
              replace hB := hB.trans (hO.below hB.size (by omega))
              clear m6 hO
              refine hK.out _ _ (k0.c 0) (fun hHeld => ?_)
              clear hK K
              try simp only [Act.put, List.getElem_toArray, List.getElem_cons_zero, List.getElem_cons_succ, List.setIfInBounds_toArray, List.set_cons_zero, List.set_cons_succ]
              refine wpAnyH_ready (rs := [9]) (by kernel_rfl) (by simp) ?_
              refine AllReadyH.cons (o := _) rfl (fun K hK => ?_) (AllReadyH.nil)
              refine wp_store_s _ _ rfl B7 _ _ m7 rfl rfl (fun W9 d7 hO => ?_)
              replace k0 := k0.oth hO (by omega)
              replace d6 := d6.oth hO hne
              replace hB := hB.trans (hO.below hB.size (by omega))
              clear m7 hO
              refine hK.out _ _ (k0.c 0) (fun hHeld => ?_)
              clear hK K
              try simp only [Act.put, List.getElem_toArray, List.getElem_cons_zero, List.getElem_cons_succ, List.setIfInBounds_toArray, List.set_cons_zero, List.set_cons_succ]
              refine wpAnyH_done (by kernel_rfl) ?_ _
              refine NoPanic.normal ?_
              clear hHeld
              go_wp2_with fail
              go_meet
              exact ⟨B6, B7, rfl, rfl, hn6, hn7, hne, d6, d7, k0, hB⟩
          · have lo := m7.lt
            refine wp_alloc_d rfl (fun B6 W6 hn m6 hbc => ?_)
            have hn6 : w.heap.size < B6 := Nat.lt_of_lt_of_le hlw0 hn
            have hne : B6 ≠ B7 := by omega
            clear lo
            clear hn
            replace k0 := k0.below hbc k0.lt
            replace m7 := m7.below hbc m7.lt
            replace hB := hB.trans (hbc.mono hB.size)
            replace hlw0 := Nat.lt_of_lt_of_le hlw0 hbc.size
            clear hbc
            refine hK.out _ _ (k0.c 0) (fun hHeld => ?_)
            clear hK K
            try simp only [Act.put, List.getElem_toArray, List.getElem_cons_zero, List.getElem_cons_succ, List.setIfInBounds_toArray, List.set_cons_zero, List.set_cons_succ]
            refine wpAnyH_ready (rs := [1]) (by kernel_rfl) (by simp) ?_
            refine AllReadyH.cons (o := _) rfl (fun K hK => ?_) (AllReadyH.nil)
            go_simp
            (with_reducible refine Calls.mono (HDo.out _ hB) ?_)
            rintro r W3 ⟨rfl, hbc⟩
            replace k0 := k0.below hbc k0.lt
            replace m7 := m7.below hbc m7.lt
            replace m6 := m6.below hbc m6.lt
            replace hB := hB.trans (hbc.mono hB.size)
            replace hlw0 := Nat.lt_of_lt_of_le hlw0 hbc.size
            clear hbc
            (try go_wp2_with fail)
            refine hK.out _ _ (k0.c 0) (fun hHeld => ?_)
            clear hK K
            try simp only [Act.put, List.getElem_toArray, List.getElem_cons_zero, List.getElem_cons_succ, List.setIfInBounds_toArray, List.set_cons_zero, List.set_cons_succ]
            refine wpAnyH_ready (rs := [3]) (by kernel_rfl) (by simp) ?_
            refine AllReadyH.cons (o := _) rfl (fun K hK => ?_) (AllReadyH.nil)
            go_simp
            (with_reducible refine Calls.mono (HFr.out _ hB) ?_)
            rintro r W4 ⟨rfl, hbc⟩
            replace k0 := k0.below hbc k0.lt
            replace m7 := m7.below hbc m7.lt
            replace m6 := m6.below hbc m6.lt
            replace hB := hB.trans (hbc.mono hB.size)
            replace hlw0 := Nat.lt_of_lt_of_le hlw0 hbc.size
            clear hbc
            (try go_wp2_with fail)
            refine hK.out _ _ (k0.c 0) (fun hHeld => ?_)
            clear hK K
            try simp only [Act.put, List.getElem_toArray, List.getElem_cons_zero, List.getElem_cons_succ, List.setIfInBounds_toArray, List.set_cons_zero, List.set_cons_succ]
            refine wpAnyH_ready (rs := [5]) (by kernel_rfl) (by simp) ?_
            refine AllReadyH.cons (o := _) rfl (fun K hK => ?_) (AllReadyH.nil)
            go_simp
            (with_reducible refine Calls.mono (HWj.out _ _ (HS.out _ hB)) ?_)
            rintro r W5 ⟨rfl, hbc⟩
            replace k0 := k0.below hbc k0.lt
            replace m7 := m7.below hbc m7.lt
            replace m6 := m6.below hbc m6.lt
            replace hB := hB.trans (hbc.mono hB.size)
            replace hlw0 := Nat.lt_of_lt_of_le hlw0 hbc.size
            clear hbc
            (try go_wp2_with fail)
            refine hK.out _ _ (k0.c 0) (fun hHeld => ?_)
            clear hK K
            try simp only [Act.put, List.getElem_toArray, List.getElem_cons_zero, List.getElem_cons_succ, List.setIfInBounds_toArray, List.set_cons_zero, List.set_cons_succ]
            refine wpAnyH_ready (rs := [8]) (by kernel_rfl) (by simp) ?_
            refine AllReadyH.cons (o := _) rfl (fun K hK => ?_) (AllReadyH.nil)
            refine wp_store_d _ _ rfl B6 _ _ m6 rfl rfl (fun W8 d6 hO => ?_)
            replace k0 := k0.oth hO (by omega)
            replace m7 := m7.oth hO (fun e => hne e.symm)
            replace hB := hB.trans (hO.below hB.size (by omega))
            clear m6 hO
            refine hK.out _ _ (k0.c 0) (fun hHeld => ?_)
            clear hK K
            try simp only [Act.put, List.getElem_toArray, List.getElem_cons_zero, List.getElem_cons_succ, List.setIfInBounds_toArray, List.set_cons_zero, List.set_cons_succ]
            refine wpAnyH_ready (rs := [9]) (by kernel_rfl) (by simp) ?_
            refine AllReadyH.cons (o := _) rfl (fun K hK => ?_) (AllReadyH.nil)
            refine wp_store_s _ _ rfl B7 _ _ m7 rfl rfl (fun W9 d7 hO => ?_)
            replace k0 := k0.oth hO (by omega)
            replace d6 := d6.oth hO hne
            replace hB := hB.trans (hO.below hB.size (by omega))
            clear m7 hO
            refine hK.out _ _ (k0.c 0) (fun hHeld => ?_)
            clear hK K
            try simp only [Act.put, List.getElem_toArray, List.getElem_cons_zero, List.getElem_cons_succ, List.setIfInBounds_toArray, List.set_cons_zero, List.set_cons_succ]
            refine wpAnyH_done (by kernel_rfl) ?_ _
            refine NoPanic.normal ?_
            clear hHeld
            go_wp2_with fail
            go_meet
            exact ⟨B6, B7, rfl, rfl, hn6, hn7, hne, d6, d7, k0, hB⟩
      case rest =>
        obtain ⟨B6, B7, rfl, rfl, hn6, hn7, hne, hX6, hX7, hXg, hBc⟩ := hcut
        have HX6 := hide hX6
        have HX7 := hide hX7
        have cx := hXg.c
        have lx := hXg.lt
        have hmk := mk_Int1 L.length (by have := HGG.out.2.1; omega)
        have hl12g := HGG.out.2.1
        clear hX6 hX7 hXg HX2 hB2 HWj HDo HFr
        go_wp2_with fail
        clear cx hmk
        have hB5 : Below w.heap.size w (wc.alloc (.cells (madeCells #[.int .i64 0] L.length) 3)) := hBc.alloc hBc.size _
        have HY6 : Hid (Bx (wc.alloc (.cells (madeCells #[.int .i64 0] L.length) 3)) B6 (dA (dm L)) 65) := hide (HX6.out.alloc _)
        have HY7 : Hid (Bx (wc.alloc (.cells (madeCells #[.int .i64 0] L.length) 3)) B7 (sA o) 52) := hide (HX7.out.alloc _)
        have HO0 : Hid (Bx (wc.alloc (.cells (madeCells #[.int .i64 0] L.length) 3)) wc.heap.size (madeCells #[.int .i64 0] L.length) 3) := hide (Bx.new _ _ _)
        obtain ⟨S, hS⟩ : ∃ S, S = wc.heap.size := ⟨_, rfl⟩
        rw [← hS] at HO0 ⊢
        have hS6 : B6 < S := by rw [hS]; exact HX6.out.lt
        have hS7 : B7 < S := by rw [hS]; exact HX7.out.lt
        clear hS lx
        go_loopw [31] (fun i w' => ∃ (j : Nat) (cur : Array Value), j ≤ L.length ∧ i = .int .i64 j ∧ Bx w' S cur 3 ∧ cur.size = L.length ∧ (∀ q, q < j → cur[q]? = some (.int .i64 (ow L o q))) ∧ Bx w' B6 (dA (dm L)) 65 ∧ Bx w' B7 (sA o) 52 ∧ Below w.heap.size w w') (fun i _ => L.length - (intOf i).toNat)
        case atStart => exact ⟨0, _, by omega, rfl, HO0.out, by simp [madeCells], by intros; omega, HY6.out, HY7.out, hB5⟩
        case round =>
          clear HO0 hB5 HY6 HY7 HX6 HX7 hBc
          obtain ⟨j, cur, hj, rfl, hO, hcs, hD, hX, hX7, hB⟩ := hrel
          have HO := hide hO
          have HD := hide hD
          have HX := hide hX
          have HX7 := hide hX7
          have HB := hide hB
          have HCs := hide hcs
          clear hO hD hX hX7 hB hcs
          by_cases hlt : j < L.length
          · have hlt' : (j : Int) < (L.length : Int) := by omega
            have hj12 : j < 12 := by omega
            go_wp2_with (first | (refine wpList_load_row rfl 65 _ rfl B6 rfl 65 _ (0, 0) _ HX.out Try.underlying65 rfl (by rw [dA_size]; exact dSize) ?_) | (refine wpList_load_row rfl 52 _ rfl B7 rfl 52 _ (0, 0) _ HX7.out Try.underlying52 rfl bsInfo ?_))
            refine Calls.mono (ownerOf_any (dm L) o j hj12 _) ?_
            rintro e w5 ⟨rfl, hb⟩
            rw [owF_ow HGG.out]
            have hO5 := HO.out.below hb HO.out.lt
            have c5 : ∃ y, w5.cell? ⟨S, j, none⟩ = some y := by
              rw [hO5.c, Array.getElem?_eq_getElem (by have := HCs.out; omega)]; exact ⟨_, rfl⟩
            obtain ⟨y, c5⟩ := c5
            have f5 := hO5.f
            have hB5 := HB.out.trans (hb.mono HB.out.size)
            obtain ⟨z, hz⟩ : ∃ z, z = ow L o j := ⟨_, rfl⟩
            rw [← hz]
            have HOn := hide (hO5.set j (.int .i64 z))
            have HXn := hide ((HX.out.below hb HX.out.lt).setne S j (.int .i64 z) (by omega))
            have HX7n := hide ((HX7.out.below hb HX7.out.lt).setne S j (.int .i64 z) (by omega))
            have HBn := hide (hB5.setCell (p := ⟨S, j, none⟩) (show w.heap.size ≤ S by omega) (.int .i64 z))
            have HDn : Hid (∀ q, q < j + 1 → (cur.setIfInBounds j (.int .i64 z))[q]? = some (.int .i64 (ow L o q))) := hide (fun q hq => by
              rw [Array.getElem?_setIfInBounds]
              by_cases e : j = q
              · subst e; rw [if_pos rfl, if_pos (by have := HCs.out; omega), hz]
              · rw [if_neg e]; exact HD.out q (by omega))
            have HCn : Hid ((cur.setIfInBounds j (.int .i64 z)).size = L.length) := hide (by rw [Array.size_setIfInBounds]; exact HCs.out)
            clear hz hb hO5 hB5
            go_wp2_with fail
            exact ⟨⟨j + 1, _, by omega, by go_num, HOn.out, HCn.out, HDn.out, HXn.out, HX7n.out, HBn.out⟩, by simp [intOf]; omega⟩
          · have HE : Hid (wr.ownsRow w.heap.size 3 1 (.slice (some ⟨S, 0, none⟩) L.length L.length) L.length (ic (ows L l L.length))) := hide (by
              refine ⟨by rw [ic_len, ows_len, Nat.mul_one], .inr ⟨S, L.length, cur, rfl, by omega, HO.out, Nat.le_refl _, by unfold maxLen; omega, by rw [Nat.mul_one]; exact HCs.out, ?_⟩⟩
              apply List.ext_getElem?
              intro i
              by_cases hi : i < L.length
              · rw [List.getElem?_take_of_lt (by omega), ic_at _ i (by rw [ows_len]; exact hi), Array.getElem?_toList, HD.out i (by omega)]
                simp [ows, Ho.out]
              · rw [List.getElem?_eq_none (by simp; omega), List.getElem?_eq_none (by rw [ic_len, ows_len]; omega)])
            go_wp2_with fail
            refine bodyPost_ret (v := .tuple #[.slice (some ⟨S, 0, none⟩) L.length L.length, .bool true]) (by simp [results, Try.results27, go_sem]) rfl ?_
            exact ⟨_, by rw [HRe.out], by rw [HOr.out, ows_len]; exact HE.out, HB.out⟩
    · rw [Bool.not_eq_true] at hbg
      have HRe : Hid (joB L l = false) := hide (by rw [joB, Hg.out, hbg]; rfl)
      rw [hbg]
      clear hbg
      go_wp2_with fail
      exact bodyPost_ret (v := .tuple #[.slice none 0 0, .bool false]) (by simp [results, Try.results27, go_sem]) rfl (HNo.out HRe.out _ hB2)
  · rw [Bool.not_eq_true] at hg
    have HRe : Hid (joB L l = false) := hide (by rw [joB, hg]; rfl)
    rw [hg]
    clear hg
    go_wp2_with fail
    exact bodyPost_ret (v := .tuple #[.slice none 0 0, .bool false]) (by simp [results, Try.results27, go_sem]) rfl (HNo.out HRe.out _ hB1)
end Go.Proofs.Ytochhnibegcbpaa.W
