/-
  Rows of sets: areSame (slices.EqualFunc, slices.Equal) and listsOfSets. Conditions: at most 1000 rows of at most 600 names.
-/
import Derived.Test.YtaniiolphghhiabLvD
import Derived.Test.YtaniiolphghhiabLvO
namespace Go.Proofs.Ytaniiolphghhiab.W
open Go.ChangeShapes Go.WideShapes Go.ChangeAt Go.RowKit Go.Joins
set_option linter.unusedVariables false
set_option linter.unusedSimpArgs false
set_option maxRecDepth 20000

theorem belowDrewN {B : Nat} {x y : World} (h : Below B x y) (q : Nat) : Below B x (y.drewN q) := ⟨h.os, h.tape, h.output, h.size, h.block⟩

theorem equalS_any (v1 v2 : Value) (l1 l2 : List Int) (w : World) (h1 : NV w v1 l1) (h2 : NV w v2 l2) (k1 : l1.length ≤ 1000) (k2 : l2.length ≤ 1000) :
    Calls Try.prog 62 #[v1, v2] w fun e w' => e = .returned (.bool (decide (l1 = l2))) ∧ Below w.heap.size w w' := by
  have hbeq : ∀ a b : List Int, (a == b) = decide (a = b) := fun a b => by rw [Bool.eq_iff_iff]; simp
  have empty : ∀ (a1 a2 : Option Addr) (c m d : Nat), m ≤ 1000 → ∀ b : List Int, m = b.length → Calls Try.prog 62 #[.slice a1 0 c, .slice a2 m d] w fun e w' => e = .returned (.bool (decide ([] = b))) ∧ Below w.heap.size w w' := fun a1 a2 c m d hm b hb' => by
    refine (Try.slices_Equal_int_empty a1 a2 c m d w (by omega)).mono ?_
    rintro e w' ⟨rfl, rfl⟩
    refine ⟨ret_bool ?_, Below.refl _ _⟩
    subst hb'
    cases b <;> simp
  rcases h1 with ⟨rfl, rfl⟩ | ⟨g, o, c, rfl, p2, p3, p4⟩
  · obtain ⟨a2, c2, rfl, -⟩ := h2.form
    exact empty _ _ _ _ _ k2 _ rfl
  · rcases h2 with ⟨rfl, rfl⟩ | ⟨g', o', c', rfl, q2, q3, q4⟩
    · by_cases h0 : l1.length = 0
      · have e := List.eq_nil_of_length_eq_zero h0
        subst e
        exact empty _ _ _ _ _ (Nat.zero_le _) _ rfl
      · have hne : decide (l1 = []) = false := decide_eq_false (fun e => h0 (by rw [e]; rfl))
        rw [hne]
        have h0' : ((l1.length : Int) == 0) = false := beq_eq_false_iff_ne.2 (by omega)
        clear p2 p3 p4
        go_enter Try.func62, Try.ntmps62
        go_wp2_with fail
        go_ret
        exact ⟨rfl, Below.refl _ _⟩
    · have := Try.slices_Equal_int g o l1.length c g' o' l2.length c' l1 l2 w (Nat.le_refl _) (Nat.le_refl _) (by omega) (by omega) (fun j hj => by rw [p4 j hj]; simp [List.getD, hj]) (fun j hj => by rw [q4 j hj]; simp [List.getD, hj])
      rw [List.take_length, List.take_length, hbeq] at this
      refine this.mono ?_
      rintro e w' ⟨rfl, q, rfl⟩
      exact ⟨rfl, belowDrewN (Below.refl _ _) q⟩

set_option maxHeartbeats 4000000 in
theorem equalFunc_any (S1 S2 n c1 c2 : Nat) (L1 L2 : List (List Int)) (w : World) (h1 : QSS w S1 L1) (h2 : QSS w S2 L2) (hn1 : L1.length = n) (hn2 : L2.length = n) (hn : n ≤ 1000) (k1 : ∀ k, R8 (row L1 k)) (k2 : ∀ k, R8 (row L2 k)) :
    Calls Try.prog 61 #[.slice (some ⟨S1, 0, none⟩) n c1, .slice (some ⟨S2, 0, none⟩) n c2, .func (.func 62) #[] #[]] w fun e w' => e = .returned (.bool (decide (L1 = L2))) ∧ Below w.heap.size w w' := by
  have H1 := hide h1
  have H2 := hide h2
  have K1 := hide k1
  have K2 := hide k2
  have HN1 := hide hn1
  have HN2 := hide hn2
  obtain ⟨R, hR⟩ : ∃ R, R = decide (L1 = L2) := ⟨_, rfl⟩
  rw [← hR]
  have HR := hide hR
  have hl1 := h1.lt
  have hl2 := h2.lt
  clear h1 h2 k1 k2 hn1 hn2 hR
  go_enter Try.func61, Try.ntmps61
  go_wp2_with fail
  go_loopw [17] (fun i w' => ∃ j : Nat, j ≤ n ∧ i = .int .i64 j ∧ (∀ q, q < j → row L1 q = row L2 q) ∧ Below w.heap.size w w') (fun i _ => n - (intOf i).toNat)
  case atStart => exact ⟨0, by omega, rfl, by intros; omega, Below.refl _ _⟩
  case round =>
    obtain ⟨j, hj, rfl, hall, hB⟩ := hrel
    have HA := hide hall
    have HB := hide hB
    clear hall hB
    by_cases hlt : j < n
    · have hlt' : (j : Int) < (n : Int) := by omega
      obtain ⟨x1, p1, nv1⟩ := (H1.out.below HB.out).at (q := j) (by have := HN1.out; omega)
      obtain ⟨x2, p2, nv2⟩ := (H2.out.below HB.out).at (q := j) (by have := HN2.out; omega)
      rw [← row_at (by have := HN1.out; omega)] at nv1
      rw [← row_at (by have := HN2.out; omega)] at nv2
      have HC := hide (equalS_any x1 x2 (row L1 j) (row L2 j) wr nv1 nv2 (by have := r8_len (K1.out j); omega) (by have := r8_len (K2.out j); omega))
      obtain ⟨a1, d1, rfl, -⟩ := nv1.form
      obtain ⟨a2, d2, rfl, -⟩ := nv2.form
      obtain ⟨m1, hm1⟩ : ∃ m1, m1 = (row L1 j).length := ⟨_, rfl⟩
      obtain ⟨m2, hm2⟩ : ∃ m2, m2 = (row L2 j).length := ⟨_, rfl⟩
      rw [← hm1] at p1 HC
      rw [← hm2] at p2 HC
      obtain ⟨E, hE⟩ : ∃ E, E = decide (row L1 j = row L2 j) := ⟨_, rfl⟩
      rw [← hE] at HC
      have HE := hide hE
      clear nv1 nv2 hm1 hm2 hE
      go_wp2_with fail
      refine Calls.mono HC.out ?_
      rintro e w1 ⟨rfl, hb⟩
      have HB1 := hide (HB.out.trans (hb.mono HB.out.size))
      clear HC p1 p2 hb
      cases E with
      | true =>
        have HA2 : Hid (∀ q, q < j + 1 → row L1 q = row L2 q) := hide (fun q hq => by
          by_cases e : q = j
          · subst e; exact of_decide_eq_true HE.out.symm
          · exact HA.out q (by omega))
        go_wp2_with fail
        exact ⟨⟨j + 1, by omega, by go_num, HA2.out, HB1.out⟩, by simp [intOf]; omega⟩
      | false =>
        have hr : R = false := by
          rw [HR.out]
          refine decide_eq_false (fun e => ?_)
          have := of_decide_eq_false HE.out.symm
          rw [e] at this
          exact this rfl
        go_wp2_with fail
        go_ret
        exact ⟨ret_bool hr.symm, HB1.out⟩
    · obtain rfl : j = n := by omega
      have hr : R = true := by
        rw [HR.out, decide_eq_true_eq]
        refine List.ext_getElem (by rw [HN1.out, HN2.out]) (fun i a b => ?_)
        rw [← row_at a, ← row_at b]
        exact HA.out i (by rw [HN1.out] at a; exact a)
      go_wp2_with fail
      go_ret
      exact ⟨ret_bool hr.symm, HB.out⟩

set_option maxHeartbeats 1000000 in
theorem areSame_any (S1 S2 n c1 c2 : Nat) (L1 L2 : List (List Int)) (w : World) (h1 : QSS w S1 L1) (h2 : QSS w S2 L2) (hn1 : L1.length = n) (hn2 : L2.length = n) (hn : n ≤ 1000) (k1 : ∀ k, R8 (row L1 k)) (k2 : ∀ k, R8 (row L2 k)) :
    Calls Try.prog 44 #[.slice (some ⟨S1, 0, none⟩) n c1, .slice (some ⟨S2, 0, none⟩) n c2] w fun e w' => e = .returned (.bool (decide (L1 = L2))) ∧ Below w.heap.size w w' := by
  have HC := hide (equalFunc_any S1 S2 n c1 c2 L1 L2 w h1 h2 hn1 hn2 hn k1 k2)
  obtain ⟨R, hR⟩ : ∃ R, R = decide (L1 = L2) := ⟨_, rfl⟩
  rw [← hR] at HC ⊢
  clear h1 h2 k1 k2 hn1 hn2 hR
  go_enter Try.func44, Try.ntmps44
  go_wp2_with fail
  refine Calls.mono HC.out ?_
  rintro e w1 ⟨rfl, hb⟩
  have HB := hide hb
  clear hb HC
  go_wp2_with fail
  go_ret
  exact ⟨rfl, HB.out⟩

set_option maxHeartbeats 4000000 in
theorem listsOfSets_any (S c : Nat) (L : List (List Int)) (w : World) (h : QSS w S L) (hn : L.length ≤ 1000) (k1 : ∀ k, R8 (row L k)) :
    Calls Try.prog 25 #[.slice (some ⟨S, 0, none⟩) L.length c] w fun e w' => ∃ v', e = .returned v' ∧ OO w' w.heap.size v' L ∧ Below w.heap.size w w' := by
  have H1 := hide h
  have K1 := hide k1
  obtain ⟨n, hnl⟩ : ∃ n, n = L.length := ⟨_, rfl⟩
  rw [← hnl] at hn ⊢
  have HN := hide hnl
  have hl := h.lt
  clear h k1 hnl
  have hmk := mk_ISS n (by omega)
  go_enter Try.func25, Try.ntmps25
  go_wp2_with fail
  clear hmk
  have HO0 := hide (OOv.new w w.heap.size n (by omega) (Nat.le_refl _))
  have hB5 : Below w.heap.size w (w.alloc (.cells (madeCells #[.slice none 0 0] n) 45)) := (Below.refl _ _).alloc (Nat.le_refl _) _
  obtain ⟨Z, hZ⟩ : ∃ Z, Z = w.heap.size := ⟨_, rfl⟩
  have HZ := hide hZ
  rw [← hZ] at HO0
  rw [← hZ]
  clear hZ
  go_loopw [11] (fun i w' => ∃ (j : Nat) (Ls : List (List Int)) (vs : List Value), j ≤ n ∧ i = .int .i64 j ∧ Ls.length = n ∧ OOv w' Z (.slice (some ⟨Z, 0, none⟩) n n) Ls vs ∧ (∀ q (h : q < Ls.length), q < j → Ls[q] = row L q) ∧ Below w.heap.size w w') (fun i _ => n - (intOf i).toNat)
  case atStart => exact ⟨0, _, _, by omega, rfl, by simp, HO0.out, by intros; omega, hB5⟩
  case round =>
    clear HO0 hB5
    obtain ⟨j, Ls, vs, hj, rfl, hLl, hO, hD, hB⟩ := hrel
    have HO := hide hO
    have HD := hide hD
    have HB := hide hB
    have HLl := hide hLl
    clear hO hD hB
    by_cases hlt : j < n
    · have hlt' : (j : Int) < (n : Int) := by omega
      have hj2 : j < Ls.length := by omega
      obtain ⟨x, p1, nv⟩ := (H1.out.below HB.out).at (q := j) (by rw [← HN.out]; exact hlt)
      rw [← row_at (by rw [← HN.out]; exact hlt)] at nv
      have HC := hide (cloneS_any x (row L j) wr nv (by have := r8_len (K1.out j); omega))
      obtain ⟨a1, d1, rfl, -⟩ := nv.form
      obtain ⟨m1, hm1⟩ : ∃ m1, m1 = (row L j).length := ⟨_, rfl⟩
      rw [← hm1] at p1 HC
      have HM := hide hm1
      clear hLl nv hm1
      go_wp2_with fail
      refine Calls.mono HC.out ?_
      rintro e w5 ⟨v5, rfl, hO5, -, hb⟩
      rw [HM.out] at hO5
      have HOn := hide (HO.out.put (l := row L j) (x := v5) HLl.out.symm hj2 (by rw [HZ.out]; exact HB.out.size) hb hO5)
      have hB5 := HB.out.trans (hb.mono HB.out.size)
      have HBn := hide (hB5.setCell (p := ⟨Z, j, none⟩) (show w.heap.size ≤ Z by rw [HZ.out]; exact Nat.le_refl _) v5)
      obtain ⟨gS, capS, eS, hgS, hlS, cS⟩ := tOwn_lies HO.out.own (by omega)
      simp only [Value.slice.injEq, Option.some.injEq, Addr.mk.injEq, and_true] at eS
      obtain ⟨rfl, -, -⟩ := eS
      obtain ⟨y, y1, -⟩ := HO.out.at_ j hj2
      have c5 : w5.cell? ⟨Z, j, none⟩ = some y := (hb.cell (p := ⟨Z, j, none⟩) hlS).trans (cS j y y1)
      have f5 : ∀ i, w5.frozen? ⟨Z, i, none⟩ = false := by
        rcases HO.out.own.2 with ⟨h1, -⟩ | ⟨g, cap, cur, h1, hg, hh, -⟩
        · cases h1
        · simp only [Value.slice.injEq, Option.some.injEq, Addr.mk.injEq, and_true] at h1
          obtain ⟨rfl, -, -⟩ := h1
          exact fun i => unfrozen_of_blk ((hb.block Z hlS).trans hh) i
      have HDn : Hid (∀ q (h : q < (Ls.set j (row L j)).length), q < j + 1 → (Ls.set j (row L j))[q] = row L q) := hide (fun q h hq => by
        by_cases e : j = q
        · subst e; rw [List.getElem_set_self]
        · rw [List.getElem_set_ne e]; exact HD.out q (by simpa using h) (by omega))
      have HLn : Hid ((Ls.set j (row L j)).length = n) := hide (by rw [List.length_set]; exact HLl.out)
      obtain ⟨y5, z5, e5⟩ := own_form hO5
      obtain ⟨n5, hn5⟩ : ∃ n5, n5 = (row L j).length := ⟨_, rfl⟩
      rw [← hn5] at e5
      subst e5
      clear hO5 hb cS y1 hB5 hn5 p1 HC
      go_wp2_with fail
      exact ⟨⟨j + 1, _, _, by omega, by go_num, HLn.out, HOn.out, HDn.out, HBn.out⟩, by simp [intOf]; omega⟩
    · have HE : Hid (Ls = L) := hide (by
        refine List.ext_getElem (by rw [HLl.out, HN.out]) (fun k h1 h2 => ?_)
        rw [HD.out k h1 (by have := HLl.out; omega), row_at h2])
      clear hLl
      go_wp2_with fail
      go_ret
      exact ⟨_, rfl, ⟨vs, by rw [← HE.out, ← HZ.out]; exact HO.out⟩, HB.out⟩
end Go.Proofs.Ytaniiolphghhiab.W
