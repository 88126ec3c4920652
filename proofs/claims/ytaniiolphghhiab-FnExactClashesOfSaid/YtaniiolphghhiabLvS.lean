/-
  Sets of names as rows that rise: setOf (slices.Clone, slices.Sort and slices.Compact by the library's contracts). Conditions: names below 8, rows of at most 1000.
-/
import Derived.Test.YtaniiolphghhiabLvM
import Derived.Test.YtaniiolphghhiabGrP
import Derived.Test.YtaniiolphghhiabShelf
import Derived.Lib.OwnBridge
import Derived.Sort.OwnSortedInts
namespace Go.Proofs.Ytaniiolphghhiab.W
open Go.ChangeShapes Go.WideShapes Go.ChangeAt Go.RowKit Go.Joins
set_option linter.unusedVariables false

theorem cu_ok (zs : List Int) (hs : zs.Pairwise (· ≤ ·)) : ∀ m, m ≤ zs.length → Ris (Lib.compactUpTo zs.toArray m) ∧ ∀ x, x ∈ Lib.compactUpTo zs.toArray m ↔ ∃ j, ∃ h : j < zs.length, j < m ∧ zs[j] = x
  | 0, _ => by simp [Lib.compactUpTo, Ris]
  | m + 1, hm => by
    obtain ⟨ih1, ih2⟩ := cu_ok zs hs m (by omega)
    have ge : ∀ j (h : j < zs.length), zs.toArray[j]! = zs[j] := fun j h => by rw [getElem!_pos _ _ (by simpa using h)]; simp
    have le : ∀ i j (hj : j < zs.length) (h : i ≤ j), zs[i]'(by omega) ≤ zs[j] := fun i j hj h => by
      by_cases e : i = j
      · subst e; omega
      · exact List.pairwise_iff_getElem.1 hs i j (by omega) hj (by omega)
    rw [Lib.compactUpTo_succ, ge m (by omega)]
    by_cases hk : m = 0 ∨ zs.toArray[m]! ≠ zs.toArray[m - 1]!
    · have hkeep : Lib.keeps zs.toArray m = true := by simp only [Lib.keeps, decide_eq_true_eq]; exact hk
      rw [hkeep, if_pos rfl]
      refine ⟨?_, fun x => ?_⟩
      · refine List.pairwise_append.2 ⟨ih1, by simp, fun a ha b hb => ?_⟩
        obtain rfl := List.mem_singleton.1 hb
        obtain ⟨j, hj, hjm, rfl⟩ := (ih2 a).1 ha
        have h1 := le j (m - 1) (by omega) (by omega)
        have h2 := le (m - 1) m (by omega) (by omega)
        have h3 : zs[m]'(by omega) ≠ zs[m - 1]'(by omega) := by
          rcases hk with h | h
          · omega
          · rw [ge m (by omega), ge (m - 1) (by omega)] at h; exact h
        omega
      · rw [List.mem_append, ih2, List.mem_singleton]
        constructor
        · rintro (⟨j, hj, h1, h2⟩ | rfl)
          · exact ⟨j, hj, by omega, h2⟩
          · exact ⟨m, by omega, by omega, rfl⟩
        · rintro ⟨j, hj, h1, rfl⟩
          by_cases e : j = m
          · subst e; exact .inr rfl
          · exact .inl ⟨j, hj, by omega, rfl⟩
    · have h0 : 0 < m := by omega
      have he : zs.toArray[m]! = zs.toArray[m - 1]! := by
        by_cases e : zs.toArray[m]! = zs.toArray[m - 1]!
        · exact e
        · exact absurd (.inr e) hk
      rw [Lib.keeps_neg h0 he, if_neg (by simp), List.append_nil]
      rw [ge m (by omega), ge (m - 1) (by omega)] at he
      refine ⟨ih1, fun x => ?_⟩
      rw [ih2]
      constructor
      · rintro ⟨j, hj, h1, h2⟩; exact ⟨j, hj, by omega, h2⟩
      · rintro ⟨j, hj, h1, rfl⟩
        by_cases e : j = m
        · subst e; exact ⟨j - 1, by omega, by omega, he.symm⟩
        · exact ⟨j, hj, by omega, rfl⟩
theorem sorted_ok (l : List Int) : (l.mergeSort fun x y => decide (x ≤ y)).Pairwise (· ≤ ·) := by
  have := List.pairwise_mergeSort (le := fun x y : Int => decide (x ≤ y)) (fun a b c h1 h2 => by simp at h1 h2 ⊢; omega) (fun a b => by simp; omega) l
  exact this.imp (fun h => by simpa using h)
theorem compact_lst (l : List Int) (h8 : ∀ x ∈ l, 0 ≤ x ∧ x < 8) : Lib.compact (l.mergeSort fun x y => decide (x ≤ y)) = lst (hb l) 8 := by
  obtain ⟨h1, h2⟩ := cu_ok _ (sorted_ok l) _ (Nat.le_refl _)
  refine rise_ext _ _ h1 (lst_ris _ _) (fun x => ?_)
  have hm : x ∈ Lib.compact (l.mergeSort fun x y => decide (x ≤ y)) ↔ x ∈ l := by
    unfold Lib.compact
    rw [h2, ← List.mem_mergeSort (le := fun x y : Int => decide (x ≤ y)) (l := l)]
    constructor
    · rintro ⟨j, hj, -, rfl⟩; exact List.getElem_mem hj
    · intro hx
      obtain ⟨j, hj, e⟩ := List.getElem_of_mem hx
      exact ⟨j, hj, hj, e⟩
  rw [hm, lst_mem]
  constructor
  · intro hx
    have := h8 x hx
    exact ⟨x.toNat, by omega, by omega, hb_iff.2 (by rw [Int.toNat_of_nonneg this.1]; exact hx)⟩
  · rintro ⟨k, rfl, hk, hh⟩
    exact hb_iff.1 hh

theorem IV.rows {w : World} {b o c : Nat} {l : List Int} (h : IRow w (some ⟨b, o, none⟩) l) : ∀ j, j < l.length → w.cell? ⟨b, o + j, none⟩ = some (.int .i64 (l.getD j 0)) := by
  intro j hj
  obtain ⟨b', o', e, -, h3⟩ := IRow.iat h (Below.refl _ _) hj
  simp only [Option.some.injEq, Addr.mk.injEq, and_true] at e
  obtain ⟨rfl, rfl⟩ := e
  rw [h3]
  simp [List.getD, hj]

set_option maxHeartbeats 2000000 in
theorem setOf_any (v : Value) (l : List Int) (w : World) (h : IV w v l) (hl : l.length ≤ 1000) (h8 : ∀ x ∈ l, 0 ≤ x ∧ x < 8) :
    Calls Try.prog 24 #[v] w fun e w' => ∃ v', e = .returned v' ∧ NV w' v' (lst (hb l) 8) ∧ Below w.heap.size w w' := by
  obtain ⟨ad, c, rfl, hr, -⟩ := h
  cases hl0 : l with
  | nil =>
    have hlst : lst (hb []) 8 = [] := by decide
    rw [hlst]
    simp only [List.length_nil]
    cases ad with
    | none =>
      go_enter Try.func24, Try.ntmps24
      go_wp2_with fail
      refine Calls.mono (Try.slices_Clone_int_nil 0 c w) ?_
      rintro e w1 ⟨rfl, hw⟩
      obtain rfl := hw.symm
      go_wp2_with fail
      refine Calls.mono (Try.slices_Sort_int_none none 0 w) ?_
      rintro e w2 ⟨rfl, hw⟩
      obtain rfl := hw.symm
      go_wp2_with fail
      refine Calls.mono (Try.slices_Compact_int_empty none 0 w) ?_
      rintro e w3 ⟨rfl, hw⟩
      obtain rfl := hw.symm
      go_wp2_with fail
      go_ret
      exact ⟨_, rfl, .inl ⟨rfl, rfl⟩, Below.refl _ _⟩
    | some a =>
      have HC := hide (Try.slices_Clone_int_zero a c w)
      clear hr
      go_enter Try.func24, Try.ntmps24
      go_wp2_with fail
      refine Calls.mono HC.out ?_
      rintro e w1 ⟨v', rfl, hown, hnz, hB⟩
      obtain ⟨g, cap, rfl, hg1, hg2, -, -, -, -⟩ := Lib.holds_of_ownsRow (enc := Value.int .i64) (zs := []) (by simpa using hown) hnz
      clear HC hown hnz
      go_wp2_with fail
      refine Calls.mono (Try.slices_Sort_int_none (some ⟨g, 0, none⟩) cap w1) ?_
      rintro e w2 ⟨rfl, hw⟩
      obtain rfl := hw.symm
      go_wp2_with fail
      refine Calls.mono (Try.slices_Compact_int_empty (some ⟨g, 0, none⟩) cap w1) ?_
      rintro e w3 ⟨rfl, hw⟩
      obtain rfl := hw.symm
      go_wp2_with fail
      go_ret
      exact ⟨_, rfl, .inr ⟨g, 0, cap, rfl, Nat.zero_le _, hg2, fun i hi => by simp at hi⟩, hB⟩
  | cons y l' =>
    rw [← hl0]
    obtain ⟨b, o, rfl, hb1⟩ : ∃ b o, ad = some ⟨b, o, none⟩ ∧ b < w.heap.size := by
      rcases hr with h | ⟨b, o, h1, h2⟩
      · rw [hl0] at h; cases h
      · exact ⟨b, o, h1, h2.1⟩
    have hc := IV.rows (c := c) hr
    have HC := hide (Try.slices_Clone_int b o l.length c l w (Nat.le_refl _) (by omega) hc)
    rw [List.take_length] at HC
    have HE := hide (compact_lst l h8)
    obtain ⟨n, hn⟩ : ∃ n, n = l.length := ⟨_, rfl⟩
    rw [← hn] at HC ⊢
    have HN := hide hn
    clear hc hr h8 hl0 hn
    obtain ⟨R, hR⟩ : ∃ R, R = lst (hb l) 8 := ⟨_, rfl⟩
    rw [← hR] at HE ⊢
    clear hR
    go_enter Try.func24, Try.ntmps24
    go_wp2_with fail
    refine Calls.mono HC.out ?_
    rintro e w1 ⟨v', rfl, hown, hnz, hB⟩
    have hown0 := hown
    obtain ⟨g, cap, rfl, hg1, hg2, hncap, hcm, hzl, hH⟩ := Lib.holds_of_ownsRow (enc := Value.int .i64) hown hnz
    obtain ⟨cur, hh, k1, k2⟩ : ∃ cur, w1.heap[g]? = some (.cells cur 3 (0, 0)) ∧ cur.size = cap * 1 ∧ n ≤ cap := by
      rcases hown0.2 with ⟨e0, _⟩ | ⟨g', cap', cur, e0, _, hh, hq, _, hs, _⟩
      · cases e0
      · injection e0 with e1 _ e3
        injection e1 with e1
        injection e1 with e1
        subst e1; subst e3
        exact ⟨cur, hh, hs, hq⟩
    have HS := hide (Try.slices_Sort_int g 0 cap l w1 hH hg2 (by omega))
    rw [← HN.out] at HS
    have hl2 : (l.mergeSort fun x y => decide (x ≤ y)).length = l.length := List.length_mergeSort l
    have HO : Hid (∀ (nn : Nat) (os : Array Obj), (Sort.grow (Sort.putRow (Value.int .i64) (Sort.ahead w1 nn) g 0 (l.mergeSort fun x y => decide (x ≤ y)).toArray) os).ownsRow w.heap.size 3 1 (.slice (some ⟨g, 0, none⟩) l.length cap) l.length ((l.mergeSort fun x y => decide (x ≤ y)).map (Value.int .i64))) :=
      hide (fun nn os => ownsRow_sortedI (n := nn) (os := os) (cur := cur) hl2 hg1 hh (by rw [← HN.out]; exact k2) hcm k1)
    have HG : Hid (∀ (nn : Nat) (os : Array Obj), Below w.heap.size w (Sort.grow (Sort.putRow (Value.int .i64) (Sort.ahead w1 nn) g 0 (l.mergeSort fun x y => decide (x ≤ y)).toArray) os)) :=
      hide (fun nn os => hB.grown (grownBy_sortedI _) hB.size (fun j hj => by cases hj; exact hg1))
    obtain ⟨zs, hzs⟩ : ∃ zs, zs = (l.mergeSort fun x y => decide (x ≤ y)) := ⟨_, rfl⟩
    rw [← hzs] at HS HO HG HE hl2
    have HL2 := hide hl2
    clear HC hown hnz hown0 hH hh k1 hzs hl2
    go_wp2_with fail
    refine Calls.mono HS.out ?_
    rintro e w2 ⟨rfl, nn, os, hw⟩
    have ho2 := HO.out nn os
    have hb2 := HG.out nn os
    rw [← hw] at ho2 hb2
    clear hw HS HO HG
    obtain ⟨-, -, -, -, hg3, -, -, -, hH2⟩ := Lib.holds_of_ownsRow (enc := Value.int .i64) ho2 (by simp)
    have e1 : (l.length : Nat) = n := HN.out.symm
    rw [e1] at ho2
    have HCo := hide (Try.slices_Compact_int g 0 cap zs w2 (by
      intro j hj
      obtain ⟨g', cap', e, -, -, -, -, -, hH3⟩ := Lib.holds_of_ownsRow (enc := Value.int .i64) ho2 (by simp)
      injection e with e1 _ e3
      injection e1 with e1
      injection e1 with e1
      subst e1
      exact hH3 j hj) (by have := HL2.out; omega) (by have := HL2.out; have := HN.out; omega))
    have hzn : zs.length = n := by rw [HL2.out, e1]
    rw [hzn] at HCo
    have hle : R.length ≤ n := by have := Lib.compact_length_le zs; rw [HE.out] at this; omega
    rw [HE.out] at HCo
    have HF : Hid (∀ q, (Sort.putRow (Value.int .i64) (Sort.ahead w2 q) g 0 (R ++ List.replicate (n - R.length) 0).toArray).ownsRow w.heap.size 3 1 (.slice (some ⟨g, 0, none⟩) R.length cap) R.length (ic R) ∧ Below w.heap.size w (Sort.putRow (Value.int .i64) (Sort.ahead w2 q) g 0 (R ++ List.replicate (n - R.length) 0).toArray)) := hide (fun q => by
      have h1 := Lib.ownsRow_putRow (q := q) (k := R.length) (ys := R ++ List.replicate (n - R.length) 0) ho2 (by simp; omega) hle
      rw [List.take_left] at h1
      exact ⟨h1, Lib.below_putRow hb2 hg1⟩)
    clear ho2 hb2 HE HL2
    go_wp2_with fail
    refine Calls.mono HCo.out ?_
    rintro e w3 ⟨rfl, q, hw⟩
    obtain ⟨h1, h2⟩ := HF.out q
    rw [← hw] at h1 h2
    clear hw HF HCo
    have hR2 := hide (NV.ofOwn h1 rfl)
    clear h1
    go_wp2_with fail
    go_ret
    exact ⟨_, rfl, hR2.out, h2⟩
end Go.Proofs.Ytaniiolphghhiab.W
