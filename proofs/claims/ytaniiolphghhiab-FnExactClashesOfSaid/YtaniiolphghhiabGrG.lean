/-
  Good graphs: contracts of both GoodGraph. Conditions: at most 1048576 elements a row.
-/
import Derived.Test.YtaniiolphghhiabGrM
import Derived.Test.YtaniiolphghhiabGrL
namespace Go.Proofs.Ytaniiolphghhiab.W
open Go.ChangeShapes Go.WideShapes Go.ChangeAt Go.RowKit Go.Joins
set_option linter.unusedVariables false

open Classical in
noncomputable def goodG (L : List (List Int)) : Bool := decide (GG L)
open Classical in
noncomputable def risB (l : List Int) (n : Nat) : Bool := decide (RisL l n)
theorem goodG_iff {L : List (List Int)} : goodG L = true ↔ GG L := by simp [goodG]
theorem risB_iff {l : List Int} {n : Nat} : risB l n = true ↔ RisL l n := by simp [risB]
theorem goodG_no {L : List (List Int)} (h : ¬ GG L) : goodG L = false := by simp [goodG, h]
theorem risB_no {l : List Int} {n : Nat} (h : ¬ RisL l n) : risB l n = false := by simp [risB, h]
/-- One number of a rising row. -/
def RisAt (l : List Int) (n i : Nat) : Prop := ∀ h : i < l.length, 0 ≤ l[i] ∧ l[i] < (n : Int) ∧ ∀ h0 : 0 < i, l[i - 1] < l[i]
theorem RisAt.all {l : List Int} {n : Nat} (h : ∀ i, i < l.length → RisAt l n i) : RisL l n := fun i hi => h i hi hi
def beB (k n : Int) : Bool := decide (0 ≤ k) && decide (k < n)

set_option maxHeartbeats 1000000 in
theorem isBelow_g (k n : Int) (w : World) :
    Calls Try.prog 59 #[.int .i64 k, .int .i64 n] w fun e w' => e = .returned (.bool (beB k n)) ∧ w' = w := by
  by_cases h0 : 0 ≤ k
  · have hb : beB k n = decide (k < n) := by simp [beB, h0]
    rw [hb]
    go_enter Try.func59, Try.ntmps59
    go_wp2_with fail
    go_ret
    exact ⟨rfl, rfl⟩
  · have hb : beB k n = false := by simp [beB, h0]
    rw [hb]
    go_enter Try.func59, Try.ntmps59
    go_wp2_with fail
    go_ret
    exact ⟨rfl, rfl⟩

set_option maxHeartbeats 2000000 in
theorem isRising_any (ad : Option Addr) (c n : Nat) (l : List Int) (w : World) (h : IRow w ad l) (hl : l.length ≤ 1048576) (hn : n ≤ 1048576) :
    Calls Try.prog 42 #[.slice ad l.length c, .int .i64 (n : Int)] w fun e w' => e = .returned (.bool (risB l n)) ∧ w' = w := by
  have HR := hide h
  clear h
  obtain ⟨G, hG⟩ : ∃ G, G = risB l n := ⟨_, rfl⟩
  rw [← hG]
  have HG := hide hG
  clear hG
  go_enter Try.func42, Try.ntmps42
  go_wp2_with fail
  go_loopw [9] (fun i w' => ∃ j : Nat, j ≤ l.length ∧ i = .int .i64 j ∧ (∀ q, q < j → RisAt l n q) ∧ w' = w) (fun i _ => l.length - (intOf i).toNat)
  case atStart => exact ⟨0, by omega, rfl, by intros; omega, rfl⟩
  case round =>
    obtain ⟨j, hj, rfl, hall, rfl⟩ := hrel
    have HA := hide hall
    clear hall
    by_cases hlt : j < l.length
    · have hlt' : (j : Int) < (l.length : Int) := by omega
      obtain ⟨b, o, rfl, hb, p0⟩ := IRow.iat HR.out (Below.refl _ _) hlt
      obtain ⟨x, hx⟩ : ∃ x, x = l[j] := ⟨_, rfl⟩
      rw [← hx] at p0
      have HX := hide hx
      clear hx
      by_cases hbe : beB x n = true
      · have hbe2 : 0 ≤ x ∧ x < (n : Int) := by simpa [beB] using hbe
        by_cases hj0 : 0 < j
        · have hj0' : (0 : Int) < (j : Int) := by omega
          obtain ⟨b', o', e', hb', p1⟩ := IRow.iat HR.out (Below.refl _ _) (show j - 1 < l.length by omega)
          simp only [Option.some.injEq, Addr.mk.injEq, and_true] at e'
          obtain ⟨rfl, rfl⟩ := e'
          obtain ⟨y, hy⟩ : ∃ y, y = l[j - 1] := ⟨_, rfl⟩
          rw [← hy] at p1
          have HY := hide hy
          clear hy
          obtain ⟨i, rfl⟩ : ∃ i, j = i + 1 := ⟨j - 1, by omega⟩
          simp only [Nat.add_sub_cancel] at p1
          by_cases hyx : y < x
          · have hyx' : ¬ x ≤ y := by omega
            have HA2 : Hid (∀ q, q < i + 1 + 1 → RisAt l n q) := hide (fun q hq => by
              by_cases e : q = i + 1
              · subst e
                intro hh
                exact ⟨HX.out ▸ hbe2.1, HX.out ▸ hbe2.2, fun _ => by rw [← HY.out, ← HX.out]; exact hyx⟩
              · exact HA.out q (by omega))
            clear hbe2
            go_wp2_with fail
            refine Calls.mono (isBelow_g x n _) ?_
            rintro e w1 ⟨rfl, hw⟩
            obtain rfl := hw.symm
            rw [hbe]
            go_wp2_with fail
            exact ⟨⟨i + 1 + 1, by omega, by go_num, HA2.out, trivial⟩, by simp [intOf]; omega⟩
          · have hyx' : x ≤ y := by omega
            have HF : Hid (G = false) := hide (by
              rw [HG.out]
              refine risB_no (fun h => ?_)
              have := (h (i + 1) hlt).2.2 (by omega)
              rw [← HX.out] at this
              have e := HY.out
              simp only [Nat.add_sub_cancel] at this e
              omega)
            clear hbe2
            go_wp2_with fail
            refine Calls.mono (isBelow_g x n _) ?_
            rintro e w1 ⟨rfl, hw⟩
            obtain rfl := hw.symm
            rw [hbe]
            go_wp2_with fail
            go_ret
            exact ⟨ret_bool HF.out.symm, rfl⟩
        · have hj0' : ¬ (0 : Int) < (j : Int) := by omega
          have HA2 : Hid (∀ q, q < j + 1 → RisAt l n q) := hide (fun q hq => by
            obtain rfl : q = j := by omega
            intro hh
            exact ⟨HX.out ▸ hbe2.1, HX.out ▸ hbe2.2, fun h0 => by omega⟩)
          clear hbe2
          go_wp2_with fail
          refine Calls.mono (isBelow_g x n _) ?_
          rintro e w1 ⟨rfl, hw⟩
          obtain rfl := hw.symm
          rw [hbe]
          go_wp2_with fail
          exact ⟨⟨j + 1, by omega, by go_num, HA2.out, trivial⟩, by simp [intOf]; omega⟩
      · have hbf : beB x n = false := by simpa using hbe
        have HF : Hid (G = false) := hide (by
          rw [HG.out]
          refine risB_no (fun h => hbe ?_)
          have := h j hlt
          rw [← HX.out] at this
          simp [beB, this.1, this.2.1])
        clear hbe
        go_wp2_with fail
        refine Calls.mono (isBelow_g x n _) ?_
        rintro e w1 ⟨rfl, hw⟩
        obtain rfl := hw.symm
        rw [hbf]
        go_wp2_with fail
        go_ret
        exact ⟨ret_bool HF.out.symm, rfl⟩
    · have HF : Hid (G = true) := hide (by rw [HG.out]; exact risB_iff.2 (RisAt.all (fun i hi => HA.out i (by omega))))
      go_wp2_with fail
      go_ret
      exact ⟨ret_bool HF.out.symm, rfl⟩

set_option maxHeartbeats 2000000 in
theorem implGoodG_any (v : Value) (L : List (List Int)) (w : World) (h : GRow w v L) :
    Calls Try.prog 41 #[v] w fun e w' => e = .returned (.bool (goodG L)) ∧ Below w.heap.size w w' := by
  obtain ⟨ad, c, rfl, hR, hs, hlc⟩ := h
  have hB0 : Below w.heap.size w (w.alloc (.cells #[.slice ad L.length c] 31)) := (Below.refl _ _).alloc (Nat.le_refl _) _
  have HX := hide (Bx.new w #[.slice ad L.length c] 31)
  have HR := hide (hR.below hB0)
  have HS := hide hs.2
  obtain ⟨G, hG⟩ : ∃ G, G = goodG L := ⟨_, rfl⟩
  rw [← hG]
  have HG := hide hG
  have hl := hs.1
  clear hG hR hs hlc
  by_cases h0 : L.length = 0
  · have HF : Hid (G = false) := hide (by rw [HG.out]; exact goodG_no (fun h => by have := h.1; omega))
    have h0' : ((L.length : Int) == 0) = true := by rw [beq_iff_eq]; omega
    clear HR HX h0
    go_enter Try.func41, Try.ntmps41
    go_wp2_with fail
    go_ret
    exact ⟨ret_bool HF.out.symm, hB0⟩
  by_cases h12 : 12 < L.length
  · have HF : Hid (G = false) := hide (by rw [HG.out]; exact goodG_no (fun h => by have := h.2.1; omega))
    have h0' : ((L.length : Int) == 0) = false := beq_eq_false_iff_ne.2 (by omega)
    have h12' : (12 : Int) < (L.length : Int) := by omega
    clear HR HX h0
    go_enter Try.func41, Try.ntmps41
    go_wp2_with fail
    go_ret
    exact ⟨ret_bool HF.out.symm, hB0⟩
  have h0' : ((L.length : Int) == 0) = false := beq_eq_false_iff_ne.2 (by omega)
  have h12' : ¬ (12 : Int) < (L.length : Int) := by omega
  have H0 := hide h0
  clear h0
  go_enter Try.func41, Try.ntmps41
  go_wp2_with fail
  obtain ⟨W0, hW0⟩ : ∃ W0, W0 = w.alloc (.cells #[.slice ad L.length c] 31) := ⟨_, rfl⟩
  rw [← hW0] at HX HR hB0 ⊢
  clear hW0
  go_loopw [18] (fun i w' => ∃ j : Nat, j ≤ L.length ∧ i = .int .i64 j ∧ (∀ q (h : q < L.length), q < j → RisL L[q] L.length) ∧ w' = W0) (fun i _ => L.length - (intOf i).toNat)
  case atStart => exact ⟨0, by omega, rfl, by intros; omega, rfl⟩
  case round =>
    obtain ⟨j, hj, rfl, hA, rfl⟩ := hrel
    have HA := hide hA
    clear hA
    have cx := HX.out.c
    have hbs : w.heap.size < wr.heap.size := HX.out.lt
    by_cases hlt : j < L.length
    · have hlt' : (j : Int) < (L.length : Int) := by omega
      obtain ⟨b, o, v, rfl, hb, p0, pv⟩ := QRow.at HR.out (Below.refl _ _) hlt
      have hsx := HS.out _ (List.getElem_mem hlt)
      obtain ⟨ad1, c1, rfl, pr, -⟩ := pv
      have HC := hide (isRising_any ad1 c1 L.length L[j] wr pr hsx hl)
      obtain ⟨x, hx⟩ : ∃ x, x = L[j].length := ⟨_, rfl⟩
      rw [← hx] at p0 HC
      clear hx pr hsx
      go_wp2_with fail
      refine Calls.mono HC.out ?_
      rintro e w1 ⟨rfl, hw⟩
      obtain rfl := hw.symm
      obtain ⟨R, hR⟩ : ∃ R, R = risB L[j] L.length := ⟨_, rfl⟩
      rw [← hR]
      cases R with
      | true =>
        have HA2 : Hid (∀ q (h : q < L.length), q < j + 1 → RisL L[q] L.length) := hide (fun q h hq => by
          by_cases e : q = j
          · subst e; exact risB_iff.1 hR.symm
          · exact HA.out q h (by omega))
        clear hR HC p0 cx
        go_wp2_with fail
        exact ⟨⟨j + 1, by omega, by go_num, HA2.out, trivial⟩, by simp [intOf]; omega⟩
      | false =>
        have HF : Hid (G = false) := hide (by
          rw [HG.out]
          refine goodG_no (fun h => ?_)
          have := risB_iff.2 (h.2.2 j hlt)
          rw [this] at hR
          cases hR)
        clear hR HC p0 cx
        go_wp2_with fail
        go_ret
        exact ⟨ret_bool HF.out.symm, hB0⟩
    · have HF : Hid (G = true) := hide (by
        rw [HG.out]
        have := H0.out
        exact goodG_iff.2 ⟨by omega, by omega, fun i hi => HA.out i hi (by omega)⟩)
      clear cx
      go_wp2_with fail
      go_ret
      exact ⟨ret_bool HF.out.symm, hB0⟩

set_option maxHeartbeats 4000000 in
theorem specGoodG_any (v : Value) (L : List (List Int)) (w : World) (h : GRow w v L) :
    Calls Try.prog 36 #[v] w fun e w' => e = .returned (.bool (goodG L)) ∧ Below w.heap.size w w' := by
  obtain ⟨ad, c, rfl, hR, hs, hlc⟩ := h
  have hB0 : Below w.heap.size w (w.alloc (.cells #[.slice ad L.length c] 31)) := (Below.refl _ _).alloc (Nat.le_refl _) _
  have HX := hide (Bx.new w #[.slice ad L.length c] 31)
  have HR := hide (hR.below hB0)
  have HS := hide hs.2
  obtain ⟨G, hG⟩ : ∃ G, G = goodG L := ⟨_, rfl⟩
  rw [← hG]
  have HG := hide hG
  have hl := hs.1
  clear hG hR hs hlc
  go_enter Try.func36, Try.ntmps36
  go_wp2_with fail
  obtain ⟨W0, hW0⟩ : ∃ W0, W0 = w.alloc (.cells #[.slice ad L.length c] 31) := ⟨_, rfl⟩
  rw [← hW0] at HX HR hB0 ⊢
  clear hW0
  go_loopw [14] (fun i w' => ∃ j : Nat, j ≤ L.length ∧ i = .int .i64 j ∧ (∀ q (h : q < L.length), q < j → RisL L[q] L.length) ∧ w' = W0) (fun i _ => L.length - (intOf i).toNat)
  case atStart => exact ⟨0, by omega, rfl, by intros; omega, rfl⟩
  case round =>
    obtain ⟨j, hj, rfl, hA, rfl⟩ := hrel
    have HA := hide hA
    clear hA
    have cx := HX.out.c
    have hbs : w.heap.size < wr.heap.size := HX.out.lt
    by_cases hlt : j < L.length
    · have hlt' : (j : Int) < (L.length : Int) := by omega
      obtain ⟨b, o, v, rfl, hb, p0, pv⟩ := QRow.at HR.out (Below.refl _ _) hlt
      have hsx := HS.out _ (List.getElem_mem hlt)
      obtain ⟨ad1, c1, rfl, pr, -⟩ := pv
      obtain ⟨l, hl1⟩ : ∃ l, l = L[j] := ⟨_, rfl⟩
      rw [← hl1] at p0 pr hsx
      have HL := hide hl1
      have HP := hide pr
      clear hl1 pr cx
      go_wp2_with fail
      clear p0
      go_loopw [20] (fun i w' => ∃ k : Nat, k ≤ l.length ∧ i = .int .i64 k ∧ (∀ q, q < k → RisAt l L.length q) ∧ w' = wr) (fun i _ => l.length - (intOf i).toNat)
      case atStart => exact ⟨0, by omega, rfl, by intros; omega, rfl⟩
      case round =>
        obtain ⟨k, hk, rfl, hA2, rfl⟩ := hrel
        have HA2 := hide hA2
        clear hA2
        by_cases hlk : k < l.length
        · have hlk' : (k : Int) < (l.length : Int) := by omega
          obtain ⟨b1, o1, rfl, hb1, p0⟩ := IRow.iat HP.out (Below.refl _ _) hlk
          obtain ⟨x, hx⟩ : ∃ x, x = l[k] := ⟨_, rfl⟩
          rw [← hx] at p0
          have HX1 := hide hx
          clear hx
          have HF : Hid ((x < 0 ∨ (L.length : Int) ≤ x ∨ ∃ h0 : 0 < k, x ≤ l[k - 1]) → G = false) := hide (fun hh => by
            rw [HG.out]
            refine goodG_no (fun h => ?_)
            have h1 := h.2.2 j hlt
            rw [← HL.out] at h1
            have h2 := h1 k hlk
            rw [← HX1.out] at h2
            rcases hh with hh | hh | ⟨h0, hh⟩
            · omega
            · omega
            · have := h2.2.2 h0; omega)
          by_cases hx0 : x < 0
          · have HF2 := hide (HF.out (.inl hx0))
            go_wp2_with fail
            go_ret
            exact ⟨ret_bool HF2.out.symm, hB0⟩
          by_cases hxn : (L.length : Int) ≤ x
          · have HF2 := hide (HF.out (.inr (.inl hxn)))
            go_wp2_with fail
            go_ret
            exact ⟨ret_bool HF2.out.symm, hB0⟩
          by_cases hk0 : 0 < k
          · have hk0' : (0 : Int) < (k : Int) := by omega
            obtain ⟨b', o', e', hb', p1⟩ := IRow.iat HP.out (Below.refl _ _) (show k - 1 < l.length by omega)
            simp only [Option.some.injEq, Addr.mk.injEq, and_true] at e'
            obtain ⟨rfl, rfl⟩ := e'
            obtain ⟨y, hy⟩ : ∃ y, y = l[k - 1] := ⟨_, rfl⟩
            rw [← hy] at p1
            have HY := hide hy
            clear hy
            obtain ⟨i, rfl⟩ : ∃ i, k = i + 1 := ⟨k - 1, by omega⟩
            simp only [Nat.add_sub_cancel] at p1
            by_cases hyx : y < x
            · have hyx' : ¬ x ≤ y := by omega
              have HA3 : Hid (∀ q, q < i + 1 + 1 → RisAt l L.length q) := hide (fun q hq => by
                by_cases e : q = i + 1
                · subst e
                  intro hh
                  exact ⟨by rw [← HX1.out]; omega, by rw [← HX1.out]; omega, fun _ => by rw [← HY.out, ← HX1.out]; exact hyx⟩
                · exact HA2.out q (by omega))
              go_wp2_with fail
              exact ⟨⟨i + 1 + 1, by omega, by go_num, HA3.out, trivial⟩, by simp [intOf]; omega⟩
            · have hyx' : x ≤ y := by omega
              have HF2 := hide (HF.out (.inr (.inr ⟨by omega, by rw [← HY.out]; exact hyx'⟩)))
              go_wp2_with fail
              go_ret
              exact ⟨ret_bool HF2.out.symm, hB0⟩
          · have hk0' : ¬ (0 : Int) < (k : Int) := by omega
            have HA3 : Hid (∀ q, q < k + 1 → RisAt l L.length q) := hide (fun q hq => by
              obtain rfl : q = k := by omega
              intro hh
              exact ⟨by rw [← HX1.out]; omega, by rw [← HX1.out]; omega, fun h0 => by omega⟩)
            go_wp2_with fail
            exact ⟨⟨k + 1, by omega, by go_num, HA3.out, trivial⟩, by simp [intOf]; omega⟩
        · have HA3 : Hid (∀ q (h : q < L.length), q < j + 1 → RisL L[q] L.length) := hide (fun q h hq => by
            by_cases e : q = j
            · subst e; rw [← HL.out]; exact RisAt.all (fun i hi => HA2.out i (by omega))
            · exact HA.out q h (by omega))
          go_wp2_with fail
          exact ⟨⟨j + 1, by omega, by go_num, HA3.out, trivial⟩, by simp [intOf]; omega⟩
    · have HF : Hid (G = inB (L.length : Int) 1 12) := hide (by
        rw [HG.out, Bool.eq_iff_iff, goodG_iff]
        constructor
        · intro h; have := h.1; have := h.2.1; simp [inB]; omega
        · intro h; simp [inB] at h; exact ⟨by omega, by omega, fun i hi => HA.out i hi (by omega)⟩)
      clear cx
      go_wp2_with fail
      refine Calls.mono (l1In_any _ 1 12 _) ?_
      rintro e w1 ⟨rfl, hw1⟩
      obtain rfl := hw1.symm
      rw [← HF.out]
      go_wp2_with fail
      go_ret
      exact ⟨rfl, hB0⟩
end Go.Proofs.Ytaniiolphghhiab.W
