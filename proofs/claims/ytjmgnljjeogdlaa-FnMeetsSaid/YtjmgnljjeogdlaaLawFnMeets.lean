/-
  Proved: whatever the two rows of bytes, the memory and the schedule, the law FnMeets returns true, and the rows read afterwards as they read before: of drawn terms LeadsTo, DevelopTerm and StepsOf tell what the specification's tell, what some redexes at once lead to leads to what all lead to (Church and Rosser; Takahashi), each leads to itself, to what all lead to and to each of its steps, and a term is normal just if it has no step. No conditions. Written by wip/build/mk_lawmeets.py.
-/
import Derived.Test.YtjmgnljjeogdlaaJar
import Derived.Test.YtjmgnljjeogdlaaJas
import Derived.Test.YtjmgnljjeogdlaaJav
import Derived.Test.YtjmgnljjeogdlaaJaq
import Derived.Deep.CutRange
import Derived.Lib.SmallJoins
import Derived.ChangeOld
import Derived.Below
namespace Go.Proofs.Ytjmgnljjeogdlaa.fnMeets
open Go.ChangeShapes Go.WideShapes Go.ChangeAt Go.RowKit
open Go.Proofs.Ytjmgnljjeogdlaa.W Go.Joins
set_option linter.unusedVariables false
set_option linter.unusedSimpArgs false

theorem own : ownKnob Try.prog.godebug = none := by kernel_rfl
theorem laidOut : laidOutB Try.prog = true := by kernel_rfl
theorem rL_six (r : Option (List Cc)) : (rL r).length ≤ 1048576 := by
  cases r with
  | none => simp [rL]
  | some cs =>
    show (gd cs).length ≤ _
    unfold gd
    split
    · rename_i h
      unfold goodT treeT at h
      split at h
      · omega
      · simp at h
    · simp
theorem leadsCR (v1 v2 : Value) (l1 l2 : List Cc) (w : World) (h1 : l1.length ≤ 1048576) (h2 : l2.length ≤ 1048576) (r1 : CRw w v1 l1) (r2 : CRw w v2 l2) :
    Calls Try.prog 13 #[v1, v2] w fun e w' => e = .returned (.tuple #[.bool (leR l1 l2), .bool (leO l1 l2)]) ∧ Below w.heap.size w w' := by
  obtain ⟨a1, c1, rfl, q1, r1⟩ := r1
  obtain ⟨a2, c2, rfl, q2, r2⟩ := r2
  exact implLeads_any a1 a2 c1 c2 l1 l2 w h1 h2 q1 r1 r2
theorem specLCR (v1 v2 : Value) (l1 l2 : List Cc) (w : World) (h1 : l1.length ≤ 1048576) (h2 : l2.length ≤ 1048576) (r1 : CRw w v1 l1) (r2 : CRw w v2 l2) :
    Calls Try.prog 14 #[v1, v2] w fun e w' => e = .returned (.tuple #[.bool (leR l1 l2), .bool (leO l1 l2)]) ∧ Below w.heap.size w w' := by
  obtain ⟨a1, c1, rfl, q1, r1⟩ := r1
  obtain ⟨a2, c2, rfl, q2, r2⟩ := r2
  exact specLeads_any a1 a2 c1 c2 l1 l2 w h1 h2 r1 r2
theorem devCR (v1 : Value) (l1 : List Cc) (w : World) (h1 : l1.length ≤ 1048576) (r1 : CRw w v1 l1) :
    Calls Try.prog 15 #[v1] w fun e w' => ∃ s', e = .returned (.tuple #[s', .bool (rB (dvR l1))]) ∧ CRw w' s' (rL (dvR l1)) ∧ Below w.heap.size w w' := by
  obtain ⟨a1, c1, rfl, q1, r1⟩ := r1
  exact (implDevelop_any a1 c1 l1 w h1 q1 r1).mono fun e w' ⟨s, he, ho, hb⟩ => ⟨s, he, CRw.own ho, hb⟩
theorem specDCR (v1 : Value) (l1 : List Cc) (w : World) (h1 : l1.length ≤ 1048576) (r1 : CRw w v1 l1) :
    Calls Try.prog 16 #[v1] w fun e w' => ∃ s', e = .returned (.tuple #[s', .bool (rB (dvR l1))]) ∧ CRw w' s' (rL (dvR l1)) ∧ Below w.heap.size w w' := by
  obtain ⟨a1, c1, rfl, q1, r1⟩ := r1
  exact (specDevelop_any a1 c1 l1 w h1 r1).mono fun e w' ⟨s, he, ho, hb⟩ => ⟨s, he, CRw.own ho, hb⟩
/-- A slice that holds these rows. -/
def RRw (w : World) (v : Value) (L : List (List Cc)) : Prop := ∃ a c, v = .slice a L.length c ∧ (0 < L.length → ∃ g, a = some ⟨g, 0, none⟩ ∧ g < w.heap.size ∧ ∀ i l, L[i]? = some l → ∃ x, w.cell? ⟨g, i, none⟩ = some x ∧ CRw w x l)
theorem RRw.below {w w' : World} {v : Value} {L : List (List Cc)} (h : RRw w v L) (hb : Below w.heap.size w w') : RRw w' v L := by
  obtain ⟨a, c, h1, h2⟩ := h
  refine ⟨a, c, h1, fun h0 => ?_⟩
  obtain ⟨g, h3, h4, h5⟩ := h2 h0
  refine ⟨g, h3, Nat.lt_of_lt_of_le h4 hb.size, fun i l hl => ?_⟩
  obtain ⟨x, h6, h7⟩ := h5 i l hl
  exact ⟨x, (hb.cell (p := ⟨g, i, none⟩) h4).trans h6, h7.below hb⟩
theorem RRw.form {w : World} {v : Value} {L : List (List Cc)} (h : RRw w v L) : ∃ a c, v = .slice a L.length c := by
  obtain ⟨a, c, h, -⟩ := h; exact ⟨a, c, h⟩
theorem RRw.of {w : World} {b : Nat} {v : Value} {L : List (List Cc)} (h : OO w b v L) : RRw w v L := by
  obtain ⟨a, c, hf⟩ := h.form
  refine ⟨a, c, hf, fun h0 => ?_⟩
  obtain ⟨vs, h⟩ := h
  obtain ⟨g, cap, e1, e2, e3, e4⟩ := tOwn_lies h.own h0
  rw [hf] at e1
  simp only [Value.slice.injEq] at e1
  refine ⟨g, e1.1, e3, fun i l hl => ?_⟩
  have hi := (List.getElem?_eq_some_iff.1 hl).1
  have he := (List.getElem?_eq_some_iff.1 hl).2
  obtain ⟨x, h1, h2⟩ := h.at_ i hi
  rw [he] at h2
  exact ⟨x, e4 i x h1, CRw.own h2⟩
theorem stepsCR (v1 : Value) (l1 : List Cc) (w : World) (h1 : l1.length ≤ 1048576) (r1 : CRw w v1 l1) :
    Calls Try.prog 17 #[v1] w fun e w' => ∃ s', e = .returned (.tuple #[s', .bool (stR l1).isSome]) ∧ RRw w' s' ((stR l1).getD []) ∧ Below w.heap.size w w' := by
  obtain ⟨a1, c1, rfl, q1, r1⟩ := r1
  exact (implSteps_any a1 c1 l1 w h1 q1 r1).mono fun e w' ⟨s, he, ho, hb⟩ => ⟨s, he, RRw.of ho, hb⟩
theorem specSCR (v1 : Value) (l1 : List Cc) (w : World) (h1 : l1.length ≤ 1048576) (r1 : CRw w v1 l1) :
    Calls Try.prog 19 #[v1] w fun e w' => ∃ s', e = .returned (.tuple #[s', .bool (stR l1).isSome]) ∧ RRw w' s' ((stR l1).getD []) ∧ Below w.heap.size w w' := by
  obtain ⟨a1, c1, rfl, q1, r1⟩ := r1
  exact (specSteps_any a1 c1 l1 w h1 r1).mono fun e w' ⟨s, he, ho, hb⟩ => ⟨s, he, RRw.of ho, hb⟩
theorem normCR (v1 : Value) (l1 : List Cc) (w : World) (h1 : l1.length ≤ 1048576) (r1 : CRw w v1 l1) :
    Calls Try.prog 20 #[v1] w fun e w' => e = .returned (.tuple #[.bool (nrmT (treeT l1)), .bool (goodT l1)]) ∧ Below w.heap.size w w' := by
  obtain ⟨a1, c1, rfl, q1, r1⟩ := r1
  exact implIsNormal_any a1 c1 l1 w h1 q1 r1
theorem sameCR (v1 v2 : Value) (l1 l2 : List Cc) (w : World) (h1 : l1.length ≤ 1048576) (h2 : l2.length ≤ 1048576) (r1 : CRw w v1 l1) (r2 : CRw w v2 l2) (he : l1 = l2) :
    Calls Try.prog 8 #[v1, v2] w fun e w' => e = .returned (.bool true) ∧ Below w.heap.size w w' := by
  obtain ⟨a1, c1, rfl, q1, r1⟩ := r1
  obtain ⟨a2, c2, rfl, q2, r2⟩ := r2
  have h := same_any a1 a2 c1 c2 l1 l2 w h1 h2 r1 r2
  rw [(sameR_iff l1 l2).2 he] at h
  exact h
theorem st_norm {l : List Cc} {L : List (List Cc)} (h : stR l = some L) : goodT l = true ∧ nrmT (treeT l) = decide (L.length = 0) := by
  unfold stR at h
  cases ht : treeT l with
  | none => rw [ht] at h; cases h
  | some t =>
    obtain ⟨x, k, rfl⟩ := tree_is ht
    rw [ht] at h
    refine ⟨by unfold goodT; rw [ht]; rfl, ?_⟩
    have hl := coll_len h
    rw [List.length_map] at hl
    have hs := sk_any k
    show (!anyR (.cons x k .nil)) = _
    simp only [anyR, Bool.or_false]
    rw [hl]
    unfold sh
    cases hr : redx x k <;> cases ha : anyR k <;> rw [ha] at hs <;> simp_all
theorem le_imp {l m : List Cc} (h : leR l m = true) : leO l m = true := by
  unfold leR at h
  rw [Bool.and_eq_true] at h
  exact h.1

set_option maxRecDepth 20000 in
set_option maxHeartbeats 32000000 in
theorem walk (ca cb : Option Addr) (na nb pa pb : Nat) (w : World) (hna : (na : Int) ≤ 9223372036854775807) (hnb : (nb : Int) ≤ 9223372036854775807) (hA : BRow w ca na) (hB : BRow w cb nb) :
    Calls Try.prog 4 #[.slice ca na pa, .slice cb nb pb] w fun e w' => e = .returned (.bool true) ∧ Below w.heap.size w w' := by
  have HBy := hide hB
  have HDr := hide (drawLeads_any na pa ca w hna hA)
  have Hnb := hide hnb
  clear hA hB hna hnb
  by_cases hcmp : (1048576 : Int) < wrap64 ((na : Int) + (nb : Int))
  · go_enter Try.func4, Try.ntmps4
    go_wp2_with fail
    go_ret
    exact ⟨rfl, Below.refl _ _⟩
  go_enter Try.func4, Try.ntmps4
  go_wp2_with fail
  refine Calls.mono HDr.out ?_
  rintro e w1 ⟨v1, v2, l1, l2, rfl, hl1, hl2, hr1, hr2, hb⟩
  have HBw1 := hide hb
  have Hl1 := hide hl1
  have Hl2 := hide hl2
  clear HDr hb hl1 hl2
  obtain ⟨a1, p1, hf1⟩ := hr1.form
  obtain ⟨N1, hN1⟩ : ∃ N, N = l1.length := ⟨_, rfl⟩
  rw [← hN1] at hf1
  subst hf1
  have HR1 := hide hr1
  clear hr1 hN1
  obtain ⟨a2, p2, hf2⟩ := hr2.form
  obtain ⟨N2, hN2⟩ : ∃ N, N = l2.length := ⟨_, rfl⟩
  rw [← hN2] at hf2
  subst hf2
  have HR2 := hide hr2
  clear hr2 hN2
  go_wp2_with fail
  refine Calls.mono (leadsCR _ _ l1 l2 w1 Hl1.out Hl2.out HR1.out HR2.out) ?_
  rintro e w2 ⟨rfl, hb⟩
  have HBw2 := hide (HBw1.out.trans (hb.mono HBw1.out.size))
  have HR1 := hide (HR1.out.below hb)
  have HR2 := hide (HR2.out.below hb)
  clear hb
  go_wp2_with fail
  refine Calls.mono (specLCR _ _ l1 l2 w2 Hl1.out Hl2.out HR1.out HR2.out) ?_
  rintro e w3 ⟨rfl, hb⟩
  have HBw3 := hide (HBw2.out.trans (hb.mono HBw2.out.size))
  have HR1 := hide (HR1.out.below hb)
  have HR2 := hide (HR2.out.below hb)
  clear hb
  obtain ⟨O12, hO12⟩ : ∃ O, O = leO l1 l2 := ⟨_, rfl⟩
  obtain ⟨R12, hR12⟩ : ∃ R, R = leR l1 l2 := ⟨_, rfl⟩
  rw [← hO12, ← hR12]
  have HO12 := hide hO12
  have HRr12 := hide hR12
  clear hO12 hR12
  go_wp2_with fail
  refine Calls.mono (devCR _ l1 w3 Hl1.out HR1.out) ?_
  rintro e w4 ⟨s3, rfl, hr3, hb⟩
  have HBw4 := hide (HBw3.out.trans (hb.mono HBw3.out.size))
  have HR1 := hide (HR1.out.below hb)
  have HR2 := hide (HR2.out.below hb)
  clear hb
  have hle3 := rL_six (dvR l1)
  obtain ⟨l3, hl3⟩ : ∃ l, l = rL (dvR l1) := ⟨_, rfl⟩
  rw [← hl3] at hr3 hle3
  have HE3 := hide hl3
  have Hl3 := hide hle3
  clear hl3 hle3
  obtain ⟨a3, p3, hf3⟩ := hr3.form
  obtain ⟨N3, hN3⟩ : ∃ N, N = l3.length := ⟨_, rfl⟩
  rw [← hN3] at hf3
  subst hf3
  have HR3 := hide hr3
  clear hr3 hN3
  go_wp2_with fail
  refine Calls.mono (specDCR _ l1 w4 Hl1.out HR1.out) ?_
  rintro e w5 ⟨s4, rfl, hr4, hb⟩
  have HBw5 := hide (HBw4.out.trans (hb.mono HBw4.out.size))
  have HR1 := hide (HR1.out.below hb)
  have HR2 := hide (HR2.out.below hb)
  have HR3 := hide (HR3.out.below hb)
  clear hb
  have hle4 := rL_six (dvR l1)
  obtain ⟨l4, hl4⟩ : ∃ l, l = rL (dvR l1) := ⟨_, rfl⟩
  rw [← hl4] at hr4 hle4
  have HE4 := hide hl4
  have Hl4 := hide hle4
  clear hl4 hle4
  obtain ⟨a4, p4, hf4⟩ := hr4.form
  obtain ⟨N4, hN4⟩ : ∃ N, N = l4.length := ⟨_, rfl⟩
  rw [← hN4] at hf4
  subst hf4
  have HR4 := hide hr4
  clear hr4 hN4
  obtain ⟨B, hB⟩ : ∃ B, B = rB (dvR l1) := ⟨_, rfl⟩
  rw [← hB]
  have HBv := hide hB
  clear hB
  have HSm := hide (sameCR _ _ l3 l4 w5 Hl3.out Hl4.out HR3.out HR4.out (by rw [HE3.out, HE4.out]))
  go_wp2_with fail
  refine Calls.mono HSm.out ?_
  rintro e w6 ⟨rfl, hb⟩
  have HBw6 := hide (HBw5.out.trans (hb.mono HBw5.out.size))
  have HR1 := hide (HR1.out.below hb)
  have HR2 := hide (HR2.out.below hb)
  have HR3 := hide (HR3.out.below hb)
  clear hb
  clear HSm HR4
  have hcomb : (O12 = false ∧ B = B ∧ R12 = false ∨ O12 = true ∧ B = false ∧ R12 = false ∨ O12 = true ∧ B = false ∧ R12 = true) ∨ (O12 = true ∧ B = true ∧ R12 = false) ∨ (O12 = true ∧ B = true ∧ R12 = true) := by
    cases hR : R12 with
    | false => cases O12 <;> cases B <;> simp
    | true =>
      have h1 := HRr12.out
      rw [hR] at h1
      have h2 := le_imp h1.symm
      rw [← HO12.out] at h2
      subst h2
      cases B <;> simp
  rcases hcomb with hc | ⟨rfl, rfl, rfl⟩ | ⟨rfl, rfl, rfl⟩
  · rcases hc with ⟨rfl, -, rfl⟩ | ⟨rfl, rfl, rfl⟩ | ⟨rfl, rfl, rfl⟩ <;> (
      go_wp2_with fail
      refine Calls.mono (drawSteps_any nb pb cb w6 Hnb.out (HBy.out.below HBw6.out)) ?_
      rintro e u1 ⟨v6, l6, rfl, hl6, hr6, hb⟩
      have HBu1 := hide (HBw6.out.trans (hb.mono HBw6.out.size))
      have Hl6 := hide hl6
      clear hb hl6
      obtain ⟨a6, p6, hf6⟩ := hr6.form
      obtain ⟨N6, hN6⟩ : ∃ N, N = l6.length := ⟨_, rfl⟩
      rw [← hN6] at hf6
      subst hf6
      have HR6 := hide hr6
      clear hr6 hN6
      go_wp2_with fail
      refine Calls.mono (stepsCR _ l6 u1 Hl6.out HR6.out) ?_
      rintro e u2 ⟨s7, rfl, hq7, hb⟩
      have HBu2 := hide (HBu1.out.trans (hb.mono HBu1.out.size))
      have HR6 := hide (HR6.out.below hb)
      clear hb
      obtain ⟨L6, hL6⟩ : ∃ L, L = (stR l6).getD [] := ⟨_, rfl⟩
      have hst := stR_len l6
      rw [← hL6] at hst hq7
      obtain ⟨a7, p7, hf7⟩ := hq7.form
      obtain ⟨M6, hM6⟩ : ∃ M, M = L6.length := ⟨_, rfl⟩
      rw [← hM6] at hf7
      subst hf7
      have HQ7 := hide hq7
      have HL6 := hide hL6
      have HM6 := hide hM6
      have hM600 : M6 ≤ 600 := by rw [hM6]; exact hst.1
      have HSt := hide hst.2
      obtain ⟨Fs, hFs⟩ : ∃ F, F = (stR l6).isSome := ⟨_, rfl⟩
      rw [← hFs]
      have HFs := hide hFs
      clear hq7 hst hL6 hM6 hFs
      go_wp2_with fail
      refine Calls.mono (specSCR _ l6 u2 Hl6.out HR6.out) ?_
      rintro e u3 ⟨s8, rfl, hq8, hb⟩
      have HBu3 := hide (HBu2.out.trans (hb.mono HBu2.out.size))
      have HR6 := hide (HR6.out.below hb)
      have HQ7 := hide (HQ7.out.below hb)
      clear hb
      have hl6e := HL6.out
      rw [← hl6e] at hq8
      obtain ⟨a8, p8, hf8⟩ := hq8.form
      have hm6e := HM6.out
      rw [← hm6e] at hf8
      subst hf8
      have HQ8 := hide hq8
      have hfse := HFs.out
      rw [← hfse]
      clear hq8 hl6e hm6e hfse
      go_wp2_with fail
      go_loopw [181] (fun i w' => ∃ j : Nat, j ≤ M6 ∧ i = .int .i64 j ∧ Below u3.heap.size u3 w') (fun i _ => M6 - (intOf i).toNat)
      case atStart => exact ⟨0, by omega, rfl, Below.refl _ _⟩
      case round =>
        obtain ⟨j, hj, rfl, hBr⟩ := hrel
        have HBr := hide hBr
        clear hBr
        by_cases hlt : j < M6
        · have hlt' : (j : Int) < (M6 : Int) := by omega
          have hj0 : (0 : Int) ≤ (j : Int) := by omega
          obtain ⟨sl, hsl, hslm⟩ : ∃ sl, L6[j]? = some sl ∧ sl ∈ L6 := by
            have h2 : j < L6.length := by rw [← HM6.out]; exact hlt
            exact ⟨_, List.getElem?_eq_getElem h2, List.getElem_mem h2⟩
          obtain ⟨c7, d7, e7, f7⟩ := HQ7.out.below HBr.out
          simp only [Value.slice.injEq] at e7
          obtain ⟨rfl, -, rfl⟩ := e7
          obtain ⟨g7, rfl, hg7, k7⟩ := f7 (by rw [← HM6.out]; omega)
          obtain ⟨x7, cx7, rx7⟩ := k7 j sl hsl
          obtain ⟨c8, d8, e8, f8⟩ := HQ8.out.below HBr.out
          simp only [Value.slice.injEq] at e8
          obtain ⟨rfl, -, rfl⟩ := e8
          obtain ⟨g8, rfl, hg8, k8⟩ := f8 (by rw [← HM6.out]; omega)
          obtain ⟨x8, cx8, rx8⟩ := k8 j sl hsl
          have hsl6 : sl.length ≤ 1048576 := by have := HSt.out sl hslm; omega
          obtain ⟨ya7, yc7, hy7⟩ := rx7.form
          obtain ⟨ya8, yc8, hy8⟩ := rx8.form
          obtain ⟨SN, hSN⟩ : ∃ SN, SN = sl.length := ⟨_, rfl⟩
          rw [← hSN] at hy7 hy8
          subst hy7 hy8
          obtain ⟨wd, hwd⟩ : ∃ wd, wd = wr.drew := ⟨_, rfl⟩
          have hbd : Below wr.heap.size wr wd := by rw [hwd]; exact ⟨rfl, rfl, rfl, Nat.le_refl _, fun _ _ => rfl⟩
          have HSa := hide (sameCR _ _ sl sl wd hsl6 hsl6 (rx7.below hbd) (rx8.below hbd) rfl)
          have HBd := hide hbd
          have q7 := cx7
          have q8 := cx8
          have Hwd := hide hwd
          have hg7' := hg7
          have hg8' := hg8
          clear hwd hbd k7 k8 f7 f8 rx7 rx8 hsl hSN cx7 cx8 hsl6 hslm
          go_wp2_with fail
          refine wp_region_noPanic ?_
          refine wp_region_held_drew (S := fun w' => w'.cell? ⟨g7, j, none⟩ = some (.slice ya7 SN yc7) ∧ w'.cell? ⟨g8, j, none⟩ = some (.slice ya8 SN yc8)) (by kernel_rfl) ⟨q7, q8⟩ (fun hHeld => ?_)
          refine wpAnyH_take (i := 0) (oi := _) (v := ?_) rfl (by kernel_rfl) (by kernel_rfl) (by kernel_rfl) (fun _ _ _ h => h) (Or.inl ⟨by rfl, ?_⟩) (by assumption) ?_
          rotate_left 1
          · (intro w hSw; (try dsimp only at hSw); (first | (go_simp; done) | (go_simp; with_reducible rfl)))
          try simp only [Act.put, List.getElem_toArray, List.getElem_cons_zero, List.getElem_cons_succ, List.setIfInBounds_toArray, List.set_cons_zero, List.set_cons_succ]
          refine wpAnyH_take (i := 1) (oi := _) (v := ?_) rfl (by kernel_rfl) (by kernel_rfl) (by kernel_rfl) (fun _ _ _ h => h) (Or.inl ⟨by rfl, ?_⟩) (by assumption) ?_
          rotate_left 1
          · (intro w hSw; (try dsimp only at hSw); (first | (go_simp; done) | (go_simp; with_reducible rfl)))
          try simp only [Act.put, List.getElem_toArray, List.getElem_cons_zero, List.getElem_cons_succ, List.setIfInBounds_toArray, List.set_cons_zero, List.set_cons_succ]
          refine wpAnyH_take (i := 2) (oi := _) (v := ?_) rfl (by kernel_rfl) (by kernel_rfl) (by kernel_rfl) (fun _ _ _ h => h) (Or.inl ⟨by rfl, ?_⟩) (by assumption) ?_
          rotate_left 1
          · (intro w hSw; (try dsimp only at hSw); (first | (go_simp; done) | (go_simp; with_reducible rfl)))
          try simp only [Act.put, List.getElem_toArray, List.getElem_cons_zero, List.getElem_cons_succ, List.setIfInBounds_toArray, List.set_cons_zero, List.set_cons_succ]
          refine wpAnyH_take (i := 3) (oi := _) (v := ?_) rfl (by kernel_rfl) (by kernel_rfl) (by kernel_rfl) (fun _ _ _ h => h) (Or.inl ⟨by rfl, ?_⟩) (by assumption) ?_
          rotate_left 1
          · (intro w hSw; (try dsimp only at hSw); (first | (go_simp; done) | (go_simp; with_reducible rfl)))
          try simp only [Act.put, List.getElem_toArray, List.getElem_cons_zero, List.getElem_cons_succ, List.setIfInBounds_toArray, List.set_cons_zero, List.set_cons_succ]
          refine wpAnyH_take (i := 4) (oi := _) (v := ?_) rfl (by kernel_rfl) (by kernel_rfl) (by kernel_rfl) (fun _ _ _ h => h) (Or.inl ⟨by rfl, ?_⟩) (by assumption) ?_
          rotate_left 1
          · (intro w hSw; (try dsimp only at hSw); (first | (go_simp; done) | (go_simp; with_reducible rfl)))
          try simp only [Act.put, List.getElem_toArray, List.getElem_cons_zero, List.getElem_cons_succ, List.setIfInBounds_toArray, List.set_cons_zero, List.set_cons_succ]
          refine wpAnyH_take (i := 5) (oi := _) (v := ?_) rfl (by kernel_rfl) (by kernel_rfl) (by kernel_rfl) (fun _ _ _ h => h) (Or.inl ⟨by rfl, ?_⟩) (by assumption) ?_
          rotate_left 1
          · (intro w hSw; (try dsimp only at hSw); (first | (go_simp; done) | (go_simp; with_reducible rfl)))
          try simp only [Act.put, List.getElem_toArray, List.getElem_cons_zero, List.getElem_cons_succ, List.setIfInBounds_toArray, List.set_cons_zero, List.set_cons_succ]
          refine wpAnyH_take (i := 6) (oi := _) (v := ?_) rfl (by kernel_rfl) (by kernel_rfl) (by kernel_rfl) (fun _ _ _ h => h) (Or.inl ⟨by rfl, ?_⟩) (by assumption) ?_
          rotate_left 1
          · (intro w hSw; (try dsimp only at hSw); (first | (go_simp; done) | (go_simp; with_reducible rfl)))
          try simp only [Act.put, List.getElem_toArray, List.getElem_cons_zero, List.getElem_cons_succ, List.setIfInBounds_toArray, List.set_cons_zero, List.set_cons_succ]
          refine wpAnyH_take (i := 7) (oi := _) (v := ?_) rfl (by kernel_rfl) (by kernel_rfl) (by kernel_rfl) (fun _ _ _ h => h) (Or.inl ⟨by rfl, ?_⟩) (by assumption) ?_
          rotate_left 1
          · (intro w hSw; (try dsimp only at hSw); (first | (go_simp; done) | (go_simp; with_reducible rfl)))
          try simp only [Act.put, List.getElem_toArray, List.getElem_cons_zero, List.getElem_cons_succ, List.setIfInBounds_toArray, List.set_cons_zero, List.set_cons_succ]
          rw [← Hwd.out]
          refine wpAnyH_ready (rs := [8]) (by kernel_rfl) (by simp) ?_
          refine AllReadyH.cons (o := _) rfl (fun K hK => ?_) AllReadyH.nil
          go_simp
          (with_reducible refine Calls.mono HSa.out ?_)
          rintro e x1 ⟨rfl, hb⟩
          have HX1 := hide (HBd.out.trans (hb.mono HBd.out.size))
          have m7 := (HX1.out.cell (p := ⟨g7, j, none⟩) hg7).trans q7
          have m8 := (HX1.out.cell (p := ⟨g8, j, none⟩) hg8).trans q8
          clear hb HSa
          (try go_wp2_with fail)
          refine hK.out _ _ ⟨m7, m8⟩ (fun hHeld => ?_)
          clear hK K
          try simp only [Act.put, List.getElem_toArray, List.getElem_cons_zero, List.getElem_cons_succ, List.setIfInBounds_toArray, List.set_cons_zero, List.set_cons_succ]
          refine wpAnyH_take (i := 9) (oi := _) (v := ?_) rfl (by kernel_rfl) (by kernel_rfl) (by kernel_rfl) (fun _ _ _ h => h) (Or.inl ⟨by rfl, ?_⟩) (by assumption) ?_
          rotate_left 1
          · (intro w hSw; (try dsimp only at hSw); (first | (go_simp; done) | (go_simp; with_reducible rfl)))
          try simp only [Act.put, List.getElem_toArray, List.getElem_cons_zero, List.getElem_cons_succ, List.setIfInBounds_toArray, List.set_cons_zero, List.set_cons_succ]
          refine wpAnyH_done (by kernel_rfl) ?_ _
          refine NoPanic.normal ?_
          clear q7 q8 m7 m8
          go_wp2_with fail
          exact ⟨⟨j + 1, by omega, by go_num, HBr.out.trans (HX1.out.mono HBr.out.size)⟩, by simp [intOf]; omega⟩
        · obtain rfl : j = M6 := by omega
          have HBn := hide (HBu3.out.trans (HBr.out.mono HBu3.out.size))
          have HNm := hide (normCR _ l6 wr Hl6.out (HR6.out.below HBr.out))
          go_wp2_with fail
          refine Calls.mono HNm.out ?_
          rintro e u9 ⟨rfl, hb⟩
          have HBu9 := hide (HBn.out.trans (hb.mono HBn.out.size))
          have hfin : Fs = true → goodT l6 = true ∧ nrmT (treeT l6) = decide (j = 0) := fun h => by
            have h1 := HFs.out
            rw [h] at h1
            obtain ⟨L, hL⟩ := Option.isSome_iff_exists.1 h1.symm
            have h2 := st_norm hL
            have h3 := HL6.out
            rw [hL] at h3
            have h4 : L6 = L := h3
            rw [HM6.out, h4]
            exact h2
          obtain ⟨NB, hNB⟩ : ∃ NB, NB = nrmT (treeT l6) := ⟨_, rfl⟩
          obtain ⟨GB, hGB⟩ : ∃ GB, GB = goodT l6 := ⟨_, rfl⟩
          rw [← hNB, ← hGB] at hfin ⊢
          have Hfin := hide hfin
          clear hb HNm hNB hGB hfin
          cases Fs with
          | false =>
            go_wp2_with fail
            go_ret
            exact ⟨rfl, HBu9.out⟩
          | true =>
            obtain ⟨h1, h2⟩ := Hfin.out rfl
            subst h1
            by_cases hz : j = 0
            · have h3 : NB = true := by rw [h2]; simp [hz]
              have h4 : ((j : Int) == 0) = true := by simp; omega
              subst h3
              clear h2 hz
              go_wp2_with fail
              go_ret
              exact ⟨ret_bool (by simp [h4] <;> omega), HBu9.out⟩
            · have h3 : NB = false := by rw [h2]; simp [hz]
              have h4 : ((j : Int) == 0) = false := by simp; omega
              subst h3
              clear h2
              go_wp2_with fail
              go_ret
              exact ⟨ret_bool (by simp [h4] <;> omega), HBu9.out⟩
      )
  · go_wp2_with fail
    refine Calls.mono (leadsCR _ _ l1 l1 w6 Hl1.out Hl1.out HR1.out HR1.out) ?_
    rintro e y1 ⟨rfl, hb⟩
    have HBy1 := hide (HBw6.out.trans (hb.mono HBw6.out.size))
    have HR1 := hide (HR1.out.below hb)
    have HR2 := hide (HR2.out.below hb)
    have HR3 := hide (HR3.out.below hb)
    clear hb
    obtain ⟨O11, hO11⟩ : ∃ O, O = leO l1 l1 := ⟨_, rfl⟩
    obtain ⟨R11, hR11⟩ : ∃ R, R = leR l1 l1 := ⟨_, rfl⟩
    rw [← hO11, ← hR11]
    have HI11 : Hid (O11 = true → R11 = true) := hide (fun h => by rw [hR11]; exact le_self (by rw [← hO11]; exact h))
    clear hO11 hR11
    go_wp2_with fail
    refine Calls.mono (leadsCR _ _ l1 l3 y1 Hl1.out Hl3.out HR1.out HR3.out) ?_
    rintro e y2 ⟨rfl, hb⟩
    have HBy2 := hide (HBy1.out.trans (hb.mono HBy1.out.size))
    have HR1 := hide (HR1.out.below hb)
    have HR2 := hide (HR2.out.below hb)
    have HR3 := hide (HR3.out.below hb)
    clear hb
    obtain ⟨O13, hO13⟩ : ∃ O, O = leO l1 l3 := ⟨_, rfl⟩
    obtain ⟨R13, hR13⟩ : ∃ R, R = leR l1 l3 := ⟨_, rfl⟩
    rw [← hO13, ← hR13]
    have HI13 : Hid (O13 = true → R13 = true) := hide (fun h => by rw [hR13, HE3.out]; exact le_dev HBv.out.symm (by rw [← HE3.out, ← hO13]; exact h))
    clear hO13 hR13
    go_upto_region 17 with fail
    go_cut [132] from 121 to 132 (fun v wx => v = .bool false ∧ wx = y2)
    case first =>
      cases O11 with
      | false =>
        cases O13 with
        | false =>
          go_wp2_with fail
          go_meet
          exact ⟨rfl, rfl⟩
        | true =>
          have h13 := HI13.out rfl
          subst h13
          go_wp2_with fail
          go_meet
          exact ⟨rfl, rfl⟩
      | true =>
        have h11 := HI11.out rfl
        subst h11
        cases O13 with
        | false =>
          go_wp2_with fail
          go_meet
          exact ⟨rfl, rfl⟩
        | true =>
          have h13 := HI13.out rfl
          subst h13
          go_wp2_with fail
          go_meet
          exact ⟨rfl, rfl⟩
    case rest =>
      obtain ⟨rfl, hw⟩ := hcut
      obtain rfl := hw.symm
      go_wp2_with fail
      refine Calls.mono (stepsCR _ l1 y2 Hl1.out HR1.out) ?_
      rintro e y3 ⟨s5, rfl, hq5, hb⟩
      have HBy3 := hide (HBy2.out.trans (hb.mono HBy2.out.size))
      have HR1 := hide (HR1.out.below hb)
      clear hb
      obtain ⟨L1, hL1⟩ : ∃ L, L = (stR l1).getD [] := ⟨_, rfl⟩
      have hst := stR_len l1
      rw [← hL1] at hst hq5
      obtain ⟨a5, p5, hf5⟩ := hq5.form
      obtain ⟨M1, hM1⟩ : ∃ M, M = L1.length := ⟨_, rfl⟩
      rw [← hM1] at hf5
      subst hf5
      have HQ5 := hide hq5
      have HL1 := hide hL1
      have HM1 := hide hM1
      have hM600 : M1 ≤ 600 := by rw [hM1]; exact hst.1
      have HSt1 := hide hst.2
      obtain ⟨F1, hF1⟩ : ∃ F, F = (stR l1).isSome := ⟨_, rfl⟩
      rw [← hF1]
      have HF1 := hide hF1
      clear hq5 hst hL1 hM1 hF1
      cases F1 with
      | false =>
        go_wp2_with fail
        refine Calls.mono (drawSteps_any nb pb cb y3 Hnb.out (HBy.out.below HBy3.out)) ?_
        rintro e u1 ⟨v6, l6, rfl, hl6, hr6, hb⟩
        have HBu1 := hide (HBy3.out.trans (hb.mono HBy3.out.size))
        have Hl6 := hide hl6
        clear hb hl6
        obtain ⟨a6, p6, hf6⟩ := hr6.form
        obtain ⟨N6, hN6⟩ : ∃ N, N = l6.length := ⟨_, rfl⟩
        rw [← hN6] at hf6
        subst hf6
        have HR6 := hide hr6
        clear hr6 hN6
        go_wp2_with fail
        refine Calls.mono (stepsCR _ l6 u1 Hl6.out HR6.out) ?_
        rintro e u2 ⟨s7, rfl, hq7, hb⟩
        have HBu2 := hide (HBu1.out.trans (hb.mono HBu1.out.size))
        have HR6 := hide (HR6.out.below hb)
        clear hb
        obtain ⟨L6, hL6⟩ : ∃ L, L = (stR l6).getD [] := ⟨_, rfl⟩
        have hst := stR_len l6
        rw [← hL6] at hst hq7
        obtain ⟨a7, p7, hf7⟩ := hq7.form
        obtain ⟨M6, hM6⟩ : ∃ M, M = L6.length := ⟨_, rfl⟩
        rw [← hM6] at hf7
        subst hf7
        have HQ7 := hide hq7
        have HL6 := hide hL6
        have HM6 := hide hM6
        have hM600 : M6 ≤ 600 := by rw [hM6]; exact hst.1
        have HSt := hide hst.2
        obtain ⟨Fs, hFs⟩ : ∃ F, F = (stR l6).isSome := ⟨_, rfl⟩
        rw [← hFs]
        have HFs := hide hFs
        clear hq7 hst hL6 hM6 hFs
        go_wp2_with fail
        refine Calls.mono (specSCR _ l6 u2 Hl6.out HR6.out) ?_
        rintro e u3 ⟨s8, rfl, hq8, hb⟩
        have HBu3 := hide (HBu2.out.trans (hb.mono HBu2.out.size))
        have HR6 := hide (HR6.out.below hb)
        have HQ7 := hide (HQ7.out.below hb)
        clear hb
        have hl6e := HL6.out
        rw [← hl6e] at hq8
        obtain ⟨a8, p8, hf8⟩ := hq8.form
        have hm6e := HM6.out
        rw [← hm6e] at hf8
        subst hf8
        have HQ8 := hide hq8
        have hfse := HFs.out
        rw [← hfse]
        clear hq8 hl6e hm6e hfse
        go_wp2_with fail
        go_loopw [181] (fun i w' => ∃ j : Nat, j ≤ M6 ∧ i = .int .i64 j ∧ Below u3.heap.size u3 w') (fun i _ => M6 - (intOf i).toNat)
        case atStart => exact ⟨0, by omega, rfl, Below.refl _ _⟩
        case round =>
          obtain ⟨j, hj, rfl, hBr⟩ := hrel
          have HBr := hide hBr
          clear hBr
          by_cases hlt : j < M6
          · have hlt' : (j : Int) < (M6 : Int) := by omega
            have hj0 : (0 : Int) ≤ (j : Int) := by omega
            obtain ⟨sl, hsl, hslm⟩ : ∃ sl, L6[j]? = some sl ∧ sl ∈ L6 := by
              have h2 : j < L6.length := by rw [← HM6.out]; exact hlt
              exact ⟨_, List.getElem?_eq_getElem h2, List.getElem_mem h2⟩
            obtain ⟨c7, d7, e7, f7⟩ := HQ7.out.below HBr.out
            simp only [Value.slice.injEq] at e7
            obtain ⟨rfl, -, rfl⟩ := e7
            obtain ⟨g7, rfl, hg7, k7⟩ := f7 (by rw [← HM6.out]; omega)
            obtain ⟨x7, cx7, rx7⟩ := k7 j sl hsl
            obtain ⟨c8, d8, e8, f8⟩ := HQ8.out.below HBr.out
            simp only [Value.slice.injEq] at e8
            obtain ⟨rfl, -, rfl⟩ := e8
            obtain ⟨g8, rfl, hg8, k8⟩ := f8 (by rw [← HM6.out]; omega)
            obtain ⟨x8, cx8, rx8⟩ := k8 j sl hsl
            have hsl6 : sl.length ≤ 1048576 := by have := HSt.out sl hslm; omega
            obtain ⟨ya7, yc7, hy7⟩ := rx7.form
            obtain ⟨ya8, yc8, hy8⟩ := rx8.form
            obtain ⟨SN, hSN⟩ : ∃ SN, SN = sl.length := ⟨_, rfl⟩
            rw [← hSN] at hy7 hy8
            subst hy7 hy8
            obtain ⟨wd, hwd⟩ : ∃ wd, wd = wr.drew := ⟨_, rfl⟩
            have hbd : Below wr.heap.size wr wd := by rw [hwd]; exact ⟨rfl, rfl, rfl, Nat.le_refl _, fun _ _ => rfl⟩
            have HSa := hide (sameCR _ _ sl sl wd hsl6 hsl6 (rx7.below hbd) (rx8.below hbd) rfl)
            have HBd := hide hbd
            have q7 := cx7
            have q8 := cx8
            have Hwd := hide hwd
            have hg7' := hg7
            have hg8' := hg8
            clear hwd hbd k7 k8 f7 f8 rx7 rx8 hsl hSN cx7 cx8 hsl6 hslm
            go_wp2_with fail
            refine wp_region_noPanic ?_
            refine wp_region_held_drew (S := fun w' => w'.cell? ⟨g7, j, none⟩ = some (.slice ya7 SN yc7) ∧ w'.cell? ⟨g8, j, none⟩ = some (.slice ya8 SN yc8)) (by kernel_rfl) ⟨q7, q8⟩ (fun hHeld => ?_)
            refine wpAnyH_take (i := 0) (oi := _) (v := ?_) rfl (by kernel_rfl) (by kernel_rfl) (by kernel_rfl) (fun _ _ _ h => h) (Or.inl ⟨by rfl, ?_⟩) (by assumption) ?_
            rotate_left 1
            · (intro w hSw; (try dsimp only at hSw); (first | (go_simp; done) | (go_simp; with_reducible rfl)))
            try simp only [Act.put, List.getElem_toArray, List.getElem_cons_zero, List.getElem_cons_succ, List.setIfInBounds_toArray, List.set_cons_zero, List.set_cons_succ]
            refine wpAnyH_take (i := 1) (oi := _) (v := ?_) rfl (by kernel_rfl) (by kernel_rfl) (by kernel_rfl) (fun _ _ _ h => h) (Or.inl ⟨by rfl, ?_⟩) (by assumption) ?_
            rotate_left 1
            · (intro w hSw; (try dsimp only at hSw); (first | (go_simp; done) | (go_simp; with_reducible rfl)))
            try simp only [Act.put, List.getElem_toArray, List.getElem_cons_zero, List.getElem_cons_succ, List.setIfInBounds_toArray, List.set_cons_zero, List.set_cons_succ]
            refine wpAnyH_take (i := 2) (oi := _) (v := ?_) rfl (by kernel_rfl) (by kernel_rfl) (by kernel_rfl) (fun _ _ _ h => h) (Or.inl ⟨by rfl, ?_⟩) (by assumption) ?_
            rotate_left 1
            · (intro w hSw; (try dsimp only at hSw); (first | (go_simp; done) | (go_simp; with_reducible rfl)))
            try simp only [Act.put, List.getElem_toArray, List.getElem_cons_zero, List.getElem_cons_succ, List.setIfInBounds_toArray, List.set_cons_zero, List.set_cons_succ]
            refine wpAnyH_take (i := 3) (oi := _) (v := ?_) rfl (by kernel_rfl) (by kernel_rfl) (by kernel_rfl) (fun _ _ _ h => h) (Or.inl ⟨by rfl, ?_⟩) (by assumption) ?_
            rotate_left 1
            · (intro w hSw; (try dsimp only at hSw); (first | (go_simp; done) | (go_simp; with_reducible rfl)))
            try simp only [Act.put, List.getElem_toArray, List.getElem_cons_zero, List.getElem_cons_succ, List.setIfInBounds_toArray, List.set_cons_zero, List.set_cons_succ]
            refine wpAnyH_take (i := 4) (oi := _) (v := ?_) rfl (by kernel_rfl) (by kernel_rfl) (by kernel_rfl) (fun _ _ _ h => h) (Or.inl ⟨by rfl, ?_⟩) (by assumption) ?_
            rotate_left 1
            · (intro w hSw; (try dsimp only at hSw); (first | (go_simp; done) | (go_simp; with_reducible rfl)))
            try simp only [Act.put, List.getElem_toArray, List.getElem_cons_zero, List.getElem_cons_succ, List.setIfInBounds_toArray, List.set_cons_zero, List.set_cons_succ]
            refine wpAnyH_take (i := 5) (oi := _) (v := ?_) rfl (by kernel_rfl) (by kernel_rfl) (by kernel_rfl) (fun _ _ _ h => h) (Or.inl ⟨by rfl, ?_⟩) (by assumption) ?_
            rotate_left 1
            · (intro w hSw; (try dsimp only at hSw); (first | (go_simp; done) | (go_simp; with_reducible rfl)))
            try simp only [Act.put, List.getElem_toArray, List.getElem_cons_zero, List.getElem_cons_succ, List.setIfInBounds_toArray, List.set_cons_zero, List.set_cons_succ]
            refine wpAnyH_take (i := 6) (oi := _) (v := ?_) rfl (by kernel_rfl) (by kernel_rfl) (by kernel_rfl) (fun _ _ _ h => h) (Or.inl ⟨by rfl, ?_⟩) (by assumption) ?_
            rotate_left 1
            · (intro w hSw; (try dsimp only at hSw); (first | (go_simp; done) | (go_simp; with_reducible rfl)))
            try simp only [Act.put, List.getElem_toArray, List.getElem_cons_zero, List.getElem_cons_succ, List.setIfInBounds_toArray, List.set_cons_zero, List.set_cons_succ]
            refine wpAnyH_take (i := 7) (oi := _) (v := ?_) rfl (by kernel_rfl) (by kernel_rfl) (by kernel_rfl) (fun _ _ _ h => h) (Or.inl ⟨by rfl, ?_⟩) (by assumption) ?_
            rotate_left 1
            · (intro w hSw; (try dsimp only at hSw); (first | (go_simp; done) | (go_simp; with_reducible rfl)))
            try simp only [Act.put, List.getElem_toArray, List.getElem_cons_zero, List.getElem_cons_succ, List.setIfInBounds_toArray, List.set_cons_zero, List.set_cons_succ]
            rw [← Hwd.out]
            refine wpAnyH_ready (rs := [8]) (by kernel_rfl) (by simp) ?_
            refine AllReadyH.cons (o := _) rfl (fun K hK => ?_) AllReadyH.nil
            go_simp
            (with_reducible refine Calls.mono HSa.out ?_)
            rintro e x1 ⟨rfl, hb⟩
            have HX1 := hide (HBd.out.trans (hb.mono HBd.out.size))
            have m7 := (HX1.out.cell (p := ⟨g7, j, none⟩) hg7).trans q7
            have m8 := (HX1.out.cell (p := ⟨g8, j, none⟩) hg8).trans q8
            clear hb HSa
            (try go_wp2_with fail)
            refine hK.out _ _ ⟨m7, m8⟩ (fun hHeld => ?_)
            clear hK K
            try simp only [Act.put, List.getElem_toArray, List.getElem_cons_zero, List.getElem_cons_succ, List.setIfInBounds_toArray, List.set_cons_zero, List.set_cons_succ]
            refine wpAnyH_take (i := 9) (oi := _) (v := ?_) rfl (by kernel_rfl) (by kernel_rfl) (by kernel_rfl) (fun _ _ _ h => h) (Or.inl ⟨by rfl, ?_⟩) (by assumption) ?_
            rotate_left 1
            · (intro w hSw; (try dsimp only at hSw); (first | (go_simp; done) | (go_simp; with_reducible rfl)))
            try simp only [Act.put, List.getElem_toArray, List.getElem_cons_zero, List.getElem_cons_succ, List.setIfInBounds_toArray, List.set_cons_zero, List.set_cons_succ]
            refine wpAnyH_done (by kernel_rfl) ?_ _
            refine NoPanic.normal ?_
            clear q7 q8 m7 m8
            go_wp2_with fail
            exact ⟨⟨j + 1, by omega, by go_num, HBr.out.trans (HX1.out.mono HBr.out.size)⟩, by simp [intOf]; omega⟩
          · obtain rfl : j = M6 := by omega
            have HBn := hide (HBu3.out.trans (HBr.out.mono HBu3.out.size))
            have HNm := hide (normCR _ l6 wr Hl6.out (HR6.out.below HBr.out))
            go_wp2_with fail
            refine Calls.mono HNm.out ?_
            rintro e u9 ⟨rfl, hb⟩
            have HBu9 := hide (HBn.out.trans (hb.mono HBn.out.size))
            have hfin : Fs = true → goodT l6 = true ∧ nrmT (treeT l6) = decide (j = 0) := fun h => by
              have h1 := HFs.out
              rw [h] at h1
              obtain ⟨L, hL⟩ := Option.isSome_iff_exists.1 h1.symm
              have h2 := st_norm hL
              have h3 := HL6.out
              rw [hL] at h3
              have h4 : L6 = L := h3
              rw [HM6.out, h4]
              exact h2
            obtain ⟨NB, hNB⟩ : ∃ NB, NB = nrmT (treeT l6) := ⟨_, rfl⟩
            obtain ⟨GB, hGB⟩ : ∃ GB, GB = goodT l6 := ⟨_, rfl⟩
            rw [← hNB, ← hGB] at hfin ⊢
            have Hfin := hide hfin
            clear hb HNm hNB hGB hfin
            cases Fs with
            | false =>
              go_wp2_with fail
              go_ret
              exact ⟨rfl, HBu9.out⟩
            | true =>
              obtain ⟨h1, h2⟩ := Hfin.out rfl
              subst h1
              by_cases hz : j = 0
              · have h3 : NB = true := by rw [h2]; simp [hz]
                have h4 : ((j : Int) == 0) = true := by simp; omega
                subst h3
                clear h2 hz
                go_wp2_with fail
                go_ret
                exact ⟨ret_bool (by simp [h4] <;> omega), HBu9.out⟩
              · have h3 : NB = false := by rw [h2]; simp [hz]
                have h4 : ((j : Int) == 0) = false := by simp; omega
                subst h3
                clear h2
                go_wp2_with fail
                go_ret
                exact ⟨ret_bool (by simp [h4] <;> omega), HBu9.out⟩
      | true =>
        have HSo : Hid (stR l1 = some L1) := hide (by
          obtain ⟨L, hL⟩ := Option.isSome_iff_exists.1 HF1.out.symm
          have h3 := HL1.out
          rw [hL] at h3 ⊢
          rw [h3]; rfl)
        go_wp2_with fail
        go_loopw [141] (fun i w' => ∃ j : Nat, j ≤ M1 ∧ i = .int .i64 j ∧ Below y3.heap.size y3 w') (fun i _ => M1 - (intOf i).toNat)
        case atStart => exact ⟨0, by omega, rfl, Below.refl _ _⟩
        case round =>
          obtain ⟨j, hj, rfl, hBr⟩ := hrel
          have HBr := hide hBr
          clear hBr
          by_cases hlt : j < M1
          · have hlt' : (j : Int) < (M1 : Int) := by omega
            have hj0 : (0 : Int) ≤ (j : Int) := by omega
            obtain ⟨sl, hsl, hslm⟩ : ∃ sl, L1[j]? = some sl ∧ sl ∈ L1 := by
              have h2 : j < L1.length := by rw [← HM1.out]; exact hlt
              exact ⟨_, List.getElem?_eq_getElem h2, List.getElem_mem h2⟩
            obtain ⟨c5, d5, e5, f5⟩ := HQ5.out.below HBr.out
            simp only [Value.slice.injEq] at e5
            obtain ⟨rfl, -, rfl⟩ := e5
            obtain ⟨g5, rfl, hg5, k5⟩ := f5 (by rw [← HM1.out]; omega)
            obtain ⟨x5, cx5, rx5⟩ := k5 j sl hsl
            have hsl6 : sl.length ≤ 1048576 := by have := HSt1.out sl hslm; omega
            have HLe := hide (leadsCR _ _ l1 sl wr Hl1.out hsl6 (HR1.out.below HBr.out) rx5)
            obtain ⟨ya5, yc5, hy5⟩ := rx5.form
            obtain ⟨SN, hSN⟩ : ∃ SN, SN = sl.length := ⟨_, rfl⟩
            rw [← hSN] at hy5
            subst hy5
            obtain ⟨Os, hOs⟩ : ∃ O, O = leO l1 sl := ⟨_, rfl⟩
            obtain ⟨Rs, hRs⟩ : ∃ R, R = leR l1 sl := ⟨_, rfl⟩
            rw [← hOs, ← hRs] at HLe
            have HIs : Hid (Os = true → Rs = true) := hide (fun h => by rw [hRs]; exact le_step HSo.out hslm (by rw [← hOs]; exact h))
            clear hOs hRs k5 f5 rx5 hsl hSN hsl6 hslm
            go_wp2_with fail
            refine Calls.mono HLe.out ?_
            rintro e x1 ⟨rfl, hb⟩
            have HX1 := hide (HBr.out.trans (hb.mono HBr.out.size))
            clear hb HLe cx5
            cases Os with
            | false =>
              go_wp2_with fail
              exact ⟨⟨j + 1, by omega, by go_num, HX1.out⟩, by simp [intOf]; omega⟩
            | true =>
              have hrs := HIs.out rfl
              subst hrs
              go_wp2_with fail
              exact ⟨⟨j + 1, by omega, by go_num, HX1.out⟩, by simp [intOf]; omega⟩
          · obtain rfl : j = M1 := by omega
            have HBw9 := hide (HBy3.out.trans (HBr.out.mono HBy3.out.size))
            obtain ⟨w9, hw9⟩ : ∃ w9, w9 = wr := ⟨_, rfl⟩
            subst hw9
            clear HBr
            go_wp2_with fail
            refine Calls.mono (drawSteps_any nb pb cb w9 Hnb.out (HBy.out.below HBw9.out)) ?_
            rintro e u1 ⟨v6, l6, rfl, hl6, hr6, hb⟩
            have HBu1 := hide (HBw9.out.trans (hb.mono HBw9.out.size))
            have Hl6 := hide hl6
            clear hb hl6
            obtain ⟨a6, p6, hf6⟩ := hr6.form
            obtain ⟨N6, hN6⟩ : ∃ N, N = l6.length := ⟨_, rfl⟩
            rw [← hN6] at hf6
            subst hf6
            have HR6 := hide hr6
            clear hr6 hN6
            go_wp2_with fail
            refine Calls.mono (stepsCR _ l6 u1 Hl6.out HR6.out) ?_
            rintro e u2 ⟨s7, rfl, hq7, hb⟩
            have HBu2 := hide (HBu1.out.trans (hb.mono HBu1.out.size))
            have HR6 := hide (HR6.out.below hb)
            clear hb
            obtain ⟨L6, hL6⟩ : ∃ L, L = (stR l6).getD [] := ⟨_, rfl⟩
            have hst := stR_len l6
            rw [← hL6] at hst hq7
            obtain ⟨a7, p7, hf7⟩ := hq7.form
            obtain ⟨M6, hM6⟩ : ∃ M, M = L6.length := ⟨_, rfl⟩
            rw [← hM6] at hf7
            subst hf7
            have HQ7 := hide hq7
            have HL6 := hide hL6
            have HM6 := hide hM6
            have hM600 : M6 ≤ 600 := by rw [hM6]; exact hst.1
            have HSt := hide hst.2
            obtain ⟨Fs, hFs⟩ : ∃ F, F = (stR l6).isSome := ⟨_, rfl⟩
            rw [← hFs]
            have HFs := hide hFs
            clear hq7 hst hL6 hM6 hFs
            go_wp2_with fail
            refine Calls.mono (specSCR _ l6 u2 Hl6.out HR6.out) ?_
            rintro e u3 ⟨s8, rfl, hq8, hb⟩
            have HBu3 := hide (HBu2.out.trans (hb.mono HBu2.out.size))
            have HR6 := hide (HR6.out.below hb)
            have HQ7 := hide (HQ7.out.below hb)
            clear hb
            have hl6e := HL6.out
            rw [← hl6e] at hq8
            obtain ⟨a8, p8, hf8⟩ := hq8.form
            have hm6e := HM6.out
            rw [← hm6e] at hf8
            subst hf8
            have HQ8 := hide hq8
            have hfse := HFs.out
            rw [← hfse]
            clear hq8 hl6e hm6e hfse
            go_wp2_with fail
            go_loopw [181] (fun i w' => ∃ j : Nat, j ≤ M6 ∧ i = .int .i64 j ∧ Below u3.heap.size u3 w') (fun i _ => M6 - (intOf i).toNat)
            case atStart => exact ⟨0, by omega, rfl, Below.refl _ _⟩
            case round =>
              obtain ⟨j, hj, rfl, hBr⟩ := hrel
              have HBr := hide hBr
              clear hBr
              by_cases hlt : j < M6
              · have hlt' : (j : Int) < (M6 : Int) := by omega
                have hj0 : (0 : Int) ≤ (j : Int) := by omega
                obtain ⟨sl, hsl, hslm⟩ : ∃ sl, L6[j]? = some sl ∧ sl ∈ L6 := by
                  have h2 : j < L6.length := by rw [← HM6.out]; exact hlt
                  exact ⟨_, List.getElem?_eq_getElem h2, List.getElem_mem h2⟩
                obtain ⟨c7, d7, e7, f7⟩ := HQ7.out.below HBr.out
                simp only [Value.slice.injEq] at e7
                obtain ⟨rfl, -, rfl⟩ := e7
                obtain ⟨g7, rfl, hg7, k7⟩ := f7 (by rw [← HM6.out]; omega)
                obtain ⟨x7, cx7, rx7⟩ := k7 j sl hsl
                obtain ⟨c8, d8, e8, f8⟩ := HQ8.out.below HBr.out
                simp only [Value.slice.injEq] at e8
                obtain ⟨rfl, -, rfl⟩ := e8
                obtain ⟨g8, rfl, hg8, k8⟩ := f8 (by rw [← HM6.out]; omega)
                obtain ⟨x8, cx8, rx8⟩ := k8 j sl hsl
                have hsl6 : sl.length ≤ 1048576 := by have := HSt.out sl hslm; omega
                obtain ⟨ya7, yc7, hy7⟩ := rx7.form
                obtain ⟨ya8, yc8, hy8⟩ := rx8.form
                obtain ⟨SN, hSN⟩ : ∃ SN, SN = sl.length := ⟨_, rfl⟩
                rw [← hSN] at hy7 hy8
                subst hy7 hy8
                obtain ⟨wd, hwd⟩ : ∃ wd, wd = wr.drew := ⟨_, rfl⟩
                have hbd : Below wr.heap.size wr wd := by rw [hwd]; exact ⟨rfl, rfl, rfl, Nat.le_refl _, fun _ _ => rfl⟩
                have HSa := hide (sameCR _ _ sl sl wd hsl6 hsl6 (rx7.below hbd) (rx8.below hbd) rfl)
                have HBd := hide hbd
                have q7 := cx7
                have q8 := cx8
                have Hwd := hide hwd
                have hg7' := hg7
                have hg8' := hg8
                clear hwd hbd k7 k8 f7 f8 rx7 rx8 hsl hSN cx7 cx8 hsl6 hslm
                go_wp2_with fail
                refine wp_region_noPanic ?_
                refine wp_region_held_drew (S := fun w' => w'.cell? ⟨g7, j, none⟩ = some (.slice ya7 SN yc7) ∧ w'.cell? ⟨g8, j, none⟩ = some (.slice ya8 SN yc8)) (by kernel_rfl) ⟨q7, q8⟩ (fun hHeld => ?_)
                refine wpAnyH_take (i := 0) (oi := _) (v := ?_) rfl (by kernel_rfl) (by kernel_rfl) (by kernel_rfl) (fun _ _ _ h => h) (Or.inl ⟨by rfl, ?_⟩) (by assumption) ?_
                rotate_left 1
                · (intro w hSw; (try dsimp only at hSw); (first | (go_simp; done) | (go_simp; with_reducible rfl)))
                try simp only [Act.put, List.getElem_toArray, List.getElem_cons_zero, List.getElem_cons_succ, List.setIfInBounds_toArray, List.set_cons_zero, List.set_cons_succ]
                refine wpAnyH_take (i := 1) (oi := _) (v := ?_) rfl (by kernel_rfl) (by kernel_rfl) (by kernel_rfl) (fun _ _ _ h => h) (Or.inl ⟨by rfl, ?_⟩) (by assumption) ?_
                rotate_left 1
                · (intro w hSw; (try dsimp only at hSw); (first | (go_simp; done) | (go_simp; with_reducible rfl)))
                try simp only [Act.put, List.getElem_toArray, List.getElem_cons_zero, List.getElem_cons_succ, List.setIfInBounds_toArray, List.set_cons_zero, List.set_cons_succ]
                refine wpAnyH_take (i := 2) (oi := _) (v := ?_) rfl (by kernel_rfl) (by kernel_rfl) (by kernel_rfl) (fun _ _ _ h => h) (Or.inl ⟨by rfl, ?_⟩) (by assumption) ?_
                rotate_left 1
                · (intro w hSw; (try dsimp only at hSw); (first | (go_simp; done) | (go_simp; with_reducible rfl)))
                try simp only [Act.put, List.getElem_toArray, List.getElem_cons_zero, List.getElem_cons_succ, List.setIfInBounds_toArray, List.set_cons_zero, List.set_cons_succ]
                refine wpAnyH_take (i := 3) (oi := _) (v := ?_) rfl (by kernel_rfl) (by kernel_rfl) (by kernel_rfl) (fun _ _ _ h => h) (Or.inl ⟨by rfl, ?_⟩) (by assumption) ?_
                rotate_left 1
                · (intro w hSw; (try dsimp only at hSw); (first | (go_simp; done) | (go_simp; with_reducible rfl)))
                try simp only [Act.put, List.getElem_toArray, List.getElem_cons_zero, List.getElem_cons_succ, List.setIfInBounds_toArray, List.set_cons_zero, List.set_cons_succ]
                refine wpAnyH_take (i := 4) (oi := _) (v := ?_) rfl (by kernel_rfl) (by kernel_rfl) (by kernel_rfl) (fun _ _ _ h => h) (Or.inl ⟨by rfl, ?_⟩) (by assumption) ?_
                rotate_left 1
                · (intro w hSw; (try dsimp only at hSw); (first | (go_simp; done) | (go_simp; with_reducible rfl)))
                try simp only [Act.put, List.getElem_toArray, List.getElem_cons_zero, List.getElem_cons_succ, List.setIfInBounds_toArray, List.set_cons_zero, List.set_cons_succ]
                refine wpAnyH_take (i := 5) (oi := _) (v := ?_) rfl (by kernel_rfl) (by kernel_rfl) (by kernel_rfl) (fun _ _ _ h => h) (Or.inl ⟨by rfl, ?_⟩) (by assumption) ?_
                rotate_left 1
                · (intro w hSw; (try dsimp only at hSw); (first | (go_simp; done) | (go_simp; with_reducible rfl)))
                try simp only [Act.put, List.getElem_toArray, List.getElem_cons_zero, List.getElem_cons_succ, List.setIfInBounds_toArray, List.set_cons_zero, List.set_cons_succ]
                refine wpAnyH_take (i := 6) (oi := _) (v := ?_) rfl (by kernel_rfl) (by kernel_rfl) (by kernel_rfl) (fun _ _ _ h => h) (Or.inl ⟨by rfl, ?_⟩) (by assumption) ?_
                rotate_left 1
                · (intro w hSw; (try dsimp only at hSw); (first | (go_simp; done) | (go_simp; with_reducible rfl)))
                try simp only [Act.put, List.getElem_toArray, List.getElem_cons_zero, List.getElem_cons_succ, List.setIfInBounds_toArray, List.set_cons_zero, List.set_cons_succ]
                refine wpAnyH_take (i := 7) (oi := _) (v := ?_) rfl (by kernel_rfl) (by kernel_rfl) (by kernel_rfl) (fun _ _ _ h => h) (Or.inl ⟨by rfl, ?_⟩) (by assumption) ?_
                rotate_left 1
                · (intro w hSw; (try dsimp only at hSw); (first | (go_simp; done) | (go_simp; with_reducible rfl)))
                try simp only [Act.put, List.getElem_toArray, List.getElem_cons_zero, List.getElem_cons_succ, List.setIfInBounds_toArray, List.set_cons_zero, List.set_cons_succ]
                rw [← Hwd.out]
                refine wpAnyH_ready (rs := [8]) (by kernel_rfl) (by simp) ?_
                refine AllReadyH.cons (o := _) rfl (fun K hK => ?_) AllReadyH.nil
                go_simp
                (with_reducible refine Calls.mono HSa.out ?_)
                rintro e x1 ⟨rfl, hb⟩
                have HX1 := hide (HBd.out.trans (hb.mono HBd.out.size))
                have m7 := (HX1.out.cell (p := ⟨g7, j, none⟩) hg7).trans q7
                have m8 := (HX1.out.cell (p := ⟨g8, j, none⟩) hg8).trans q8
                clear hb HSa
                (try go_wp2_with fail)
                refine hK.out _ _ ⟨m7, m8⟩ (fun hHeld => ?_)
                clear hK K
                try simp only [Act.put, List.getElem_toArray, List.getElem_cons_zero, List.getElem_cons_succ, List.setIfInBounds_toArray, List.set_cons_zero, List.set_cons_succ]
                refine wpAnyH_take (i := 9) (oi := _) (v := ?_) rfl (by kernel_rfl) (by kernel_rfl) (by kernel_rfl) (fun _ _ _ h => h) (Or.inl ⟨by rfl, ?_⟩) (by assumption) ?_
                rotate_left 1
                · (intro w hSw; (try dsimp only at hSw); (first | (go_simp; done) | (go_simp; with_reducible rfl)))
                try simp only [Act.put, List.getElem_toArray, List.getElem_cons_zero, List.getElem_cons_succ, List.setIfInBounds_toArray, List.set_cons_zero, List.set_cons_succ]
                refine wpAnyH_done (by kernel_rfl) ?_ _
                refine NoPanic.normal ?_
                clear q7 q8 m7 m8
                go_wp2_with fail
                exact ⟨⟨j + 1, by omega, by go_num, HBr.out.trans (HX1.out.mono HBr.out.size)⟩, by simp [intOf]; omega⟩
              · obtain rfl : j = M6 := by omega
                have HBn := hide (HBu3.out.trans (HBr.out.mono HBu3.out.size))
                have HNm := hide (normCR _ l6 wr Hl6.out (HR6.out.below HBr.out))
                go_wp2_with fail
                refine Calls.mono HNm.out ?_
                rintro e u9 ⟨rfl, hb⟩
                have HBu9 := hide (HBn.out.trans (hb.mono HBn.out.size))
                have hfin : Fs = true → goodT l6 = true ∧ nrmT (treeT l6) = decide (j = 0) := fun h => by
                  have h1 := HFs.out
                  rw [h] at h1
                  obtain ⟨L, hL⟩ := Option.isSome_iff_exists.1 h1.symm
                  have h2 := st_norm hL
                  have h3 := HL6.out
                  rw [hL] at h3
                  have h4 : L6 = L := h3
                  rw [HM6.out, h4]
                  exact h2
                obtain ⟨NB, hNB⟩ : ∃ NB, NB = nrmT (treeT l6) := ⟨_, rfl⟩
                obtain ⟨GB, hGB⟩ : ∃ GB, GB = goodT l6 := ⟨_, rfl⟩
                rw [← hNB, ← hGB] at hfin ⊢
                have Hfin := hide hfin
                clear hb HNm hNB hGB hfin
                cases Fs with
                | false =>
                  go_wp2_with fail
                  go_ret
                  exact ⟨rfl, HBu9.out⟩
                | true =>
                  obtain ⟨h1, h2⟩ := Hfin.out rfl
                  subst h1
                  by_cases hz : j = 0
                  · have h3 : NB = true := by rw [h2]; simp [hz]
                    have h4 : ((j : Int) == 0) = true := by simp; omega
                    subst h3
                    clear h2 hz
                    go_wp2_with fail
                    go_ret
                    exact ⟨ret_bool (by simp [h4] <;> omega), HBu9.out⟩
                  · have h3 : NB = false := by rw [h2]; simp [hz]
                    have h4 : ((j : Int) == 0) = false := by simp; omega
                    subst h3
                    clear h2
                    go_wp2_with fail
                    go_ret
                    exact ⟨ret_bool (by simp [h4] <;> omega), HBu9.out⟩
  · go_wp2_with fail
    refine Calls.mono (leadsCR _ _ l2 l3 w6 Hl2.out Hl3.out HR2.out HR3.out) ?_
    rintro e z1 ⟨rfl, hb⟩
    have HBz1 := hide (HBw6.out.trans (hb.mono HBw6.out.size))
    have HR1 := hide (HR1.out.below hb)
    have HR2 := hide (HR2.out.below hb)
    have HR3 := hide (HR3.out.below hb)
    clear hb
    obtain ⟨O23, hO23⟩ : ∃ O, O = leO l2 l3 := ⟨_, rfl⟩
    obtain ⟨R23, hR23⟩ : ∃ R, R = leR l2 l3 := ⟨_, rfl⟩
    rw [← hO23, ← hR23]
    have HI23 : Hid (O23 = true → R23 = true) := hide (fun h => by
      rw [hR23, HE3.out]
      exact meets HRr12.out.symm HBv.out.symm (by rw [← HE3.out, ← hO23]; exact h))
    clear hO23 hR23
    go_upto_region 12 with fail
    go_cut [104] from 100 to 104 (fun v wx => v = .bool false ∧ wx = z1)
    case first =>
      cases O23 with
      | false =>
        go_wp2_with fail
        go_meet
        exact ⟨rfl, rfl⟩
      | true =>
        have h23 := HI23.out rfl
        subst h23
        go_wp2_with fail
        go_meet
        exact ⟨rfl, rfl⟩
    case rest =>
      obtain ⟨rfl, hw⟩ := hcut
      obtain rfl := hw.symm
      go_wp2_with fail
      refine Calls.mono (leadsCR _ _ l1 l1 z1 Hl1.out Hl1.out HR1.out HR1.out) ?_
      rintro e y1 ⟨rfl, hb⟩
      have HBy1 := hide (HBz1.out.trans (hb.mono HBz1.out.size))
      have HR1 := hide (HR1.out.below hb)
      have HR2 := hide (HR2.out.below hb)
      have HR3 := hide (HR3.out.below hb)
      clear hb
      obtain ⟨O11, hO11⟩ : ∃ O, O = leO l1 l1 := ⟨_, rfl⟩
      obtain ⟨R11, hR11⟩ : ∃ R, R = leR l1 l1 := ⟨_, rfl⟩
      rw [← hO11, ← hR11]
      have HI11 : Hid (O11 = true → R11 = true) := hide (fun h => by rw [hR11]; exact le_self (by rw [← hO11]; exact h))
      clear hO11 hR11
      go_wp2_with fail
      refine Calls.mono (leadsCR _ _ l1 l3 y1 Hl1.out Hl3.out HR1.out HR3.out) ?_
      rintro e y2 ⟨rfl, hb⟩
      have HBy2 := hide (HBy1.out.trans (hb.mono HBy1.out.size))
      have HR1 := hide (HR1.out.below hb)
      have HR2 := hide (HR2.out.below hb)
      have HR3 := hide (HR3.out.below hb)
      clear hb
      obtain ⟨O13, hO13⟩ : ∃ O, O = leO l1 l3 := ⟨_, rfl⟩
      obtain ⟨R13, hR13⟩ : ∃ R, R = leR l1 l3 := ⟨_, rfl⟩
      rw [← hO13, ← hR13]
      have HI13 : Hid (O13 = true → R13 = true) := hide (fun h => by rw [hR13, HE3.out]; exact le_dev HBv.out.symm (by rw [← HE3.out, ← hO13]; exact h))
      clear hO13 hR13
      go_upto_region 17 with fail
      go_cut [132] from 121 to 132 (fun v wx => v = .bool false ∧ wx = y2)
      case first =>
        cases O11 with
        | false =>
          cases O13 with
          | false =>
            go_wp2_with fail
            go_meet
            exact ⟨rfl, rfl⟩
          | true =>
            have h13 := HI13.out rfl
            subst h13
            go_wp2_with fail
            go_meet
            exact ⟨rfl, rfl⟩
        | true =>
          have h11 := HI11.out rfl
          subst h11
          cases O13 with
          | false =>
            go_wp2_with fail
            go_meet
            exact ⟨rfl, rfl⟩
          | true =>
            have h13 := HI13.out rfl
            subst h13
            go_wp2_with fail
            go_meet
            exact ⟨rfl, rfl⟩
      case rest =>
        obtain ⟨rfl, hw⟩ := hcut
        obtain rfl := hw.symm
        go_wp2_with fail
        refine Calls.mono (stepsCR _ l1 y2 Hl1.out HR1.out) ?_
        rintro e y3 ⟨s5, rfl, hq5, hb⟩
        have HBy3 := hide (HBy2.out.trans (hb.mono HBy2.out.size))
        have HR1 := hide (HR1.out.below hb)
        clear hb
        obtain ⟨L1, hL1⟩ : ∃ L, L = (stR l1).getD [] := ⟨_, rfl⟩
        have hst := stR_len l1
        rw [← hL1] at hst hq5
        obtain ⟨a5, p5, hf5⟩ := hq5.form
        obtain ⟨M1, hM1⟩ : ∃ M, M = L1.length := ⟨_, rfl⟩
        rw [← hM1] at hf5
        subst hf5
        have HQ5 := hide hq5
        have HL1 := hide hL1
        have HM1 := hide hM1
        have hM600 : M1 ≤ 600 := by rw [hM1]; exact hst.1
        have HSt1 := hide hst.2
        obtain ⟨F1, hF1⟩ : ∃ F, F = (stR l1).isSome := ⟨_, rfl⟩
        rw [← hF1]
        have HF1 := hide hF1
        clear hq5 hst hL1 hM1 hF1
        cases F1 with
        | false =>
          go_wp2_with fail
          refine Calls.mono (drawSteps_any nb pb cb y3 Hnb.out (HBy.out.below HBy3.out)) ?_
          rintro e u1 ⟨v6, l6, rfl, hl6, hr6, hb⟩
          have HBu1 := hide (HBy3.out.trans (hb.mono HBy3.out.size))
          have Hl6 := hide hl6
          clear hb hl6
          obtain ⟨a6, p6, hf6⟩ := hr6.form
          obtain ⟨N6, hN6⟩ : ∃ N, N = l6.length := ⟨_, rfl⟩
          rw [← hN6] at hf6
          subst hf6
          have HR6 := hide hr6
          clear hr6 hN6
          go_wp2_with fail
          refine Calls.mono (stepsCR _ l6 u1 Hl6.out HR6.out) ?_
          rintro e u2 ⟨s7, rfl, hq7, hb⟩
          have HBu2 := hide (HBu1.out.trans (hb.mono HBu1.out.size))
          have HR6 := hide (HR6.out.below hb)
          clear hb
          obtain ⟨L6, hL6⟩ : ∃ L, L = (stR l6).getD [] := ⟨_, rfl⟩
          have hst := stR_len l6
          rw [← hL6] at hst hq7
          obtain ⟨a7, p7, hf7⟩ := hq7.form
          obtain ⟨M6, hM6⟩ : ∃ M, M = L6.length := ⟨_, rfl⟩
          rw [← hM6] at hf7
          subst hf7
          have HQ7 := hide hq7
          have HL6 := hide hL6
          have HM6 := hide hM6
          have hM600 : M6 ≤ 600 := by rw [hM6]; exact hst.1
          have HSt := hide hst.2
          obtain ⟨Fs, hFs⟩ : ∃ F, F = (stR l6).isSome := ⟨_, rfl⟩
          rw [← hFs]
          have HFs := hide hFs
          clear hq7 hst hL6 hM6 hFs
          go_wp2_with fail
          refine Calls.mono (specSCR _ l6 u2 Hl6.out HR6.out) ?_
          rintro e u3 ⟨s8, rfl, hq8, hb⟩
          have HBu3 := hide (HBu2.out.trans (hb.mono HBu2.out.size))
          have HR6 := hide (HR6.out.below hb)
          have HQ7 := hide (HQ7.out.below hb)
          clear hb
          have hl6e := HL6.out
          rw [← hl6e] at hq8
          obtain ⟨a8, p8, hf8⟩ := hq8.form
          have hm6e := HM6.out
          rw [← hm6e] at hf8
          subst hf8
          have HQ8 := hide hq8
          have hfse := HFs.out
          rw [← hfse]
          clear hq8 hl6e hm6e hfse
          go_wp2_with fail
          go_loopw [181] (fun i w' => ∃ j : Nat, j ≤ M6 ∧ i = .int .i64 j ∧ Below u3.heap.size u3 w') (fun i _ => M6 - (intOf i).toNat)
          case atStart => exact ⟨0, by omega, rfl, Below.refl _ _⟩
          case round =>
            obtain ⟨j, hj, rfl, hBr⟩ := hrel
            have HBr := hide hBr
            clear hBr
            by_cases hlt : j < M6
            · have hlt' : (j : Int) < (M6 : Int) := by omega
              have hj0 : (0 : Int) ≤ (j : Int) := by omega
              obtain ⟨sl, hsl, hslm⟩ : ∃ sl, L6[j]? = some sl ∧ sl ∈ L6 := by
                have h2 : j < L6.length := by rw [← HM6.out]; exact hlt
                exact ⟨_, List.getElem?_eq_getElem h2, List.getElem_mem h2⟩
              obtain ⟨c7, d7, e7, f7⟩ := HQ7.out.below HBr.out
              simp only [Value.slice.injEq] at e7
              obtain ⟨rfl, -, rfl⟩ := e7
              obtain ⟨g7, rfl, hg7, k7⟩ := f7 (by rw [← HM6.out]; omega)
              obtain ⟨x7, cx7, rx7⟩ := k7 j sl hsl
              obtain ⟨c8, d8, e8, f8⟩ := HQ8.out.below HBr.out
              simp only [Value.slice.injEq] at e8
              obtain ⟨rfl, -, rfl⟩ := e8
              obtain ⟨g8, rfl, hg8, k8⟩ := f8 (by rw [← HM6.out]; omega)
              obtain ⟨x8, cx8, rx8⟩ := k8 j sl hsl
              have hsl6 : sl.length ≤ 1048576 := by have := HSt.out sl hslm; omega
              obtain ⟨ya7, yc7, hy7⟩ := rx7.form
              obtain ⟨ya8, yc8, hy8⟩ := rx8.form
              obtain ⟨SN, hSN⟩ : ∃ SN, SN = sl.length := ⟨_, rfl⟩
              rw [← hSN] at hy7 hy8
              subst hy7 hy8
              obtain ⟨wd, hwd⟩ : ∃ wd, wd = wr.drew := ⟨_, rfl⟩
              have hbd : Below wr.heap.size wr wd := by rw [hwd]; exact ⟨rfl, rfl, rfl, Nat.le_refl _, fun _ _ => rfl⟩
              have HSa := hide (sameCR _ _ sl sl wd hsl6 hsl6 (rx7.below hbd) (rx8.below hbd) rfl)
              have HBd := hide hbd
              have q7 := cx7
              have q8 := cx8
              have Hwd := hide hwd
              have hg7' := hg7
              have hg8' := hg8
              clear hwd hbd k7 k8 f7 f8 rx7 rx8 hsl hSN cx7 cx8 hsl6 hslm
              go_wp2_with fail
              refine wp_region_noPanic ?_
              refine wp_region_held_drew (S := fun w' => w'.cell? ⟨g7, j, none⟩ = some (.slice ya7 SN yc7) ∧ w'.cell? ⟨g8, j, none⟩ = some (.slice ya8 SN yc8)) (by kernel_rfl) ⟨q7, q8⟩ (fun hHeld => ?_)
              refine wpAnyH_take (i := 0) (oi := _) (v := ?_) rfl (by kernel_rfl) (by kernel_rfl) (by kernel_rfl) (fun _ _ _ h => h) (Or.inl ⟨by rfl, ?_⟩) (by assumption) ?_
              rotate_left 1
              · (intro w hSw; (try dsimp only at hSw); (first | (go_simp; done) | (go_simp; with_reducible rfl)))
              try simp only [Act.put, List.getElem_toArray, List.getElem_cons_zero, List.getElem_cons_succ, List.setIfInBounds_toArray, List.set_cons_zero, List.set_cons_succ]
              refine wpAnyH_take (i := 1) (oi := _) (v := ?_) rfl (by kernel_rfl) (by kernel_rfl) (by kernel_rfl) (fun _ _ _ h => h) (Or.inl ⟨by rfl, ?_⟩) (by assumption) ?_
              rotate_left 1
              · (intro w hSw; (try dsimp only at hSw); (first | (go_simp; done) | (go_simp; with_reducible rfl)))
              try simp only [Act.put, List.getElem_toArray, List.getElem_cons_zero, List.getElem_cons_succ, List.setIfInBounds_toArray, List.set_cons_zero, List.set_cons_succ]
              refine wpAnyH_take (i := 2) (oi := _) (v := ?_) rfl (by kernel_rfl) (by kernel_rfl) (by kernel_rfl) (fun _ _ _ h => h) (Or.inl ⟨by rfl, ?_⟩) (by assumption) ?_
              rotate_left 1
              · (intro w hSw; (try dsimp only at hSw); (first | (go_simp; done) | (go_simp; with_reducible rfl)))
              try simp only [Act.put, List.getElem_toArray, List.getElem_cons_zero, List.getElem_cons_succ, List.setIfInBounds_toArray, List.set_cons_zero, List.set_cons_succ]
              refine wpAnyH_take (i := 3) (oi := _) (v := ?_) rfl (by kernel_rfl) (by kernel_rfl) (by kernel_rfl) (fun _ _ _ h => h) (Or.inl ⟨by rfl, ?_⟩) (by assumption) ?_
              rotate_left 1
              · (intro w hSw; (try dsimp only at hSw); (first | (go_simp; done) | (go_simp; with_reducible rfl)))
              try simp only [Act.put, List.getElem_toArray, List.getElem_cons_zero, List.getElem_cons_succ, List.setIfInBounds_toArray, List.set_cons_zero, List.set_cons_succ]
              refine wpAnyH_take (i := 4) (oi := _) (v := ?_) rfl (by kernel_rfl) (by kernel_rfl) (by kernel_rfl) (fun _ _ _ h => h) (Or.inl ⟨by rfl, ?_⟩) (by assumption) ?_
              rotate_left 1
              · (intro w hSw; (try dsimp only at hSw); (first | (go_simp; done) | (go_simp; with_reducible rfl)))
              try simp only [Act.put, List.getElem_toArray, List.getElem_cons_zero, List.getElem_cons_succ, List.setIfInBounds_toArray, List.set_cons_zero, List.set_cons_succ]
              refine wpAnyH_take (i := 5) (oi := _) (v := ?_) rfl (by kernel_rfl) (by kernel_rfl) (by kernel_rfl) (fun _ _ _ h => h) (Or.inl ⟨by rfl, ?_⟩) (by assumption) ?_
              rotate_left 1
              · (intro w hSw; (try dsimp only at hSw); (first | (go_simp; done) | (go_simp; with_reducible rfl)))
              try simp only [Act.put, List.getElem_toArray, List.getElem_cons_zero, List.getElem_cons_succ, List.setIfInBounds_toArray, List.set_cons_zero, List.set_cons_succ]
              refine wpAnyH_take (i := 6) (oi := _) (v := ?_) rfl (by kernel_rfl) (by kernel_rfl) (by kernel_rfl) (fun _ _ _ h => h) (Or.inl ⟨by rfl, ?_⟩) (by assumption) ?_
              rotate_left 1
              · (intro w hSw; (try dsimp only at hSw); (first | (go_simp; done) | (go_simp; with_reducible rfl)))
              try simp only [Act.put, List.getElem_toArray, List.getElem_cons_zero, List.getElem_cons_succ, List.setIfInBounds_toArray, List.set_cons_zero, List.set_cons_succ]
              refine wpAnyH_take (i := 7) (oi := _) (v := ?_) rfl (by kernel_rfl) (by kernel_rfl) (by kernel_rfl) (fun _ _ _ h => h) (Or.inl ⟨by rfl, ?_⟩) (by assumption) ?_
              rotate_left 1
              · (intro w hSw; (try dsimp only at hSw); (first | (go_simp; done) | (go_simp; with_reducible rfl)))
              try simp only [Act.put, List.getElem_toArray, List.getElem_cons_zero, List.getElem_cons_succ, List.setIfInBounds_toArray, List.set_cons_zero, List.set_cons_succ]
              rw [← Hwd.out]
              refine wpAnyH_ready (rs := [8]) (by kernel_rfl) (by simp) ?_
              refine AllReadyH.cons (o := _) rfl (fun K hK => ?_) AllReadyH.nil
              go_simp
              (with_reducible refine Calls.mono HSa.out ?_)
              rintro e x1 ⟨rfl, hb⟩
              have HX1 := hide (HBd.out.trans (hb.mono HBd.out.size))
              have m7 := (HX1.out.cell (p := ⟨g7, j, none⟩) hg7).trans q7
              have m8 := (HX1.out.cell (p := ⟨g8, j, none⟩) hg8).trans q8
              clear hb HSa
              (try go_wp2_with fail)
              refine hK.out _ _ ⟨m7, m8⟩ (fun hHeld => ?_)
              clear hK K
              try simp only [Act.put, List.getElem_toArray, List.getElem_cons_zero, List.getElem_cons_succ, List.setIfInBounds_toArray, List.set_cons_zero, List.set_cons_succ]
              refine wpAnyH_take (i := 9) (oi := _) (v := ?_) rfl (by kernel_rfl) (by kernel_rfl) (by kernel_rfl) (fun _ _ _ h => h) (Or.inl ⟨by rfl, ?_⟩) (by assumption) ?_
              rotate_left 1
              · (intro w hSw; (try dsimp only at hSw); (first | (go_simp; done) | (go_simp; with_reducible rfl)))
              try simp only [Act.put, List.getElem_toArray, List.getElem_cons_zero, List.getElem_cons_succ, List.setIfInBounds_toArray, List.set_cons_zero, List.set_cons_succ]
              refine wpAnyH_done (by kernel_rfl) ?_ _
              refine NoPanic.normal ?_
              clear q7 q8 m7 m8
              go_wp2_with fail
              exact ⟨⟨j + 1, by omega, by go_num, HBr.out.trans (HX1.out.mono HBr.out.size)⟩, by simp [intOf]; omega⟩
            · obtain rfl : j = M6 := by omega
              have HBn := hide (HBu3.out.trans (HBr.out.mono HBu3.out.size))
              have HNm := hide (normCR _ l6 wr Hl6.out (HR6.out.below HBr.out))
              go_wp2_with fail
              refine Calls.mono HNm.out ?_
              rintro e u9 ⟨rfl, hb⟩
              have HBu9 := hide (HBn.out.trans (hb.mono HBn.out.size))
              have hfin : Fs = true → goodT l6 = true ∧ nrmT (treeT l6) = decide (j = 0) := fun h => by
                have h1 := HFs.out
                rw [h] at h1
                obtain ⟨L, hL⟩ := Option.isSome_iff_exists.1 h1.symm
                have h2 := st_norm hL
                have h3 := HL6.out
                rw [hL] at h3
                have h4 : L6 = L := h3
                rw [HM6.out, h4]
                exact h2
              obtain ⟨NB, hNB⟩ : ∃ NB, NB = nrmT (treeT l6) := ⟨_, rfl⟩
              obtain ⟨GB, hGB⟩ : ∃ GB, GB = goodT l6 := ⟨_, rfl⟩
              rw [← hNB, ← hGB] at hfin ⊢
              have Hfin := hide hfin
              clear hb HNm hNB hGB hfin
              cases Fs with
              | false =>
                go_wp2_with fail
                go_ret
                exact ⟨rfl, HBu9.out⟩
              | true =>
                obtain ⟨h1, h2⟩ := Hfin.out rfl
                subst h1
                by_cases hz : j = 0
                · have h3 : NB = true := by rw [h2]; simp [hz]
                  have h4 : ((j : Int) == 0) = true := by simp; omega
                  subst h3
                  clear h2 hz
                  go_wp2_with fail
                  go_ret
                  exact ⟨ret_bool (by simp [h4] <;> omega), HBu9.out⟩
                · have h3 : NB = false := by rw [h2]; simp [hz]
                  have h4 : ((j : Int) == 0) = false := by simp; omega
                  subst h3
                  clear h2
                  go_wp2_with fail
                  go_ret
                  exact ⟨ret_bool (by simp [h4] <;> omega), HBu9.out⟩
        | true =>
          have HSo : Hid (stR l1 = some L1) := hide (by
            obtain ⟨L, hL⟩ := Option.isSome_iff_exists.1 HF1.out.symm
            have h3 := HL1.out
            rw [hL] at h3 ⊢
            rw [h3]; rfl)
          go_wp2_with fail
          go_loopw [141] (fun i w' => ∃ j : Nat, j ≤ M1 ∧ i = .int .i64 j ∧ Below y3.heap.size y3 w') (fun i _ => M1 - (intOf i).toNat)
          case atStart => exact ⟨0, by omega, rfl, Below.refl _ _⟩
          case round =>
            obtain ⟨j, hj, rfl, hBr⟩ := hrel
            have HBr := hide hBr
            clear hBr
            by_cases hlt : j < M1
            · have hlt' : (j : Int) < (M1 : Int) := by omega
              have hj0 : (0 : Int) ≤ (j : Int) := by omega
              obtain ⟨sl, hsl, hslm⟩ : ∃ sl, L1[j]? = some sl ∧ sl ∈ L1 := by
                have h2 : j < L1.length := by rw [← HM1.out]; exact hlt
                exact ⟨_, List.getElem?_eq_getElem h2, List.getElem_mem h2⟩
              obtain ⟨c5, d5, e5, f5⟩ := HQ5.out.below HBr.out
              simp only [Value.slice.injEq] at e5
              obtain ⟨rfl, -, rfl⟩ := e5
              obtain ⟨g5, rfl, hg5, k5⟩ := f5 (by rw [← HM1.out]; omega)
              obtain ⟨x5, cx5, rx5⟩ := k5 j sl hsl
              have hsl6 : sl.length ≤ 1048576 := by have := HSt1.out sl hslm; omega
              have HLe := hide (leadsCR _ _ l1 sl wr Hl1.out hsl6 (HR1.out.below HBr.out) rx5)
              obtain ⟨ya5, yc5, hy5⟩ := rx5.form
              obtain ⟨SN, hSN⟩ : ∃ SN, SN = sl.length := ⟨_, rfl⟩
              rw [← hSN] at hy5
              subst hy5
              obtain ⟨Os, hOs⟩ : ∃ O, O = leO l1 sl := ⟨_, rfl⟩
              obtain ⟨Rs, hRs⟩ : ∃ R, R = leR l1 sl := ⟨_, rfl⟩
              rw [← hOs, ← hRs] at HLe
              have HIs : Hid (Os = true → Rs = true) := hide (fun h => by rw [hRs]; exact le_step HSo.out hslm (by rw [← hOs]; exact h))
              clear hOs hRs k5 f5 rx5 hsl hSN hsl6 hslm
              go_wp2_with fail
              refine Calls.mono HLe.out ?_
              rintro e x1 ⟨rfl, hb⟩
              have HX1 := hide (HBr.out.trans (hb.mono HBr.out.size))
              clear hb HLe cx5
              cases Os with
              | false =>
                go_wp2_with fail
                exact ⟨⟨j + 1, by omega, by go_num, HX1.out⟩, by simp [intOf]; omega⟩
              | true =>
                have hrs := HIs.out rfl
                subst hrs
                go_wp2_with fail
                exact ⟨⟨j + 1, by omega, by go_num, HX1.out⟩, by simp [intOf]; omega⟩
            · obtain rfl : j = M1 := by omega
              have HBw9 := hide (HBy3.out.trans (HBr.out.mono HBy3.out.size))
              obtain ⟨w9, hw9⟩ : ∃ w9, w9 = wr := ⟨_, rfl⟩
              subst hw9
              clear HBr
              go_wp2_with fail
              refine Calls.mono (drawSteps_any nb pb cb w9 Hnb.out (HBy.out.below HBw9.out)) ?_
              rintro e u1 ⟨v6, l6, rfl, hl6, hr6, hb⟩
              have HBu1 := hide (HBw9.out.trans (hb.mono HBw9.out.size))
              have Hl6 := hide hl6
              clear hb hl6
              obtain ⟨a6, p6, hf6⟩ := hr6.form
              obtain ⟨N6, hN6⟩ : ∃ N, N = l6.length := ⟨_, rfl⟩
              rw [← hN6] at hf6
              subst hf6
              have HR6 := hide hr6
              clear hr6 hN6
              go_wp2_with fail
              refine Calls.mono (stepsCR _ l6 u1 Hl6.out HR6.out) ?_
              rintro e u2 ⟨s7, rfl, hq7, hb⟩
              have HBu2 := hide (HBu1.out.trans (hb.mono HBu1.out.size))
              have HR6 := hide (HR6.out.below hb)
              clear hb
              obtain ⟨L6, hL6⟩ : ∃ L, L = (stR l6).getD [] := ⟨_, rfl⟩
              have hst := stR_len l6
              rw [← hL6] at hst hq7
              obtain ⟨a7, p7, hf7⟩ := hq7.form
              obtain ⟨M6, hM6⟩ : ∃ M, M = L6.length := ⟨_, rfl⟩
              rw [← hM6] at hf7
              subst hf7
              have HQ7 := hide hq7
              have HL6 := hide hL6
              have HM6 := hide hM6
              have hM600 : M6 ≤ 600 := by rw [hM6]; exact hst.1
              have HSt := hide hst.2
              obtain ⟨Fs, hFs⟩ : ∃ F, F = (stR l6).isSome := ⟨_, rfl⟩
              rw [← hFs]
              have HFs := hide hFs
              clear hq7 hst hL6 hM6 hFs
              go_wp2_with fail
              refine Calls.mono (specSCR _ l6 u2 Hl6.out HR6.out) ?_
              rintro e u3 ⟨s8, rfl, hq8, hb⟩
              have HBu3 := hide (HBu2.out.trans (hb.mono HBu2.out.size))
              have HR6 := hide (HR6.out.below hb)
              have HQ7 := hide (HQ7.out.below hb)
              clear hb
              have hl6e := HL6.out
              rw [← hl6e] at hq8
              obtain ⟨a8, p8, hf8⟩ := hq8.form
              have hm6e := HM6.out
              rw [← hm6e] at hf8
              subst hf8
              have HQ8 := hide hq8
              have hfse := HFs.out
              rw [← hfse]
              clear hq8 hl6e hm6e hfse
              go_wp2_with fail
              go_loopw [181] (fun i w' => ∃ j : Nat, j ≤ M6 ∧ i = .int .i64 j ∧ Below u3.heap.size u3 w') (fun i _ => M6 - (intOf i).toNat)
              case atStart => exact ⟨0, by omega, rfl, Below.refl _ _⟩
              case round =>
                obtain ⟨j, hj, rfl, hBr⟩ := hrel
                have HBr := hide hBr
                clear hBr
                by_cases hlt : j < M6
                · have hlt' : (j : Int) < (M6 : Int) := by omega
                  have hj0 : (0 : Int) ≤ (j : Int) := by omega
                  obtain ⟨sl, hsl, hslm⟩ : ∃ sl, L6[j]? = some sl ∧ sl ∈ L6 := by
                    have h2 : j < L6.length := by rw [← HM6.out]; exact hlt
                    exact ⟨_, List.getElem?_eq_getElem h2, List.getElem_mem h2⟩
                  obtain ⟨c7, d7, e7, f7⟩ := HQ7.out.below HBr.out
                  simp only [Value.slice.injEq] at e7
                  obtain ⟨rfl, -, rfl⟩ := e7
                  obtain ⟨g7, rfl, hg7, k7⟩ := f7 (by rw [← HM6.out]; omega)
                  obtain ⟨x7, cx7, rx7⟩ := k7 j sl hsl
                  obtain ⟨c8, d8, e8, f8⟩ := HQ8.out.below HBr.out
                  simp only [Value.slice.injEq] at e8
                  obtain ⟨rfl, -, rfl⟩ := e8
                  obtain ⟨g8, rfl, hg8, k8⟩ := f8 (by rw [← HM6.out]; omega)
                  obtain ⟨x8, cx8, rx8⟩ := k8 j sl hsl
                  have hsl6 : sl.length ≤ 1048576 := by have := HSt.out sl hslm; omega
                  obtain ⟨ya7, yc7, hy7⟩ := rx7.form
                  obtain ⟨ya8, yc8, hy8⟩ := rx8.form
                  obtain ⟨SN, hSN⟩ : ∃ SN, SN = sl.length := ⟨_, rfl⟩
                  rw [← hSN] at hy7 hy8
                  subst hy7 hy8
                  obtain ⟨wd, hwd⟩ : ∃ wd, wd = wr.drew := ⟨_, rfl⟩
                  have hbd : Below wr.heap.size wr wd := by rw [hwd]; exact ⟨rfl, rfl, rfl, Nat.le_refl _, fun _ _ => rfl⟩
                  have HSa := hide (sameCR _ _ sl sl wd hsl6 hsl6 (rx7.below hbd) (rx8.below hbd) rfl)
                  have HBd := hide hbd
                  have q7 := cx7
                  have q8 := cx8
                  have Hwd := hide hwd
                  have hg7' := hg7
                  have hg8' := hg8
                  clear hwd hbd k7 k8 f7 f8 rx7 rx8 hsl hSN cx7 cx8 hsl6 hslm
                  go_wp2_with fail
                  refine wp_region_noPanic ?_
                  refine wp_region_held_drew (S := fun w' => w'.cell? ⟨g7, j, none⟩ = some (.slice ya7 SN yc7) ∧ w'.cell? ⟨g8, j, none⟩ = some (.slice ya8 SN yc8)) (by kernel_rfl) ⟨q7, q8⟩ (fun hHeld => ?_)
                  refine wpAnyH_take (i := 0) (oi := _) (v := ?_) rfl (by kernel_rfl) (by kernel_rfl) (by kernel_rfl) (fun _ _ _ h => h) (Or.inl ⟨by rfl, ?_⟩) (by assumption) ?_
                  rotate_left 1
                  · (intro w hSw; (try dsimp only at hSw); (first | (go_simp; done) | (go_simp; with_reducible rfl)))
                  try simp only [Act.put, List.getElem_toArray, List.getElem_cons_zero, List.getElem_cons_succ, List.setIfInBounds_toArray, List.set_cons_zero, List.set_cons_succ]
                  refine wpAnyH_take (i := 1) (oi := _) (v := ?_) rfl (by kernel_rfl) (by kernel_rfl) (by kernel_rfl) (fun _ _ _ h => h) (Or.inl ⟨by rfl, ?_⟩) (by assumption) ?_
                  rotate_left 1
                  · (intro w hSw; (try dsimp only at hSw); (first | (go_simp; done) | (go_simp; with_reducible rfl)))
                  try simp only [Act.put, List.getElem_toArray, List.getElem_cons_zero, List.getElem_cons_succ, List.setIfInBounds_toArray, List.set_cons_zero, List.set_cons_succ]
                  refine wpAnyH_take (i := 2) (oi := _) (v := ?_) rfl (by kernel_rfl) (by kernel_rfl) (by kernel_rfl) (fun _ _ _ h => h) (Or.inl ⟨by rfl, ?_⟩) (by assumption) ?_
                  rotate_left 1
                  · (intro w hSw; (try dsimp only at hSw); (first | (go_simp; done) | (go_simp; with_reducible rfl)))
                  try simp only [Act.put, List.getElem_toArray, List.getElem_cons_zero, List.getElem_cons_succ, List.setIfInBounds_toArray, List.set_cons_zero, List.set_cons_succ]
                  refine wpAnyH_take (i := 3) (oi := _) (v := ?_) rfl (by kernel_rfl) (by kernel_rfl) (by kernel_rfl) (fun _ _ _ h => h) (Or.inl ⟨by rfl, ?_⟩) (by assumption) ?_
                  rotate_left 1
                  · (intro w hSw; (try dsimp only at hSw); (first | (go_simp; done) | (go_simp; with_reducible rfl)))
                  try simp only [Act.put, List.getElem_toArray, List.getElem_cons_zero, List.getElem_cons_succ, List.setIfInBounds_toArray, List.set_cons_zero, List.set_cons_succ]
                  refine wpAnyH_take (i := 4) (oi := _) (v := ?_) rfl (by kernel_rfl) (by kernel_rfl) (by kernel_rfl) (fun _ _ _ h => h) (Or.inl ⟨by rfl, ?_⟩) (by assumption) ?_
                  rotate_left 1
                  · (intro w hSw; (try dsimp only at hSw); (first | (go_simp; done) | (go_simp; with_reducible rfl)))
                  try simp only [Act.put, List.getElem_toArray, List.getElem_cons_zero, List.getElem_cons_succ, List.setIfInBounds_toArray, List.set_cons_zero, List.set_cons_succ]
                  refine wpAnyH_take (i := 5) (oi := _) (v := ?_) rfl (by kernel_rfl) (by kernel_rfl) (by kernel_rfl) (fun _ _ _ h => h) (Or.inl ⟨by rfl, ?_⟩) (by assumption) ?_
                  rotate_left 1
                  · (intro w hSw; (try dsimp only at hSw); (first | (go_simp; done) | (go_simp; with_reducible rfl)))
                  try simp only [Act.put, List.getElem_toArray, List.getElem_cons_zero, List.getElem_cons_succ, List.setIfInBounds_toArray, List.set_cons_zero, List.set_cons_succ]
                  refine wpAnyH_take (i := 6) (oi := _) (v := ?_) rfl (by kernel_rfl) (by kernel_rfl) (by kernel_rfl) (fun _ _ _ h => h) (Or.inl ⟨by rfl, ?_⟩) (by assumption) ?_
                  rotate_left 1
                  · (intro w hSw; (try dsimp only at hSw); (first | (go_simp; done) | (go_simp; with_reducible rfl)))
                  try simp only [Act.put, List.getElem_toArray, List.getElem_cons_zero, List.getElem_cons_succ, List.setIfInBounds_toArray, List.set_cons_zero, List.set_cons_succ]
                  refine wpAnyH_take (i := 7) (oi := _) (v := ?_) rfl (by kernel_rfl) (by kernel_rfl) (by kernel_rfl) (fun _ _ _ h => h) (Or.inl ⟨by rfl, ?_⟩) (by assumption) ?_
                  rotate_left 1
                  · (intro w hSw; (try dsimp only at hSw); (first | (go_simp; done) | (go_simp; with_reducible rfl)))
                  try simp only [Act.put, List.getElem_toArray, List.getElem_cons_zero, List.getElem_cons_succ, List.setIfInBounds_toArray, List.set_cons_zero, List.set_cons_succ]
                  rw [← Hwd.out]
                  refine wpAnyH_ready (rs := [8]) (by kernel_rfl) (by simp) ?_
                  refine AllReadyH.cons (o := _) rfl (fun K hK => ?_) AllReadyH.nil
                  go_simp
                  (with_reducible refine Calls.mono HSa.out ?_)
                  rintro e x1 ⟨rfl, hb⟩
                  have HX1 := hide (HBd.out.trans (hb.mono HBd.out.size))
                  have m7 := (HX1.out.cell (p := ⟨g7, j, none⟩) hg7).trans q7
                  have m8 := (HX1.out.cell (p := ⟨g8, j, none⟩) hg8).trans q8
                  clear hb HSa
                  (try go_wp2_with fail)
                  refine hK.out _ _ ⟨m7, m8⟩ (fun hHeld => ?_)
                  clear hK K
                  try simp only [Act.put, List.getElem_toArray, List.getElem_cons_zero, List.getElem_cons_succ, List.setIfInBounds_toArray, List.set_cons_zero, List.set_cons_succ]
                  refine wpAnyH_take (i := 9) (oi := _) (v := ?_) rfl (by kernel_rfl) (by kernel_rfl) (by kernel_rfl) (fun _ _ _ h => h) (Or.inl ⟨by rfl, ?_⟩) (by assumption) ?_
                  rotate_left 1
                  · (intro w hSw; (try dsimp only at hSw); (first | (go_simp; done) | (go_simp; with_reducible rfl)))
                  try simp only [Act.put, List.getElem_toArray, List.getElem_cons_zero, List.getElem_cons_succ, List.setIfInBounds_toArray, List.set_cons_zero, List.set_cons_succ]
                  refine wpAnyH_done (by kernel_rfl) ?_ _
                  refine NoPanic.normal ?_
                  clear q7 q8 m7 m8
                  go_wp2_with fail
                  exact ⟨⟨j + 1, by omega, by go_num, HBr.out.trans (HX1.out.mono HBr.out.size)⟩, by simp [intOf]; omega⟩
                · obtain rfl : j = M6 := by omega
                  have HBn := hide (HBu3.out.trans (HBr.out.mono HBu3.out.size))
                  have HNm := hide (normCR _ l6 wr Hl6.out (HR6.out.below HBr.out))
                  go_wp2_with fail
                  refine Calls.mono HNm.out ?_
                  rintro e u9 ⟨rfl, hb⟩
                  have HBu9 := hide (HBn.out.trans (hb.mono HBn.out.size))
                  have hfin : Fs = true → goodT l6 = true ∧ nrmT (treeT l6) = decide (j = 0) := fun h => by
                    have h1 := HFs.out
                    rw [h] at h1
                    obtain ⟨L, hL⟩ := Option.isSome_iff_exists.1 h1.symm
                    have h2 := st_norm hL
                    have h3 := HL6.out
                    rw [hL] at h3
                    have h4 : L6 = L := h3
                    rw [HM6.out, h4]
                    exact h2
                  obtain ⟨NB, hNB⟩ : ∃ NB, NB = nrmT (treeT l6) := ⟨_, rfl⟩
                  obtain ⟨GB, hGB⟩ : ∃ GB, GB = goodT l6 := ⟨_, rfl⟩
                  rw [← hNB, ← hGB] at hfin ⊢
                  have Hfin := hide hfin
                  clear hb HNm hNB hGB hfin
                  cases Fs with
                  | false =>
                    go_wp2_with fail
                    go_ret
                    exact ⟨rfl, HBu9.out⟩
                  | true =>
                    obtain ⟨h1, h2⟩ := Hfin.out rfl
                    subst h1
                    by_cases hz : j = 0
                    · have h3 : NB = true := by rw [h2]; simp [hz]
                      have h4 : ((j : Int) == 0) = true := by simp; omega
                      subst h3
                      clear h2 hz
                      go_wp2_with fail
                      go_ret
                      exact ⟨ret_bool (by simp [h4] <;> omega), HBu9.out⟩
                    · have h3 : NB = false := by rw [h2]; simp [hz]
                      have h4 : ((j : Int) == 0) = false := by simp; omega
                      subst h3
                      clear h2
                      go_wp2_with fail
                      go_ret
                      exact ⟨ret_bool (by simp [h4] <;> omega), HBu9.out⟩

set_option maxRecDepth 100000 in
theorem lifted (os : Os) (started : os.Started) (H : Type) (enc : TypeId × Value → H) :
    ReturnsInHanded {} Try.checked os 4 .any (Rows.fnMeetsSpec.pre6 enc Try.prog Try.f4 Rows.fnMeetsRow.domain false) (Rows.fnMeetsSpec.post enc Try.prog Try.f4 false true false false) := by
  refine returnsInHanded_of_change (C := Try.checked) own started (by kernel_rfl) Try.func4
    (ChangeSpec.witness6 (enc := enc) (C := Try.checked) false ⟨#[], #[.slice none 0 0, .slice none 0 0], []⟩ 8 (by kernel_rfl) (by kernel_rfl) (by kernel_rfl) (by kernel_rfl)) ?_
  intro W base args ds gs before hval0 hW hcnd _
  have hval : ∀ (j : Nat) t v, Try.f4.params[j]? = some t → args[j]? = some v → Value.okWide Try.prog W .any base t v := hval0
  have hW' := hW
  obtain ⟨p, q, hA0, hV, rfl, hfz, hnd⟩ := hW
  have hA : DataW.TrodAll enc Try.prog W 0 (fun _ => true) true Try.f4.params.toList args.toList ds p := hA0
  rw [Try.params4] at hA hval
  obtain ⟨v0, vs0, d0, ds0, p0, q0, hargs, rfl, rfl, h0, r0⟩ := trodAll_cons hA
  obtain ⟨v1, vs1, d1, ds1, p1, q1, rfl, rfl, rfl, h1, r1⟩ := trodAll_cons r0
  obtain ⟨rfl, rfl, rfl⟩ := trodAll_nil r1
  obtain rfl : args = #[v0, v1] := by cases args; simp_all
  obtain ⟨rfl, rfl⟩ := trodVars_none hV
  have k0 := h0
  have k1' := h1
  have lt0 : ∀ x ∈ p0, x.block < W.heap.size := by obtain ⟨m, hm⟩ := k0; exact DataW.trod_lt m _ _ _ hm
  have lt1 : ∀ x ∈ p1, x.block < W.heap.size := by obtain ⟨m, hm⟩ := k1'; exact DataW.trod_lt m _ _ _ hm
  obtain ⟨ad2, len2, cap2, rfl⟩ := okWide_slice Try.underlying22 (hval 1 22 v1 rfl rfl)
  obtain ⟨fuel2, hf2⟩ := h1
  obtain ⟨hls, hRS⟩ := open_byte hf2
  obtain ⟨ad, len, cap, rfl⟩ := okWide_slice Try.underlying22 (hval 0 22 v0 rfl rfl)
  obtain ⟨fuel, hf⟩ := h0
  obtain ⟨hl, hR⟩ := open_byte hf
  clear hA0 hval0
  refine (walk ad ad2 len len2 cap cap2 W (by unfold maxLen at hl; omega) (by unfold maxLen at hls; omega) hR hRS).mono fun e W' ⟨he, bel⟩ => ?_
  subst he
  exact ⟨_, rfl, _, _, _, [], _, [], hW', trodAll_mk1 (shut_bool Try.underlying4 _), (trodAll_cons_mk (Below.trod laidOut (by kernel_rfl) (of_decide_eq_true (by kernel_rfl)) k0 bel lt0) (trodAll_cons_mk (Below.trod laidOut (by kernel_rfl) (of_decide_eq_true (by kernel_rfl)) k1' bel lt1) trodAll_mk0)), rfl, bel.frame _, fun h => by cases h⟩

theorem over : Rows.fnMeetsRow.holds Try.pinned (OpenSpec.ofChange Rows.fnMeetsSpec) :=
  OpenClaim.holds_of_wide 4 Try.f4 rfl rfl rfl rfl rfl rfl rfl ⟨rfl, rfl, rfl, rfl, rfl⟩ rfl rfl rfl rfl rfl (by kernel_rfl) Try.func4 (by kernel_rfl)
    (of_decide_eq_true (by kernel_rfl)) (by unfold Func.isWrapper; first | (rw [if_pos (by decide +kernel)]; kernel_rfl) | (rw [if_neg (by decide +kernel)]; exact ⟨rfl, rfl⟩))
    (fun os started H enc _ => lifted os started H enc)
end Go.Proofs.Ytjmgnljjeogdlaa.fnMeets

namespace Go.Proofs.Ytjmgnljjeogdlaa
theorem fnMeets_holds : Rows.FnMeetsSaid := fnMeets.over
#print axioms fnMeets_holds
end Go.Proofs.Ytjmgnljjeogdlaa
