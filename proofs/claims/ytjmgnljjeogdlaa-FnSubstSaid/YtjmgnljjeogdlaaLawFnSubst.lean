/-
  Proved: whatever the two rows of bytes, the memory and the schedule, the law FnSubst returns true, and the rows read afterwards as they read before: of drawn terms, what is put in the place of two variables in either order is the same, SubstTerm tells what the specification's tells, and its variables are those that the chapter tells. No conditions. Written by wip/build/mk_lawsubst.py.
-/
import Derived.Test.YtjmgnljjeogdlaaJt
import Derived.Test.YtjmgnljjeogdlaaJv
import Derived.Test.YtjmgnljjeogdlaaTeQx
import Derived.Test.YtjmgnljjeogdlaaTeSi
import Derived.Lib.SmallJoins
import Derived.ChangeOld
import Derived.Below
namespace Go.Proofs.Ytjmgnljjeogdlaa.fnSubst
open Go.ChangeShapes Go.WideShapes Go.ChangeAt Go.RowKit
open Go.Proofs.Ytjmgnljjeogdlaa.W Go.Joins
set_option linter.unusedVariables false
set_option linter.unusedSimpArgs false

theorem own : ownKnob Try.prog.godebug = none := by kernel_rfl
theorem laidOut : laidOutB Try.prog = true := by kernel_rfl
/-- A slice that holds these cells. -/
def CR (w : World) (v : Value) (l : List Cc) : Prop := ∃ ad c, v = .slice ad l.length c ∧ l.length ≤ c ∧ CRow w ad l
theorem CR.form {w : World} {v : Value} {l : List Cc} (h : CR w v l) : ∃ a c, v = .slice a l.length c := by
  obtain ⟨a, c, h, -⟩ := h; exact ⟨a, c, h⟩
theorem CR.below {w w' : World} {v : Value} {l : List Cc} (h : CR w v l) (hb : Below w.heap.size w w') : CR w' v l := by
  obtain ⟨a, c, h1, h2, h3⟩ := h; exact ⟨a, c, h1, h2, h3.below hb⟩
theorem CR.own {w : World} {b : Nat} {v : Value} {l : List Cc} (h : w.ownsRow b 62 2 v l.length (cv l)) : CR w v l := by
  obtain ⟨a, c, h1, h2, h3⟩ := cOwn_row h; exact ⟨a, c, h1, h2, h3⟩
theorem rL_six (r : Option (List Cc)) : (rL r).length ≤ 1048576 := by
  cases r with
  | none => simp [rL]
  | some cs =>
    show (gd cs).length ≤ _
    unfold gd
    split
    · rename_i h
      unfold goodT treeT at h
      split at h
      · omega
      · simp at h
    · simp
theorem hv_le : ∀ {a : F} {pk : Int} {d i : Nat} {n : Int}, a.ok → hv pk d i a n → n ≤ 1000000
  | .nil, _, _, _, _, _, h => absurd h id
  | .cons x k r, pk, d, i, n, ho, h => by
    simp only [hv] at h
    rcases h with ⟨h1, h2⟩ | h | h
    · have := (good_n ho.1).2; omega
    · exact hv_le ho.2.2.1 h
    · exact hv_le ho.2.2.2 h
theorem free_rng {l : List Cc} (n : Int) (h : n ∈ frS l) : 0 ≤ n ∧ n ≤ 1000000 := by
  unfold frS at h
  cases ht : treeT l with
  | none => rw [ht] at h; cases h
  | some t =>
    obtain ⟨x, k, rfl⟩ := F.len_1 (treeT_flat ht).2.2.1
    have h2 : n ∈ frS l := by unfold frS; exact h
    obtain ⟨h3, h4⟩ := (frS_mem ht n).1 h2
    exact ⟨h3, hv_le (treeT_flat ht).2.1 h4⟩
theorem substCR (v1 v2 : Value) (K : Int) (l1 l2 : List Cc) (w : World) (h1 : l1.length ≤ 1048576) (h2 : l2.length ≤ 1048576) (r1 : CR w v1 l1) (r2 : CR w v2 l2) :
    Calls Try.prog 6 #[v1, .int .i64 K, v2] w fun e w' => ∃ s', e = .returned (.tuple #[s', .bool (rB (sbR l1 K l2))]) ∧ CR w' s' (rL (sbR l1 K l2)) ∧ Below w.heap.size w w' := by
  obtain ⟨a1, c1, rfl, q1, r1⟩ := r1
  obtain ⟨a2, c2, rfl, q2, r2⟩ := r2
  exact (implSubst_any a1 a2 c1 c2 l1 l2 K w h1 q1 r1 h2 q2 r2).mono fun e w' ⟨s, he, ho, hb⟩ => ⟨s, he, CR.own ho, hb⟩
theorem specCR (v1 v2 : Value) (K : Int) (l1 l2 : List Cc) (w : World) (h1 : l1.length ≤ 1048576) (h2 : l2.length ≤ 1048576) (r1 : CR w v1 l1) (r2 : CR w v2 l2) :
    Calls Try.prog 7 #[v1, .int .i64 K, v2] w fun e w' => ∃ s', e = .returned (.tuple #[s', .bool (rB (sbR l1 K l2))]) ∧ CR w' s' (rL (sbR l1 K l2)) ∧ Below w.heap.size w w' := by
  obtain ⟨a1, c1, rfl, q1, r1⟩ := r1
  obtain ⟨a2, c2, rfl, q2, r2⟩ := r2
  exact (specSubst_any l3Subst_any a1 a2 c1 c2 l1 l2 K w h1 r1 h2 r2).mono fun e w' ⟨s, he, ho, hb⟩ => ⟨s, he, CR.own ho, hb⟩
theorem shiftCR (v1 : Value) (b f : Int) (l1 : List Cc) (w : World) (h1 : l1.length ≤ 1048576) (r1 : CR w v1 l1) :
    Calls Try.prog 11 #[v1, .int .i64 b, .int .i64 f] w fun e w' => ∃ s', e = .returned (.tuple #[s', .bool (rB (shR l1 b f))]) ∧ CR w' s' (rL (shR l1 b f)) ∧ Below w.heap.size w w' := by
  obtain ⟨a1, c1, rfl, q1, r1⟩ := r1
  exact (implShift_any a1 c1 l1 b f w h1 q1 r1).mono fun e w' ⟨s, he, ho, hb⟩ => ⟨s, he, CR.own ho, hb⟩
theorem freeCR (v1 : Value) (l1 : List Cc) (w : World) (h1 : l1.length ≤ 1048576) (r1 : CR w v1 l1) :
    Calls Try.prog 9 #[v1] w fun e w' => ∃ s', e = .returned (.tuple #[s', .bool (treeT l1).isSome]) ∧ IS w' s' (frS l1) ∧ Below w.heap.size w w' := by
  obtain ⟨a1, c1, rfl, q1, r1⟩ := r1
  exact (implFreeS_any a1 c1 l1 w h1 q1 r1).mono fun e w' ⟨s, he, ho, hb⟩ => ⟨s, he, IS.ofOwn ho, hb⟩
theorem sameCR (v1 v2 : Value) (l1 l2 : List Cc) (w : World) (h1 : l1.length ≤ 1048576) (h2 : l2.length ≤ 1048576) (r1 : CR w v1 l1) (r2 : CR w v2 l2) (he : l1 = l2) :
    Calls Try.prog 8 #[v1, v2] w fun e w' => e = .returned (.bool true) ∧ Below w.heap.size w w' := by
  obtain ⟨a1, c1, rfl, q1, r1⟩ := r1
  obtain ⟨a2, c2, rfl, q2, r2⟩ := r2
  have h := same_any a1 a2 c1 c2 l1 l2 w h1 h2 r1 r2
  rw [(sameR_iff l1 l2).2 he] at h
  exact h
theorem drawCR (n cp : Nat) (ad : Option Addr) (w : World) (hn : (n : Int) ≤ 9223372036854775807) (h : BRow w ad n) :
    Calls Try.prog 5 #[.slice ad n cp] w fun e w' => ∃ (v1 v2 : Value) (K : Int) (l1 l2 : List Cc), e = .returned (.tuple #[v1, .int .i64 K, v2]) ∧ -10 ≤ K ∧ K ≤ 10 ∧ l1.length ≤ 1048576 ∧ l2.length ≤ 1048576 ∧ CR w' v1 l1 ∧ CR w' v2 l2 ∧ Below w.heap.size w w' :=
  (drawSubst_any n cp ad w hn h).mono fun e w' ⟨v1, v2, K, l1, l2, h1, h2, h3, h4, h5, h6, h7, h8⟩ => ⟨v1, v2, K, l1, l2, h1, h2, h3, by omega, by omega, CR.own h6, CR.own h7, h8⟩

set_option maxRecDepth 20000 in
set_option maxHeartbeats 16000000 in
theorem walk (ca cb : Option Addr) (na nb pa pb : Nat) (w : World) (hna : (na : Int) ≤ 9223372036854775807) (hnb : (nb : Int) ≤ 9223372036854775807) (hA : BRow w ca na) (hB : BRow w cb nb) :
    Calls Try.prog 3 #[.slice ca na pa, .slice cb nb pb] w fun e w' => e = .returned (.bool true) ∧ Below w.heap.size w w' := by
  have HBy := hide hB
  have HDr := hide (drawCR na pa ca w hna hA)
  have Hnb := hide hnb
  clear hA hB hna hnb
  by_cases hcmp : (1048576 : Int) < wrap64 ((na : Int) + (nb : Int))
  · go_enter Try.func3, Try.ntmps3
    go_wp2_with fail
    go_ret
    exact ⟨rfl, Below.refl _ _⟩
  go_enter Try.func3, Try.ntmps3
  go_wp2_with fail
  refine Calls.mono HDr.out ?_
  rintro e w1 ⟨v1, v2, K, l1, l2, rfl, hK0, hK1, hl1, hl2, hr1, hr2, hb⟩
  have HBw1 := hide hb
  have Hl1 := hide hl1
  have Hl2 := hide hl2
  clear HDr hb hl1 hl2
  obtain ⟨a1, p1, hf1⟩ := hr1.form
  obtain ⟨N1, hN1⟩ : ∃ N, N = l1.length := ⟨_, rfl⟩
  rw [← hN1] at hf1
  subst hf1
  have HR1 := hide hr1
  clear hr1 hN1
  obtain ⟨a2, p2, hf2⟩ := hr2.form
  obtain ⟨N2, hN2⟩ : ∃ N, N = l2.length := ⟨_, rfl⟩
  rw [← hN2] at hf2
  subst hf2
  have HR2 := hide hr2
  clear hr2 hN2
  go_wp2_with fail
  refine Calls.mono (substCR _ _ (K) l1 l2 w1 Hl1.out Hl2.out HR1.out HR2.out) ?_
  rintro e w2 ⟨s3, rfl, hr3, hb⟩
  have HBw2 := hide (HBw1.out.trans (hb.mono HBw1.out.size))
  have HR1 := hide (HR1.out.below hb)
  have HR2 := hide (HR2.out.below hb)
  clear hb
  have hle3 := rL_six (sbR l1 (K) l2)
  obtain ⟨O3, hO3⟩ : ∃ O, O = rB (sbR l1 (K) l2) := ⟨_, rfl⟩
  obtain ⟨l3, hl3⟩ : ∃ l, l = rL (sbR l1 (K) l2) := ⟨_, rfl⟩
  rw [← hl3] at hr3 hle3
  rw [← hO3]
  have HO3 := hide hO3
  have HE3 := hide hl3
  have Hl3 := hide hle3
  clear hO3 hl3 hle3
  obtain ⟨a3, p3, hf3⟩ := hr3.form
  obtain ⟨N3, hN3⟩ : ∃ N, N = l3.length := ⟨_, rfl⟩
  rw [← hN3] at hf3
  subst hf3
  have HR3 := hide hr3
  clear hr3 hN3
  go_wp2_with fail
  refine Calls.mono (specCR _ _ (K) l1 l2 w2 Hl1.out Hl2.out HR1.out HR2.out) ?_
  rintro e w3 ⟨s4, rfl, hr4, hb⟩
  have HBw3 := hide (HBw2.out.trans (hb.mono HBw2.out.size))
  have HR1 := hide (HR1.out.below hb)
  have HR2 := hide (HR2.out.below hb)
  have HR3 := hide (HR3.out.below hb)
  clear hb
  have hle4 := rL_six (sbR l1 (K) l2)
  obtain ⟨O4, hO4⟩ : ∃ O, O = rB (sbR l1 (K) l2) := ⟨_, rfl⟩
  obtain ⟨l4, hl4⟩ : ∃ l, l = rL (sbR l1 (K) l2) := ⟨_, rfl⟩
  rw [← hl4] at hr4 hle4
  rw [← hO4]
  have HO4 := hide hO4
  have HE4 := hide hl4
  have Hl4 := hide hle4
  clear hO4 hl4 hle4
  obtain ⟨a4, p4, hf4⟩ := hr4.form
  obtain ⟨N4, hN4⟩ : ∃ N, N = l4.length := ⟨_, rfl⟩
  rw [← hN4] at hf4
  subst hf4
  have HR4 := hide hr4
  clear hr4 hN4
  have hO34 : O4 = O3 := by rw [HO3.out, HO4.out]
  subst hO34
  have HSm := hide (sameCR _ _ l3 l4 w3 Hl3.out Hl4.out HR3.out HR4.out (by rw [HE3.out, HE4.out]))
  have HTail : Hid (∀ w9, Below w.heap.size w w9 → CR w9 (.slice a1 N1 p1) l1 → CR w9 (.slice a2 N2 p2) l2 → True) := hide (fun _ _ _ _ => trivial)
  go_wp2_with fail
  refine Calls.mono HSm.out ?_
  rintro e w4 ⟨rfl, hb⟩
  have HBw4 := hide (HBw3.out.trans (hb.mono HBw3.out.size))
  have HR1 := hide (HR1.out.below hb)
  have HR2 := hide (HR2.out.below hb)
  have HR3 := hide (HR3.out.below hb)
  clear hb
  clear HSm HR4 HTail
  cases O4 with
  | false =>
    go_wp2_with fail
    refine Calls.mono (drawCR nb pb cb w4 Hnb.out (HBy.out.below HBw4.out)) ?_
    rintro e u1 ⟨v5, v6, K2, l5, l6, rfl, -, -, hl5, hl6, hr5, hr6, hb⟩
    have HBu1 := hide (HBw4.out.trans (hb.mono HBw4.out.size))
    have HR1 := hide (HR1.out.below hb)
    have HR2 := hide (HR2.out.below hb)
    clear hb
    have Hl6 := hide hl6
    have Hl5 := hide hl5
    clear hl5 hl6
    obtain ⟨a5, p5, hf5⟩ := hr5.form
    obtain ⟨N5, hN5⟩ : ∃ N, N = l5.length := ⟨_, rfl⟩
    rw [← hN5] at hf5
    subst hf5
    clear hr5 hN5
    obtain ⟨a6, p6, hf6⟩ := hr6.form
    obtain ⟨N6, hN6⟩ : ∃ N, N = l6.length := ⟨_, rfl⟩
    rw [← hN6] at hf6
    subst hf6
    have HR6 := hide hr6
    clear hr6 hN6
    go_wp2_with fail
    refine Calls.mono (substCR _ _ (0) l1 l2 u1 Hl1.out Hl2.out HR1.out HR2.out) ?_
    rintro e u2 ⟨s7, rfl, hr7, hb⟩
    have HBu2 := hide (HBu1.out.trans (hb.mono HBu1.out.size))
    have HR1 := hide (HR1.out.below hb)
    have HR2 := hide (HR2.out.below hb)
    have HR6 := hide (HR6.out.below hb)
    clear hb
    have hle7 := rL_six (sbR l1 (0) l2)
    obtain ⟨O7, hO7⟩ : ∃ O, O = rB (sbR l1 (0) l2) := ⟨_, rfl⟩
    obtain ⟨l7, hl7⟩ : ∃ l, l = rL (sbR l1 (0) l2) := ⟨_, rfl⟩
    rw [← hl7] at hr7 hle7
    rw [← hO7]
    have HO7 := hide hO7
    have HE7 := hide hl7
    have Hl7 := hide hle7
    clear hO7 hl7 hle7
    obtain ⟨a7, p7, hf7⟩ := hr7.form
    obtain ⟨N7, hN7⟩ : ∃ N, N = l7.length := ⟨_, rfl⟩
    rw [← hN7] at hf7
    subst hf7
    have HR7 := hide hr7
    clear hr7 hN7
    go_wp2_with fail
    refine Calls.mono (substCR _ _ (0) l7 l6 u2 Hl7.out Hl6.out HR7.out HR6.out) ?_
    rintro e u3 ⟨s8, rfl, hr8, hb⟩
    have HBu3 := hide (HBu2.out.trans (hb.mono HBu2.out.size))
    have HR1 := hide (HR1.out.below hb)
    have HR2 := hide (HR2.out.below hb)
    have HR6 := hide (HR6.out.below hb)
    have HR7 := hide (HR7.out.below hb)
    clear hb
    have hle8 := rL_six (sbR l7 (0) l6)
    obtain ⟨O8, hO8⟩ : ∃ O, O = rB (sbR l7 (0) l6) := ⟨_, rfl⟩
    obtain ⟨l8, hl8⟩ : ∃ l, l = rL (sbR l7 (0) l6) := ⟨_, rfl⟩
    rw [← hl8] at hr8 hle8
    rw [← hO8]
    have HO8 := hide hO8
    have HE8 := hide hl8
    have Hl8 := hide hle8
    clear hO8 hl8 hle8
    obtain ⟨a8, p8, hf8⟩ := hr8.form
    obtain ⟨N8, hN8⟩ : ∃ N, N = l8.length := ⟨_, rfl⟩
    rw [← hN8] at hf8
    subst hf8
    have HR8 := hide hr8
    clear hr8 hN8
    go_wp2_with fail
    refine Calls.mono (shiftCR _ 1 0 l6 u3 Hl6.out HR6.out) ?_
    rintro e u4 ⟨s9, rfl, hr9, hb⟩
    have HBu4 := hide (HBu3.out.trans (hb.mono HBu3.out.size))
    have HR1 := hide (HR1.out.below hb)
    have HR2 := hide (HR2.out.below hb)
    have HR6 := hide (HR6.out.below hb)
    have HR8 := hide (HR8.out.below hb)
    clear hb
    have hle9 := rL_six (shR l6 1 0)
    obtain ⟨O9, hO9⟩ : ∃ O, O = rB (shR l6 1 0) := ⟨_, rfl⟩
    obtain ⟨l9, hl9⟩ : ∃ l, l = rL (shR l6 1 0) := ⟨_, rfl⟩
    rw [← hl9] at hr9 hle9
    rw [← hO9]
    have HO9 := hide hO9
    have HE9 := hide hl9
    have Hl9 := hide hle9
    clear hO9 hl9 hle9
    obtain ⟨a9, p9, hf9⟩ := hr9.form
    obtain ⟨N9, hN9⟩ : ∃ N, N = l9.length := ⟨_, rfl⟩
    rw [← hN9] at hf9
    subst hf9
    have HR9 := hide hr9
    clear hr9 hN9
    go_wp2_with fail
    refine Calls.mono (substCR _ _ (1) l1 l9 u4 Hl1.out Hl9.out HR1.out HR9.out) ?_
    rintro e u5 ⟨s10, rfl, hr10, hb⟩
    have HBu5 := hide (HBu4.out.trans (hb.mono HBu4.out.size))
    have HR1 := hide (HR1.out.below hb)
    have HR2 := hide (HR2.out.below hb)
    have HR6 := hide (HR6.out.below hb)
    have HR8 := hide (HR8.out.below hb)
    clear hb
    have hle10 := rL_six (sbR l1 (1) l9)
    obtain ⟨O10, hO10⟩ : ∃ O, O = rB (sbR l1 (1) l9) := ⟨_, rfl⟩
    obtain ⟨l10, hl10⟩ : ∃ l, l = rL (sbR l1 (1) l9) := ⟨_, rfl⟩
    rw [← hl10] at hr10 hle10
    rw [← hO10]
    have HO10 := hide hO10
    have HE10 := hide hl10
    have Hl10 := hide hle10
    clear hO10 hl10 hle10
    obtain ⟨a10, p10, hf10⟩ := hr10.form
    obtain ⟨N10, hN10⟩ : ∃ N, N = l10.length := ⟨_, rfl⟩
    rw [← hN10] at hf10
    subst hf10
    have HR10 := hide hr10
    clear hr10 hN10
    go_wp2_with fail
    refine Calls.mono (substCR _ _ (0) l2 l6 u5 Hl2.out Hl6.out HR2.out HR6.out) ?_
    rintro e u6 ⟨s11, rfl, hr11, hb⟩
    have HBu6 := hide (HBu5.out.trans (hb.mono HBu5.out.size))
    have HR2 := hide (HR2.out.below hb)
    have HR6 := hide (HR6.out.below hb)
    have HR8 := hide (HR8.out.below hb)
    have HR10 := hide (HR10.out.below hb)
    clear hb
    have hle11 := rL_six (sbR l2 (0) l6)
    obtain ⟨O11, hO11⟩ : ∃ O, O = rB (sbR l2 (0) l6) := ⟨_, rfl⟩
    obtain ⟨l11, hl11⟩ : ∃ l, l = rL (sbR l2 (0) l6) := ⟨_, rfl⟩
    rw [← hl11] at hr11 hle11
    rw [← hO11]
    have HO11 := hide hO11
    have HE11 := hide hl11
    have Hl11 := hide hle11
    clear hO11 hl11 hle11
    obtain ⟨a11, p11, hf11⟩ := hr11.form
    obtain ⟨N11, hN11⟩ : ∃ N, N = l11.length := ⟨_, rfl⟩
    rw [← hN11] at hf11
    subst hf11
    have HR11 := hide hr11
    clear hr11 hN11
    go_wp2_with fail
    refine Calls.mono (substCR _ _ (0) l10 l11 u6 Hl10.out Hl11.out HR10.out HR11.out) ?_
    rintro e u7 ⟨s12, rfl, hr12, hb⟩
    have HBu7 := hide (HBu6.out.trans (hb.mono HBu6.out.size))
    have HR8 := hide (HR8.out.below hb)
    have HR10 := hide (HR10.out.below hb)
    have HR11 := hide (HR11.out.below hb)
    clear hb
    have hle12 := rL_six (sbR l10 (0) l11)
    obtain ⟨O12, hO12⟩ : ∃ O, O = rB (sbR l10 (0) l11) := ⟨_, rfl⟩
    obtain ⟨l12, hl12⟩ : ∃ l, l = rL (sbR l10 (0) l11) := ⟨_, rfl⟩
    rw [← hl12] at hr12 hle12
    rw [← hO12]
    have HO12 := hide hO12
    have HE12 := hide hl12
    have Hl12 := hide hle12
    clear hO12 hl12 hle12
    obtain ⟨a12, p12, hf12⟩ := hr12.form
    obtain ⟨N12, hN12⟩ : ∃ N, N = l12.length := ⟨_, rfl⟩
    rw [← hN12] at hf12
    subst hf12
    have HR12 := hide hr12
    clear hr12 hN12
    cases O7 with
    | false =>
      go_wp2_with fail
      go_ret
      exact ⟨rfl, HBu7.out⟩
    | true =>
      cases O8 with
      | false =>
        go_wp2_with fail
        go_ret
        exact ⟨rfl, HBu7.out⟩
      | true =>
        cases O9 with
        | false =>
          go_wp2_with fail
          go_ret
          exact ⟨rfl, HBu7.out⟩
        | true =>
          cases O10 with
          | false =>
            go_wp2_with fail
            go_ret
            exact ⟨rfl, HBu7.out⟩
          | true =>
            cases O11 with
            | false =>
              go_wp2_with fail
              go_ret
              exact ⟨rfl, HBu7.out⟩
            | true =>
              cases O12 with
              | false =>
                go_wp2_with fail
                go_ret
                exact ⟨rfl, HBu7.out⟩
              | true =>
                have heq : l8 = l12 := by
                  have h1 := HO7.out.symm
                  have h2 := HO8.out.symm
                  have h3 := HO9.out.symm
                  have h4 := HO10.out.symm
                  have h5 := HO11.out.symm
                  have h6 := HO12.out.symm
                  rw [HE7.out] at h2
                  rw [HE9.out] at h4
                  rw [HE10.out, HE9.out, HE11.out] at h6
                  rw [HE8.out, HE12.out, HE7.out, HE10.out, HE9.out, HE11.out]
                  exact either_order h1 h2 h3 h4 h5 h6
                have HSe := hide (sameCR _ _ l8 l12 u7 Hl8.out Hl12.out HR8.out HR12.out heq)
                clear heq
                go_wp2_with fail
                refine Calls.mono HSe.out ?_
                rintro e u8 ⟨rfl, hb⟩
                have HBu8 := hide (HBu7.out.trans (hb.mono HBu7.out.size))
                clear hb
                go_wp2_with fail
                go_ret
                exact ⟨rfl, HBu8.out⟩
  | true =>
    have hlf := left_free HO4.out.symm
    rw [← HE3.out] at hlf
    obtain ⟨hg1, hg2, hg3, hfr⟩ := hlf
    have HFr := hide hfr
    have Hg1 := hide hg1
    have Hg2 := hide hg2
    have Hg3 := hide hg3
    clear hfr hg1 hg2 hg3
    go_wp2_with fail
    refine Calls.mono (freeCR _ l1 w4 Hl1.out HR1.out) ?_
    rintro e w5 ⟨i1, rfl, hi1, hb⟩
    have HBw5 := hide (HBw4.out.trans (hb.mono HBw4.out.size))
    have HR1 := hide (HR1.out.below hb)
    have HR2 := hide (HR2.out.below hb)
    have HR3 := hide (HR3.out.below hb)
    clear hb
    rw [Hg1.out]
    obtain ⟨ia1, ic1, hif1⟩ := hi1.form
    obtain ⟨M1, hM1⟩ : ∃ M, M = (frS l1).length := ⟨_, rfl⟩
    rw [← hM1] at hif1
    subst hif1
    have HI1 := hide hi1
    have HM1 := hide hM1
    clear hi1 hM1
    go_wp2_with fail
    refine Calls.mono (freeCR _ l2 w5 Hl2.out HR2.out) ?_
    rintro e w6 ⟨i2, rfl, hi2, hb⟩
    have HBw6 := hide (HBw5.out.trans (hb.mono HBw5.out.size))
    have HR1 := hide (HR1.out.below hb)
    have HR2 := hide (HR2.out.below hb)
    have HR3 := hide (HR3.out.below hb)
    have HI1 := hide (HI1.out.below hb)
    clear hb
    rw [Hg2.out]
    obtain ⟨ia2, ic2, hif2⟩ := hi2.form
    obtain ⟨M2, hM2⟩ : ∃ M, M = (frS l2).length := ⟨_, rfl⟩
    rw [← hM2] at hif2
    subst hif2
    have HI2 := hide hi2
    have HM2 := hide hM2
    clear hi2 hM2
    go_wp2_with fail
    refine Calls.mono (freeCR _ l3 w6 Hl3.out HR3.out) ?_
    rintro e w7 ⟨i3, rfl, hi3, hb⟩
    have HBw7 := hide (HBw6.out.trans (hb.mono HBw6.out.size))
    have HR1 := hide (HR1.out.below hb)
    have HR2 := hide (HR2.out.below hb)
    have HI1 := hide (HI1.out.below hb)
    have HI2 := hide (HI2.out.below hb)
    clear hb
    rw [Hg3.out]
    obtain ⟨ia3, ic3, hif3⟩ := hi3.form
    obtain ⟨M3, hM3⟩ : ∃ M, M = (frS l3).length := ⟨_, rfl⟩
    rw [← hM3] at hif3
    subst hif3
    have HI3 := hide hi3
    have HM3 := hide hM3
    clear hi3 hM3
    have Hf1 := hide (frS_len l1 Hl1.out)
    have Hf2 := hide (frS_len l2 Hl2.out)
    have Hf3 : Hid (M3 ≤ 1048576) := hide (by rw [HM3.out]; exact frS_len l3 Hl3.out)
    have hf3 := Hf3.out
    clear Hf3
    go_wp2_with fail
    go_loopw [99] (fun i w' => ∃ j : Nat, j ≤ M3 ∧ i = .int .i64 j ∧ Below w7.heap.size w7 w') (fun i _ => M3 - (intOf i).toNat)
    case atStart => exact ⟨0, by omega, rfl, Below.refl _ _⟩
    case round =>
      obtain ⟨j, hj, rfl, hBr⟩ := hrel
      have HBr := hide hBr
      clear hBr
      by_cases hlt : j < M3
      · have hlt' : (j : Int) < (M3 : Int) := by omega
        have hj0 : (0 : Int) ≤ (j : Int) := by omega
        have hlt2 : j < (frS l3).length := by rw [← HM3.out]; exact hlt
        obtain ⟨g, gc, e1, hg, p0⟩ := HI3.out.elem hlt2
        simp only [Value.slice.injEq] at e1
        obtain ⟨rfl, -, rfl⟩ := e1
        have q0 := (HBr.out.cell (p := ⟨g, j, none⟩) hg).trans p0
        obtain ⟨n, hn⟩ : ∃ n, n = (frS l3)[j] := ⟨_, rfl⟩
        rw [← hn] at q0
        have HFn := hide (HFr.out n (by rw [hn]; exact List.getElem_mem hlt2))
        have hnb2 : -10 ≤ n ∧ n ≤ 1000000 := by
          have := free_rng (l := l3) n (by rw [hn]; exact List.getElem_mem hlt2)
          omega
        obtain ⟨hn0, hn1⟩ := hnb2
        clear p0 hn hlt2
        go_wp2_with fail
        refine Calls.mono (has_any _ _ n wr Hf1.out (HI1.out.below HBr.out)) ?_
        rintro e x1 ⟨rfl, hb⟩
        have HX1 := hide (HBr.out.trans (hb.mono HBr.out.size))
        clear hb q0
        obtain ⟨b1, hb1⟩ : ∃ b, b = decide (n ∈ frS l1) := ⟨_, rfl⟩
        rw [← hb1]
        have Hb1 := hide hb1
        clear hb1
        cases b1 with
        | true =>
          by_cases hlk : n < K
          · go_wp2_with fail
            exact ⟨⟨j + 1, by omega, by go_num, HX1.out⟩, by simp [intOf]; omega⟩
          · go_wp2_with fail
            refine Calls.mono (has_any _ _ (n + 1) x1 Hf1.out (HI1.out.below HX1.out)) ?_
            rintro e x2 ⟨rfl, hb⟩
            have HX2 := hide (HX1.out.trans (hb.mono HX1.out.size))
            clear hb
            obtain ⟨b2, hb2⟩ : ∃ b, b = decide ((n + 1) ∈ frS l1) := ⟨_, rfl⟩
            rw [← hb2]
            have Hb2 := hide hb2
            clear hb2
            cases b2 with
            | true =>
              go_wp2_with fail
              exact ⟨⟨j + 1, by omega, by go_num, HX2.out⟩, by simp [intOf]; omega⟩
            | false =>
              have h34 : K ∈ frS l1 ∧ n ∈ frS l2 := by
                rcases HFn.out with h | h | h
                · exact absurd h.2 (by omega)
                · have := Hb2.out; simp [h.1] at this
                · exact h
              have h3 := decide_eq_true h34.1
              have h4 := decide_eq_true h34.2
              clear h34
              go_wp2_with fail
              refine Calls.mono (has_any _ _ K x2 Hf1.out (HI1.out.below HX2.out)) ?_
              rintro e x3 ⟨rfl, hb⟩
              have HX3 := hide (HX2.out.trans (hb.mono HX2.out.size))
              rw [h3]
              clear hb h3
              go_wp2_with fail
              refine Calls.mono (has_any _ _ n x3 Hf2.out (HI2.out.below HX3.out)) ?_
              rintro e x4 ⟨rfl, hb⟩
              have HX4 := hide (HX3.out.trans (hb.mono HX3.out.size))
              rw [h4]
              clear hb h4
              go_wp2_with fail
              exact ⟨⟨j + 1, by omega, by go_num, HX4.out⟩, by simp [intOf]; omega⟩
        | false =>
          go_wp2_with fail
          refine Calls.mono (has_any _ _ (n + 1) x1 Hf1.out (HI1.out.below HX1.out)) ?_
          rintro e x2 ⟨rfl, hb⟩
          have HX2 := hide (HX1.out.trans (hb.mono HX1.out.size))
          clear hb
          obtain ⟨b2, hb2⟩ : ∃ b, b = decide ((n + 1) ∈ frS l1) := ⟨_, rfl⟩
          rw [← hb2]
          have Hb2 := hide hb2
          clear hb2
          cases b2 with
          | true =>
            by_cases hge : K ≤ n
            · go_wp2_with fail
              exact ⟨⟨j + 1, by omega, by go_num, HX2.out⟩, by simp [intOf]; omega⟩
            · have h34 : K ∈ frS l1 ∧ n ∈ frS l2 := by
                rcases HFn.out with h | h | h
                · have := Hb1.out; simp [h.1] at this
                · exact absurd h.2 (by omega)
                · exact h
              have h3 := decide_eq_true h34.1
              have h4 := decide_eq_true h34.2
              clear h34
              go_wp2_with fail
              refine Calls.mono (has_any _ _ K x2 Hf1.out (HI1.out.below HX2.out)) ?_
              rintro e x3 ⟨rfl, hb⟩
              have HX3 := hide (HX2.out.trans (hb.mono HX2.out.size))
              rw [h3]
              clear hb h3
              go_wp2_with fail
              refine Calls.mono (has_any _ _ n x3 Hf2.out (HI2.out.below HX3.out)) ?_
              rintro e x4 ⟨rfl, hb⟩
              have HX4 := hide (HX3.out.trans (hb.mono HX3.out.size))
              rw [h4]
              clear hb h4
              go_wp2_with fail
              exact ⟨⟨j + 1, by omega, by go_num, HX4.out⟩, by simp [intOf]; omega⟩
          | false =>
            have h34 : K ∈ frS l1 ∧ n ∈ frS l2 := by
              rcases HFn.out with h | h | h
              · have := Hb1.out; simp [h.1] at this
              · have := Hb2.out; simp [h.1] at this
              · exact h
            have h3 := decide_eq_true h34.1
            have h4 := decide_eq_true h34.2
            clear h34
            go_wp2_with fail
            refine Calls.mono (has_any _ _ K x2 Hf1.out (HI1.out.below HX2.out)) ?_
            rintro e x3 ⟨rfl, hb⟩
            have HX3 := hide (HX2.out.trans (hb.mono HX2.out.size))
            rw [h3]
            clear hb h3
            go_wp2_with fail
            refine Calls.mono (has_any _ _ n x3 Hf2.out (HI2.out.below HX3.out)) ?_
            rintro e x4 ⟨rfl, hb⟩
            have HX4 := hide (HX3.out.trans (hb.mono HX3.out.size))
            rw [h4]
            clear hb h4
            go_wp2_with fail
            exact ⟨⟨j + 1, by omega, by go_num, HX4.out⟩, by simp [intOf]; omega⟩
      · obtain rfl : j = M3 := by omega
        have HBw9 := hide (HBw7.out.trans (HBr.out.mono HBw7.out.size))
        have HR1 := hide (HR1.out.below HBr.out)
        have HR2 := hide (HR2.out.below HBr.out)
        obtain ⟨w9, hw9⟩ : ∃ w9, w9 = wr := ⟨_, rfl⟩
        subst hw9
        clear HBr
        go_wp2_with fail
        refine Calls.mono (drawCR nb pb cb w9 Hnb.out (HBy.out.below HBw9.out)) ?_
        rintro e u1 ⟨v5, v6, K2, l5, l6, rfl, -, -, hl5, hl6, hr5, hr6, hb⟩
        have HBu1 := hide (HBw9.out.trans (hb.mono HBw9.out.size))
        have HR1 := hide (HR1.out.below hb)
        have HR2 := hide (HR2.out.below hb)
        clear hb
        have Hl6 := hide hl6
        have Hl5 := hide hl5
        clear hl5 hl6
        obtain ⟨a5, p5, hf5⟩ := hr5.form
        obtain ⟨N5, hN5⟩ : ∃ N, N = l5.length := ⟨_, rfl⟩
        rw [← hN5] at hf5
        subst hf5
        clear hr5 hN5
        obtain ⟨a6, p6, hf6⟩ := hr6.form
        obtain ⟨N6, hN6⟩ : ∃ N, N = l6.length := ⟨_, rfl⟩
        rw [← hN6] at hf6
        subst hf6
        have HR6 := hide hr6
        clear hr6 hN6
        go_wp2_with fail
        refine Calls.mono (substCR _ _ (0) l1 l2 u1 Hl1.out Hl2.out HR1.out HR2.out) ?_
        rintro e u2 ⟨s7, rfl, hr7, hb⟩
        have HBu2 := hide (HBu1.out.trans (hb.mono HBu1.out.size))
        have HR1 := hide (HR1.out.below hb)
        have HR2 := hide (HR2.out.below hb)
        have HR6 := hide (HR6.out.below hb)
        clear hb
        have hle7 := rL_six (sbR l1 (0) l2)
        obtain ⟨O7, hO7⟩ : ∃ O, O = rB (sbR l1 (0) l2) := ⟨_, rfl⟩
        obtain ⟨l7, hl7⟩ : ∃ l, l = rL (sbR l1 (0) l2) := ⟨_, rfl⟩
        rw [← hl7] at hr7 hle7
        rw [← hO7]
        have HO7 := hide hO7
        have HE7 := hide hl7
        have Hl7 := hide hle7
        clear hO7 hl7 hle7
        obtain ⟨a7, p7, hf7⟩ := hr7.form
        obtain ⟨N7, hN7⟩ : ∃ N, N = l7.length := ⟨_, rfl⟩
        rw [← hN7] at hf7
        subst hf7
        have HR7 := hide hr7
        clear hr7 hN7
        go_wp2_with fail
        refine Calls.mono (substCR _ _ (0) l7 l6 u2 Hl7.out Hl6.out HR7.out HR6.out) ?_
        rintro e u3 ⟨s8, rfl, hr8, hb⟩
        have HBu3 := hide (HBu2.out.trans (hb.mono HBu2.out.size))
        have HR1 := hide (HR1.out.below hb)
        have HR2 := hide (HR2.out.below hb)
        have HR6 := hide (HR6.out.below hb)
        have HR7 := hide (HR7.out.below hb)
        clear hb
        have hle8 := rL_six (sbR l7 (0) l6)
        obtain ⟨O8, hO8⟩ : ∃ O, O = rB (sbR l7 (0) l6) := ⟨_, rfl⟩
        obtain ⟨l8, hl8⟩ : ∃ l, l = rL (sbR l7 (0) l6) := ⟨_, rfl⟩
        rw [← hl8] at hr8 hle8
        rw [← hO8]
        have HO8 := hide hO8
        have HE8 := hide hl8
        have Hl8 := hide hle8
        clear hO8 hl8 hle8
        obtain ⟨a8, p8, hf8⟩ := hr8.form
        obtain ⟨N8, hN8⟩ : ∃ N, N = l8.length := ⟨_, rfl⟩
        rw [← hN8] at hf8
        subst hf8
        have HR8 := hide hr8
        clear hr8 hN8
        go_wp2_with fail
        refine Calls.mono (shiftCR _ 1 0 l6 u3 Hl6.out HR6.out) ?_
        rintro e u4 ⟨s9, rfl, hr9, hb⟩
        have HBu4 := hide (HBu3.out.trans (hb.mono HBu3.out.size))
        have HR1 := hide (HR1.out.below hb)
        have HR2 := hide (HR2.out.below hb)
        have HR6 := hide (HR6.out.below hb)
        have HR8 := hide (HR8.out.below hb)
        clear hb
        have hle9 := rL_six (shR l6 1 0)
        obtain ⟨O9, hO9⟩ : ∃ O, O = rB (shR l6 1 0) := ⟨_, rfl⟩
        obtain ⟨l9, hl9⟩ : ∃ l, l = rL (shR l6 1 0) := ⟨_, rfl⟩
        rw [← hl9] at hr9 hle9
        rw [← hO9]
        have HO9 := hide hO9
        have HE9 := hide hl9
        have Hl9 := hide hle9
        clear hO9 hl9 hle9
        obtain ⟨a9, p9, hf9⟩ := hr9.form
        obtain ⟨N9, hN9⟩ : ∃ N, N = l9.length := ⟨_, rfl⟩
        rw [← hN9] at hf9
        subst hf9
        have HR9 := hide hr9
        clear hr9 hN9
        go_wp2_with fail
        refine Calls.mono (substCR _ _ (1) l1 l9 u4 Hl1.out Hl9.out HR1.out HR9.out) ?_
        rintro e u5 ⟨s10, rfl, hr10, hb⟩
        have HBu5 := hide (HBu4.out.trans (hb.mono HBu4.out.size))
        have HR1 := hide (HR1.out.below hb)
        have HR2 := hide (HR2.out.below hb)
        have HR6 := hide (HR6.out.below hb)
        have HR8 := hide (HR8.out.below hb)
        clear hb
        have hle10 := rL_six (sbR l1 (1) l9)
        obtain ⟨O10, hO10⟩ : ∃ O, O = rB (sbR l1 (1) l9) := ⟨_, rfl⟩
        obtain ⟨l10, hl10⟩ : ∃ l, l = rL (sbR l1 (1) l9) := ⟨_, rfl⟩
        rw [← hl10] at hr10 hle10
        rw [← hO10]
        have HO10 := hide hO10
        have HE10 := hide hl10
        have Hl10 := hide hle10
        clear hO10 hl10 hle10
        obtain ⟨a10, p10, hf10⟩ := hr10.form
        obtain ⟨N10, hN10⟩ : ∃ N, N = l10.length := ⟨_, rfl⟩
        rw [← hN10] at hf10
        subst hf10
        have HR10 := hide hr10
        clear hr10 hN10
        go_wp2_with fail
        refine Calls.mono (substCR _ _ (0) l2 l6 u5 Hl2.out Hl6.out HR2.out HR6.out) ?_
        rintro e u6 ⟨s11, rfl, hr11, hb⟩
        have HBu6 := hide (HBu5.out.trans (hb.mono HBu5.out.size))
        have HR2 := hide (HR2.out.below hb)
        have HR6 := hide (HR6.out.below hb)
        have HR8 := hide (HR8.out.below hb)
        have HR10 := hide (HR10.out.below hb)
        clear hb
        have hle11 := rL_six (sbR l2 (0) l6)
        obtain ⟨O11, hO11⟩ : ∃ O, O = rB (sbR l2 (0) l6) := ⟨_, rfl⟩
        obtain ⟨l11, hl11⟩ : ∃ l, l = rL (sbR l2 (0) l6) := ⟨_, rfl⟩
        rw [← hl11] at hr11 hle11
        rw [← hO11]
        have HO11 := hide hO11
        have HE11 := hide hl11
        have Hl11 := hide hle11
        clear hO11 hl11 hle11
        obtain ⟨a11, p11, hf11⟩ := hr11.form
        obtain ⟨N11, hN11⟩ : ∃ N, N = l11.length := ⟨_, rfl⟩
        rw [← hN11] at hf11
        subst hf11
        have HR11 := hide hr11
        clear hr11 hN11
        go_wp2_with fail
        refine Calls.mono (substCR _ _ (0) l10 l11 u6 Hl10.out Hl11.out HR10.out HR11.out) ?_
        rintro e u7 ⟨s12, rfl, hr12, hb⟩
        have HBu7 := hide (HBu6.out.trans (hb.mono HBu6.out.size))
        have HR8 := hide (HR8.out.below hb)
        have HR10 := hide (HR10.out.below hb)
        have HR11 := hide (HR11.out.below hb)
        clear hb
        have hle12 := rL_six (sbR l10 (0) l11)
        obtain ⟨O12, hO12⟩ : ∃ O, O = rB (sbR l10 (0) l11) := ⟨_, rfl⟩
        obtain ⟨l12, hl12⟩ : ∃ l, l = rL (sbR l10 (0) l11) := ⟨_, rfl⟩
        rw [← hl12] at hr12 hle12
        rw [← hO12]
        have HO12 := hide hO12
        have HE12 := hide hl12
        have Hl12 := hide hle12
        clear hO12 hl12 hle12
        obtain ⟨a12, p12, hf12⟩ := hr12.form
        obtain ⟨N12, hN12⟩ : ∃ N, N = l12.length := ⟨_, rfl⟩
        rw [← hN12] at hf12
        subst hf12
        have HR12 := hide hr12
        clear hr12 hN12
        cases O7 with
        | false =>
          go_wp2_with fail
          go_ret
          exact ⟨rfl, HBu7.out⟩
        | true =>
          cases O8 with
          | false =>
            go_wp2_with fail
            go_ret
            exact ⟨rfl, HBu7.out⟩
          | true =>
            cases O9 with
            | false =>
              go_wp2_with fail
              go_ret
              exact ⟨rfl, HBu7.out⟩
            | true =>
              cases O10 with
              | false =>
                go_wp2_with fail
                go_ret
                exact ⟨rfl, HBu7.out⟩
              | true =>
                cases O11 with
                | false =>
                  go_wp2_with fail
                  go_ret
                  exact ⟨rfl, HBu7.out⟩
                | true =>
                  cases O12 with
                  | false =>
                    go_wp2_with fail
                    go_ret
                    exact ⟨rfl, HBu7.out⟩
                  | true =>
                    have heq : l8 = l12 := by
                      have h1 := HO7.out.symm
                      have h2 := HO8.out.symm
                      have h3 := HO9.out.symm
                      have h4 := HO10.out.symm
                      have h5 := HO11.out.symm
                      have h6 := HO12.out.symm
                      rw [HE7.out] at h2
                      rw [HE9.out] at h4
                      rw [HE10.out, HE9.out, HE11.out] at h6
                      rw [HE8.out, HE12.out, HE7.out, HE10.out, HE9.out, HE11.out]
                      exact either_order h1 h2 h3 h4 h5 h6
                    have HSe := hide (sameCR _ _ l8 l12 u7 Hl8.out Hl12.out HR8.out HR12.out heq)
                    clear heq
                    go_wp2_with fail
                    refine Calls.mono HSe.out ?_
                    rintro e u8 ⟨rfl, hb⟩
                    have HBu8 := hide (HBu7.out.trans (hb.mono HBu7.out.size))
                    clear hb
                    go_wp2_with fail
                    go_ret
                    exact ⟨rfl, HBu8.out⟩

set_option maxRecDepth 100000 in
theorem lifted (os : Os) (started : os.Started) (H : Type) (enc : TypeId × Value → H) :
    ReturnsInHanded {} Try.checked os 3 .any (Rows.fnSubstSpec.pre6 enc Try.prog Try.f3 Rows.fnSubstRow.domain false) (Rows.fnSubstSpec.post enc Try.prog Try.f3 false true false false) := by
  refine returnsInHanded_of_change (C := Try.checked) own started (by kernel_rfl) Try.func3
    (ChangeSpec.witness6 (enc := enc) (C := Try.checked) false ⟨#[], #[.slice none 0 0, .slice none 0 0], []⟩ 8 (by kernel_rfl) (by kernel_rfl) (by kernel_rfl) (by kernel_rfl)) ?_
  intro W base args ds gs before hval0 hW hcnd _
  have hval : ∀ (j : Nat) t v, Try.f3.params[j]? = some t → args[j]? = some v → Value.okWide Try.prog W .any base t v := hval0
  have hW' := hW
  obtain ⟨p, q, hA0, hV, rfl, hfz, hnd⟩ := hW
  have hA : DataW.TrodAll enc Try.prog W 0 (fun _ => true) true Try.f3.params.toList args.toList ds p := hA0
  rw [Try.params3] at hA hval
  obtain ⟨v0, vs0, d0, ds0, p0, q0, hargs, rfl, rfl, h0, r0⟩ := trodAll_cons hA
  obtain ⟨v1, vs1, d1, ds1, p1, q1, rfl, rfl, rfl, h1, r1⟩ := trodAll_cons r0
  obtain ⟨rfl, rfl, rfl⟩ := trodAll_nil r1
  obtain rfl : args = #[v0, v1] := by cases args; simp_all
  obtain ⟨rfl, rfl⟩ := trodVars_none hV
  have k0 := h0
  have k1' := h1
  have lt0 : ∀ x ∈ p0, x.block < W.heap.size := by obtain ⟨m, hm⟩ := k0; exact DataW.trod_lt m _ _ _ hm
  have lt1 : ∀ x ∈ p1, x.block < W.heap.size := by obtain ⟨m, hm⟩ := k1'; exact DataW.trod_lt m _ _ _ hm
  obtain ⟨ad2, len2, cap2, rfl⟩ := okWide_slice Try.underlying22 (hval 1 22 v1 rfl rfl)
  obtain ⟨fuel2, hf2⟩ := h1
  obtain ⟨hls, hRS⟩ := open_byte hf2
  obtain ⟨ad, len, cap, rfl⟩ := okWide_slice Try.underlying22 (hval 0 22 v0 rfl rfl)
  obtain ⟨fuel, hf⟩ := h0
  obtain ⟨hl, hR⟩ := open_byte hf
  clear hA0 hval0
  refine (walk ad ad2 len len2 cap cap2 W (by unfold maxLen at hl; omega) (by unfold maxLen at hls; omega) hR hRS).mono fun e W' ⟨he, bel⟩ => ?_
  subst he
  exact ⟨_, rfl, _, _, _, [], _, [], hW', trodAll_mk1 (shut_bool Try.underlying4 _), (trodAll_cons_mk (Below.trod laidOut (by kernel_rfl) (of_decide_eq_true (by kernel_rfl)) k0 bel lt0) (trodAll_cons_mk (Below.trod laidOut (by kernel_rfl) (of_decide_eq_true (by kernel_rfl)) k1' bel lt1) trodAll_mk0)), rfl, bel.frame _, fun h => by cases h⟩

theorem over : Rows.fnSubstRow.holds Try.pinned (OpenSpec.ofChange Rows.fnSubstSpec) :=
  OpenClaim.holds_of_wide 3 Try.f3 rfl rfl rfl rfl rfl rfl rfl ⟨rfl, rfl, rfl, rfl, rfl⟩ rfl rfl rfl rfl rfl (by kernel_rfl) Try.func3 (by kernel_rfl)
    (of_decide_eq_true (by kernel_rfl)) (by unfold Func.isWrapper; first | (rw [if_pos (by decide +kernel)]; kernel_rfl) | (rw [if_neg (by decide +kernel)]; exact ⟨rfl, rfl⟩))
    (fun os started H enc _ => lifted os started H enc)
end Go.Proofs.Ytjmgnljjeogdlaa.fnSubst

namespace Go.Proofs.Ytjmgnljjeogdlaa
theorem fnSubst_holds : Rows.FnSubstSaid := fnSubst.over
#print axioms fnSubst_holds
end Go.Proofs.Ytjmgnljjeogdlaa
