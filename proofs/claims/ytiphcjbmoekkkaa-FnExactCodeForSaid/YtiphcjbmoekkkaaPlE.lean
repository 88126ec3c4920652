/-
  Three rows of code made one: contracts of slices.Grow and slices.Concat. Conditions: at most 1048576 steps. (Out of HcK.)
-/
import Derived.Test.YtiphcjbmoekkkaaPlV
import Derived.Test.YtiphcjbmoekkkaaPlM
import Derived.Test.YtiphcjbmoekkkaaApS
import Derived.Laws.AppendOwnNone
namespace Go.Proofs.Ytiphcjbmoekkkaa.L
open Go.Proofs.Ytiphcjbmoekkkaa.W
open Go.ChangeShapes Go.WideShapes Go.ChangeAt Go.RowKit
set_option linter.unusedVariables false

def dv (l : List Cd) : List Value := rcells 5 Cd.c l
theorem dv_len (l : List Cd) : (dv l).length = l.length * 5 := rcells_len 5 Cd.c l
theorem dv_app (a b : List Cd) : dv (a ++ b) = dv a ++ dv b := rcells_app 5 Cd.c a b
theorem RAt.news {w : World} {b o : Nat} {l : List Cd} (h : RAt 5 Cd.c w b o l) : ∀ j u, (dv l)[j]? = some u → w.cell? ((⟨b, o, none⟩ : Addr).add j) = some u := by
  intro j u hu
  have hj : j < l.length * 5 := by rw [← dv_len]; exact (List.getElem?_eq_some_iff.1 hu).1
  have hi : j / 5 < l.length := by omega
  have h1 := rcells_at 5 Cd.c l (j / 5) hi (j % 5) (by omega)
  have e : j / 5 * 5 + j % 5 = j := by omega
  rw [e] at h1
  have h2 := h.2 (j / 5) hi (j % 5) (by omega)
  have hadd : (⟨b, o, none⟩ : Addr).add j = ⟨b, o + j, none⟩ := by unfold Addr.add; split <;> simp_all
  rw [hadd, ← hu]
  show w.cell? ⟨b, o + j, none⟩ = (rcells 5 Cd.c l)[j]?
  rw [h1, ← h2]
  congr 2
  omega
theorem RRow.news {w : World} {b o : Nat} {l : List Cd} (h : CdRow w (some ⟨b, o, none⟩) l) : ∀ j u, (dv l)[j]? = some u → w.cell? ((⟨b, o, none⟩ : Addr).add j) = some u := by
  rcases h with rfl | ⟨b', o', e, h⟩
  · intro j u hu; simp [dv, rcells] at hu
  · simp only [Option.some.injEq, Addr.mk.injEq, and_true] at e
    obtain ⟨rfl, rfl⟩ := e
    exact RAt.news h

theorem belowDrwK {B : Nat} {x y : World} (h : Below B x y) : Below B x y.drew := ⟨h.os, h.tape, h.output, h.size, h.block⟩
set_option maxRecDepth 20000 in
set_option maxHeartbeats 2000000 in
theorem growD_any (n : Nat) (h0 : 0 < n) (hn : n ≤ 1048576) (w : World) :
    Calls Try.prog 64 #[.slice none 0 0, .int .i64 (n : Int)] w fun e w' => ∃ g cap, e = .returned (.slice (some ⟨g, 0, none⟩) 0 cap) ∧ w'.ownsRow w.heap.size 74 5 (.slice (some ⟨g, 0, none⟩) 0 cap) 0 [] ∧ Below w.heap.size w w' := by
  have hby : Try.t74.bytes = 40 := by kernel_rfl
  have h48 : ¬ 281474976710656 < Builtin.nextslicecap n 0 * Try.t74.bytes := by rw [nextslicecap_zero h0, hby]; omega
  have h49 : (n : Int) * (Try.t74.bytes : Int) ≤ 281474976710656 := by rw [hby]; omega
  have hni : (0 : Int) < (n : Int) := by omega
  have hn0 : ¬ n = 0 := by omega
  have hn63 : (n : Int) ≤ 9223372036854775807 := by omega
  have hge : n ≤ grownCap w n 0 74 := grownCap_ge _ _ _ _
  have hle : grownCap w n 0 74 ≤ maxLen := grownCap_le_maxLen w n 0 _ (by unfold maxLen; omega)
  have HGe := hide hge
  have HLe := hide hle
  clear hby hge hle
  go_enter Try.func64, Try.ntmps64
  go_wp2_with fail
  have hge := HGe.out
  have hle := HLe.out
  unfold grownCap at hge hle
  go_ret
  exact ⟨_, _, rfl, ⟨rfl, .inr ⟨w.heap.size, _, _, rfl, Nat.le_refl _, heap_alloc_new w _, by omega, hle, by simp [size_zeroCells]; omega, by simp⟩⟩, belowDrwK ((Below.refl _ _).alloc (Nat.le_refl _) _)⟩

set_option maxRecDepth 20000 in
set_option maxHeartbeats 2000000 in
theorem concatD_any (g b1 o1 c1 b2 o2 c2 b3 o3 c3 : Nat) (l1 l2 l3 : List Cd) (w : World) (h0 : 0 < l1.length + l2.length + l3.length) (hl : l1.length + l2.length + l3.length ≤ 1048576) (hg : g < w.heap.size)
    (q1 : w.cell? ⟨g, 0, none⟩ = some (.slice (some ⟨b1, o1, none⟩) l1.length c1)) (q2 : w.cell? ⟨g, 1, none⟩ = some (.slice (some ⟨b2, o2, none⟩) l2.length c2)) (q3 : w.cell? ⟨g, 2, none⟩ = some (.slice (some ⟨b3, o3, none⟩) l3.length c3))
    (h1 : CdRow w (some ⟨b1, o1, none⟩) l1) (h2 : CdRow w (some ⟨b2, o2, none⟩) l2) (h3 : CdRow w (some ⟨b3, o3, none⟩) l3) :
    Calls Try.prog 59 #[.slice (some ⟨g, 0, none⟩) 3 3] w fun e w' => ∃ v, e = .returned v ∧ w'.ownsRow w.heap.size 74 5 v (l1.length + l2.length + l3.length) (dv (l1 ++ l2 ++ l3)) ∧ Below w.heap.size w w' := by
  obtain ⟨i0, hi0, hz0, hz1, hz2⟩ := infoPartsT infoCd
  have Hi := hide hi0
  have H1 := hide h1
  have H2 := hide h2
  have H3 := hide h3
  clear hi0 h1 h2 h3
  go_enter Try.func59, Try.ntmps59
  go_wp2_with fail
  obtain ⟨n1, hn1⟩ : ∃ n1, n1 = l1.length := ⟨_, rfl⟩
  obtain ⟨n2, hn2⟩ : ∃ n2, n2 = l2.length := ⟨_, rfl⟩
  obtain ⟨n3, hn3⟩ : ∃ n3, n3 = l3.length := ⟨_, rfl⟩
  rw [← hn1] at q1
  rw [← hn2] at q2
  rw [← hn3] at q3
  rw [← hn1, ← hn2, ← hn3] at h0 hl
  have HN1 := hide hn1
  have HN2 := hide hn2
  have HN3 := hide hn3
  clear hn1 hn2 hn3
  go_loopw [3, 11] (fun s i w' => w' = w ∧ ((i = .int .i64 0 ∧ s = .int .i64 0) ∨ (i = .int .i64 1 ∧ s = .int .i64 (n1 : Int)) ∨ (i = .int .i64 2 ∧ s = .int .i64 ((n1 : Int) + (n2 : Int))) ∨ (i = .int .i64 3 ∧ s = .int .i64 ((n1 : Int) + (n2 : Int) + (n3 : Int))))) (fun _ i _ => 3 - (intOf i).toNat)
  case atStart => exact ⟨rfl, .inl ⟨rfl, rfl⟩⟩
  case round =>
    obtain ⟨rfl, ⟨rfl, rfl⟩ | ⟨rfl, rfl⟩ | ⟨rfl, rfl⟩ | ⟨rfl, rfl⟩⟩ := hrel
    · go_wp2_with fail
      exact ⟨⟨trivial, .inr (.inl ⟨rfl, rfl⟩)⟩, by decide⟩
    · go_wp2_with fail
      exact ⟨⟨trivial, .inr (.inr (.inl ⟨rfl, rfl⟩))⟩, by decide⟩
    · go_wp2_with fail
      exact ⟨⟨trivial, .inr (.inr (.inr ⟨rfl, rfl⟩))⟩, by decide⟩
    · go_wp2_with fail
      obtain ⟨N, hN⟩ : ∃ N, N = n1 + n2 + n3 := ⟨_, rfl⟩
      have hsum : (n1 : Int) + (n2 : Int) + (n3 : Int) = (N : Int) := by omega
      rw [hsum]
      clear hsum
      refine (growD_any N (by omega) (by omega) _).mono ?_
      have HN := hide hN
      clear hN
      rintro e w1 ⟨g1, k1, rfl, ho1, hb1⟩
      have HO1 := hide ho1
      clear ho1
      obtain ⟨W0, hW0⟩ : ∃ W0, W0 = wr := ⟨_, rfl⟩
      subst hW0
      go_wp2_with fail
      go_loopw [6, 27] (fun v i w' => Below W0.heap.size W0 w' ∧ ((i = .int .i64 0 ∧ w'.ownsRow W0.heap.size 74 5 v 0 []) ∨ (i = .int .i64 1 ∧ w'.ownsRow W0.heap.size 74 5 v n1 (dv l1)) ∨ (i = .int .i64 2 ∧ w'.ownsRow W0.heap.size 74 5 v (n1 + n2) (dv l1 ++ dv l2)) ∨ (i = .int .i64 3 ∧ w'.ownsRow W0.heap.size 74 5 v (n1 + n2 + n3) (dv l1 ++ (dv l2 ++ dv l3))))) (fun _ i _ => 3 - (intOf i).toNat)
      case atStart => exact ⟨hb1, .inl ⟨rfl, HO1.out⟩⟩
      case round =>
        clear HO1 hb1
        obtain ⟨hBr, ⟨rfl, ho⟩ | ⟨rfl, ho⟩ | ⟨rfl, ho⟩ | ⟨rfl, ho⟩⟩ := hrel
        · obtain ⟨va, vc, rfl⟩ := own_form ho
          have HO := hide ho
          have s1 := (hBr.cell (p := ⟨g, 0, none⟩) hg).trans q1
          have HNw := hide (RRow.news (H1.out.below hBr))
          have HCl := hide (dv_len l1)
          have M1 : Hid (0 + n1 ≤ maxLen) := hide (by unfold maxLen; omega)
          have hlo : W0.heap.size ≤ wr.heap.size := hBr.size
          have hne := HN1.out
          rw [← hne] at HCl
          have hob : ∀ k, (Value.slice va (0) vc).ownBlock = some k → W0.heap.size ≤ k := fun k hk => (HO.out.lt k hk).1
          have HOb := hide hob
          clear ho hne hob
          go_wp2_with (at_builtin; refine wpList_append_own _ rfl _ _ 31 rfl W0.heap.size 74 i0 (.agg #[.int .i64 0, .int .i64 0, .int .i64 0, .int .i64 0, .int .i64 0]) 5 40 Try.underlying31 Hi.out hz0 hz1 hz2 rfl (by decide) _ (0) ([]) rfl HO.out ⟨b1, o1, none⟩ n1 c1 (dv l1) rfl HCl.out HNw.out (Cd.one _) M1.out (by omega) hlo ?_)
          intro v2 w2 hown2 hgrow2 _
          have hB2 : Below W0.heap.size W0 w2 := hBr.grown hgrow2 hlo (fun k hk => HOb.out k hk)
          have HO2 := hide hown2
          obtain ⟨va2, vc2, rfl⟩ := own_form hown2
          clear hown2 hgrow2 HOb
          go_wp2_with fail
          exact ⟨⟨hB2, .inr (.inl ⟨rfl, HO2.out⟩)⟩, by decide⟩
        · obtain ⟨va, vc, rfl⟩ := own_form ho
          have HO := hide ho
          have s1 := (hBr.cell (p := ⟨g, 1, none⟩) hg).trans q2
          have HNw := hide (RRow.news (H2.out.below hBr))
          have HCl := hide (dv_len l2)
          have M1 : Hid (n1 + n2 ≤ maxLen) := hide (by unfold maxLen; omega)
          have hlo : W0.heap.size ≤ wr.heap.size := hBr.size
          have hne := HN2.out
          rw [← hne] at HCl
          have hob : ∀ k, (Value.slice va (n1) vc).ownBlock = some k → W0.heap.size ≤ k := fun k hk => (HO.out.lt k hk).1
          have HOb := hide hob
          clear ho hne hob
          go_wp2_with (at_builtin; refine wpList_append_own _ rfl _ _ 31 rfl W0.heap.size 74 i0 (.agg #[.int .i64 0, .int .i64 0, .int .i64 0, .int .i64 0, .int .i64 0]) 5 40 Try.underlying31 Hi.out hz0 hz1 hz2 rfl (by decide) _ n1 (dv l1) rfl HO.out ⟨b2, o2, none⟩ n2 c2 (dv l2) rfl HCl.out HNw.out (Cd.one _) M1.out (by omega) hlo ?_)
          intro v2 w2 hown2 hgrow2 _
          have hB2 : Below W0.heap.size W0 w2 := hBr.grown hgrow2 hlo (fun k hk => HOb.out k hk)
          have HO2 := hide hown2
          obtain ⟨va2, vc2, rfl⟩ := own_form hown2
          clear hown2 hgrow2 HOb
          go_wp2_with fail
          exact ⟨⟨hB2, .inr (.inr (.inl ⟨rfl, HO2.out⟩))⟩, by decide⟩
        · obtain ⟨va, vc, rfl⟩ := own_form ho
          have HO := hide ho
          have s1 := (hBr.cell (p := ⟨g, 2, none⟩) hg).trans q3
          have HNw := hide (RRow.news (H3.out.below hBr))
          have HCl := hide (dv_len l3)
          have M1 : Hid (n1 + n2 + n3 ≤ maxLen) := hide (by unfold maxLen; omega)
          have hlo : W0.heap.size ≤ wr.heap.size := hBr.size
          have hne := HN3.out
          rw [← hne] at HCl
          have hob : ∀ k, (Value.slice va (n1 + n2) vc).ownBlock = some k → W0.heap.size ≤ k := fun k hk => (HO.out.lt k hk).1
          have HOb := hide hob
          clear ho hne hob
          go_wp2_with (at_builtin; refine wpList_append_own _ rfl _ _ 31 rfl W0.heap.size 74 i0 (.agg #[.int .i64 0, .int .i64 0, .int .i64 0, .int .i64 0, .int .i64 0]) 5 40 Try.underlying31 Hi.out hz0 hz1 hz2 rfl (by decide) _ (n1 + n2) (dv l1 ++ dv l2) rfl HO.out ⟨b3, o3, none⟩ n3 c3 (dv l3) rfl HCl.out HNw.out (Cd.one _) M1.out (by omega) hlo ?_)
          intro v2 w2 hown2 hgrow2 _
          have hB2 : Below W0.heap.size W0 w2 := hBr.grown hgrow2 hlo (fun k hk => HOb.out k hk)
          have HO2 := hide hown2
          obtain ⟨va2, vc2, rfl⟩ := own_form hown2
          clear hown2 hgrow2 HOb
          go_wp2_with fail
          exact ⟨⟨hB2, .inr (.inr (.inr ⟨rfl, HO2.out⟩))⟩, by decide⟩
        · obtain ⟨va, vc, rfl⟩ := own_form ho
          have HO := hide ho
          clear ho
          go_wp2_with fail
          go_ret
          refine ⟨_, rfl, ?_, hBr⟩
          have h := HO.out
          rw [← dv_app, ← dv_app, ← List.append_assoc] at h
          rw [← HN1.out, ← HN2.out, ← HN3.out]
          exact h
end Go.Proofs.Ytiphcjbmoekkkaa.L
