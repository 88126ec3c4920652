/-
  Trees that tell more, by the specification: the contract of l9Add. Conditions: numbers of 0 to 99.
-/
import Derived.Test.YtaddopoafaojdaaCoW
import Derived.Test.YtaddopoafaojdaaCoZ
import Derived.Deep.RegionHeld3
namespace Go.Proofs.Ytaddopoafaojdaa.C
open Go.Proofs.Ytaddopoafaojdaa.W
open Go.ChangeShapes Go.WideShapes Go.ChangeAt Go.RowKit
set_option linter.unusedVariables false

/-- Two trees beside one another in a new block. -/
theorem CV.pair {w : World} {P : Nat → Prop} {a b : Tr} {n : Int} {ba bb : Bool} {na nb : Int} {sa sb : Value} {g : Nat} (hh : w.heap[g]? = some (.cells #[.bool ba, .int .i64 na, sa, .bool bb, .int .i64 nb, sb] 44 (0, 0))) (hP : P g)
    (h1 : CV w P a (.agg #[.bool ba, .int .i64 na, sa])) (h2 : CV w P b (.agg #[.bool bb, .int .i64 nb, sb])) : CV w P (.ask n a b) (.agg #[.bool true, .int .i64 n, .slice (some ⟨g, 0, none⟩) 2 2]) :=
  ⟨g, 2, ba, na, sa, bb, nb, sb, rfl, hP, (Array.getElem?_eq_some_iff.1 hh).1, (cell_of_blk hh 0).trans rfl, (cell_of_blk hh 1).trans rfl, (cell_of_blk hh 2).trans rfl, (cell_of_blk hh 3).trans rfl, (cell_of_blk hh 4).trans rfl, (cell_of_blk hh 5).trans rfl, h1, h2⟩

def AddGoal (d : Int) (t : Tr) : Prop := ∀ (u : Value) (P : Nat → Prop) (w : World), t.ok → CV w P t u →
    Calls Try.prog 43 #[u, .int .i64 d] w fun e w' => ∃ v, e = .returned v ∧ CV w' (fun g => w.heap.size ≤ g) (t.add d) v ∧ Below w.heap.size w w'

set_option maxRecDepth 20000 in
set_option maxHeartbeats 4000000 in
theorem l9Add_any (d : Int) (hd0 : 0 ≤ d) (hd1 : d ≤ 99) : ∀ t, AddGoal d t := by
  intro t
  induction t with
  | ret xn =>
    intro u P w hok hT
    obtain rfl : u = .agg #[.bool false, .int .i64 xn, .slice none 0 0] := hT
    have h1 : 0 ≤ xn ∧ xn ≤ 99 := by simpa [Tr.ok, inB] using hok
    obtain ⟨h1, h2⟩ := h1
    clear hok
    go_enter Try.func43, Try.ntmps43
    go_wp2_with fail
    refine bodyPost_ret (v := .agg #[.bool false, .int .i64 ((xn + d) % 100), .slice none 0 0]) (by simp [results, Try.results43, go_sem]) rfl ⟨_, rfl, rfl, ?_⟩
    exact ((Below.refl _ _).alloc (Nat.le_refl _) _).alloc (by simp) _
  | ask xn a b iha ihb =>
    intro u P w hok hT
    obtain ⟨g, cap, ba, na, sa, bb, nb, sb, rfl, hP, hg, c0, c1, c2, c3, c4, c5, h1, h2⟩ := hT
    obtain ⟨aad, al, ac, ea⟩ : ∃ aad al ac, sa = .slice aad al ac := by obtain ⟨_, _, ad, l, c, e⟩ := h1.form; simp at e; exact ⟨_, _, _, e.2.2⟩
    obtain ⟨bad, bl, bc, eb⟩ : ∃ bad bl bc, sb = .slice bad bl bc := by obtain ⟨_, _, ad, l, c, e⟩ := h2.form; simp at e; exact ⟨_, _, _, e.2.2⟩
    subst ea eb
    obtain ⟨w0, hw0⟩ : ∃ w0, w0 = (w.alloc (.cells #[.bool true, .int .i64 xn, .slice (some ⟨g, 0, none⟩) 2 cap] 44)).alloc (.cells #[.bool false, .int .i64 0, .slice none 0 0] 44) := ⟨_, rfl⟩
    have hB0 : Below w.heap.size w w0 := by rw [hw0]; exact ((Below.refl _ _).alloc (Nat.le_refl _) _).alloc (by simp) _
    have hbT : w0.heap[w.heap.size]? = some (.cells #[.bool true, .int .i64 xn, .slice (some ⟨g, 0, none⟩) 2 cap] 44) := by rw [hw0, heap_alloc_old _ _ (by simp)]; exact heap_alloc_new _ _
    have hbR : w0.heap[w.heap.size + 1]? = some (.cells #[.bool false, .int .i64 0, .slice none 0 0] 44) := by
      rw [hw0]
      have := heap_alloc_new (w.alloc (.cells #[.bool true, .int .i64 xn, .slice (some ⟨g, 0, none⟩) 2 cap] 44)) (.cells #[.bool false, .int .i64 0, .slice none 0 0] 44)
      simpa using this
    have hsz0 : w0.heap.size = w.heap.size + 1 + 1 := by rw [hw0]; simp
    have HW0 := hide hw0
    have HSz := hide hsz0
    have HAll : Hid (∀ w', Below w0.heap.size w0 w' → w'.cell? ⟨w.heap.size, 1, none⟩ = some (.int .i64 xn) ∧ w'.cell? ⟨w.heap.size, 2, none⟩ = some (.slice (some ⟨g, 0, none⟩) 2 cap) ∧ w'.cell? ⟨g, 0, none⟩ = some (.bool ba) ∧ w'.cell? ⟨g, 1, none⟩ = some (.int .i64 na) ∧ w'.cell? ⟨g, 2, none⟩ = some (.slice aad al ac) ∧ w'.cell? ⟨g, 3, none⟩ = some (.bool bb) ∧ w'.cell? ⟨g, 4, none⟩ = some (.int .i64 nb) ∧ w'.cell? ⟨g, 5, none⟩ = some (.slice bad bl bc)) := hide (fun w' hb => by
      have hgw : g < w0.heap.size := by omega
      have hww : w.heap.size < w0.heap.size := by omega
      exact ⟨(hb.cell (p := ⟨w.heap.size, 1, none⟩) hww).trans ((cell_of_blk hbT 1).trans rfl), (hb.cell (p := ⟨w.heap.size, 2, none⟩) hww).trans ((cell_of_blk hbT 2).trans rfl),
        (hb.cell (p := ⟨g, 0, none⟩) hgw).trans ((hB0.cell (p := ⟨g, 0, none⟩) hg).trans c0), (hb.cell (p := ⟨g, 1, none⟩) hgw).trans ((hB0.cell (p := ⟨g, 1, none⟩) hg).trans c1), (hb.cell (p := ⟨g, 2, none⟩) hgw).trans ((hB0.cell (p := ⟨g, 2, none⟩) hg).trans c2),
        (hb.cell (p := ⟨g, 3, none⟩) hgw).trans ((hB0.cell (p := ⟨g, 3, none⟩) hg).trans c3), (hb.cell (p := ⟨g, 4, none⟩) hgw).trans ((hB0.cell (p := ⟨g, 4, none⟩) hg).trans c4), (hb.cell (p := ⟨g, 5, none⟩) hgw).trans ((hB0.cell (p := ⟨g, 5, none⟩) hg).trans c5)⟩)
    have HWB0 : Hid (Below w0.heap.size w0 w0.drew) := hide (belowDrew (Below.refl _ _))
    have HBw : Hid (Below w.heap.size w w0) := hide hB0
    have HbR := hide hbR
    have H1 := hide (h1.below hB0)
    have H2 := hide (h2.below hB0)
    have HIa := hide (fun u P w h => iha u P w hok.2.1 h)
    have HIb := hide (fun u P w h => ihb u P w hok.2.2 h)
    have hlR : w.heap.size + 1 < w0.heap.size := by omega
    have HSet : Hid (∀ (w' : World) (x y z : Value) (B : Obj), Below w0.heap.size w0 w' → ((set3 w' (w.heap.size + 1) x y z).alloc B).cell? ⟨w.heap.size, 1, none⟩ = some (.int .i64 xn) ∧ ((set3 w' (w.heap.size + 1) x y z).alloc B).cell? ⟨w.heap.size, 2, none⟩ = some (.slice (some ⟨g, 0, none⟩) 2 cap) ∧ ((set3 w' (w.heap.size + 1) x y z).alloc B).cell? ⟨g, 0, none⟩ = some (.bool ba) ∧ ((set3 w' (w.heap.size + 1) x y z).alloc B).cell? ⟨g, 1, none⟩ = some (.int .i64 na) ∧ ((set3 w' (w.heap.size + 1) x y z).alloc B).cell? ⟨g, 2, none⟩ = some (.slice aad al ac) ∧ ((set3 w' (w.heap.size + 1) x y z).alloc B).cell? ⟨g, 3, none⟩ = some (.bool bb) ∧ ((set3 w' (w.heap.size + 1) x y z).alloc B).cell? ⟨g, 4, none⟩ = some (.int .i64 nb) ∧ ((set3 w' (w.heap.size + 1) x y z).alloc B).cell? ⟨g, 5, none⟩ = some (.slice bad bl bc)) := hide (fun w' x y z B hb => by
      have hb2 : w0.heap.size ≤ w'.heap.size := hb.size
      have hS : ∀ k, k < w0.heap.size → k ≠ w.heap.size + 1 → ∀ o, ((set3 w' (w.heap.size + 1) x y z).alloc B).cell? ⟨k, o, none⟩ = w'.cell? ⟨k, o, none⟩ := fun k hk hn o => World.cell?_of_block (w := w') (a := ⟨k, o, none⟩) (by
        show ((set3 w' (w.heap.size + 1) x y z).alloc B).heap[k]? = w'.heap[k]?
        rw [heap_alloc_old _ _ (by rw [set3_size]; omega), set3_ne _ _ _ _ _ hn])
      obtain ⟨v0, v1, v2, v3, v4, v5, v6, v7⟩ := HAll.out w' hb
      have k1 : w.heap.size < w0.heap.size := by have := HSz.out; omega
      have k2 : g < w0.heap.size := by omega
      have k3 : g ≠ w.heap.size + 1 := by omega
      have k4 : w.heap.size ≠ w.heap.size + 1 := by omega
      exact ⟨(hS _ k1 k4 _).trans v0, (hS _ k1 k4 _).trans v1, (hS _ k2 k3 _).trans v2, (hS _ k2 k3 _).trans v3, (hS _ k2 k3 _).trans v4, (hS _ k2 k3 _).trans v5, (hS _ k2 k3 _).trans v6, (hS _ k2 k3 _).trans v7⟩)
    clear hok hsz0 hw0 hB0 hbT hbR h1 h2 iha ihb c0 c1 c2 c3 c4 c5
    go_enter Try.func43, Try.ntmps43
    go_wp2_with fail
    rw [← HW0.out]
    clear HW0
    obtain ⟨u0, u1, u2, u3, u4, u5, u6, u7⟩ := HAll.out w0.drew HWB0.out
    go_region_held3 (fun w' => w'.cell? ⟨w.heap.size, 1, none⟩ = some (.int .i64 xn) ∧ w'.cell? ⟨w.heap.size, 2, none⟩ = some (.slice (some ⟨g, 0, none⟩) 2 cap) ∧ w'.cell? ⟨g, 0, none⟩ = some (.bool ba) ∧ w'.cell? ⟨g, 1, none⟩ = some (.int .i64 na) ∧ w'.cell? ⟨g, 2, none⟩ = some (.slice aad al ac) ∧ w'.cell? ⟨g, 3, none⟩ = some (.bool bb) ∧ w'.cell? ⟨g, 4, none⟩ = some (.int .i64 nb) ∧ w'.cell? ⟨g, 5, none⟩ = some (.slice bad bl bc)) (first | (with_reducible exact HAll.out _ HWB0.out) | (with_reducible exact HAll.out _ HWB1.out) | (with_reducible exact HAll.out _ HWB2.out) | (with_reducible exact HAll.out _ HWB3.out) | (with_reducible exact HSet.out _ _ _ _ _ HWB2.out))
      (first
        | ((with_reducible refine Calls.mono (HIb.out _ _ _ (H2.out.below HWB1.out)) ?_); rintro e W2 ⟨Wv2, rfl, hv, hx⟩; have HWB2 : Hid (Below w0.heap.size w0 W2) := hide (HWB1.out.trans (hx.mono HWB1.out.size)); have hs2 : W1.heap.size ≤ W2.heap.size := hx.size; have HV1_2 := hide (HV1.out.below hx); have HV2 := hide hv; obtain ⟨bb2, nb2, ad2, l2, cc2, rfl⟩ := hv.form; have HWB3 : Hid (Below w0.heap.size w0 (W2.alloc (.cells #[.bool bb1, .int .i64 nb1, .slice ad1 l1 cc1, .bool bb2, .int .i64 nb2, .slice ad2 l2 cc2] 44))) := hide (HWB2.out.alloc HWB2.out.size _); have hzr : W2.heap[w.heap.size + 1]? = some (.cells #[.bool false, .int .i64 0, .slice none 0 0] 44) := (HWB2.out.block (w.heap.size + 1) hlR).trans HbR.out; have zr0 : W2.cell? ⟨w.heap.size + 1, 0, none⟩ = some (.bool false) := (cell_of_blk hzr 0).trans rfl; have zr1 : W2.cell? ⟨w.heap.size + 1, 1, none⟩ = some (.int .i64 0) := (cell_of_blk hzr 1).trans rfl; have zr2 : W2.cell? ⟨w.heap.size + 1, 2, none⟩ = some (.slice none 0 0) := (cell_of_blk hzr 2).trans rfl; have zrf := unfrozen_of_blk hzr; have HZr := hide hzr; have hlW : w.heap.size + 1 < W2.heap.size := Nat.lt_of_lt_of_le hlR HWB2.out.size; have hnW : ¬ w.heap.size + 1 = W2.heap.size := (by omega); have hnW' : ¬ W2.heap.size = w.heap.size + 1 := (by omega); have hzA : ∀ B : Obj, (W2.alloc B).heap[w.heap.size + 1]? = some (.cells #[.bool false, .int .i64 0, .slice none 0 0] 44) := (fun B => (heap_alloc_old _ _ hlW).trans hzr); have za0 : ∀ B : Obj, (W2.alloc B).cell? ⟨w.heap.size + 1, 0, none⟩ = some (.bool false) := (fun B => (cell_of_blk (hzA B) 0).trans rfl); have za1 : ∀ B : Obj, (W2.alloc B).cell? ⟨w.heap.size + 1, 1, none⟩ = some (.int .i64 0) := (fun B => (cell_of_blk (hzA B) 1).trans rfl); have za2 : ∀ B : Obj, (W2.alloc B).cell? ⟨w.heap.size + 1, 2, none⟩ = some (.slice none 0 0) := (fun B => (cell_of_blk (hzA B) 2).trans rfl); have zaf : ∀ (B : Obj) i, (W2.alloc B).frozen? ⟨w.heap.size + 1, i, none⟩ = false := (fun B => unfrozen_of_blk (hzA B)); have HZA := hide hzA; clear hv hx hzr hzA)
        | ((with_reducible refine Calls.mono (HIa.out _ _ _ (H1.out.below HWB0.out)) ?_); rintro e W1 ⟨Wv1, rfl, hv, hx⟩; have HWB1 : Hid (Below w0.heap.size w0 W1) := hide (HWB0.out.trans (hx.mono HWB0.out.size)); have HV1 := hide hv; have hs1 : w0.heap.size ≤ W1.heap.size := hx.size; obtain ⟨bb1, nb1, ad1, l1, cc1, rfl⟩ := hv.form; clear hv hx))
    all_goals
      clear u0 u1 u2 u3 u4 u5 u6 u7 zr0 zr1 zr2 zrf za0 za1 za2 zaf
      go_wp2_with fail
      have hR : ((set3 W2 (w.heap.size + 1) (.bool true) (.int .i64 xn) (.slice (some ⟨W2.heap.size, 0, none⟩) 2 2)).alloc (.cells #[.bool bb1, .int .i64 nb1, .slice ad1 l1 cc1, .bool bb2, .int .i64 nb2, .slice ad2 l2 cc2] 44)).heap[w.heap.size + 1]? = some (.cells #[.bool true, .int .i64 xn, .slice (some ⟨W2.heap.size, 0, none⟩) 2 2] 44 (0, 0)) := (heap_alloc_old _ _ (by rw [set3_size]; exact hlW)).trans (set3_at HZr.out _ _ _)
      have hG : ((set3 W2 (w.heap.size + 1) (.bool true) (.int .i64 xn) (.slice (some ⟨W2.heap.size, 0, none⟩) 2 2)).alloc (.cells #[.bool bb1, .int .i64 nb1, .slice ad1 l1 cc1, .bool bb2, .int .i64 nb2, .slice ad2 l2 cc2] 44)).heap[W2.heap.size]? = some (.cells #[.bool bb1, .int .i64 nb1, .slice ad1 l1 cc1, .bool bb2, .int .i64 nb2, .slice ad2 l2 cc2] 44 (0, 0)) := by
        have := heap_alloc_new (set3 W2 (w.heap.size + 1) (.bool true) (.int .i64 xn) (.slice (some ⟨W2.heap.size, 0, none⟩) 2 2)) (.cells #[.bool bb1, .int .i64 nb1, .slice ad1 l1 cc1, .bool bb2, .int .i64 nb2, .slice ad2 l2 cc2] 44)
        rw [set3_size] at this
        exact this
      have r0 := (cell_of_blk hR 0).trans rfl
      have r1 := (cell_of_blk hR 1).trans rfl
      have r2 := (cell_of_blk hR 2).trans rfl
      have hk : ∀ k, k ≠ w.heap.size + 1 → k < W2.heap.size → ((set3 W2 (w.heap.size + 1) (.bool true) (.int .i64 xn) (.slice (some ⟨W2.heap.size, 0, none⟩) 2 2)).alloc (.cells #[.bool bb1, .int .i64 nb1, .slice ad1 l1 cc1, .bool bb2, .int .i64 nb2, .slice ad2 l2 cc2] 44)).heap[k]? = W2.heap[k]? := fun k hn hlt => (heap_alloc_old _ _ (by rw [set3_size]; exact hlt)).trans (set3_ne _ _ _ _ _ hn)
      have hss : W2.heap.size ≤ ((set3 W2 (w.heap.size + 1) (.bool true) (.int .i64 xn) (.slice (some ⟨W2.heap.size, 0, none⟩) 2 2)).alloc (.cells #[.bool bb1, .int .i64 nb1, .slice ad1 l1 cc1, .bool bb2, .int .i64 nb2, .slice ad2 l2 cc2] 44)).heap.size := by simp [World.setCell]
      refine bodyPost_ret (v := .agg #[.bool true, .int .i64 xn, .slice (some ⟨W2.heap.size, 0, none⟩) 2 2]) (by simp [results, Try.results43, go_sem, r0, r1, r2]) rfl ⟨_, rfl, ?_, ?_⟩
      · have hz := HSz.out
        refine CV.pair hG (by omega) ?_ ?_
        · exact HV1_2.out.keep hss (fun k h1 h2 => by have h1' : w0.heap.size ≤ k := h1; exact ⟨hk k (by omega) h2, by omega⟩)
        · exact HV2.out.keep hss (fun k h1 h2 => by have h1' : W1.heap.size ≤ k := h1; exact ⟨hk k (by omega) h2, by omega⟩)
      · have hb1 : Below w.heap.size w W2 := HBw.out.trans (HWB2.out.mono HBw.out.size)
        exact (below_set3 hb1 (by omega) _ _ _).alloc (by rw [set3_size]; exact hb1.size) _
end Go.Proofs.Ytaddopoafaojdaa.C
