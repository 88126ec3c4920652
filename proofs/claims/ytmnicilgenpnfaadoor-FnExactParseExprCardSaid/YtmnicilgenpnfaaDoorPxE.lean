/-
  What stands ahead of signs, by the program: the contract of readOne out of the others with a step less. Conditions: at most 1000 tokens; the table of signs as its text lays it.
-/
import Derived.Test.YtmnicilgenpnfaaDoorPxC
namespace Go.Proofs.YtmnicilgenpnfaaDoor.W
open Go.ChangeShapes Go.WideShapes Go.ChangeAt Go.RowKit
set_option linter.unusedVariables false
set_option linter.unusedSimpArgs false

theorem kd_some {l : List T.Tk} {p : Nat} (hp : p < l.length) (k : Int) : kdAt l p k = decide (l[p].k = k) := by unfold kdAt; rw [List.getElem?_eq_getElem hp]
/-- A call of another reader told on. -/
theorem PO.bad_of {w w0 w' : World} {g : Nat} {ta : Option Addr} {n tc d : Nat} {z : Rz} {e : Ending} (hb : w.grownBy w0 (some g)) (h : PO w0 g ta n tc d z e w') : PO w g ta n tc d z e w' := by
  unfold PO at h ⊢
  cases z with
  | ok ee q =>
    obtain ⟨v, h1, h2, h3, h4⟩ := h
    exact ⟨v, h1, own_lower' h2 hb.size, h3, gr_trans hb h4⟩
  | bad q t =>
    obtain ⟨h1, h2, h3⟩ := h
    exact ⟨h1, h2, gr_trans hb h3⟩
theorem PO.form {w w' : World} {g : Nat} {ta : Option Addr} {n tc d : Nat} {z : Rz} {e : Ending} (h : PO w g ta n tc d z e w') : ∃ a m c b, e = .returned (.tuple #[.slice a m c, .bool b]) := by
  unfold PO at h
  cases z with
  | ok ee q =>
    obtain ⟨v, rfl, h2, -⟩ := h
    obtain ⟨a, c, rfl⟩ := own_form' h2
    exact ⟨_, _, _, _, rfl⟩
  | bad q t =>
    obtain ⟨rfl, -⟩ := h
    exact ⟨_, _, _, _, rfl⟩

set_option maxRecDepth 20000 in
set_option maxHeartbeats 8000000 in
theorem readOne_step (g : Nat) (ta : Option Addr) (tc : Nat) (l : List T.Tk) (f : Nat) (hl : l.length ≤ 1000) (ih : PS g ta tc l f) (d p : Nat) (w : World) (hd : d ≤ 100) (hp : p ≤ l.length) (hf : 4 * (l.length - p) + 1 ≤ f + 1) (he : Env w g ta l) (hb : Bk w g (rdC ta l.length tc p d false) 40) :
    Calls Tryd.prog 23 #[.pointer (some ⟨g, 0, none⟩)] w (PO w g ta l.length tc d (rOne l (f + 1) d p)) := by
  have HE := hide he
  have HB := hide hb
  have hgl := hb.lt
  have HK := hide (fun (k : Int) (w' : World) (h : w.grownBy w' (some g)) (h2 : Bk w' g (rdC ta l.length tc p d false) 40) => isNext_any g ta tc l p d false k w' hl hp h2 (HE.out.grown h).row)
  have HS := hide (fun (s : ByteArray) (w' : World) (h : w.grownBy w' (some g)) (h2 : Bk w' g (rdC ta l.length tc p d false) 40) => isNextSign_any g ta tc l p d false s w' hl hp h2 (HE.out.grown h).row)
  have hpn : (0 : Int) ≤ (p : Int) := by omega
  have hwr : IntKind.i64.wrap ((p : Int) + 1 - 1) = (p : Int) := by rw [IntKind.wrap_i64]; omega
  have hwr2 : IntKind.i64.wrap (p : Int) = (p : Int) := by rw [IntKind.wrap_i64]; omega
  by_cases hlt : p < l.length
  · have hz : rOne l (f + 1) d p = if (l[p]).k = 1 then .ok (.leaf ⟨1, (l[p]).n, ⟨#[]⟩⟩) (p + 1) else if (l[p]).k = 2 then .ok (.leaf ⟨2, 0, (l[p]).t⟩) (p + 1)
        else if sqAt l p [45] then rAhead l f 3 d p else if sqAt l p [33] then rAhead l f 4 d p else if sqAt l p [40] then rBr l f d p else .bad p false := by rw [rOne, List.getElem?_eq_getElem hlt]
    rw [hz]
    have HT := hide (fun (w' : World) (h : w.grownBy w' (some g)) => (HE.out.grown h).row.tok (Below.refl _ _) hlt)
    have HA := hide (fun (k : Int) (w' : World) (h1 : Env w' g ta l) (h2 : Bk w' g (rdC ta l.length tc p d false) 40) => ih.2.1 k d p w' hd hlt (by omega) h1 h2)
    have HBr := hide (fun (w' : World) (h1 : Env w' g ta l) (h2 : Bk w' g (rdC ta l.length tc p d false) 40) => ih.2.2.1 d p w' hd hlt (by omega) h1 h2)
    have k1 := kd_some hlt 1
    have k2 := kd_some hlt 2
    obtain ⟨x, hx⟩ : ∃ x, x = l[p] := ⟨_, rfl⟩
    rw [← hx] at k1 k2 ⊢
    simp only [← hx] at HT
    have hlt' : (p : Int) < (l.length : Int) := by omega
    by_cases h1 : x.k = 1
    · rw [if_pos h1]
      rw [decide_eq_true h1] at k1
      unfold PO
      simp only
      clear hz ih he hb hx k2 HA HBr HS
      go_enter Tryd.func23, Tryd.ntmps23
      have HGc := hide (gr_refl w (some g))
      have HBc := HB
      clear HB
      have hq1 := HK.out 1 w HGc.out HBc.out
      rw [k1] at hq1
      have HQ1 := hide hq1
      clear hq1
      go_wp2_with fail
      refine Calls.mono (HQ1.out) ?_
      rintro e w1 ⟨rfl, hbx⟩
      have HGn := hide (gr_trans HGc.out (gr_below (some g) hbx))
      have HBn := hide (HBc.out.below hbx)
      clear hbx HGc HBc
      have HGc := HGn
      have HBc := HBn
      clear HGn HBn
      have HG1 := HGc
      have HBX := HBc
      clear HGc HBc HK
      have hB1 := HBX.out
      have c := hB1.c
      have fz := hB1.f
      unfold rdC at c
      have HB1 := hide hB1
      clear hB1
      go_upto_region 3 with fail
      obtain ⟨W, hW⟩ : ∃ W, W = w1.setCell ⟨g, 1, none⟩ (.int .i64 ((p : Int) + 1)) := ⟨_, rfl⟩
      rw [← hW]
      have HGW : Hid (w.grownBy W (some g)) := hide (by rw [hW]; exact gr_set HG1.out _ _)
      have hBW : Bk W g (rdC ta l.length tc (p + 1) d false) 40 := by
        have hz := HB1.out.set 1 (.int .i64 ((p : Int) + 1))
        simp only [rdC, List.setIfInBounds_toArray, List.set_cons_zero, List.set_cons_succ] at hz
        rw [hW]; unfold rdC; rw [show ((p + 1 : Nat) : Int) = (p : Int) + 1 by omega]; exact hz
      obtain ⟨b, o, rfl, hbl, -, q1, -, -⟩ := HT.out W HGW.out
      have d0 : W.cell? ⟨g, 0, none⟩ = some (.slice (some ⟨b, o, none⟩) l.length tc) := (hBW.c 0).trans rfl
      have d1 : W.cell? ⟨g, 1, none⟩ = some (.int .i64 ((p : Int) + 1)) := (hBW.c 1).trans (by unfold rdC; rw [show ((p + 1 : Nat) : Int) = (p : Int) + 1 by omega]; rfl)
      have HBW := hide hBW
      have hgW : g < W.heap.size := HBW.out.lt
      have HA3 : Hid (∀ w', Below W.heap.size W w' → w'.cell? ⟨g, 0, none⟩ = some (.slice (some ⟨b, o, none⟩) l.length tc) ∧ w'.cell? ⟨g, 1, none⟩ = some (.int .i64 ((p : Int) + 1)) ∧ w'.cell? ⟨b, o + p * 4 + 1, none⟩ = some (.int .i64 x.n)) := hide (fun w' hb => ⟨(hb.cell (p := ⟨g, 0, none⟩) hgW).trans d0, (hb.cell (p := ⟨g, 1, none⟩) hgW).trans d1, (hb.cell (p := ⟨b, o + p * 4 + 1, none⟩) hbl).trans q1⟩)
      have HWd : Hid (Below W.heap.size W W.drew) := hide ⟨rfl, rfl, rfl, Nat.le_refl _, fun _ _ => rfl⟩
      have HWb : Hid (∀ O : Obj, Below W.heap.size W (W.alloc O).drew) := hide (fun O => ⟨rfl, rfl, rfl, by show W.heap.size ≤ (W.alloc O).heap.size; simp, fun k hk => heap_alloc_old _ _ hk⟩)
      obtain ⟨v0, v1, v2⟩ := HA3.out W.drew HWd.out
      have hsW := HGW.out.size
      clear hW c fz hBW HB1 HG1 d0 d1 q1
      go_region_held3 (fun w' => w'.cell? ⟨g, 0, none⟩ = some (.slice (some ⟨b, o, none⟩) l.length tc) ∧ w'.cell? ⟨g, 1, none⟩ = some (.int .i64 ((p : Int) + 1)) ∧ w'.cell? ⟨b, o + p * 4 + 1, none⟩ = some (.int .i64 x.n)) (first | (with_reducible exact HA3.out _ HWd.out) | (with_reducible exact HA3.out _ (HWb.out _))) (fail)
      all_goals
        clear v0 v1 v2
        have HFb := hide (HWb.out (.cells #[.int .i64 1, .int .i64 x.n, .string ⟨#[]⟩] 47))
        have hnb : (W.alloc (.cells #[.int .i64 1, .int .i64 x.n, .string ⟨#[]⟩] 47)).drew.heap[W.heap.size]? = some (.cells #[.int .i64 1, .int .i64 x.n, .string ⟨#[]⟩] 47 (0, 0)) := heap_alloc_new W _
        have HO := hide (own_new1 hnb hsW)
        go_wp2_with fail
        exact bodyPost_ret (v := .tuple #[.slice (some ⟨W.heap.size, 0, none⟩) 1 1, .bool true]) (by simp [results, Tryd.results23, go_sem]) rfl ⟨_, rfl, HO.out, HBW.out.below HFb.out, gr_trans HGW.out (gr_below (some g) HFb.out)⟩
    by_cases h2 : x.k = 2
    · rw [if_neg h1, if_pos h2]
      rw [decide_eq_false h1] at k1
      rw [decide_eq_true h2] at k2
      unfold PO
      simp only
      clear hz ih he hb hx HA HBr HS
      go_enter Tryd.func23, Tryd.ntmps23
      have HGc := hide (gr_refl w (some g))
      have HBc := HB
      clear HB
      have hq1 := HK.out 1 w HGc.out HBc.out
      rw [k1] at hq1
      have HQ1 := hide hq1
      clear hq1
      go_wp2_with fail
      refine Calls.mono (HQ1.out) ?_
      rintro e w1 ⟨rfl, hbx⟩
      have HGn := hide (gr_trans HGc.out (gr_below (some g) hbx))
      have HBn := hide (HBc.out.below hbx)
      clear hbx HGc HBc
      have HGc := HGn
      have HBc := HBn
      clear HGn HBn
      have hq2 := HK.out 2 w1 HGc.out HBc.out
      rw [k2] at hq2
      have HQ2 := hide hq2
      clear hq2
      go_wp2_with fail
      refine Calls.mono (HQ2.out) ?_
      rintro e w2 ⟨rfl, hbx⟩
      have HGn := hide (gr_trans HGc.out (gr_below (some g) hbx))
      have HBn := hide (HBc.out.below hbx)
      clear hbx HGc HBc
      have HGc := HGn
      have HBc := HBn
      clear HGn HBn
      have HG1 := HGc
      have HBX := HBc
      clear HGc HBc HK
      have hB1 := HBX.out
      have c := hB1.c
      have fz := hB1.f
      unfold rdC at c
      have HB1 := hide hB1
      clear hB1
      go_upto_region 6 with fail
      obtain ⟨W, hW⟩ : ∃ W, W = w2.setCell ⟨g, 1, none⟩ (.int .i64 ((p : Int) + 1)) := ⟨_, rfl⟩
      rw [← hW]
      have HGW : Hid (w.grownBy W (some g)) := hide (by rw [hW]; exact gr_set HG1.out _ _)
      have hBW : Bk W g (rdC ta l.length tc (p + 1) d false) 40 := by
        have hz := HB1.out.set 1 (.int .i64 ((p : Int) + 1))
        simp only [rdC, List.setIfInBounds_toArray, List.set_cons_zero, List.set_cons_succ] at hz
        rw [hW]; unfold rdC; rw [show ((p + 1 : Nat) : Int) = (p : Int) + 1 by omega]; exact hz
      obtain ⟨b, o, rfl, hbl, -, -, q1, -⟩ := HT.out W HGW.out
      have d0 : W.cell? ⟨g, 0, none⟩ = some (.slice (some ⟨b, o, none⟩) l.length tc) := (hBW.c 0).trans rfl
      have d1 : W.cell? ⟨g, 1, none⟩ = some (.int .i64 ((p : Int) + 1)) := (hBW.c 1).trans (by unfold rdC; rw [show ((p + 1 : Nat) : Int) = (p : Int) + 1 by omega]; rfl)
      have HBW := hide hBW
      have hgW : g < W.heap.size := HBW.out.lt
      have HA3 : Hid (∀ w', Below W.heap.size W w' → w'.cell? ⟨g, 0, none⟩ = some (.slice (some ⟨b, o, none⟩) l.length tc) ∧ w'.cell? ⟨g, 1, none⟩ = some (.int .i64 ((p : Int) + 1)) ∧ w'.cell? ⟨b, o + p * 4 + 2, none⟩ = some (.string x.t)) := hide (fun w' hb => ⟨(hb.cell (p := ⟨g, 0, none⟩) hgW).trans d0, (hb.cell (p := ⟨g, 1, none⟩) hgW).trans d1, (hb.cell (p := ⟨b, o + p * 4 + 2, none⟩) hbl).trans q1⟩)
      have HWd : Hid (Below W.heap.size W W.drew) := hide ⟨rfl, rfl, rfl, Nat.le_refl _, fun _ _ => rfl⟩
      have HWb : Hid (∀ O : Obj, Below W.heap.size W (W.alloc O).drew) := hide (fun O => ⟨rfl, rfl, rfl, by show W.heap.size ≤ (W.alloc O).heap.size; simp, fun k hk => heap_alloc_old _ _ hk⟩)
      obtain ⟨v0, v1, v2⟩ := HA3.out W.drew HWd.out
      have hsW := HGW.out.size
      clear hW c fz hBW HB1 HG1 d0 d1 q1
      go_region_held3 (fun w' => w'.cell? ⟨g, 0, none⟩ = some (.slice (some ⟨b, o, none⟩) l.length tc) ∧ w'.cell? ⟨g, 1, none⟩ = some (.int .i64 ((p : Int) + 1)) ∧ w'.cell? ⟨b, o + p * 4 + 2, none⟩ = some (.string x.t)) (first | (with_reducible exact HA3.out _ HWd.out) | (with_reducible exact HA3.out _ (HWb.out _))) (fail)
      all_goals
        clear v0 v1 v2
        have HFb := hide (HWb.out (.cells #[.int .i64 2, .int .i64 0, .string x.t] 47))
        have hnb : (W.alloc (.cells #[.int .i64 2, .int .i64 0, .string x.t] 47)).drew.heap[W.heap.size]? = some (.cells #[.int .i64 2, .int .i64 0, .string x.t] 47 (0, 0)) := heap_alloc_new W _
        have HO := hide (own_new1 hnb hsW)
        go_wp2_with fail
        exact bodyPost_ret (v := .tuple #[.slice (some ⟨W.heap.size, 0, none⟩) 1 1, .bool true]) (by simp [results, Tryd.results23, go_sem]) rfl ⟨_, rfl, HO.out, HBW.out.below HFb.out, gr_trans HGW.out (gr_below (some g) HFb.out)⟩
    by_cases s45 : sqAt l p [45] = true
    · rw [if_neg h1, if_neg h2]
      rw [decide_eq_false h1] at k1
      rw [decide_eq_false h2] at k2
      rw [s45]
      simp only [if_true]
      clear hz ih he hb hx HT
      go_enter Tryd.func23, Tryd.ntmps23
      have HGc := hide (gr_refl w (some g))
      have HBc := HB
      clear HB
      have hq1 := HK.out 1 w HGc.out HBc.out
      rw [k1] at hq1
      have HQ1 := hide hq1
      clear hq1
      go_wp2_with fail
      refine Calls.mono (HQ1.out) ?_
      rintro e w1 ⟨rfl, hbx⟩
      have HGn := hide (gr_trans HGc.out (gr_below (some g) hbx))
      have HBn := hide (HBc.out.below hbx)
      clear hbx HGc HBc
      have HGc := HGn
      have HBc := HBn
      clear HGn HBn
      have hq2 := HK.out 2 w1 HGc.out HBc.out
      rw [k2] at hq2
      have HQ2 := hide hq2
      clear hq2
      go_wp2_with fail
      refine Calls.mono (HQ2.out) ?_
      rintro e w2 ⟨rfl, hbx⟩
      have HGn := hide (gr_trans HGc.out (gr_below (some g) hbx))
      have HBn := hide (HBc.out.below hbx)
      clear hbx HGc HBc
      have HGc := HGn
      have HBc := HBn
      clear HGn HBn
      have hs45 := HS.out ⟨#[45]⟩ w2 HGc.out HBc.out
      rw [show (⟨#[45]⟩ : ByteArray).data.toList = [45] from rfl, s45] at hs45
      have HS45 := hide hs45
      clear hs45
      go_wp2_with fail
      refine Calls.mono (HS45.out) ?_
      rintro e w3 ⟨rfl, hbx⟩
      have HGn := hide (gr_trans HGc.out (gr_below (some g) hbx))
      have HBn := hide (HBc.out.below hbx)
      clear hbx HGc HBc
      have HGc := HGn
      have HBc := HBn
      clear HGn HBn
      have HX := hide (HA.out 3 w3 (HE.out.grown HGc.out) HBc.out)
      clear HA HBr HK HS
      go_wp2_with fail
      refine Calls.mono HX.out ?_
      rintro e w9 hpo
      obtain ⟨a9, m9, c9, b9, rfl⟩ := hpo.form
      have HPO := hide (PO.bad_of HGc.out hpo)
      clear hpo
      go_wp2_with fail
      exact bodyPost_ret (v := .tuple #[.slice a9 m9 c9, .bool b9]) (by simp [results, Tryd.results23, go_sem]) rfl HPO.out
    rw [Bool.not_eq_true] at s45
    by_cases s33 : sqAt l p [33] = true
    · rw [if_neg h1, if_neg h2]
      rw [decide_eq_false h1] at k1
      rw [decide_eq_false h2] at k2
      rw [s45]
      simp only [Bool.false_eq_true, if_false]
      rw [s33]
      simp only [if_true]
      clear hz ih he hb hx HT
      go_enter Tryd.func23, Tryd.ntmps23
      have HGc := hide (gr_refl w (some g))
      have HBc := HB
      clear HB
      have hq1 := HK.out 1 w HGc.out HBc.out
      rw [k1] at hq1
      have HQ1 := hide hq1
      clear hq1
      go_wp2_with fail
      refine Calls.mono (HQ1.out) ?_
      rintro e w1 ⟨rfl, hbx⟩
      have HGn := hide (gr_trans HGc.out (gr_below (some g) hbx))
      have HBn := hide (HBc.out.below hbx)
      clear hbx HGc HBc
      have HGc := HGn
      have HBc := HBn
      clear HGn HBn
      have hq2 := HK.out 2 w1 HGc.out HBc.out
      rw [k2] at hq2
      have HQ2 := hide hq2
      clear hq2
      go_wp2_with fail
      refine Calls.mono (HQ2.out) ?_
      rintro e w2 ⟨rfl, hbx⟩
      have HGn := hide (gr_trans HGc.out (gr_below (some g) hbx))
      have HBn := hide (HBc.out.below hbx)
      clear hbx HGc HBc
      have HGc := HGn
      have HBc := HBn
      clear HGn HBn
      have hs45 := HS.out ⟨#[45]⟩ w2 HGc.out HBc.out
      rw [show (⟨#[45]⟩ : ByteArray).data.toList = [45] from rfl, s45] at hs45
      have HS45 := hide hs45
      clear hs45
      go_wp2_with fail
      refine Calls.mono (HS45.out) ?_
      rintro e w3 ⟨rfl, hbx⟩
      have HGn := hide (gr_trans HGc.out (gr_below (some g) hbx))
      have HBn := hide (HBc.out.below hbx)
      clear hbx HGc HBc
      have HGc := HGn
      have HBc := HBn
      clear HGn HBn
      have hs33 := HS.out ⟨#[33]⟩ w3 HGc.out HBc.out
      rw [show (⟨#[33]⟩ : ByteArray).data.toList = [33] from rfl, s33] at hs33
      have HS33 := hide hs33
      clear hs33
      go_wp2_with fail
      refine Calls.mono (HS33.out) ?_
      rintro e w4 ⟨rfl, hbx⟩
      have HGn := hide (gr_trans HGc.out (gr_below (some g) hbx))
      have HBn := hide (HBc.out.below hbx)
      clear hbx HGc HBc
      have HGc := HGn
      have HBc := HBn
      clear HGn HBn
      have HX := hide (HA.out 4 w4 (HE.out.grown HGc.out) HBc.out)
      clear HA HBr HK HS
      go_wp2_with fail
      refine Calls.mono HX.out ?_
      rintro e w9 hpo
      obtain ⟨a9, m9, c9, b9, rfl⟩ := hpo.form
      have HPO := hide (PO.bad_of HGc.out hpo)
      clear hpo
      go_wp2_with fail
      exact bodyPost_ret (v := .tuple #[.slice a9 m9 c9, .bool b9]) (by simp [results, Tryd.results23, go_sem]) rfl HPO.out
    rw [Bool.not_eq_true] at s33
    by_cases s40 : sqAt l p [40] = true
    · rw [if_neg h1, if_neg h2]
      rw [decide_eq_false h1] at k1
      rw [decide_eq_false h2] at k2
      rw [s45]
      simp only [Bool.false_eq_true, if_false]
      rw [s33]
      simp only [Bool.false_eq_true, if_false]
      rw [s40]
      simp only [if_true]
      clear hz ih he hb hx HT
      go_enter Tryd.func23, Tryd.ntmps23
      have HGc := hide (gr_refl w (some g))
      have HBc := HB
      clear HB
      have hq1 := HK.out 1 w HGc.out HBc.out
      rw [k1] at hq1
      have HQ1 := hide hq1
      clear hq1
      go_wp2_with fail
      refine Calls.mono (HQ1.out) ?_
      rintro e w1 ⟨rfl, hbx⟩
      have HGn := hide (gr_trans HGc.out (gr_below (some g) hbx))
      have HBn := hide (HBc.out.below hbx)
      clear hbx HGc HBc
      have HGc := HGn
      have HBc := HBn
      clear HGn HBn
      have hq2 := HK.out 2 w1 HGc.out HBc.out
      rw [k2] at hq2
      have HQ2 := hide hq2
      clear hq2
      go_wp2_with fail
      refine Calls.mono (HQ2.out) ?_
      rintro e w2 ⟨rfl, hbx⟩
      have HGn := hide (gr_trans HGc.out (gr_below (some g) hbx))
      have HBn := hide (HBc.out.below hbx)
      clear hbx HGc HBc
      have HGc := HGn
      have HBc := HBn
      clear HGn HBn
      have hs45 := HS.out ⟨#[45]⟩ w2 HGc.out HBc.out
      rw [show (⟨#[45]⟩ : ByteArray).data.toList = [45] from rfl, s45] at hs45
      have HS45 := hide hs45
      clear hs45
      go_wp2_with fail
      refine Calls.mono (HS45.out) ?_
      rintro e w3 ⟨rfl, hbx⟩
      have HGn := hide (gr_trans HGc.out (gr_below (some g) hbx))
      have HBn := hide (HBc.out.below hbx)
      clear hbx HGc HBc
      have HGc := HGn
      have HBc := HBn
      clear HGn HBn
      have hs33 := HS.out ⟨#[33]⟩ w3 HGc.out HBc.out
      rw [show (⟨#[33]⟩ : ByteArray).data.toList = [33] from rfl, s33] at hs33
      have HS33 := hide hs33
      clear hs33
      go_wp2_with fail
      refine Calls.mono (HS33.out) ?_
      rintro e w4 ⟨rfl, hbx⟩
      have HGn := hide (gr_trans HGc.out (gr_below (some g) hbx))
      have HBn := hide (HBc.out.below hbx)
      clear hbx HGc HBc
      have HGc := HGn
      have HBc := HBn
      clear HGn HBn
      have hs40 := HS.out ⟨#[40]⟩ w4 HGc.out HBc.out
      rw [show (⟨#[40]⟩ : ByteArray).data.toList = [40] from rfl, s40] at hs40
      have HS40 := hide hs40
      clear hs40
      go_wp2_with fail
      refine Calls.mono (HS40.out) ?_
      rintro e w5 ⟨rfl, hbx⟩
      have HGn := hide (gr_trans HGc.out (gr_below (some g) hbx))
      have HBn := hide (HBc.out.below hbx)
      clear hbx HGc HBc
      have HGc := HGn
      have HBc := HBn
      clear HGn HBn
      have HX := hide (HBr.out w5 (HE.out.grown HGc.out) HBc.out)
      clear HA HBr HK HS
      go_wp2_with fail
      refine Calls.mono HX.out ?_
      rintro e w9 hpo
      obtain ⟨a9, m9, c9, b9, rfl⟩ := hpo.form
      have HPO := hide (PO.bad_of HGc.out hpo)
      clear hpo
      go_wp2_with fail
      exact bodyPost_ret (v := .tuple #[.slice a9 m9 c9, .bool b9]) (by simp [results, Tryd.results23, go_sem]) rfl HPO.out
    rw [Bool.not_eq_true] at s40
    rw [if_neg h1, if_neg h2]
    rw [decide_eq_false h1] at k1
    rw [decide_eq_false h2] at k2
    rw [s45]
    simp only [Bool.false_eq_true, if_false]
    rw [s33]
    simp only [Bool.false_eq_true, if_false]
    rw [s40]
    simp only [Bool.false_eq_true, if_false]
    unfold PO
    simp only
    clear hz ih he hb hx HT
    go_enter Tryd.func23, Tryd.ntmps23
    have HGc := hide (gr_refl w (some g))
    have HBc := HB
    clear HB
    have hq1 := HK.out 1 w HGc.out HBc.out
    rw [k1] at hq1
    have HQ1 := hide hq1
    clear hq1
    go_wp2_with fail
    refine Calls.mono (HQ1.out) ?_
    rintro e w1 ⟨rfl, hbx⟩
    have HGn := hide (gr_trans HGc.out (gr_below (some g) hbx))
    have HBn := hide (HBc.out.below hbx)
    clear hbx HGc HBc
    have HGc := HGn
    have HBc := HBn
    clear HGn HBn
    have hq2 := HK.out 2 w1 HGc.out HBc.out
    rw [k2] at hq2
    have HQ2 := hide hq2
    clear hq2
    go_wp2_with fail
    refine Calls.mono (HQ2.out) ?_
    rintro e w2 ⟨rfl, hbx⟩
    have HGn := hide (gr_trans HGc.out (gr_below (some g) hbx))
    have HBn := hide (HBc.out.below hbx)
    clear hbx HGc HBc
    have HGc := HGn
    have HBc := HBn
    clear HGn HBn
    have hs45 := HS.out ⟨#[45]⟩ w2 HGc.out HBc.out
    rw [show (⟨#[45]⟩ : ByteArray).data.toList = [45] from rfl, s45] at hs45
    have HS45 := hide hs45
    clear hs45
    go_wp2_with fail
    refine Calls.mono (HS45.out) ?_
    rintro e w3 ⟨rfl, hbx⟩
    have HGn := hide (gr_trans HGc.out (gr_below (some g) hbx))
    have HBn := hide (HBc.out.below hbx)
    clear hbx HGc HBc
    have HGc := HGn
    have HBc := HBn
    clear HGn HBn
    have hs33 := HS.out ⟨#[33]⟩ w3 HGc.out HBc.out
    rw [show (⟨#[33]⟩ : ByteArray).data.toList = [33] from rfl, s33] at hs33
    have HS33 := hide hs33
    clear hs33
    go_wp2_with fail
    refine Calls.mono (HS33.out) ?_
    rintro e w4 ⟨rfl, hbx⟩
    have HGn := hide (gr_trans HGc.out (gr_below (some g) hbx))
    have HBn := hide (HBc.out.below hbx)
    clear hbx HGc HBc
    have HGc := HGn
    have HBc := HBn
    clear HGn HBn
    have hs40 := HS.out ⟨#[40]⟩ w4 HGc.out HBc.out
    rw [show (⟨#[40]⟩ : ByteArray).data.toList = [40] from rfl, s40] at hs40
    have HS40 := hide hs40
    clear hs40
    go_wp2_with fail
    refine Calls.mono (HS40.out) ?_
    rintro e w5 ⟨rfl, hbx⟩
    have HGn := hide (gr_trans HGc.out (gr_below (some g) hbx))
    have HBn := hide (HBc.out.below hbx)
    clear hbx HGc HBc
    have HGc := HGn
    have HBc := HBn
    clear HGn HBn
    go_wp2_with fail
    exact bodyPost_ret (v := .tuple #[.slice none 0 0, .bool false]) (by simp [results, Tryd.results23, go_sem]) rfl ⟨rfl, ⟨_, HBc.out⟩, HGc.out⟩
  · have hz : rOne l (f + 1) d p = .bad p false := by rw [rOne, List.getElem?_eq_none (by omega)]
    rw [hz]
    have k1 : kdAt l p 1 = false := by unfold kdAt; rw [List.getElem?_eq_none (by omega)]
    have k2 : kdAt l p 2 = false := by unfold kdAt; rw [List.getElem?_eq_none (by omega)]
    have s45 : sqAt l p [45] = false := by unfold sqAt; rw [List.getElem?_eq_none (by omega)]
    have s33 : sqAt l p [33] = false := by unfold sqAt; rw [List.getElem?_eq_none (by omega)]
    have s40 : sqAt l p [40] = false := by unfold sqAt; rw [List.getElem?_eq_none (by omega)]
    unfold PO
    simp only
    clear hz ih he hb
    go_enter Tryd.func23, Tryd.ntmps23
    have HGc := hide (gr_refl w (some g))
    have HBc := HB
    clear HB
    have hq1 := HK.out 1 w HGc.out HBc.out
    rw [k1] at hq1
    have HQ1 := hide hq1
    clear hq1
    go_wp2_with fail
    refine Calls.mono (HQ1.out) ?_
    rintro e w1 ⟨rfl, hbx⟩
    have HGn := hide (gr_trans HGc.out (gr_below (some g) hbx))
    have HBn := hide (HBc.out.below hbx)
    clear hbx HGc HBc
    have HGc := HGn
    have HBc := HBn
    clear HGn HBn
    have hq2 := HK.out 2 w1 HGc.out HBc.out
    rw [k2] at hq2
    have HQ2 := hide hq2
    clear hq2
    go_wp2_with fail
    refine Calls.mono (HQ2.out) ?_
    rintro e w2 ⟨rfl, hbx⟩
    have HGn := hide (gr_trans HGc.out (gr_below (some g) hbx))
    have HBn := hide (HBc.out.below hbx)
    clear hbx HGc HBc
    have HGc := HGn
    have HBc := HBn
    clear HGn HBn
    have hs45 := HS.out ⟨#[45]⟩ w2 HGc.out HBc.out
    rw [show (⟨#[45]⟩ : ByteArray).data.toList = [45] from rfl, s45] at hs45
    have HS45 := hide hs45
    clear hs45
    go_wp2_with fail
    refine Calls.mono (HS45.out) ?_
    rintro e w3 ⟨rfl, hbx⟩
    have HGn := hide (gr_trans HGc.out (gr_below (some g) hbx))
    have HBn := hide (HBc.out.below hbx)
    clear hbx HGc HBc
    have HGc := HGn
    have HBc := HBn
    clear HGn HBn
    have hs33 := HS.out ⟨#[33]⟩ w3 HGc.out HBc.out
    rw [show (⟨#[33]⟩ : ByteArray).data.toList = [33] from rfl, s33] at hs33
    have HS33 := hide hs33
    clear hs33
    go_wp2_with fail
    refine Calls.mono (HS33.out) ?_
    rintro e w4 ⟨rfl, hbx⟩
    have HGn := hide (gr_trans HGc.out (gr_below (some g) hbx))
    have HBn := hide (HBc.out.below hbx)
    clear hbx HGc HBc
    have HGc := HGn
    have HBc := HBn
    clear HGn HBn
    have hs40 := HS.out ⟨#[40]⟩ w4 HGc.out HBc.out
    rw [show (⟨#[40]⟩ : ByteArray).data.toList = [40] from rfl, s40] at hs40
    have HS40 := hide hs40
    clear hs40
    go_wp2_with fail
    refine Calls.mono (HS40.out) ?_
    rintro e w5 ⟨rfl, hbx⟩
    have HGn := hide (gr_trans HGc.out (gr_below (some g) hbx))
    have HBn := hide (HBc.out.below hbx)
    clear hbx HGc HBc
    have HGc := HGn
    have HBc := HBn
    clear HGn HBn
    go_wp2_with fail
    exact bodyPost_ret (v := .tuple #[.slice none 0 0, .bool false]) (by simp [results, Tryd.results23, go_sem]) rfl ⟨rfl, ⟨_, HBc.out⟩, HGc.out⟩
end Go.Proofs.YtmnicilgenpnfaaDoor.W
