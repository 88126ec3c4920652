/-
  Some texts of this proof in one: MaS4, MaS3, MaR9.
-/
import Derived.Test.YtnmkbpflbfhpnaaGreatJ24
import Derived.Deep.RegionHeld3
import Derived.Deep.RegionLaw
import Derived.Deep.AppendLies
import Derived.Deep.CutRange
import Derived.Test.YtnmkbpflbfhpnaaGreatJ23
/-
  A contract of goOn of a running machine at TmApp. Conditions: good machines of closed terms.
-/
namespace Go.Proofs.YtnmkbpflbfhpnaaGreat.W
open Go.ChangeShapes Go.WideShapes Go.ChangeAt Go.RowKit
set_option linter.unusedVariables false

set_option maxRecDepth 20000 in
set_option maxHeartbeats 4000000 in
theorem goOn_call (rb lo : Nat) (ad : Option Addr) (c : Nat) (l : List Cc) (a : F) (m : Mc) (f : Fm) (w : World) (hCl : Cl l a) (h : RB w rb lo (.slice ad l.length c) m) (hT : TR w lo ad c l) (hG : GM a l m) (hd : Hid (m.done = true)) (hf : m.fs.getLast? = some f) (k4 : Hid (f.k = 4)) (hv0 : Hid (¬ f.val = -1)) :
    Calls Tryz.prog 45 #[.pointer (some ⟨rb, 0, none⟩)] w fun r w' => RunOut r w' rb lo (.slice ad l.length c) m (goM a l m f) ∧ Below lo w w' := by
  have hrl := h.lt.1
  have hrb := h.lt.2
  have hle := hT.le
  have hmem : f ∈ m.fs := List.mem_of_getLast? hf
  have hfn : 0 < m.fs.length := List.length_pos_of_mem hmem
  obtain ⟨d1, d2, d3, d4⟩ := nOk_done hG.now hd.out
  obtain ⟨p1, p2, p3, p4⟩ := fOk_parts (hG.fs f hmem)
  obtain ⟨q1, q2, q3⟩ := pOk_iff.1 p1
  obtain ⟨x, e, k, x1, x2, x3, x4, x5, x6, x7⟩ := hCl.part q1
  obtain ⟨p, hp⟩ := Int.eq_ofNat_of_zero_le q1.1
  have hp' : f.pl.toNat = p := by rw [hp]; rfl
  rw [hp'] at x1 x2 x3
  have hpl : p < l.length := by have := q1.2; omega
  have hlx : l[p] = x := by rw [List.getElem?_eq_getElem hpl] at x2; simpa using x2
  have HXk : Hid (x.k = f.k) := hide (by rw [← x4, p2])
  have hl6 := hCl.le
  have HLF := hide (lastFrame_any rb lo _ m w h hfn hG.nf f hf ⟨_, _, _, rfl⟩)
  rw [hp] at HLF
  obtain ⟨i, hi⟩ := Int.eq_ofNat_of_zero_le d3
  have hil : i < m.vs.length := by omega
  have HVi := hide hi
  have HR := hide h
  have HT := hide hT
  have HG := hide hG
  have HCl := hide hCl
  have HX1 := hide x1
  have HP := hide hp
  have HP4 := hide p4
  have HQ2 := hide q2
  have HD := hide (And.intro d1 d2)
  clear h hT hG hd hf hmem p1 p2 q1 q3 x1 x2 x3 x4 x5 x6 x7 hp hp' d1 d2 hi hCl p4 q2
  go_enter Tryz.func45, Tryz.ntmps45
  go_wp2_with fail
  refine HLF.out.mono ?_
  rintro r w1 ⟨rfl, hb1⟩
  have HR1 := hide (HR.out.below hb1)
  have HT1 := hide (HT.out.below (hb1.mono hle))
  have hz1 : lo ≤ w1.heap.size := Nat.le_trans hle hb1.size
  have hW2 := Bx.new w1 #[.slice ad l.length c, .int .i64 (p : Int), .int .i64 f.env, .int .i64 f.val] 145
  have hq2 : Below w1.heap.size w1 (w1.alloc (.cells #[.slice ad l.length c, .int .i64 (p : Int), .int .i64 f.env, .int .i64 f.val] 145)) := (Below.refl _ _).alloc (Nat.le_refl _) _
  go_upto_region 2 with fail
  obtain ⟨w2, hw2⟩ : ∃ w2, w2 = w1.alloc (.cells #[.slice ad l.length c, .int .i64 (p : Int), .int .i64 f.env, .int .i64 f.val] 145) := ⟨_, rfl⟩
  rw [← hw2] at hW2 hq2 ⊢
  clear hw2 HLF
  have HR2 := hide (HR1.out.below hq2)
  have HT2 := hide (HT1.out.below (hq2.mono hz1))
  have hB2 : Below w.heap.size w w2 := hb1.trans (hq2.mono hb1.size)
  have HW2 := hide hW2
  have hwl := hW2.lt
  have hcw := hW2.c
  clear hW2 HR1 HT1 hq2
  have hz2 : lo ≤ w2.heap.size := Nat.le_trans hle hB2.size
  go_wp2_with fail
  refine (taskCell_any ad c l p f.env _ HT2.out.now hpl (by omega)).mono ?_
  rw [hlx]
  rintro r w3 ⟨rfl, hb3⟩
  have HR3 := hide (HR2.out.below hb3)
  have HT3 := hide (HT2.out.below (hb3.mono hz2))
  have HW3 := hide (HW2.out.below hb3 hwl)
  have hB3 : Below w.heap.size w w3 := hB2.trans (hb3.mono hB2.size)
  have hz3 : lo ≤ w3.heap.size := Nat.le_trans hle hB3.size
  have hwl3 := HW3.out.lt
  clear hcw hb3 HR2 HT2 HW2
  have hcw := HW3.out.c
  have hrw : ¬ rb = w1.heap.size := by have := hb1.size; omega
  have hfd := fieldCell
  rw [HXk.out]
  have k4' := k4.out
  rw [k4']
  obtain ⟨-, v1, v2⟩ := HP4.out.resolve_left hv0.out
  obtain ⟨j, hj⟩ := Int.eq_ofNat_of_zero_le v1
  have hjl : j < m.vs.length := by omega
  obtain ⟨hjl', hve, hvo⟩ := vlAt_ok HG.out ⟨v1, v2⟩
  have hjt : f.val.toNat = j := by rw [hj]; rfl
  have e1 : vlAt m f.val = m.vs[j] := by rw [hve]; simp only [hjt]
  rw [e1] at hvo
  have HU : Hid (∃ p2 x2 d2 k2, (m.vs[j].fn = true → m.vs[j].pl = ((p2 : Nat) : Int) ∧ (ndT a)[p2]? = some (x2, d2, k2) ∧ 0 < ar x2.k)) := hide (by
    by_cases hfn2 : m.vs[j].fn = true
    · obtain ⟨g1, g2, g3, g4⟩ := vOk_fn hvo hfn2
      obtain ⟨r1, r2, r3⟩ := pOk_iff.1 g2
      obtain ⟨y, e', k', y1, y2, y3, y4, y5, y6, y7⟩ := HCl.out.part r1
      obtain ⟨p2, hp2⟩ := Int.eq_ofNat_of_zero_le r1.1
      refine ⟨p2, y, e', k', fun _ => ⟨hp2, ?_, ?_⟩⟩
      · rw [show m.vs[j].pl.toNat = p2 by rw [hp2]; rfl] at y1; exact y1
      · rw [← y4, g3]; decide
    · exact ⟨0, x, e, k, fun h => absurd h hfn2⟩)
  obtain ⟨p2, x2, d2, k2, hu⟩ := HU.out
  have HCa := hide (fun (w' : World) (hb : Below w3.heap.size w3 w') => call_any rb lo ad c l a m m.vs[j] p2 x2 d2 k2 w' HCl.out (HR3.out.below hb) (HT3.out.below (hb.mono hz3)) hu hfn HG.out.nb)
  obtain ⟨af, cf, av, cv, ab, cb, g1, g2, g3, g4, -⟩ := HR3.out.slots
  have c6 : w3.cell? ⟨rb, 6, none⟩ = some (.slice av m.vs.length cv) := g1.c 6
  have cw3 : w3.cell? ⟨w1.heap.size, 3, none⟩ = some (.int .i64 f.val) := HW3.out.c 3
  have cwx : w3.cell? ⟨w1.heap.size, 3, none⟩ = some (.int .i64 (j : Int)) := by rw [cw3, hj]
  obtain ⟨b, o, hav, hb, u0, u1, u2, u3⟩ := VlRow.tok (RRow.ofOwn g3 rfl) (Below.refl _ _) hjl
  subst hav
  have hgo : goM a l m f = (if m.vs[j].fn = true then bindM m m.vs[j].env (kp a m.vs[j].pl 0) else .inr 3) := by
    unfold goM; rw [if_neg (by omega), if_neg (by omega), if_neg hv0.out, if_pos k4', e1]
  rw [← hgo] at HCa
  obtain ⟨y, hy⟩ : ∃ y, y = m.vs[j] := ⟨_, rfl⟩
  rw [← hy] at HCa u0 u1 u2 u3
  have hjn : (j : Int) < (m.vs.length : Int) := by omega
  have hj0 : (0 : Int) ≤ (j : Int) := by omega
  have hvne : (decide (f.val = -1)) = false := by simpa using hv0.out
  clear g1 g2 g3 g4 hy hgo hu HU e1 hvo hve hjt hjl' v1 v2
  obtain ⟨y0, y1, y2, y3⟩ := y
  simp only at u0 u1 u2 u3
  have hcj := hcw
  simp only [hj] at hcj
  have hne1 : ¬ (j : Int) = -1 := by omega
  have HJ := hide hj
  clear cw3 hcw hvne hj HW3 hv0
  have HHf := hide (fun (w' : World) => hasFirst_any (.slice ad l.length c) (p : Int) f.env (j : Int) w' true (by simp) ⟨_, _, _, rfl⟩)
  go_wp2_with fail
  refine (HHf.out _).mono ?_
  rintro r w3' ⟨rfl, hb3'⟩
  have HCa := hide (fun (w' : World) (hb : Below w3'.heap.size w3' w') => HCa.out w' (hb3'.trans (hb.mono hb3'.size)))
  have c6 := (hb3'.cell (p := ⟨rb, 6, none⟩) (by show rb < _; have := hB3.size; omega)).trans c6
  have cwx := (hb3'.cell (p := ⟨w1.heap.size, 3, none⟩) hwl3).trans cwx
  have u0 := (hb3'.cell (p := ⟨b, o + j * 4, none⟩) hb).trans u0
  have u1 := (hb3'.cell (p := ⟨b, o + j * 4 + 1, none⟩) hb).trans u1
  have u2 := (hb3'.cell (p := ⟨b, o + j * 4 + 2, none⟩) hb).trans u2
  have u3 := (hb3'.cell (p := ⟨b, o + j * 4 + 3, none⟩) hb).trans u3
  have hB3 := hB3.trans (hb3'.mono hB3.size)
  clear hb3' hcj
  go_upto_region 12 with fail
  go_region_with (first | (go_at_call 84; (with_reducible refine (HCa.out _ (belowDrew (Below.refl _ _))).mono ?_); rintro r w4 ⟨ho4, hb4⟩; have hB4 : Below lo w w4 := (hB3.mono hle).trans ⟨hb4.os, hb4.tape, hb4.output, hb4.size, hb4.block⟩; obtain ⟨rfl, hR4⟩ := ho4.get; have HR4 := hide hR4; clear ho4 hb4 hR4))
  all_goals
    clear u0 u1 u2 u3 c6 cwx
    go_wp2_with fail
    go_ret
    exact ⟨RunOut.put ⟨rfl, HR4.out⟩, hB4⟩
end Go.Proofs.YtnmkbpflbfhpnaaGreat.W

/-
  Contracts of goOn of a running machine at TmIf and at TmLet. Conditions: good machines of closed terms.
-/
namespace Go.Proofs.YtnmkbpflbfhpnaaGreat.W
open Go.ChangeShapes Go.WideShapes Go.ChangeAt Go.RowKit
set_option linter.unusedVariables false

set_option maxRecDepth 20000 in
set_option maxHeartbeats 4000000 in
theorem goOn_if (rb lo : Nat) (ad : Option Addr) (c : Nat) (l : List Cc) (a : F) (m : Mc) (f : Fm) (w : World) (hCl : Cl l a) (h : RB w rb lo (.slice ad l.length c) m) (hT : TR w lo ad c l) (hG : GM a l m) (hd : Hid (m.done = true)) (hf : m.fs.getLast? = some f) (k6 : Hid (f.k = 6)) :
    Calls Tryz.prog 45 #[.pointer (some ⟨rb, 0, none⟩)] w fun r w' => RunOut r w' rb lo (.slice ad l.length c) m (goM a l m f) ∧ Below lo w w' := by
  have hrl := h.lt.1
  have hrb := h.lt.2
  have hle := hT.le
  have hmem : f ∈ m.fs := List.mem_of_getLast? hf
  have hfn : 0 < m.fs.length := List.length_pos_of_mem hmem
  obtain ⟨d1, d2, d3, d4⟩ := nOk_done hG.now hd.out
  obtain ⟨p1, p2, p3, p4⟩ := fOk_parts (hG.fs f hmem)
  obtain ⟨q1, q2, q3⟩ := pOk_iff.1 p1
  obtain ⟨x, e, k, x1, x2, x3, x4, x5, x6, x7⟩ := hCl.part q1
  obtain ⟨p, hp⟩ := Int.eq_ofNat_of_zero_le q1.1
  have hp' : f.pl.toNat = p := by rw [hp]; rfl
  rw [hp'] at x1 x2 x3
  have hpl : p < l.length := by have := q1.2; omega
  have hlx : l[p] = x := by rw [List.getElem?_eq_getElem hpl] at x2; simpa using x2
  have HXk : Hid (x.k = f.k) := hide (by rw [← x4, p2])
  have hl6 := hCl.le
  have HLF := hide (lastFrame_any rb lo _ m w h hfn hG.nf f hf ⟨_, _, _, rfl⟩)
  rw [hp] at HLF
  obtain ⟨i, hi⟩ := Int.eq_ofNat_of_zero_le d3
  have hil : i < m.vs.length := by omega
  have HVi := hide hi
  have HR := hide h
  have HT := hide hT
  have HG := hide hG
  have HCl := hide hCl
  have HX1 := hide x1
  have HP := hide hp
  have HP4 := hide p4
  have HQ2 := hide q2
  have HD := hide (And.intro d1 d2)
  clear h hT hG hd hf hmem p1 p2 q1 q3 x1 x2 x3 x4 x5 x6 x7 hp hp' d1 d2 hi hCl p4 q2
  go_enter Tryz.func45, Tryz.ntmps45
  go_wp2_with fail
  refine HLF.out.mono ?_
  rintro r w1 ⟨rfl, hb1⟩
  have HR1 := hide (HR.out.below hb1)
  have HT1 := hide (HT.out.below (hb1.mono hle))
  have hz1 : lo ≤ w1.heap.size := Nat.le_trans hle hb1.size
  have hW2 := Bx.new w1 #[.slice ad l.length c, .int .i64 (p : Int), .int .i64 f.env, .int .i64 f.val] 145
  have hq2 : Below w1.heap.size w1 (w1.alloc (.cells #[.slice ad l.length c, .int .i64 (p : Int), .int .i64 f.env, .int .i64 f.val] 145)) := (Below.refl _ _).alloc (Nat.le_refl _) _
  go_upto_region 2 with fail
  obtain ⟨w2, hw2⟩ : ∃ w2, w2 = w1.alloc (.cells #[.slice ad l.length c, .int .i64 (p : Int), .int .i64 f.env, .int .i64 f.val] 145) := ⟨_, rfl⟩
  rw [← hw2] at hW2 hq2 ⊢
  clear hw2 HLF
  have HR2 := hide (HR1.out.below hq2)
  have HT2 := hide (HT1.out.below (hq2.mono hz1))
  have hB2 : Below w.heap.size w w2 := hb1.trans (hq2.mono hb1.size)
  have HW2 := hide hW2
  have hwl := hW2.lt
  have hcw := hW2.c
  clear hW2 HR1 HT1 hq2
  have hz2 : lo ≤ w2.heap.size := Nat.le_trans hle hB2.size
  go_wp2_with fail
  refine (taskCell_any ad c l p f.env _ HT2.out.now hpl (by omega)).mono ?_
  rw [hlx]
  rintro r w3 ⟨rfl, hb3⟩
  have HR3 := hide (HR2.out.below hb3)
  have HT3 := hide (HT2.out.below (hb3.mono hz2))
  have HW3 := hide (HW2.out.below hb3 hwl)
  have hB3 : Below w.heap.size w w3 := hB2.trans (hb3.mono hB2.size)
  have hz3 : lo ≤ w3.heap.size := Nat.le_trans hle hB3.size
  have hwl3 := HW3.out.lt
  clear hcw hb3 HR2 HT2 HW2
  have hcw := HW3.out.c
  have hrw : ¬ rb = w1.heap.size := by have := hb1.size; omega
  have hfd := fieldCell
  rw [HXk.out]
  have k6' := k6.out
  rw [k6']
  have HCh := hide (choose_any rb lo ad c l a m p f.env f.val x e k i w3 HCl.out HR3.out HT3.out HX1.out (by rw [HXk.out, k6']) hfn hil HVi.out HG.out.nv)
  go_wp2_with fail
  refine HCh.out.mono ?_
  rintro r w4 ⟨ho4, hb4⟩
  have hB4 : Below lo w w4 := (hB3.mono hle).trans hb4
  have e1 : vlAt m m.val = m.vs[i] := by unfold vlAt; rw [HVi.out, List.getD_eq_getElem?_getD]; simp [hil]
  have hgo : goM a l m f = (if m.vs[i].fn = true then .inr 3 else .inl (nextM { m with fs := m.fs.dropLast } (kp a p (if m.vs[i].num = 0 then 1 else 2)) f.env)) := by
    unfold goM; rw [if_pos k6', e1, HP.out]
  clear hcw
  rw [← hgo] at ho4
  cases hgm : goM a l m f with
  | inl m' =>
    rw [hgm] at ho4
    obtain ⟨rfl, hR4⟩ := ho4
    go_wp2_with fail
    go_ret
    refine ⟨?_, hB4⟩
    first
      | exact ⟨rfl, hR4⟩
      | (rw [hgm]; exact ⟨rfl, hR4⟩)
  | inr cd =>
    rw [hgm] at ho4
    obtain ⟨rfl, hR4⟩ := ho4
    go_wp2_with fail
    go_ret
    refine ⟨?_, hB4⟩
    first
      | exact ⟨rfl, hR4⟩
      | (rw [hgm]; exact ⟨rfl, hR4⟩)


set_option maxRecDepth 20000 in
set_option maxHeartbeats 4000000 in
theorem goOn_let (rb lo : Nat) (ad : Option Addr) (c : Nat) (l : List Cc) (a : F) (m : Mc) (f : Fm) (w : World) (hCl : Cl l a) (h : RB w rb lo (.slice ad l.length c) m) (hT : TR w lo ad c l) (hG : GM a l m) (hd : Hid (m.done = true)) (hf : m.fs.getLast? = some f) (k7 : Hid (f.k = 7)) :
    Calls Tryz.prog 45 #[.pointer (some ⟨rb, 0, none⟩)] w fun r w' => RunOut r w' rb lo (.slice ad l.length c) m (goM a l m f) ∧ Below lo w w' := by
  have hrl := h.lt.1
  have hrb := h.lt.2
  have hle := hT.le
  have hmem : f ∈ m.fs := List.mem_of_getLast? hf
  have hfn : 0 < m.fs.length := List.length_pos_of_mem hmem
  obtain ⟨d1, d2, d3, d4⟩ := nOk_done hG.now hd.out
  obtain ⟨p1, p2, p3, p4⟩ := fOk_parts (hG.fs f hmem)
  obtain ⟨q1, q2, q3⟩ := pOk_iff.1 p1
  obtain ⟨x, e, k, x1, x2, x3, x4, x5, x6, x7⟩ := hCl.part q1
  obtain ⟨p, hp⟩ := Int.eq_ofNat_of_zero_le q1.1
  have hp' : f.pl.toNat = p := by rw [hp]; rfl
  rw [hp'] at x1 x2 x3
  have hpl : p < l.length := by have := q1.2; omega
  have hlx : l[p] = x := by rw [List.getElem?_eq_getElem hpl] at x2; simpa using x2
  have HXk : Hid (x.k = f.k) := hide (by rw [← x4, p2])
  have hl6 := hCl.le
  have HLF := hide (lastFrame_any rb lo _ m w h hfn hG.nf f hf ⟨_, _, _, rfl⟩)
  rw [hp] at HLF
  obtain ⟨i, hi⟩ := Int.eq_ofNat_of_zero_le d3
  have hil : i < m.vs.length := by omega
  have HVi := hide hi
  have HR := hide h
  have HT := hide hT
  have HG := hide hG
  have HCl := hide hCl
  have HX1 := hide x1
  have HP := hide hp
  have HP4 := hide p4
  have HQ2 := hide q2
  have HD := hide (And.intro d1 d2)
  clear h hT hG hd hf hmem p1 p2 q1 q3 x1 x2 x3 x4 x5 x6 x7 hp hp' d1 d2 hi hCl p4 q2
  go_enter Tryz.func45, Tryz.ntmps45
  go_wp2_with fail
  refine HLF.out.mono ?_
  rintro r w1 ⟨rfl, hb1⟩
  have HR1 := hide (HR.out.below hb1)
  have HT1 := hide (HT.out.below (hb1.mono hle))
  have hz1 : lo ≤ w1.heap.size := Nat.le_trans hle hb1.size
  have hW2 := Bx.new w1 #[.slice ad l.length c, .int .i64 (p : Int), .int .i64 f.env, .int .i64 f.val] 145
  have hq2 : Below w1.heap.size w1 (w1.alloc (.cells #[.slice ad l.length c, .int .i64 (p : Int), .int .i64 f.env, .int .i64 f.val] 145)) := (Below.refl _ _).alloc (Nat.le_refl _) _
  go_upto_region 2 with fail
  obtain ⟨w2, hw2⟩ : ∃ w2, w2 = w1.alloc (.cells #[.slice ad l.length c, .int .i64 (p : Int), .int .i64 f.env, .int .i64 f.val] 145) := ⟨_, rfl⟩
  rw [← hw2] at hW2 hq2 ⊢
  clear hw2 HLF
  have HR2 := hide (HR1.out.below hq2)
  have HT2 := hide (HT1.out.below (hq2.mono hz1))
  have hB2 : Below w.heap.size w w2 := hb1.trans (hq2.mono hb1.size)
  have HW2 := hide hW2
  have hwl := hW2.lt
  have hcw := hW2.c
  clear hW2 HR1 HT1 hq2
  have hz2 : lo ≤ w2.heap.size := Nat.le_trans hle hB2.size
  go_wp2_with fail
  refine (taskCell_any ad c l p f.env _ HT2.out.now hpl (by omega)).mono ?_
  rw [hlx]
  rintro r w3 ⟨rfl, hb3⟩
  have HR3 := hide (HR2.out.below hb3)
  have HT3 := hide (HT2.out.below (hb3.mono hz2))
  have HW3 := hide (HW2.out.below hb3 hwl)
  have hB3 : Below w.heap.size w w3 := hB2.trans (hb3.mono hB2.size)
  have hz3 : lo ≤ w3.heap.size := Nat.le_trans hle hB3.size
  have hwl3 := HW3.out.lt
  clear hcw hb3 HR2 HT2 HW2
  have hcw := HW3.out.c
  have hrw : ¬ rb = w1.heap.size := by have := hb1.size; omega
  have hfd := fieldCell
  rw [HXk.out]
  have k7' := k7.out
  rw [k7']
  have har : ar x.k = 2 := by rw [HXk.out, k7']; rfl
  have HPt := hide (partNo_any ad c l a p f.env 1 x e k w3 HCl.out HX1.out (by omega) HT3.out.cap HT3.out.max HT3.out.now)
  rw [show ((1 : Nat) : Int) = 1 from rfl] at HPt
  go_wp2_with fail
  refine HPt.out.mono ?_
  rintro r w3' ⟨rfl, hb3'⟩
  have HR3' := hide (HR3.out.below hb3')
  have hB3' : Below lo w w3' := (hB3.mono hle).trans (hb3'.mono hz3)
  clear hcw hb3'
  go_wp2_with fail
  refine (bind_any rb lo _ _ m _ _ _ HR3'.out HG.out.nb hfn (Nat.le_trans hle hB3'.size) ⟨_, _, _, rfl⟩).mono ?_
  rintro r w4 ⟨ho4, hb4⟩
  have hB4 : Below lo w w4 := hB3'.trans hb4
  have hgo : goM a l m f = bindM m f.env (kp a p 1) := by
    unfold goM; rw [if_neg (by omega), if_pos k7', HP.out]
  rw [← hgo] at ho4
  cases hgm : goM a l m f with
  | inl m' =>
    rw [hgm] at ho4
    obtain ⟨rfl, hR4⟩ := ho4
    go_wp2_with fail
    go_ret
    refine ⟨?_, hB4⟩
    first
      | exact ⟨rfl, hR4⟩
      | (rw [hgm]; exact ⟨rfl, hR4⟩)
  | inr cd =>
    rw [hgm] at ho4
    obtain ⟨rfl, hR4⟩ := ho4
    go_wp2_with fail
    go_ret
    refine ⟨?_, hB4⟩
    first
      | exact ⟨rfl, hR4⟩
      | (rw [hgm]; exact ⟨rfl, hR4⟩)


end Go.Proofs.YtnmkbpflbfhpnaaGreat.W

/-
  A contract of begin of a running machine. Conditions: good machines of closed terms.
-/
namespace Go.Proofs.YtnmkbpflbfhpnaaGreat.W
open Go.ChangeShapes Go.WideShapes Go.ChangeAt Go.RowKit
set_option linter.unusedVariables false

/-- A frame more. -/
theorem RB.pushF {w w6 : World} {rb lo : Nat} {tv : Value} {m : Mc} {af : Option Addr} {cf g6 cap6 : Nat} {v : Fm} (h : RB w rb lo tv m)
    (hx : ∃ sv sb, Bx w rb #[tv, .bool m.done, .int .i64 m.pl, .int .i64 m.env, .int .i64 m.val, .slice af m.fs.length cf, sv, sb] 66)
    (ho : w6.ownsRow lo 141 4 (.slice (some ⟨g6, 0, none⟩) (m.fs.length + 1) cap6) (m.fs.length + 1) (rcells 4 Fm.c m.fs ++ [.int .i64 v.k, .int .i64 v.pl, .int .i64 v.env, .int .i64 v.val]))
    (hg : ∀ k, k < w.heap.size → some k ≠ (Value.slice af m.fs.length cf).ownBlock → w6.heap[k]? = w.heap[k]?) : RB (w6.setCell ⟨rb, 5, none⟩ (.slice (some ⟨g6, 0, none⟩) (m.fs.length + 1) cap6)) rb lo tv { m with fs := m.fs ++ [v] } := by
  obtain ⟨sf, sv, sb, h1, h2, h3, h4, h5⟩ := h
  obtain ⟨sv', sb', hx⟩ := hx
  have hcell := (h1.c 5).symm.trans (hx.c 5)
  have hsf : sf = .slice af m.fs.length cf := by simpa using hcell
  subst hsf
  have d1 := own_apart h3 h2 (by decide)
  have d2 := own_apart h4 h2 (by decide)
  have nb := own_bx h1 h2 (by decide)
  have hX6 : Bx w6 rb #[tv, .bool m.done, .int .i64 m.pl, .int .i64 m.env, .int .i64 m.val, .slice af m.fs.length cf, sv, sb] 66 := (hg rb h1.lt (fun e => nb e.symm)).trans h1
  have h3' := own_same (w' := w6) h3 (fun k hk _ hl => hg k hl (fun e => d1 k hk e.symm))
  have h4' := own_same (w' := w6) h4 (fun k hk _ hl => hg k hl (fun e => d2 k hk e.symm))
  refine ⟨.slice (some ⟨g6, 0, none⟩) (m.fs.length + 1) cap6, sv, sb, ?_, ?_, ?_, ?_, h5⟩
  · have := hX6.set 5 (.slice (some ⟨g6, 0, none⟩) (m.fs.length + 1) cap6)
    simpa using this
  · simp only
    rw [lies_v, List.length_append]
    exact own_same ho (fun k hk _ hl => Below.heap_setCell _ _ _ _ (fun e => own_bx hX6 ho (by decide) ((show k = rb from e) ▸ hk)))
  · exact own_same h3' (fun k hk _ hl => Below.heap_setCell _ _ _ _ (fun e => own_bx hX6 h3' (by decide) ((show k = rb from e) ▸ hk)))
  · exact own_same h4' (fun k hk _ hl => Below.heap_setCell _ _ _ _ (fun e => own_bx hX6 h4' (by decide) ((show k = rb from e) ▸ hk)))

set_option maxRecDepth 20000 in
set_option maxHeartbeats 4000000 in
theorem begin_var (rb lo : Nat) (ad : Option Addr) (c : Nat) (l : List Cc) (a : F) (m : Mc) (w : World) (hCl : Cl l a) (h : RB w rb lo (.slice ad l.length c) m) (hT : TR w lo ad c l) (hG : GM a l m) (hd : m.done = false) (x : Cc) (hxx : l[m.pl.toNat]? = some x) (k1h : Hid (x.k = 1)) :
    Calls Tryz.prog 44 #[.pointer (some ⟨rb, 0, none⟩)] w fun r w' => RunOut r w' rb lo (.slice ad l.length c) m (.inl (comeM m (lkB m.bs x.n.toNat m.env))) ∧ Below lo w w' := by
  have hrl := h.lt.1
  have hrb := h.lt.2
  have hle := hT.le
  obtain ⟨n1, n2⟩ := nOk_not hG.now hd
  obtain ⟨q1, q2, q3⟩ := pOk_iff.1 n2
  obtain ⟨x', e, k, x1, x2, x3, x4, x5, x6, x7⟩ := hCl.part q1
  obtain rfl : x = x' := by rw [x2] at hxx; simpa using hxx.symm
  obtain ⟨p, hp⟩ := Int.eq_ofNat_of_zero_le q1.1
  have hp' : m.pl.toNat = p := by rw [hp]; rfl
  rw [hp'] at x1 x2 x3
  have hpl : p < l.length := by have := q1.2; omega
  have hlx : l[p] = x := by rw [List.getElem?_eq_getElem hpl] at x2; simpa using x2
  have hnf := hG.nf
  have hnv := hG.nv
  obtain ⟨af, cf, av, cv, ab, cb, h1, h2, h3, h4, -⟩ := h.slots
  have t0 : w.cell? ⟨rb, 0, none⟩ = some (.slice ad l.length c) := h1.c 0
  have t2 : w.cell? ⟨rb, 2, none⟩ = some (.int .i64 (p : Int)) := by rw [h1.c 2]; simp [hp]
  have t3 : w.cell? ⟨rb, 3, none⟩ = some (.int .i64 m.env) := h1.c 3
  have HR := hide h
  have HT := hide hT
  have HG := hide hG
  have HX := hide h1
  clear h1 h2 h3 h4 h n2 hxx x4 x2
  go_enter Tryz.func44, Tryz.ntmps44
  go_upto_region 1 with fail
  go_cut [3] from 5 to 82 (fun v wx => v = .pointer (some ⟨w.heap.size, 0, none⟩) ∧ Bx wx w.heap.size #[.slice ad l.length c, .int .i64 (p : Int), .int .i64 m.env] 136 ∧ Below w.heap.size w wx)
  case first =>
    go_region_held3 (fun w' => w'.cell? ⟨rb, 0, none⟩ = some (.slice ad l.length c) ∧ w'.cell? ⟨rb, 2, none⟩ = some (.int .i64 (p : Int)) ∧ w'.cell? ⟨rb, 3, none⟩ = some (.int .i64 m.env)) (go_keep)
      (first | fail)
    go_wp2_with fail
    go_meet
    exact ⟨rfl, (Bx.new w _ _).drew, belowDrew ((Below.refl _ _).alloc (Nat.le_refl _) _)⟩
  case rest =>
    obtain ⟨rfl, hP, hBc⟩ := hcut
    have HP := hide hP
    have hcp := hP.c
    have hpl2 := hP.lt
    have HRc := hide (HR.out.below hBc)
    have HTc := hide (HT.out.below (hBc.mono hle))
    have hzc : lo ≤ wc.heap.size := Nat.le_trans hle hBc.size
    clear t0 t2 t3 hP
    go_wp2_with fail
    refine (taskCell_any ad c l p m.env _ HTc.out.now hpl (by have := hCl.le; omega)).mono ?_
    rw [hlx]
    rintro r w1 ⟨rfl, hb1⟩
    have HP1 := hide (HP.out.below hb1 hpl2)
    have HR1 := hide (HRc.out.below hb1)
    have HT1 := hide (HTc.out.below (hb1.mono hzc))
    have hB1 : Below w.heap.size w w1 := hBc.trans (hb1.mono hBc.size)
    clear hcp hb1 HP HRc HTc hBc
    have hz1 : lo ≤ w1.heap.size := Nat.le_trans hle hB1.size
    have hC2 := Bx.new w1 #[.int .i64 x.k, .int .i64 x.n] 46
    have hq2 : Below w1.heap.size w1 (w1.alloc (.cells #[.int .i64 x.k, .int .i64 x.n] 46)) := (Below.refl _ _).alloc (Nat.le_refl _) _
    go_upto_region 3 with fail
    obtain ⟨w2, hw2⟩ : ∃ w2, w2 = w1.alloc (.cells #[.int .i64 x.k, .int .i64 x.n] 46) := ⟨_, rfl⟩
    rw [← hw2] at hC2 hq2 ⊢
    clear hw2
    have HP2 := hide (HP1.out.below hq2 HP1.out.lt)
    have HR2 := hide (HR1.out.below hq2)
    have HT2 := hide (HT1.out.below (hq2.mono hz1))
    have hB2 : Below w.heap.size w w2 := hB1.trans (hq2.mono hB1.size)
    have hz2 : lo ≤ w2.heap.size := Nat.le_trans hle hB2.size
    have HC2 := hide hC2
    have hcc := hC2.c
    have hcp := HP2.out.c
    clear hC2 HP1 HR1 HT1
    have k1 := k1h.out
    have hxb := hCl.bound x1 k1
    obtain ⟨N, hN⟩ := Int.eq_ofNat_of_zero_le hxb.1
    have hbn : (N : Int) < (bw m.bs m.env).1 := by rw [q3, hp', x3]; omega
    obtain ⟨af2, cf2, av2, cv2, ab2, cb2, g1, g2, g3, g4, -⟩ := HR2.out.slots
    have HBt := hide (fun (w' : World) (hb : Below w2.heap.size w2 w') => boundTo_any false (p : Int) m.env (-1) (.slice af2 m.fs.length cf2) (.slice av2 m.vs.length cv2) ab2 cb2 m.vs.length m.bs m.env N w' ((RRow.ofOwn g4 rfl).below hb) hG.bs q2 hbn (by have := hG.nb; omega))
    have hcr := g1.c
    rw [k1, hN] at hcc
    have hNt : x.n.toNat = N := by rw [hN]; rfl
    rw [k1, hN]
    clear g1 g2 g3 g4 hCl hT hG x1 x3 x5 x6 x7 q1 q2 q3 hbn hxb HG
    go_upto_region 5 with fail
    go_region_with (first | (go_at_call 76; (with_reducible refine (HBt.out _ (belowDrew (Below.refl _ _))).mono ?_); rintro r w3 ⟨rfl, hb3⟩; have HR3 := hide (HR2.out.below (show Below w2.heap.size w2 w3 from ⟨hb3.os, hb3.tape, hb3.output, hb3.size, hb3.block⟩)); have hB3 : Below w.heap.size w w3 := hB2.trans ((show Below w2.heap.size w2 w3 from ⟨hb3.os, hb3.tape, hb3.output, hb3.size, hb3.block⟩).mono hB2.size); clear hb3) | (go_at_call 75; (with_reducible refine (come_any rb lo _ m _ _ HR3.out).mono ?_); rintro r w4 ⟨rfl, hR4, hO4⟩))
    all_goals
      clear hcc hcp hcr
      go_wp2_with fail
      go_ret
      refine ⟨⟨rfl, ?_⟩, (hB3.mono hle).trans (hO4.below (Nat.le_trans hle hB3.size) hrb)⟩
      rw [hNt]
      exact hR4
end Go.Proofs.YtnmkbpflbfhpnaaGreat.W
