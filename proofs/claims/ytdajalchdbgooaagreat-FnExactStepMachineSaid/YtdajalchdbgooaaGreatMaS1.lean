/-
  A contract of begin of a running machine. Conditions: good machines of closed terms.
-/
import Derived.Test.YtdajalchdbgooaaGreatMaR9
import Derived.Deep.RegionHeld3
import Derived.Deep.RegionLaw
import Derived.Deep.AppendLies
import Derived.Deep.CutRange
namespace Go.Proofs.YtdajalchdbgooaaGreat.W
open Go.ChangeShapes Go.WideShapes Go.ChangeAt Go.RowKit
set_option linter.unusedVariables false

set_option maxRecDepth 20000 in
set_option maxHeartbeats 4000000 in
theorem begin_num (rb lo : Nat) (ad : Option Addr) (c : Nat) (l : List Cc) (a : F) (m : Mc) (w : World) (hCl : Cl l a) (h : RB w rb lo (.slice ad l.length c) m) (hT : TR w lo ad c l) (hG : GM a l m) (hd : m.done = false) (x : Cc) (hxx : l[m.pl.toNat]? = some x) (k2h : Hid (x.k = 2)) :
    Calls Tryz.prog 61 #[.pointer (some ⟨rb, 0, none⟩)] w fun r w' => RunOut r w' rb lo (.slice ad l.length c) m (newM m ⟨false, x.n, 0, 0⟩) ∧ Below lo w w' := by
  have hrl := h.lt.1
  have hrb := h.lt.2
  have hle := hT.le
  obtain ⟨n1, n2⟩ := nOk_not hG.now hd
  obtain ⟨q1, q2, q3⟩ := pOk_iff.1 n2
  obtain ⟨x', e, k, x1, x2, x3, x4, x5, x6, x7⟩ := hCl.part q1
  obtain rfl : x = x' := by rw [x2] at hxx; simpa using hxx.symm
  obtain ⟨p, hp⟩ := Int.eq_ofNat_of_zero_le q1.1
  have hp' : m.pl.toNat = p := by rw [hp]; rfl
  rw [hp'] at x1 x2 x3
  have hpl : p < l.length := by have := q1.2; omega
  have hlx : l[p] = x := by rw [List.getElem?_eq_getElem hpl] at x2; simpa using x2
  have hnf := hG.nf
  have hnv := hG.nv
  obtain ⟨af, cf, av, cv, ab, cb, h1, h2, h3, h4, -⟩ := h.slots
  have t0 : w.cell? ⟨rb, 0, none⟩ = some (.slice ad l.length c) := h1.c 0
  have t2 : w.cell? ⟨rb, 2, none⟩ = some (.int .i64 (p : Int)) := by rw [h1.c 2]; simp [hp]
  have t3 : w.cell? ⟨rb, 3, none⟩ = some (.int .i64 m.env) := h1.c 3
  have HR := hide h
  have HT := hide hT
  have HG := hide hG
  have HX := hide h1
  clear h1 h2 h3 h4 h n2 hxx x4 x2
  go_enter Tryz.func61, Tryz.ntmps61
  go_upto_region 1 with fail
  go_cut [3] from 5 to 82 (fun v wx => v = .pointer (some ⟨w.heap.size, 0, none⟩) ∧ Bx wx w.heap.size #[.slice ad l.length c, .int .i64 (p : Int), .int .i64 m.env] 136 ∧ Below w.heap.size w wx)
  case first =>
    go_region_held3 (fun w' => w'.cell? ⟨rb, 0, none⟩ = some (.slice ad l.length c) ∧ w'.cell? ⟨rb, 2, none⟩ = some (.int .i64 (p : Int)) ∧ w'.cell? ⟨rb, 3, none⟩ = some (.int .i64 m.env)) (go_keep)
      (first | fail)
    go_wp2_with fail
    go_meet
    exact ⟨rfl, (Bx.new w _ _).drew, belowDrew ((Below.refl _ _).alloc (Nat.le_refl _) _)⟩
  case rest =>
    obtain ⟨rfl, hP, hBc⟩ := hcut
    have HP := hide hP
    have hcp := hP.c
    have hpl2 := hP.lt
    have HRc := hide (HR.out.below hBc)
    have HTc := hide (HT.out.below (hBc.mono hle))
    have hzc : lo ≤ wc.heap.size := Nat.le_trans hle hBc.size
    clear t0 t2 t3 hP
    go_wp2_with fail
    refine (taskCell_any ad c l p m.env _ HTc.out.now hpl (by have := hCl.le; omega)).mono ?_
    rw [hlx]
    rintro r w1 ⟨rfl, hb1⟩
    have HP1 := hide (HP.out.below hb1 hpl2)
    have HR1 := hide (HRc.out.below hb1)
    have HT1 := hide (HTc.out.below (hb1.mono hzc))
    have hB1 : Below w.heap.size w w1 := hBc.trans (hb1.mono hBc.size)
    clear hcp hb1 HP HRc HTc hBc
    have hz1 : lo ≤ w1.heap.size := Nat.le_trans hle hB1.size
    have hC2 := Bx.new w1 #[.int .i64 x.k, .int .i64 x.n] 56
    have hq2 : Below w1.heap.size w1 (w1.alloc (.cells #[.int .i64 x.k, .int .i64 x.n] 56)) := (Below.refl _ _).alloc (Nat.le_refl _) _
    go_upto_region 3 with fail
    obtain ⟨w2, hw2⟩ : ∃ w2, w2 = w1.alloc (.cells #[.int .i64 x.k, .int .i64 x.n] 56) := ⟨_, rfl⟩
    rw [← hw2] at hC2 hq2 ⊢
    clear hw2
    have HP2 := hide (HP1.out.below hq2 HP1.out.lt)
    have HR2 := hide (HR1.out.below hq2)
    have HT2 := hide (HT1.out.below (hq2.mono hz1))
    have hB2 : Below w.heap.size w w2 := hB1.trans (hq2.mono hB1.size)
    have hz2 : lo ≤ w2.heap.size := Nat.le_trans hle hB2.size
    have HC2 := hide hC2
    have hcc := hC2.c
    have hcp := HP2.out.c
    clear hC2 HP1 HR1 HT1
    have k2 := k2h.out
    rw [k2] at hcc
    rw [k2]
    have k1 : ¬ x.k = 1 := by omega
    clear hCl hT hG x1 x3 x5 x6 x7 q1 q2 q3 HG
    go_wp2_with fail
    refine (comeNew_any rb lo _ m ⟨false, x.n, 0, 0⟩ _ HR2.out hnv hz2).mono ?_
    rintro r w3 ⟨ho3, hb3⟩
    have hB3 : Below lo w w3 := (hB2.mono hle).trans hb3
    clear hcc hcp
    cases hnm : newM m ⟨false, x.n, 0, 0⟩ with
    | inl m' =>
      rw [hnm] at ho3
      obtain ⟨rfl, hR3⟩ := ho3
      go_wp2_with fail
      go_ret
      refine ⟨?_, hB3⟩
      first
        | exact ⟨rfl, hR3⟩
        | (rw [hnm]; exact ⟨rfl, hR3⟩)
    | inr cd =>
      rw [hnm] at ho3
      obtain ⟨rfl, hR3⟩ := ho3
      go_wp2_with fail
      go_ret
      refine ⟨?_, hB3⟩
      first
        | exact ⟨rfl, hR3⟩
        | (rw [hnm]; exact ⟨rfl, hR3⟩)

set_option maxRecDepth 20000 in
set_option maxHeartbeats 4000000 in
theorem begin_lam (rb lo : Nat) (ad : Option Addr) (c : Nat) (l : List Cc) (a : F) (m : Mc) (w : World) (hCl : Cl l a) (h : RB w rb lo (.slice ad l.length c) m) (hT : TR w lo ad c l) (hG : GM a l m) (hd : m.done = false) (x : Cc) (hxx : l[m.pl.toNat]? = some x) (k2h : Hid (x.k = 3)) :
    Calls Tryz.prog 61 #[.pointer (some ⟨rb, 0, none⟩)] w fun r w' => RunOut r w' rb lo (.slice ad l.length c) m (newM m ⟨true, 0, m.pl, m.env⟩) ∧ Below lo w w' := by
  have hrl := h.lt.1
  have hrb := h.lt.2
  have hle := hT.le
  obtain ⟨n1, n2⟩ := nOk_not hG.now hd
  obtain ⟨q1, q2, q3⟩ := pOk_iff.1 n2
  obtain ⟨x', e, k, x1, x2, x3, x4, x5, x6, x7⟩ := hCl.part q1
  obtain rfl : x = x' := by rw [x2] at hxx; simpa using hxx.symm
  obtain ⟨p, hp⟩ := Int.eq_ofNat_of_zero_le q1.1
  have hp' : m.pl.toNat = p := by rw [hp]; rfl
  rw [hp'] at x1 x2 x3
  have hpl : p < l.length := by have := q1.2; omega
  have hlx : l[p] = x := by rw [List.getElem?_eq_getElem hpl] at x2; simpa using x2
  rw [hp]
  have hnf := hG.nf
  have hnv := hG.nv
  obtain ⟨af, cf, av, cv, ab, cb, h1, h2, h3, h4, -⟩ := h.slots
  have t0 : w.cell? ⟨rb, 0, none⟩ = some (.slice ad l.length c) := h1.c 0
  have t2 : w.cell? ⟨rb, 2, none⟩ = some (.int .i64 (p : Int)) := by rw [h1.c 2]; simp [hp]
  have t3 : w.cell? ⟨rb, 3, none⟩ = some (.int .i64 m.env) := h1.c 3
  have HR := hide h
  have HT := hide hT
  have HG := hide hG
  have HX := hide h1
  clear h1 h2 h3 h4 h n2 hxx x4 x2
  go_enter Tryz.func61, Tryz.ntmps61
  go_upto_region 1 with fail
  go_cut [3] from 5 to 82 (fun v wx => v = .pointer (some ⟨w.heap.size, 0, none⟩) ∧ Bx wx w.heap.size #[.slice ad l.length c, .int .i64 (p : Int), .int .i64 m.env] 136 ∧ Below w.heap.size w wx)
  case first =>
    go_region_held3 (fun w' => w'.cell? ⟨rb, 0, none⟩ = some (.slice ad l.length c) ∧ w'.cell? ⟨rb, 2, none⟩ = some (.int .i64 (p : Int)) ∧ w'.cell? ⟨rb, 3, none⟩ = some (.int .i64 m.env)) (go_keep)
      (first | fail)
    go_wp2_with fail
    go_meet
    exact ⟨rfl, (Bx.new w _ _).drew, belowDrew ((Below.refl _ _).alloc (Nat.le_refl _) _)⟩
  case rest =>
    obtain ⟨rfl, hP, hBc⟩ := hcut
    have HP := hide hP
    have hcp := hP.c
    have hpl2 := hP.lt
    have HRc := hide (HR.out.below hBc)
    have HTc := hide (HT.out.below (hBc.mono hle))
    have hzc : lo ≤ wc.heap.size := Nat.le_trans hle hBc.size
    clear t0 t2 t3 hP
    go_wp2_with fail
    refine (taskCell_any ad c l p m.env _ HTc.out.now hpl (by have := hCl.le; omega)).mono ?_
    rw [hlx]
    rintro r w1 ⟨rfl, hb1⟩
    have HP1 := hide (HP.out.below hb1 hpl2)
    have HR1 := hide (HRc.out.below hb1)
    have HT1 := hide (HTc.out.below (hb1.mono hzc))
    have hB1 : Below w.heap.size w w1 := hBc.trans (hb1.mono hBc.size)
    clear hcp hb1 HP HRc HTc hBc
    have hz1 : lo ≤ w1.heap.size := Nat.le_trans hle hB1.size
    have hC2 := Bx.new w1 #[.int .i64 x.k, .int .i64 x.n] 56
    have hq2 : Below w1.heap.size w1 (w1.alloc (.cells #[.int .i64 x.k, .int .i64 x.n] 56)) := (Below.refl _ _).alloc (Nat.le_refl _) _
    go_upto_region 3 with fail
    obtain ⟨w2, hw2⟩ : ∃ w2, w2 = w1.alloc (.cells #[.int .i64 x.k, .int .i64 x.n] 56) := ⟨_, rfl⟩
    rw [← hw2] at hC2 hq2 ⊢
    clear hw2
    have HP2 := hide (HP1.out.below hq2 HP1.out.lt)
    have HR2 := hide (HR1.out.below hq2)
    have HT2 := hide (HT1.out.below (hq2.mono hz1))
    have hB2 : Below w.heap.size w w2 := hB1.trans (hq2.mono hB1.size)
    have hz2 : lo ≤ w2.heap.size := Nat.le_trans hle hB2.size
    have HC2 := hide hC2
    have hcc := hC2.c
    have hcp := HP2.out.c
    clear hC2 HP1 HR1 HT1
    have k2 := k2h.out
    rw [k2] at hcc
    rw [k2]
    have k1 : ¬ x.k = 1 := by omega
    clear hCl hT hG x1 x3 x5 x6 x7 q1 q2 q3 HG
    go_wp2_with fail
    refine (comeNew_any rb lo _ m ⟨true, 0, (p : Int), m.env⟩ _ HR2.out hnv hz2).mono ?_
    rintro r w3 ⟨ho3, hb3⟩
    have hB3 : Below lo w w3 := (hB2.mono hle).trans hb3
    clear hcc hcp
    cases hnm : newM m ⟨true, 0, (p : Int), m.env⟩ with
    | inl m' =>
      rw [hnm] at ho3
      obtain ⟨rfl, hR3⟩ := ho3
      go_wp2_with fail
      go_ret
      refine ⟨?_, hB3⟩
      first
        | exact ⟨rfl, hR3⟩
        | (rw [hnm]; exact ⟨rfl, hR3⟩)
    | inr cd =>
      rw [hnm] at ho3
      obtain ⟨rfl, hR3⟩ := ho3
      go_wp2_with fail
      go_ret
      refine ⟨?_, hB3⟩
      first
        | exact ⟨rfl, hR3⟩
        | (rw [hnm]; exact ⟨rfl, hR3⟩)
end Go.Proofs.YtdajalchdbgooaaGreat.W
