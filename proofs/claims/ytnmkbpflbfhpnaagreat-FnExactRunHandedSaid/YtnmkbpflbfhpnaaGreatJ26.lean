/-
  Some texts of this proof in one: MaS2, MaS1, MaS7.
-/
import Derived.Test.YtnmkbpflbfhpnaaGreatJ25
import Derived.Deep.RegionHeld3
import Derived.Deep.RegionLaw
import Derived.Deep.AppendLies
import Derived.Deep.CutRange
import Derived.Test.YtnmkbpflbfhpnaaGreatJ24
/-
  A contract of begin of a running machine. Conditions: good machines of closed terms.
-/
namespace Go.Proofs.YtnmkbpflbfhpnaaGreat.W
open Go.ChangeShapes Go.WideShapes Go.ChangeAt Go.RowKit
set_option linter.unusedVariables false
set_option linter.unusedSimpArgs false

set_option maxRecDepth 20000 in
set_option maxHeartbeats 4000000 in
theorem begin_full (rb lo : Nat) (ad : Option Addr) (c : Nat) (l : List Cc) (a : F) (m : Mc) (w : World) (hCl : Cl l a) (h : RB w rb lo (.slice ad l.length c) m) (hT : TR w lo ad c l) (hG : GM a l m) (hd : m.done = false) (x : Cc) (hxx : l[m.pl.toNat]? = some x) (k123 : Hid (¬ x.k = 1 ∧ ¬ x.k = 2 ∧ ¬ x.k = 3)) (hflh : Hid (500 ≤ m.fs.length)) :
    Calls Tryz.prog 44 #[.pointer (some ⟨rb, 0, none⟩)] w fun r w' => RunOut r w' rb lo (.slice ad l.length c) m (.inr 5) ∧ Below lo w w' := by
  have hrl := h.lt.1
  have hrb := h.lt.2
  have hle := hT.le
  obtain ⟨n1, n2⟩ := nOk_not hG.now hd
  obtain ⟨q1, q2, q3⟩ := pOk_iff.1 n2
  obtain ⟨x', e, k, x1, x2, x3, x4, x5, x6, x7⟩ := hCl.part q1
  obtain rfl : x = x' := by rw [x2] at hxx; simpa using hxx.symm
  obtain ⟨p, hp⟩ := Int.eq_ofNat_of_zero_le q1.1
  have hp' : m.pl.toNat = p := by rw [hp]; rfl
  rw [hp'] at x1 x2 x3
  have hpl : p < l.length := by have := q1.2; omega
  have hlx : l[p] = x := by rw [List.getElem?_eq_getElem hpl] at x2; simpa using x2
  have hnf := hG.nf
  have hnv := hG.nv
  obtain ⟨af, cf, av, cv, ab, cb, h1, h2, h3, h4, -⟩ := h.slots
  have t0 : w.cell? ⟨rb, 0, none⟩ = some (.slice ad l.length c) := h1.c 0
  have t2 : w.cell? ⟨rb, 2, none⟩ = some (.int .i64 (p : Int)) := by rw [h1.c 2]; simp [hp]
  have t3 : w.cell? ⟨rb, 3, none⟩ = some (.int .i64 m.env) := h1.c 3
  have HR := hide h
  have HT := hide hT
  have HG := hide hG
  have HX := hide h1
  clear h1 h2 h3 h4 h n2 hxx x4 x2
  go_enter Tryz.func44, Tryz.ntmps44
  go_upto_region 1 with fail
  go_cut [3] from 5 to 82 (fun v wx => v = .pointer (some ⟨w.heap.size, 0, none⟩) ∧ Bx wx w.heap.size #[.slice ad l.length c, .int .i64 (p : Int), .int .i64 m.env] 136 ∧ Below w.heap.size w wx)
  case first =>
    go_region_held3 (fun w' => w'.cell? ⟨rb, 0, none⟩ = some (.slice ad l.length c) ∧ w'.cell? ⟨rb, 2, none⟩ = some (.int .i64 (p : Int)) ∧ w'.cell? ⟨rb, 3, none⟩ = some (.int .i64 m.env)) (go_keep)
      (first | fail)
    go_wp2_with fail
    go_meet
    exact ⟨rfl, (Bx.new w _ _).drew, belowDrew ((Below.refl _ _).alloc (Nat.le_refl _) _)⟩
  case rest =>
    obtain ⟨rfl, hP, hBc⟩ := hcut
    have HP := hide hP
    have hcp := hP.c
    have hpl2 := hP.lt
    have HRc := hide (HR.out.below hBc)
    have HTc := hide (HT.out.below (hBc.mono hle))
    have hzc : lo ≤ wc.heap.size := Nat.le_trans hle hBc.size
    clear t0 t2 t3 hP
    go_wp2_with fail
    refine (taskCell_any ad c l p m.env _ HTc.out.now hpl (by have := hCl.le; omega)).mono ?_
    rw [hlx]
    rintro r w1 ⟨rfl, hb1⟩
    have HP1 := hide (HP.out.below hb1 hpl2)
    have HR1 := hide (HRc.out.below hb1)
    have HT1 := hide (HTc.out.below (hb1.mono hzc))
    have hB1 : Below w.heap.size w w1 := hBc.trans (hb1.mono hBc.size)
    clear hcp hb1 HP HRc HTc hBc
    have hz1 : lo ≤ w1.heap.size := Nat.le_trans hle hB1.size
    have hC2 := Bx.new w1 #[.int .i64 x.k, .int .i64 x.n] 46
    have hq2 : Below w1.heap.size w1 (w1.alloc (.cells #[.int .i64 x.k, .int .i64 x.n] 46)) := (Below.refl _ _).alloc (Nat.le_refl _) _
    go_upto_region 3 with fail
    obtain ⟨w2, hw2⟩ : ∃ w2, w2 = w1.alloc (.cells #[.int .i64 x.k, .int .i64 x.n] 46) := ⟨_, rfl⟩
    rw [← hw2] at hC2 hq2 ⊢
    clear hw2
    have HP2 := hide (HP1.out.below hq2 HP1.out.lt)
    have HR2 := hide (HR1.out.below hq2)
    have HT2 := hide (HT1.out.below (hq2.mono hz1))
    have hB2 : Below w.heap.size w w2 := hB1.trans (hq2.mono hB1.size)
    have hz2 : lo ≤ w2.heap.size := Nat.le_trans hle hB2.size
    have HC2 := hide hC2
    have hcc := hC2.c
    have hcp := HP2.out.c
    clear hC2 HP1 HR1 HT1
    obtain ⟨j1, j2, j3⟩ := k123.out
    have har : 0 < ar x.k := by
      unfold goodC at x5
      rw [if_neg j1, if_neg j2] at x5
      simp [inB] at x5
      unfold ar
      rw [if_neg j3]
      split
      · omega
      · split <;> omega
    have HPt := hide (fun w' (hb : CRow w' ad l) => partNo_any ad c l a p m.env 0 x e k w' hCl x1 har hT.cap hT.max hb)
    rw [show ((0 : Nat) : Int) = 0 from rfl] at HPt
    obtain ⟨af2, cf2, av2, cv2, ab2, cb2, g1, g2, g3, g4, -⟩ := HR2.out.slots
    have HX2 := hide g1
    have H22 := hide g2
    have HLt : Hid (∀ k, (Value.slice af2 m.fs.length cf2).ownBlock = some k → lo ≤ k ∧ k < w2.heap.size) := hide g2.lt
    have HNb := hide (own_bx g1 g2 (by decide))
    have HNp := hide (own_bx HP2.out g2 (by decide))
    have c5 : w2.cell? ⟨rb, 5, none⟩ = some (.slice af2 m.fs.length cf2) := g1.c 5
    have f5 : w2.frozen? ⟨rb, 5, none⟩ = false := g1.f 5
    have HCe := hide (fun (w' : World) (hb : Below w2.heap.size w2 w') => (taskCell_any ad c l p m.env w' (HT2.out.row w' (hb.mono hz2)) hpl (by have := hCl.le; omega)))
    simp only [hlx] at HCe
    obtain ⟨i0, hi0, hz0, hz1', hz2'⟩ := infoPartsT infoFm
    have Hi := hide hi0
    have p0 : w2.cell? ⟨w.heap.size, 0, none⟩ = some (.slice ad l.length c) := HP2.out.c 0
    have p1 : w2.cell? ⟨w.heap.size, 1, none⟩ = some (.int .i64 (p : Int)) := HP2.out.c 1
    have p2 : w2.cell? ⟨w.heap.size, 2, none⟩ = some (.int .i64 m.env) := HP2.out.c 2
    have hfl := hflh.out
    have hfl' : (500 : Int) ≤ (m.fs.length : Int) := by omega
    clear g1 g2 g3 g4 hCl hT hG x1 x3 x5 x6 x7 q1 q2 q3 HG HPt HCe
    go_wp2_with fail
    go_ret
    refine ⟨?_, hB2.mono hle⟩
    exact ⟨rfl, HR2.out⟩

set_option maxRecDepth 20000 in
set_option maxHeartbeats 4000000 in
theorem begin_push (rb lo : Nat) (ad : Option Addr) (c : Nat) (l : List Cc) (a : F) (m : Mc) (w : World) (hCl : Cl l a) (h : RB w rb lo (.slice ad l.length c) m) (hT : TR w lo ad c l) (hG : GM a l m) (hd : m.done = false) (x : Cc) (hxx : l[m.pl.toNat]? = some x) (k123 : Hid (¬ x.k = 1 ∧ ¬ x.k = 2 ∧ ¬ x.k = 3)) (hflh : Hid (¬ 500 ≤ m.fs.length)) :
    Calls Tryz.prog 44 #[.pointer (some ⟨rb, 0, none⟩)] w fun r w' => RunOut r w' rb lo (.slice ad l.length c) m (.inl (nextM { m with fs := m.fs ++ [⟨x.k, m.pl, m.env, -1⟩] } (kp a m.pl 0) m.env)) ∧ Below lo w w' := by
  have hrl := h.lt.1
  have hrb := h.lt.2
  have hle := hT.le
  obtain ⟨n1, n2⟩ := nOk_not hG.now hd
  obtain ⟨q1, q2, q3⟩ := pOk_iff.1 n2
  obtain ⟨x', e, k, x1, x2, x3, x4, x5, x6, x7⟩ := hCl.part q1
  obtain rfl : x = x' := by rw [x2] at hxx; simpa using hxx.symm
  obtain ⟨p, hp⟩ := Int.eq_ofNat_of_zero_le q1.1
  have hp' : m.pl.toNat = p := by rw [hp]; rfl
  rw [hp'] at x1 x2 x3
  have hpl : p < l.length := by have := q1.2; omega
  have hlx : l[p] = x := by rw [List.getElem?_eq_getElem hpl] at x2; simpa using x2
  rw [hp]
  have hnf := hG.nf
  have hnv := hG.nv
  obtain ⟨af, cf, av, cv, ab, cb, h1, h2, h3, h4, -⟩ := h.slots
  have t0 : w.cell? ⟨rb, 0, none⟩ = some (.slice ad l.length c) := h1.c 0
  have t2 : w.cell? ⟨rb, 2, none⟩ = some (.int .i64 (p : Int)) := by rw [h1.c 2]; simp [hp]
  have t3 : w.cell? ⟨rb, 3, none⟩ = some (.int .i64 m.env) := h1.c 3
  have HR := hide h
  have HT := hide hT
  have HG := hide hG
  have HX := hide h1
  clear h1 h2 h3 h4 h n2 hxx x4 x2
  go_enter Tryz.func44, Tryz.ntmps44
  go_upto_region 1 with fail
  go_cut [3] from 5 to 82 (fun v wx => v = .pointer (some ⟨w.heap.size, 0, none⟩) ∧ Bx wx w.heap.size #[.slice ad l.length c, .int .i64 (p : Int), .int .i64 m.env] 136 ∧ Below w.heap.size w wx)
  case first =>
    go_region_held3 (fun w' => w'.cell? ⟨rb, 0, none⟩ = some (.slice ad l.length c) ∧ w'.cell? ⟨rb, 2, none⟩ = some (.int .i64 (p : Int)) ∧ w'.cell? ⟨rb, 3, none⟩ = some (.int .i64 m.env)) (go_keep)
      (first | fail)
    go_wp2_with fail
    go_meet
    exact ⟨rfl, (Bx.new w _ _).drew, belowDrew ((Below.refl _ _).alloc (Nat.le_refl _) _)⟩
  case rest =>
    obtain ⟨rfl, hP, hBc⟩ := hcut
    have HP := hide hP
    have hcp := hP.c
    have hpl2 := hP.lt
    have HRc := hide (HR.out.below hBc)
    have HTc := hide (HT.out.below (hBc.mono hle))
    have hzc : lo ≤ wc.heap.size := Nat.le_trans hle hBc.size
    clear t0 t2 t3 hP
    go_wp2_with fail
    refine (taskCell_any ad c l p m.env _ HTc.out.now hpl (by have := hCl.le; omega)).mono ?_
    rw [hlx]
    rintro r w1 ⟨rfl, hb1⟩
    have HP1 := hide (HP.out.below hb1 hpl2)
    have HR1 := hide (HRc.out.below hb1)
    have HT1 := hide (HTc.out.below (hb1.mono hzc))
    have hB1 : Below w.heap.size w w1 := hBc.trans (hb1.mono hBc.size)
    clear hcp hb1 HP HRc HTc hBc
    have hz1 : lo ≤ w1.heap.size := Nat.le_trans hle hB1.size
    have hC2 := Bx.new w1 #[.int .i64 x.k, .int .i64 x.n] 46
    have hq2 : Below w1.heap.size w1 (w1.alloc (.cells #[.int .i64 x.k, .int .i64 x.n] 46)) := (Below.refl _ _).alloc (Nat.le_refl _) _
    go_upto_region 3 with fail
    obtain ⟨w2, hw2⟩ : ∃ w2, w2 = w1.alloc (.cells #[.int .i64 x.k, .int .i64 x.n] 46) := ⟨_, rfl⟩
    rw [← hw2] at hC2 hq2 ⊢
    clear hw2
    have HP2 := hide (HP1.out.below hq2 HP1.out.lt)
    have HR2 := hide (HR1.out.below hq2)
    have HT2 := hide (HT1.out.below (hq2.mono hz1))
    have hB2 : Below w.heap.size w w2 := hB1.trans (hq2.mono hB1.size)
    have hz2 : lo ≤ w2.heap.size := Nat.le_trans hle hB2.size
    have HC2 := hide hC2
    have hcc := hC2.c
    have hcp := HP2.out.c
    clear hC2 HP1 HR1 HT1
    obtain ⟨j1, j2, j3⟩ := k123.out
    have har : 0 < ar x.k := by
      unfold goodC at x5
      rw [if_neg j1, if_neg j2] at x5
      simp [inB] at x5
      unfold ar
      rw [if_neg j3]
      split
      · omega
      · split <;> omega
    have HPt := hide (fun w' (hb : CRow w' ad l) => partNo_any ad c l a p m.env 0 x e k w' hCl x1 har hT.cap hT.max hb)
    rw [show ((0 : Nat) : Int) = 0 from rfl] at HPt
    obtain ⟨af2, cf2, av2, cv2, ab2, cb2, g1, g2, g3, g4, -⟩ := HR2.out.slots
    have HX2 := hide g1
    have H22 := hide g2
    have HLt : Hid (∀ k, (Value.slice af2 m.fs.length cf2).ownBlock = some k → lo ≤ k ∧ k < w2.heap.size) := hide g2.lt
    have HNb := hide (own_bx g1 g2 (by decide))
    have HNp := hide (own_bx HP2.out g2 (by decide))
    have c5 : w2.cell? ⟨rb, 5, none⟩ = some (.slice af2 m.fs.length cf2) := g1.c 5
    have f5 : w2.frozen? ⟨rb, 5, none⟩ = false := g1.f 5
    have HCe := hide (fun (w' : World) (hb : Below w2.heap.size w2 w') => (taskCell_any ad c l p m.env w' (HT2.out.row w' (hb.mono hz2)) hpl (by have := hCl.le; omega)))
    simp only [hlx] at HCe
    obtain ⟨i0, hi0, hz0, hz1', hz2'⟩ := infoPartsT infoFm
    have Hi := hide hi0
    have p0 : w2.cell? ⟨w.heap.size, 0, none⟩ = some (.slice ad l.length c) := HP2.out.c 0
    have p1 : w2.cell? ⟨w.heap.size, 1, none⟩ = some (.int .i64 (p : Int)) := HP2.out.c 1
    have p2 : w2.cell? ⟨w.heap.size, 2, none⟩ = some (.int .i64 m.env) := HP2.out.c 2
    have hfl := hflh.out
    have hfl' : ¬ (500 : Int) ≤ (m.fs.length : Int) := by omega
    have M1 : Hid (m.fs.length + 1 ≤ maxLen) := hide (by unfold maxLen; omega)
    have HO1 : Hid (∀ u ∈ [Value.int .i64 x.k, .int .i64 (p : Int), .int .i64 m.env, .int .i64 (-1)], u.oneCell' = true) := hide (by intro u hu; simp only [List.mem_cons, List.not_mem_nil, or_false] at hu; rcases hu with rfl | rfl | rfl | rfl <;> rfl)
    have HPush : Hid (∀ (g6 cap6 : Nat) (w3 w6 : World), Below w2.heap.size w2 w3 → w6.ownsRow lo 141 4 (.slice (some ⟨g6, 0, none⟩) (m.fs.length + 1) cap6) (m.fs.length + 1) (rcells 4 Fm.c m.fs ++ [.int .i64 x.k, .int .i64 (p : Int), .int .i64 m.env, .int .i64 (-1)]) → World.grownBy (w3.alloc (.cells #[.int .i64 x.k, .int .i64 (p : Int), .int .i64 m.env, .int .i64 (-1)] 141)) w6 (Value.slice af2 m.fs.length cf2).ownBlock →
        RB (w6.setCell ⟨rb, 5, none⟩ (.slice (some ⟨g6, 0, none⟩) (m.fs.length + 1) cap6)) rb lo (.slice ad l.length c) { m with fs := m.fs ++ [⟨x.k, (p : Int), m.env, -1⟩] } ∧ Below lo w (w6.setCell ⟨rb, 5, none⟩ (.slice (some ⟨g6, 0, none⟩) (m.fs.length + 1) cap6)) ∧ Bx (w6.setCell ⟨rb, 5, none⟩ (.slice (some ⟨g6, 0, none⟩) (m.fs.length + 1) cap6)) w.heap.size #[.slice ad l.length c, .int .i64 (p : Int), .int .i64 m.env] 136 ∧ (w6.cell? ⟨rb, 5, none⟩ = some (.slice af2 m.fs.length cf2)) ∧ w6.frozen? ⟨rb, 5, none⟩ = false ∧ w6.cell? ⟨w.heap.size, 0, none⟩ = some (.slice ad l.length c) ∧ w6.cell? ⟨w.heap.size, 1, none⟩ = some (.int .i64 (p : Int)) ∧ w6.cell? ⟨w.heap.size, 2, none⟩ = some (.int .i64 m.env)) := hide (by
      intro g6 cap6 w3 w6 hb3 ho hg
      have hs3 := hb3.size
      have hb : ∀ k, k < w2.heap.size → some k ≠ (Value.slice af2 m.fs.length cf2).ownBlock → w6.heap[k]? = w2.heap[k]? := fun k hk hne => ((hg.block k (by simp; omega) hne).trans (Below.heap_alloc _ _ _ (by omega))).trans (hb3.block k hk)
      have hwl := HP2.out.lt
      have hrl2 := HX2.out.lt
      have hx6 : Bx w6 rb _ _ := (hb rb hrl2 (fun e => HNb.out e.symm)).trans HX2.out
      have hv6 : Bx w6 w.heap.size _ _ := (hb w.heap.size hwl (fun e => HNp.out e.symm)).trans HP2.out
      refine ⟨RB.pushF (v := ⟨x.k, (p : Int), m.env, -1⟩) HR2.out ⟨_, _, HX2.out⟩ ho hb, bsc ?_ rb 5 _ hrb, hv6.setne _ _ _ (by omega), hx6.c 5, hx6.f 5, hv6.c 0, hv6.c 1, hv6.c 2⟩
      exact Below.grown (((hB2.mono hle).trans (hb3.mono hz2)).alloc (by omega) _) hg (by simp; omega) (fun k hk => (HLt.out k hk).1))
    clear g1 g2 g3 g4 hCl hT hG x1 x3 x5 x6 x7 q1 q2 q3 HG hcp
    obtain ⟨n, hnn⟩ : ∃ n, n = m.fs.length := ⟨_, rfl⟩
    simp only [← hnn] at c5 HPush H22 HLt HNb HNp HX2 M1 hfl hfl' ⊢
    have HN := hide hnn
    clear hnn
    go_upto_region 13 with fail
    go_cut [78] from 22 to 82 (fun _ wx => RB wx rb lo (.slice ad l.length c) { m with fs := m.fs ++ [⟨x.k, (p : Int), m.env, -1⟩] } ∧ Below lo w wx ∧ Bx wx w.heap.size #[.slice ad l.length c, .int .i64 (p : Int), .int .i64 m.env] 136)
    case first =>
      have hfd := fieldCell
      clear hcc HT HT2 HPt
      have f0 : Hid (∀ w', Below w2.heap.size w2 w' → w'.cell? ⟨w.heap.size, 0, none⟩ = some (.slice ad l.length c) ∧ w'.cell? ⟨w.heap.size, 1, none⟩ = some (.int .i64 (p : Int)) ∧ w'.cell? ⟨w.heap.size, 2, none⟩ = some (.int .i64 m.env) ∧ w'.cell? ⟨rb, 5, none⟩ = some (.slice af2 n cf2)) := hide (fun w' hb => ⟨(hb.cell (p := ⟨w.heap.size, 0, none⟩) HP2.out.lt).trans p0, (hb.cell (p := ⟨w.heap.size, 1, none⟩) HP2.out.lt).trans p1, (hb.cell (p := ⟨w.heap.size, 2, none⟩) HP2.out.lt).trans p2, (hb.cell (p := ⟨rb, 5, none⟩) HX2.out.lt).trans c5⟩)
      have n1 : ¬ rb = w.heap.size := by omega
      have n2 : ¬ w.heap.size = rb := by omega
      refine wp_region_noPanic ?_
      refine wp_region_held_drew (S := (fun w' => w'.cell? ⟨w.heap.size, 0, none⟩ = some (.slice ad l.length c) ∧ w'.cell? ⟨w.heap.size, 1, none⟩ = some (.int .i64 (p : Int)) ∧ w'.cell? ⟨w.heap.size, 2, none⟩ = some (.int .i64 m.env))) (by kernel_rfl) ⟨p0, p1, p2⟩ (fun hHeld => ?_)
      refine wpAnyH_take (i := 0) (oi := _) (v := .pointer (some ⟨rb, 0, none⟩)) rfl (by kernel_rfl) (by kernel_rfl) (by kernel_rfl) (fun _ _ _ h => h) (Or.inl ⟨by rfl, ?_⟩) (by assumption) ?_
      · (intro w hSw; (try dsimp only at hSw); go_simp)
      try simp only [Act.put, List.setIfInBounds_toArray, List.set_cons_zero, List.set_cons_succ]
      refine wpAnyH_take (i := 1) (oi := _) (v := .pointer (some ⟨rb, 0, none⟩)) rfl (by kernel_rfl) (by kernel_rfl) (by kernel_rfl) (fun _ _ _ h => h) (Or.inl ⟨by rfl, ?_⟩) (by assumption) ?_
      · (intro w hSw; (try dsimp only at hSw); go_simp)
      try simp only [Act.put, List.setIfInBounds_toArray, List.set_cons_zero, List.set_cons_succ]
      refine wpAnyH_take (i := 2) (oi := _) (v := .pointer (some ⟨rb, 0, none⟩)) rfl (by kernel_rfl) (by kernel_rfl) (by kernel_rfl) (fun _ _ _ h => h) (Or.inl ⟨by rfl, ?_⟩) (by assumption) ?_
      · (intro w hSw; (try dsimp only at hSw); go_simp)
      try simp only [Act.put, List.setIfInBounds_toArray, List.set_cons_zero, List.set_cons_succ]
      refine wpAnyH_take (i := 3) (oi := _) (v := .pointer (some ⟨rb, 1, none⟩)) rfl (by kernel_rfl) (by kernel_rfl) (by kernel_rfl) (fun _ _ _ h => h) (Or.inl ⟨by rfl, ?_⟩) (by assumption) ?_
      · (intro w hSw; (try dsimp only at hSw); go_simp)
      try simp only [Act.put, List.setIfInBounds_toArray, List.set_cons_zero, List.set_cons_succ]
      refine wpAnyH_take (i := 4) (oi := _) (v := .pointer (some ⟨rb, 5, none⟩)) rfl (by kernel_rfl) (by kernel_rfl) (by kernel_rfl) (fun _ _ _ h => h) (Or.inl ⟨by rfl, ?_⟩) (by assumption) ?_
      · (intro w hSw; (try dsimp only at hSw); go_simp)
      try simp only [Act.put, List.setIfInBounds_toArray, List.set_cons_zero, List.set_cons_succ]
      refine wpAnyH_take (i := 6) (oi := _) (v := .agg #[.slice ad l.length c, .int .i64 (p : Int), .int .i64 m.env]) rfl (by kernel_rfl) (by kernel_rfl) (by kernel_rfl) (fun _ _ _ h => h) (Or.inl ⟨by rfl, ?_⟩) (by assumption) ?_
      · (intro w hSw; (try dsimp only at hSw); go_simp)
      try simp only [Act.put, List.setIfInBounds_toArray, List.set_cons_zero, List.set_cons_succ]
      refine wpAnyH_take (i := 9) (oi := _) (v := .pointer (some ⟨w.heap.size, 1, none⟩)) rfl (by kernel_rfl) (by kernel_rfl) (by kernel_rfl) (fun _ _ _ h => h) (Or.inl ⟨by rfl, ?_⟩) (by assumption) ?_
      · (intro w hSw; (try dsimp only at hSw); go_simp)
      try simp only [Act.put, List.setIfInBounds_toArray, List.set_cons_zero, List.set_cons_succ]
      refine wpAnyH_take (i := 10) (oi := _) (v := .int .i64 (p : Int)) rfl (by kernel_rfl) (by kernel_rfl) (by kernel_rfl) (fun _ _ _ h => h) (Or.inl ⟨by rfl, ?_⟩) (by assumption) ?_
      · (intro w hSw; (try dsimp only at hSw); go_simp)
      try simp only [Act.put, List.setIfInBounds_toArray, List.set_cons_zero, List.set_cons_succ]
      refine wpAnyH_take (i := 11) (oi := _) (v := .pointer (some ⟨w.heap.size, 2, none⟩)) rfl (by kernel_rfl) (by kernel_rfl) (by kernel_rfl) (fun _ _ _ h => h) (Or.inl ⟨by rfl, ?_⟩) (by assumption) ?_
      · (intro w hSw; (try dsimp only at hSw); go_simp)
      try simp only [Act.put, List.setIfInBounds_toArray, List.set_cons_zero, List.set_cons_succ]
      refine wpAnyH_take (i := 12) (oi := _) (v := .int .i64 m.env) rfl (by kernel_rfl) (by kernel_rfl) (by kernel_rfl) (fun _ _ _ h => h) (Or.inl ⟨by rfl, ?_⟩) (by assumption) ?_
      · (intro w hSw; (try dsimp only at hSw); go_simp)
      try simp only [Act.put, List.setIfInBounds_toArray, List.set_cons_zero, List.set_cons_succ]
      refine wpAnyH_ready (rs := [5, 7]) (by kernel_rfl) (by simp) ?_
      refine AllReadyH.cons (o := _) rfl (fun K hK => ?_) (AllReadyH.cons (o := _) rfl (fun K hK => ?_) AllReadyH.nil)
      · go_simp
        refine hK.out _ _ ⟨p0, p1, p2⟩ (fun hHeld => ?_)
        clear hK K
        try simp only [Act.put, List.setIfInBounds_toArray, List.set_cons_zero, List.set_cons_succ]
        refine wpAnyH_ready (rs := [7]) (by kernel_rfl) (by simp) ?_
        refine AllReadyH.cons (o := _) rfl (fun K hK => ?_) AllReadyH.nil
        go_simp
        (with_reducible refine (HCe.out _ (belowDrew (Below.refl _ _))).mono ?_)
        rintro r w3 ⟨rfl, hb3⟩
        have hB3 : Below w2.heap.size w2 w3 := ⟨hb3.os, hb3.tape, hb3.output, hb3.size, hb3.block⟩
        have HB3 := hide hB3
        obtain ⟨e0, e1, e2, e3⟩ := f0.out w3 hB3
        obtain ⟨e0', e1', e2', e3'⟩ := f0.out _ (hB3.alloc hB3.size (.cells #[.int .i64 x.k, .int .i64 (p : Int), .int .i64 m.env, .int .i64 (-1)] 141))
        clear hb3 hB3
        refine hK.out _ _ ⟨e0, e1, e2⟩ (fun hHeld => ?_)
        clear hK K
        try simp only [Act.put, List.setIfInBounds_toArray, List.set_cons_zero, List.set_cons_succ]
        refine wpAnyH_take (i := 8) (oi := _) (v := .int .i64 x.k) rfl (by kernel_rfl) (by kernel_rfl) (by kernel_rfl) (fun _ _ _ h => h) (Or.inl ⟨by rfl, ?_⟩) (by assumption) ?_
        · (intro w hSw; (try dsimp only at hSw); go_simp)
        try simp only [Act.put, List.setIfInBounds_toArray, List.set_cons_zero, List.set_cons_succ]
        refine wpAnyH_take (i := 13) (oi := _) (v := .agg #[.int .i64 x.k, .int .i64 (p : Int), .int .i64 m.env, .int .i64 (-1)]) rfl (by kernel_rfl) (by kernel_rfl) (by kernel_rfl) (fun _ _ _ h => h) (Or.inl ⟨by rfl, ?_⟩) (by assumption) ?_
        · (intro w hSw; (try dsimp only at hSw); go_simp)
        try simp only [Act.put, List.setIfInBounds_toArray, List.set_cons_zero, List.set_cons_succ]
        refine wpAnyH_ready (rs := [14]) (by kernel_rfl) (by simp) ?_
        refine AllReadyH.cons (o := _) rfl (fun K hK => ?_) AllReadyH.nil
        go_simp
        refine hK.out _ _ ⟨e0', e1', e2'⟩ (fun hHeld => ?_)
        clear hK K
        try simp only [Act.put, List.setIfInBounds_toArray, List.set_cons_zero, List.set_cons_succ]
        refine wpAnyH_ready (rs := [15]) (by kernel_rfl) (by simp) ?_
        refine AllReadyH.cons (o := _) rfl (fun K hK => ?_) AllReadyH.nil
        refine step_append_lies _ rfl _ _ 57 rfl lo 141 i0 _ 4 32 Tryz.underlying57 Hi.out hz0 hz1' hz2' rfl (by decide) _ n _ rfl ((own_keep H22.out (fun k _ hk => HB3.out.block k hk)).alloc _) ⟨w3.heap.size, 0, none⟩ 1 1 [.int .i64 x.k, .int .i64 (p : Int), .int .i64 m.env, .int .i64 (-1)] rfl rfl (news4 (heap_alloc_new w3 _)) HO1.out (by omega) M1.out (by omega) (by show lo ≤ (w3.alloc _).heap.size; have := HB3.out.size; simp; omega) _ rfl ?_
        intro g6 cap6 w6 hown6 hgrow6 hat6 hlt6
        obtain ⟨pr1, pr2, pr3, pr4, pr5, h0, h1, h2⟩ := HPush.out g6 cap6 w3 w6 HB3.out hown6 ⟨hgrow6.os, hgrow6.tape, hgrow6.output, hgrow6.size, hgrow6.block⟩
        have HPr := hide (And.intro pr1 (And.intro pr2 pr3))
        clear hgrow6 hown6 hat6 pr1 pr2 pr3
        refine hK.out _ _ ⟨h0, h1, h2⟩ (fun hHeld => ?_)
        clear hK K
        try simp only [Act.put, List.setIfInBounds_toArray, List.set_cons_zero, List.set_cons_succ]
        refine wpAnyH_take (i := 16) (oi := _) (v := .pointer (some ⟨rb, 0, none⟩)) rfl (by kernel_rfl) (by kernel_rfl) (by kernel_rfl) (fun _ _ _ h => h) (Or.inl ⟨by rfl, ?_⟩) (by assumption) ?_
        · (intro w hSw; (try dsimp only at hSw); go_simp)
        try simp only [Act.put, List.setIfInBounds_toArray, List.set_cons_zero, List.set_cons_succ]
        refine wpAnyH_take (i := 17) (oi := _) (v := .pointer (some ⟨rb, 1, none⟩)) rfl (by kernel_rfl) (by kernel_rfl) (by kernel_rfl) (fun _ _ _ h => h) (Or.inl ⟨by rfl, ?_⟩) (by assumption) ?_
        · (intro w hSw; (try dsimp only at hSw); go_simp)
        try simp only [Act.put, List.setIfInBounds_toArray, List.set_cons_zero, List.set_cons_succ]
        refine wpAnyH_take (i := 18) (oi := _) (v := .pointer (some ⟨rb, 5, none⟩)) rfl (by kernel_rfl) (by kernel_rfl) (by kernel_rfl) (fun _ _ _ h => h) (Or.inl ⟨by rfl, ?_⟩) (by assumption) ?_
        · (intro w hSw; (try dsimp only at hSw); go_simp)
        try simp only [Act.put, List.setIfInBounds_toArray, List.set_cons_zero, List.set_cons_succ]
        refine wpAnyH_ready (rs := [19]) (by kernel_rfl) (by simp) ?_
        refine AllReadyH.cons (o := _) rfl (fun K hK => ?_) AllReadyH.nil
        go_simp
        refine hK.out _ _ ⟨(World.cell?_setCell_far _ _ _ _ n1).trans h0, (World.cell?_setCell_far _ _ _ _ n1).trans h1, (World.cell?_setCell_far _ _ _ _ n1).trans h2⟩ (fun hHeld => ?_)
        clear hK K
        try simp only [Act.put, List.setIfInBounds_toArray, List.set_cons_zero, List.set_cons_succ]
        refine wpAnyH_done (by kernel_rfl) ?_ _
        refine NoPanic.normal ?_
        have hPr := HPr.out
        clear HPr pr4 pr5 h0 h1 h2 c5 f5 p0 p1 p2
        go_wp2_with fail
        go_meet
        exact hPr
      · go_simp
        (with_reducible refine (HCe.out _ (belowDrew (Below.refl _ _))).mono ?_)
        rintro r w3 ⟨rfl, hb3⟩
        have hB3 : Below w2.heap.size w2 w3 := ⟨hb3.os, hb3.tape, hb3.output, hb3.size, hb3.block⟩
        have HB3 := hide hB3
        obtain ⟨e0, e1, e2, e3⟩ := f0.out w3 hB3
        obtain ⟨e0', e1', e2', e3'⟩ := f0.out _ (hB3.alloc hB3.size (.cells #[.int .i64 x.k, .int .i64 (p : Int), .int .i64 m.env, .int .i64 (-1)] 141))
        clear hb3 hB3
        refine hK.out _ _ ⟨e0, e1, e2⟩ (fun hHeld => ?_)
        clear hK K
        try simp only [Act.put, List.setIfInBounds_toArray, List.set_cons_zero, List.set_cons_succ]
        refine wpAnyH_take (i := 8) (oi := _) (v := .int .i64 x.k) rfl (by kernel_rfl) (by kernel_rfl) (by kernel_rfl) (fun _ _ _ h => h) (Or.inl ⟨by rfl, ?_⟩) (by assumption) ?_
        · (intro w hSw; (try dsimp only at hSw); go_simp)
        try simp only [Act.put, List.setIfInBounds_toArray, List.set_cons_zero, List.set_cons_succ]
        refine wpAnyH_take (i := 13) (oi := _) (v := .agg #[.int .i64 x.k, .int .i64 (p : Int), .int .i64 m.env, .int .i64 (-1)]) rfl (by kernel_rfl) (by kernel_rfl) (by kernel_rfl) (fun _ _ _ h => h) (Or.inl ⟨by rfl, ?_⟩) (by assumption) ?_
        · (intro w hSw; (try dsimp only at hSw); go_simp)
        try simp only [Act.put, List.setIfInBounds_toArray, List.set_cons_zero, List.set_cons_succ]
        refine wpAnyH_ready (rs := [5, 14]) (by kernel_rfl) (by simp) ?_
        refine AllReadyH.cons (o := _) rfl (fun K hK => ?_) (AllReadyH.cons (o := _) rfl (fun K hK => ?_) AllReadyH.nil)
        · go_simp
          refine hK.out _ _ ⟨e0, e1, e2⟩ (fun hHeld => ?_)
          clear hK K
          try simp only [Act.put, List.setIfInBounds_toArray, List.set_cons_zero, List.set_cons_succ]
          refine wpAnyH_ready (rs := [14]) (by kernel_rfl) (by simp) ?_
          refine AllReadyH.cons (o := _) rfl (fun K hK => ?_) AllReadyH.nil
          go_simp
          refine hK.out _ _ ⟨e0', e1', e2'⟩ (fun hHeld => ?_)
          clear hK K
          try simp only [Act.put, List.setIfInBounds_toArray, List.set_cons_zero, List.set_cons_succ]
          refine wpAnyH_ready (rs := [15]) (by kernel_rfl) (by simp) ?_
          refine AllReadyH.cons (o := _) rfl (fun K hK => ?_) AllReadyH.nil
          refine step_append_lies _ rfl _ _ 57 rfl lo 141 i0 _ 4 32 Tryz.underlying57 Hi.out hz0 hz1' hz2' rfl (by decide) _ n _ rfl ((own_keep H22.out (fun k _ hk => HB3.out.block k hk)).alloc _) ⟨w3.heap.size, 0, none⟩ 1 1 [.int .i64 x.k, .int .i64 (p : Int), .int .i64 m.env, .int .i64 (-1)] rfl rfl (news4 (heap_alloc_new w3 _)) HO1.out (by omega) M1.out (by omega) (by show lo ≤ (w3.alloc _).heap.size; have := HB3.out.size; simp; omega) _ rfl ?_
          intro g6 cap6 w6 hown6 hgrow6 hat6 hlt6
          obtain ⟨pr1, pr2, pr3, pr4, pr5, h0, h1, h2⟩ := HPush.out g6 cap6 w3 w6 HB3.out hown6 ⟨hgrow6.os, hgrow6.tape, hgrow6.output, hgrow6.size, hgrow6.block⟩
          have HPr := hide (And.intro pr1 (And.intro pr2 pr3))
          clear hgrow6 hown6 hat6 pr1 pr2 pr3
          refine hK.out _ _ ⟨h0, h1, h2⟩ (fun hHeld => ?_)
          clear hK K
          try simp only [Act.put, List.setIfInBounds_toArray, List.set_cons_zero, List.set_cons_succ]
          refine wpAnyH_take (i := 16) (oi := _) (v := .pointer (some ⟨rb, 0, none⟩)) rfl (by kernel_rfl) (by kernel_rfl) (by kernel_rfl) (fun _ _ _ h => h) (Or.inl ⟨by rfl, ?_⟩) (by assumption) ?_
          · (intro w hSw; (try dsimp only at hSw); go_simp)
          try simp only [Act.put, List.setIfInBounds_toArray, List.set_cons_zero, List.set_cons_succ]
          refine wpAnyH_take (i := 17) (oi := _) (v := .pointer (some ⟨rb, 1, none⟩)) rfl (by kernel_rfl) (by kernel_rfl) (by kernel_rfl) (fun _ _ _ h => h) (Or.inl ⟨by rfl, ?_⟩) (by assumption) ?_
          · (intro w hSw; (try dsimp only at hSw); go_simp)
          try simp only [Act.put, List.setIfInBounds_toArray, List.set_cons_zero, List.set_cons_succ]
          refine wpAnyH_take (i := 18) (oi := _) (v := .pointer (some ⟨rb, 5, none⟩)) rfl (by kernel_rfl) (by kernel_rfl) (by kernel_rfl) (fun _ _ _ h => h) (Or.inl ⟨by rfl, ?_⟩) (by assumption) ?_
          · (intro w hSw; (try dsimp only at hSw); go_simp)
          try simp only [Act.put, List.setIfInBounds_toArray, List.set_cons_zero, List.set_cons_succ]
          refine wpAnyH_ready (rs := [19]) (by kernel_rfl) (by simp) ?_
          refine AllReadyH.cons (o := _) rfl (fun K hK => ?_) AllReadyH.nil
          go_simp
          refine hK.out _ _ ⟨(World.cell?_setCell_far _ _ _ _ n1).trans h0, (World.cell?_setCell_far _ _ _ _ n1).trans h1, (World.cell?_setCell_far _ _ _ _ n1).trans h2⟩ (fun hHeld => ?_)
          clear hK K
          try simp only [Act.put, List.setIfInBounds_toArray, List.set_cons_zero, List.set_cons_succ]
          refine wpAnyH_done (by kernel_rfl) ?_ _
          refine NoPanic.normal ?_
          have hPr := HPr.out
          clear HPr pr4 pr5 h0 h1 h2 c5 f5 p0 p1 p2
          go_wp2_with fail
          go_meet
          exact hPr
        · go_simp
          refine hK.out _ _ ⟨e0', e1', e2'⟩ (fun hHeld => ?_)
          clear hK K
          try simp only [Act.put, List.setIfInBounds_toArray, List.set_cons_zero, List.set_cons_succ]
          refine wpAnyH_ready (rs := [5]) (by kernel_rfl) (by simp) ?_
          refine AllReadyH.cons (o := _) rfl (fun K hK => ?_) AllReadyH.nil
          go_simp
          refine hK.out _ _ ⟨e0', e1', e2'⟩ (fun hHeld => ?_)
          clear hK K
          try simp only [Act.put, List.setIfInBounds_toArray, List.set_cons_zero, List.set_cons_succ]
          refine wpAnyH_ready (rs := [15]) (by kernel_rfl) (by simp) ?_
          refine AllReadyH.cons (o := _) rfl (fun K hK => ?_) AllReadyH.nil
          refine step_append_lies _ rfl _ _ 57 rfl lo 141 i0 _ 4 32 Tryz.underlying57 Hi.out hz0 hz1' hz2' rfl (by decide) _ n _ rfl ((own_keep H22.out (fun k _ hk => HB3.out.block k hk)).alloc _) ⟨w3.heap.size, 0, none⟩ 1 1 [.int .i64 x.k, .int .i64 (p : Int), .int .i64 m.env, .int .i64 (-1)] rfl rfl (news4 (heap_alloc_new w3 _)) HO1.out (by omega) M1.out (by omega) (by show lo ≤ (w3.alloc _).heap.size; have := HB3.out.size; simp; omega) _ rfl ?_
          intro g6 cap6 w6 hown6 hgrow6 hat6 hlt6
          obtain ⟨pr1, pr2, pr3, pr4, pr5, h0, h1, h2⟩ := HPush.out g6 cap6 w3 w6 HB3.out hown6 ⟨hgrow6.os, hgrow6.tape, hgrow6.output, hgrow6.size, hgrow6.block⟩
          have HPr := hide (And.intro pr1 (And.intro pr2 pr3))
          clear hgrow6 hown6 hat6 pr1 pr2 pr3
          refine hK.out _ _ ⟨h0, h1, h2⟩ (fun hHeld => ?_)
          clear hK K
          try simp only [Act.put, List.setIfInBounds_toArray, List.set_cons_zero, List.set_cons_succ]
          refine wpAnyH_take (i := 16) (oi := _) (v := .pointer (some ⟨rb, 0, none⟩)) rfl (by kernel_rfl) (by kernel_rfl) (by kernel_rfl) (fun _ _ _ h => h) (Or.inl ⟨by rfl, ?_⟩) (by assumption) ?_
          · (intro w hSw; (try dsimp only at hSw); go_simp)
          try simp only [Act.put, List.setIfInBounds_toArray, List.set_cons_zero, List.set_cons_succ]
          refine wpAnyH_take (i := 17) (oi := _) (v := .pointer (some ⟨rb, 1, none⟩)) rfl (by kernel_rfl) (by kernel_rfl) (by kernel_rfl) (fun _ _ _ h => h) (Or.inl ⟨by rfl, ?_⟩) (by assumption) ?_
          · (intro w hSw; (try dsimp only at hSw); go_simp)
          try simp only [Act.put, List.setIfInBounds_toArray, List.set_cons_zero, List.set_cons_succ]
          refine wpAnyH_take (i := 18) (oi := _) (v := .pointer (some ⟨rb, 5, none⟩)) rfl (by kernel_rfl) (by kernel_rfl) (by kernel_rfl) (fun _ _ _ h => h) (Or.inl ⟨by rfl, ?_⟩) (by assumption) ?_
          · (intro w hSw; (try dsimp only at hSw); go_simp)
          try simp only [Act.put, List.setIfInBounds_toArray, List.set_cons_zero, List.set_cons_succ]
          refine wpAnyH_ready (rs := [19]) (by kernel_rfl) (by simp) ?_
          refine AllReadyH.cons (o := _) rfl (fun K hK => ?_) AllReadyH.nil
          go_simp
          refine hK.out _ _ ⟨(World.cell?_setCell_far _ _ _ _ n1).trans h0, (World.cell?_setCell_far _ _ _ _ n1).trans h1, (World.cell?_setCell_far _ _ _ _ n1).trans h2⟩ (fun hHeld => ?_)
          clear hK K
          try simp only [Act.put, List.setIfInBounds_toArray, List.set_cons_zero, List.set_cons_succ]
          refine wpAnyH_done (by kernel_rfl) ?_ _
          refine NoPanic.normal ?_
          have hPr := HPr.out
          clear HPr pr4 pr5 h0 h1 h2 c5 f5 p0 p1 p2
          go_wp2_with fail
          go_meet
          exact hPr
    case rest =>
      obtain ⟨hRc, hBc, hVc⟩ := hcut
      have HRc := hide hRc
      have hvk := hVc.c
      have HTc := hide (HT.out.below hBc)
      clear hRc hVc hcc c5 f5 p0 p1 p2 HPush H22 HX2 HCe
      go_wp2_with fail
      refine (HPt.out _ HTc.out.now).mono ?_
      rintro r w7 ⟨rfl, hb7⟩
      have HR7 := hide (HRc.out.below hb7)
      have hB7 : Below lo w w7 := hBc.trans (hb7.mono (Nat.le_trans hle hBc.size))
      clear hvk hb7
      go_wp2_with fail
      refine (next_any rb lo _ _ _ _ _ _ HR7.out).mono ?_
      rintro r w8 ⟨rfl, hR8, hO8⟩
      have HN8 := HN.out
      go_wp2_with fail
      go_ret
      refine ⟨?_, hB7.trans (hO8.below (Nat.le_trans hle hB7.size) hrb)⟩
      exact ⟨rfl, hR8⟩
end Go.Proofs.YtnmkbpflbfhpnaaGreat.W

/-
  A contract of begin of a running machine. Conditions: good machines of closed terms.
-/
namespace Go.Proofs.YtnmkbpflbfhpnaaGreat.W
open Go.ChangeShapes Go.WideShapes Go.ChangeAt Go.RowKit
set_option linter.unusedVariables false

set_option maxRecDepth 20000 in
set_option maxHeartbeats 4000000 in
theorem begin_num (rb lo : Nat) (ad : Option Addr) (c : Nat) (l : List Cc) (a : F) (m : Mc) (w : World) (hCl : Cl l a) (h : RB w rb lo (.slice ad l.length c) m) (hT : TR w lo ad c l) (hG : GM a l m) (hd : m.done = false) (x : Cc) (hxx : l[m.pl.toNat]? = some x) (k2h : Hid (x.k = 2)) :
    Calls Tryz.prog 44 #[.pointer (some ⟨rb, 0, none⟩)] w fun r w' => RunOut r w' rb lo (.slice ad l.length c) m (newM m ⟨false, x.n, 0, 0⟩) ∧ Below lo w w' := by
  have hrl := h.lt.1
  have hrb := h.lt.2
  have hle := hT.le
  obtain ⟨n1, n2⟩ := nOk_not hG.now hd
  obtain ⟨q1, q2, q3⟩ := pOk_iff.1 n2
  obtain ⟨x', e, k, x1, x2, x3, x4, x5, x6, x7⟩ := hCl.part q1
  obtain rfl : x = x' := by rw [x2] at hxx; simpa using hxx.symm
  obtain ⟨p, hp⟩ := Int.eq_ofNat_of_zero_le q1.1
  have hp' : m.pl.toNat = p := by rw [hp]; rfl
  rw [hp'] at x1 x2 x3
  have hpl : p < l.length := by have := q1.2; omega
  have hlx : l[p] = x := by rw [List.getElem?_eq_getElem hpl] at x2; simpa using x2
  have hnf := hG.nf
  have hnv := hG.nv
  obtain ⟨af, cf, av, cv, ab, cb, h1, h2, h3, h4, -⟩ := h.slots
  have t0 : w.cell? ⟨rb, 0, none⟩ = some (.slice ad l.length c) := h1.c 0
  have t2 : w.cell? ⟨rb, 2, none⟩ = some (.int .i64 (p : Int)) := by rw [h1.c 2]; simp [hp]
  have t3 : w.cell? ⟨rb, 3, none⟩ = some (.int .i64 m.env) := h1.c 3
  have HR := hide h
  have HT := hide hT
  have HG := hide hG
  have HX := hide h1
  clear h1 h2 h3 h4 h n2 hxx x4 x2
  go_enter Tryz.func44, Tryz.ntmps44
  go_upto_region 1 with fail
  go_cut [3] from 5 to 82 (fun v wx => v = .pointer (some ⟨w.heap.size, 0, none⟩) ∧ Bx wx w.heap.size #[.slice ad l.length c, .int .i64 (p : Int), .int .i64 m.env] 136 ∧ Below w.heap.size w wx)
  case first =>
    go_region_held3 (fun w' => w'.cell? ⟨rb, 0, none⟩ = some (.slice ad l.length c) ∧ w'.cell? ⟨rb, 2, none⟩ = some (.int .i64 (p : Int)) ∧ w'.cell? ⟨rb, 3, none⟩ = some (.int .i64 m.env)) (go_keep)
      (first | fail)
    go_wp2_with fail
    go_meet
    exact ⟨rfl, (Bx.new w _ _).drew, belowDrew ((Below.refl _ _).alloc (Nat.le_refl _) _)⟩
  case rest =>
    obtain ⟨rfl, hP, hBc⟩ := hcut
    have HP := hide hP
    have hcp := hP.c
    have hpl2 := hP.lt
    have HRc := hide (HR.out.below hBc)
    have HTc := hide (HT.out.below (hBc.mono hle))
    have hzc : lo ≤ wc.heap.size := Nat.le_trans hle hBc.size
    clear t0 t2 t3 hP
    go_wp2_with fail
    refine (taskCell_any ad c l p m.env _ HTc.out.now hpl (by have := hCl.le; omega)).mono ?_
    rw [hlx]
    rintro r w1 ⟨rfl, hb1⟩
    have HP1 := hide (HP.out.below hb1 hpl2)
    have HR1 := hide (HRc.out.below hb1)
    have HT1 := hide (HTc.out.below (hb1.mono hzc))
    have hB1 : Below w.heap.size w w1 := hBc.trans (hb1.mono hBc.size)
    clear hcp hb1 HP HRc HTc hBc
    have hz1 : lo ≤ w1.heap.size := Nat.le_trans hle hB1.size
    have hC2 := Bx.new w1 #[.int .i64 x.k, .int .i64 x.n] 46
    have hq2 : Below w1.heap.size w1 (w1.alloc (.cells #[.int .i64 x.k, .int .i64 x.n] 46)) := (Below.refl _ _).alloc (Nat.le_refl _) _
    go_upto_region 3 with fail
    obtain ⟨w2, hw2⟩ : ∃ w2, w2 = w1.alloc (.cells #[.int .i64 x.k, .int .i64 x.n] 46) := ⟨_, rfl⟩
    rw [← hw2] at hC2 hq2 ⊢
    clear hw2
    have HP2 := hide (HP1.out.below hq2 HP1.out.lt)
    have HR2 := hide (HR1.out.below hq2)
    have HT2 := hide (HT1.out.below (hq2.mono hz1))
    have hB2 : Below w.heap.size w w2 := hB1.trans (hq2.mono hB1.size)
    have hz2 : lo ≤ w2.heap.size := Nat.le_trans hle hB2.size
    have HC2 := hide hC2
    have hcc := hC2.c
    have hcp := HP2.out.c
    clear hC2 HP1 HR1 HT1
    have k2 := k2h.out
    rw [k2] at hcc
    rw [k2]
    have k1 : ¬ x.k = 1 := by omega
    clear hCl hT hG x1 x3 x5 x6 x7 q1 q2 q3 HG
    go_wp2_with fail
    refine (comeNew_any rb lo _ m ⟨false, x.n, 0, 0⟩ _ HR2.out hnv hz2).mono ?_
    rintro r w3 ⟨ho3, hb3⟩
    have hB3 : Below lo w w3 := (hB2.mono hle).trans hb3
    clear hcc hcp
    cases hnm : newM m ⟨false, x.n, 0, 0⟩ with
    | inl m' =>
      rw [hnm] at ho3
      obtain ⟨rfl, hR3⟩ := ho3
      go_wp2_with fail
      go_ret
      refine ⟨?_, hB3⟩
      first
        | exact ⟨rfl, hR3⟩
        | (rw [hnm]; exact ⟨rfl, hR3⟩)
    | inr cd =>
      rw [hnm] at ho3
      obtain ⟨rfl, hR3⟩ := ho3
      go_wp2_with fail
      go_ret
      refine ⟨?_, hB3⟩
      first
        | exact ⟨rfl, hR3⟩
        | (rw [hnm]; exact ⟨rfl, hR3⟩)

set_option maxRecDepth 20000 in
set_option maxHeartbeats 4000000 in
theorem begin_lam (rb lo : Nat) (ad : Option Addr) (c : Nat) (l : List Cc) (a : F) (m : Mc) (w : World) (hCl : Cl l a) (h : RB w rb lo (.slice ad l.length c) m) (hT : TR w lo ad c l) (hG : GM a l m) (hd : m.done = false) (x : Cc) (hxx : l[m.pl.toNat]? = some x) (k2h : Hid (x.k = 3)) :
    Calls Tryz.prog 44 #[.pointer (some ⟨rb, 0, none⟩)] w fun r w' => RunOut r w' rb lo (.slice ad l.length c) m (newM m ⟨true, 0, m.pl, m.env⟩) ∧ Below lo w w' := by
  have hrl := h.lt.1
  have hrb := h.lt.2
  have hle := hT.le
  obtain ⟨n1, n2⟩ := nOk_not hG.now hd
  obtain ⟨q1, q2, q3⟩ := pOk_iff.1 n2
  obtain ⟨x', e, k, x1, x2, x3, x4, x5, x6, x7⟩ := hCl.part q1
  obtain rfl : x = x' := by rw [x2] at hxx; simpa using hxx.symm
  obtain ⟨p, hp⟩ := Int.eq_ofNat_of_zero_le q1.1
  have hp' : m.pl.toNat = p := by rw [hp]; rfl
  rw [hp'] at x1 x2 x3
  have hpl : p < l.length := by have := q1.2; omega
  have hlx : l[p] = x := by rw [List.getElem?_eq_getElem hpl] at x2; simpa using x2
  rw [hp]
  have hnf := hG.nf
  have hnv := hG.nv
  obtain ⟨af, cf, av, cv, ab, cb, h1, h2, h3, h4, -⟩ := h.slots
  have t0 : w.cell? ⟨rb, 0, none⟩ = some (.slice ad l.length c) := h1.c 0
  have t2 : w.cell? ⟨rb, 2, none⟩ = some (.int .i64 (p : Int)) := by rw [h1.c 2]; simp [hp]
  have t3 : w.cell? ⟨rb, 3, none⟩ = some (.int .i64 m.env) := h1.c 3
  have HR := hide h
  have HT := hide hT
  have HG := hide hG
  have HX := hide h1
  clear h1 h2 h3 h4 h n2 hxx x4 x2
  go_enter Tryz.func44, Tryz.ntmps44
  go_upto_region 1 with fail
  go_cut [3] from 5 to 82 (fun v wx => v = .pointer (some ⟨w.heap.size, 0, none⟩) ∧ Bx wx w.heap.size #[.slice ad l.length c, .int .i64 (p : Int), .int .i64 m.env] 136 ∧ Below w.heap.size w wx)
  case first =>
    go_region_held3 (fun w' => w'.cell? ⟨rb, 0, none⟩ = some (.slice ad l.length c) ∧ w'.cell? ⟨rb, 2, none⟩ = some (.int .i64 (p : Int)) ∧ w'.cell? ⟨rb, 3, none⟩ = some (.int .i64 m.env)) (go_keep)
      (first | fail)
    go_wp2_with fail
    go_meet
    exact ⟨rfl, (Bx.new w _ _).drew, belowDrew ((Below.refl _ _).alloc (Nat.le_refl _) _)⟩
  case rest =>
    obtain ⟨rfl, hP, hBc⟩ := hcut
    have HP := hide hP
    have hcp := hP.c
    have hpl2 := hP.lt
    have HRc := hide (HR.out.below hBc)
    have HTc := hide (HT.out.below (hBc.mono hle))
    have hzc : lo ≤ wc.heap.size := Nat.le_trans hle hBc.size
    clear t0 t2 t3 hP
    go_wp2_with fail
    refine (taskCell_any ad c l p m.env _ HTc.out.now hpl (by have := hCl.le; omega)).mono ?_
    rw [hlx]
    rintro r w1 ⟨rfl, hb1⟩
    have HP1 := hide (HP.out.below hb1 hpl2)
    have HR1 := hide (HRc.out.below hb1)
    have HT1 := hide (HTc.out.below (hb1.mono hzc))
    have hB1 : Below w.heap.size w w1 := hBc.trans (hb1.mono hBc.size)
    clear hcp hb1 HP HRc HTc hBc
    have hz1 : lo ≤ w1.heap.size := Nat.le_trans hle hB1.size
    have hC2 := Bx.new w1 #[.int .i64 x.k, .int .i64 x.n] 46
    have hq2 : Below w1.heap.size w1 (w1.alloc (.cells #[.int .i64 x.k, .int .i64 x.n] 46)) := (Below.refl _ _).alloc (Nat.le_refl _) _
    go_upto_region 3 with fail
    obtain ⟨w2, hw2⟩ : ∃ w2, w2 = w1.alloc (.cells #[.int .i64 x.k, .int .i64 x.n] 46) := ⟨_, rfl⟩
    rw [← hw2] at hC2 hq2 ⊢
    clear hw2
    have HP2 := hide (HP1.out.below hq2 HP1.out.lt)
    have HR2 := hide (HR1.out.below hq2)
    have HT2 := hide (HT1.out.below (hq2.mono hz1))
    have hB2 : Below w.heap.size w w2 := hB1.trans (hq2.mono hB1.size)
    have hz2 : lo ≤ w2.heap.size := Nat.le_trans hle hB2.size
    have HC2 := hide hC2
    have hcc := hC2.c
    have hcp := HP2.out.c
    clear hC2 HP1 HR1 HT1
    have k2 := k2h.out
    rw [k2] at hcc
    rw [k2]
    have k1 : ¬ x.k = 1 := by omega
    clear hCl hT hG x1 x3 x5 x6 x7 q1 q2 q3 HG
    go_wp2_with fail
    refine (comeNew_any rb lo _ m ⟨true, 0, (p : Int), m.env⟩ _ HR2.out hnv hz2).mono ?_
    rintro r w3 ⟨ho3, hb3⟩
    have hB3 : Below lo w w3 := (hB2.mono hle).trans hb3
    clear hcc hcp
    cases hnm : newM m ⟨true, 0, (p : Int), m.env⟩ with
    | inl m' =>
      rw [hnm] at ho3
      obtain ⟨rfl, hR3⟩ := ho3
      go_wp2_with fail
      go_ret
      refine ⟨?_, hB3⟩
      first
        | exact ⟨rfl, hR3⟩
        | (rw [hnm]; exact ⟨rfl, hR3⟩)
    | inr cd =>
      rw [hnm] at ho3
      obtain ⟨rfl, hR3⟩ := ho3
      go_wp2_with fail
      go_ret
      refine ⟨?_, hB3⟩
      first
        | exact ⟨rfl, hR3⟩
        | (rw [hnm]; exact ⟨rfl, hR3⟩)
end Go.Proofs.YtnmkbpflbfhpnaaGreat.W

/-
  A contract of step of a running machine. Conditions: good machines of closed terms.
-/
namespace Go.Proofs.YtnmkbpflbfhpnaaGreat.W
open Go.ChangeShapes Go.WideShapes Go.ChangeAt Go.RowKit
set_option linter.unusedVariables false

theorem begin_any (rb lo : Nat) (ad : Option Addr) (c : Nat) (l : List Cc) (a : F) (m : Mc) (w : World) (hCl : Cl l a) (h : RB w rb lo (.slice ad l.length c) m) (hT : TR w lo ad c l) (hG : GM a l m) (hd : m.done = false) :
    Calls Tryz.prog 44 #[.pointer (some ⟨rb, 0, none⟩)] w fun r w' => RunOut r w' rb lo (.slice ad l.length c) m (doM a l m) ∧ Below lo w w' := by
  obtain ⟨n1, n2⟩ := nOk_not hG.now hd
  obtain ⟨q1, q2, q3⟩ := pOk_iff.1 n2
  obtain ⟨x, e, k, x1, x2, x3, x4, x5, x6, x7⟩ := hCl.part q1
  unfold doM
  rw [x2]
  simp only
  by_cases k1 : x.k = 1
  · rw [if_pos k1]; exact begin_var rb lo ad c l a m w hCl h hT hG hd x x2 (hide k1)
  · rw [if_neg k1]
    by_cases k2 : x.k = 2
    · rw [if_pos k2]; exact begin_num rb lo ad c l a m w hCl h hT hG hd x x2 (hide k2)
    · rw [if_neg k2]
      by_cases k3 : x.k = 3
      · rw [if_pos k3]; exact begin_lam rb lo ad c l a m w hCl h hT hG hd x x2 (hide k3)
      · rw [if_neg k3]
        by_cases hf : 500 ≤ m.fs.length
        · rw [if_pos hf]; exact begin_full rb lo ad c l a m w hCl h hT hG hd x x2 (hide ⟨k1, k2, k3⟩) (hide hf)
        · rw [if_neg hf]; exact begin_push rb lo ad c l a m w hCl h hT hG hd x x2 (hide ⟨k1, k2, k3⟩) (hide hf)
theorem goOn_any (rb lo : Nat) (ad : Option Addr) (c : Nat) (l : List Cc) (a : F) (m : Mc) (f : Fm) (w : World) (hCl : Cl l a) (h : RB w rb lo (.slice ad l.length c) m) (hT : TR w lo ad c l) (hG : GM a l m) (hd : m.done = true) (hf : m.fs.getLast? = some f) :
    Calls Tryz.prog 45 #[.pointer (some ⟨rb, 0, none⟩)] w fun r w' => RunOut r w' rb lo (.slice ad l.length c) m (goM a l m f) ∧ Below lo w w' := by
  obtain ⟨p1, p2, p3, p4⟩ := fOk_parts (hG.fs f (List.mem_of_getLast? hf))
  by_cases k6 : f.k = 6
  · exact goOn_if rb lo ad c l a m f w hCl h hT hG (hide hd) hf (hide k6)
  · by_cases k7 : f.k = 7
    · exact goOn_let rb lo ad c l a m f w hCl h hT hG (hide hd) hf (hide k7)
    · by_cases hv : f.val = -1
      · exact goOn_first rb lo ad c l a m f w hCl h hT hG (hide hd) hf (hide (by omega)) (hide hv)
      · by_cases k4 : f.k = 4
        · exact goOn_call rb lo ad c l a m f w hCl h hT hG (hide hd) hf (hide k4) (hide hv)
        · exact goOn_add rb lo ad c l a m f w hCl h hT hG (hide hd) hf (hide (by omega)) (hide hv)

set_option maxHeartbeats 2000000 in
theorem step_any (rb lo : Nat) (ad : Option Addr) (c : Nat) (l : List Cc) (a : F) (m : Mc) (w : World) (hCl : Cl l a) (h : RB w rb lo (.slice ad l.length c) m) (hT : TR w lo ad c l) (hG : GM a l m) :
    Calls Tryz.prog 24 #[.pointer (some ⟨rb, 0, none⟩)] w fun r w' => r = .returned (.int .i64 (cdOf (stepM a l m))) ∧ RB w' rb lo (.slice ad l.length c) (mcOf m (stepM a l m)) ∧ Below lo w w' := by
  obtain ⟨af, cf, av, cv, ab, cb, g1, g2, g3, g4, -⟩ := h.slots
  have hc := g1.c
  have hle := hT.le
  cases hd : m.done with
  | false =>
    have hst : stepM a l m = doM a l m := by unfold stepM; rw [hd]; rfl
    rw [hst]
    have HB := hide (begin_any rb lo ad c l a m w hCl h hT hG hd)
    rw [hd] at hc
    clear h hT hG g1 g2 g3 g4 hst hd
    obtain ⟨S, hS⟩ : ∃ S, S = doM a l m := ⟨_, rfl⟩
    rw [← hS] at HB ⊢
    clear hS
    go_enter Tryz.func24, Tryz.ntmps24
    go_wp2_with fail
    refine HB.out.mono ?_
    rintro r w1 ⟨ho, hb⟩
    obtain ⟨rfl, hR⟩ := ho.get
    clear hc
    go_wp2_with fail
    go_ret
    exact ⟨rfl, hR, hb⟩
  | true =>
    rw [hd] at hc
    cases hf : m.fs.getLast? with
    | some f =>
      have hst : stepM a l m = goM a l m f := by unfold stepM; rw [hd, hf]; rfl
      rw [hst]
      have HB := hide (goOn_any rb lo ad c l a m f w hCl h hT hG hd hf)
      have hpos : (0 : Int) < (m.fs.length : Int) := by have := List.length_pos_of_mem (List.mem_of_getLast? hf); omega
      clear h hT hG g1 g2 g3 g4 hst hd hf
      obtain ⟨S, hS⟩ : ∃ S, S = goM a l m f := ⟨_, rfl⟩
      rw [← hS] at HB ⊢
      clear hS
      go_enter Tryz.func24, Tryz.ntmps24
      go_wp2_with fail
      refine HB.out.mono ?_
      rintro r w1 ⟨ho, hb⟩
      obtain ⟨rfl, hR⟩ := ho.get
      clear hc
      go_wp2_with fail
      go_ret
      exact ⟨rfl, hR, hb⟩
    | none =>
      obtain ⟨d1, d2, d3, d4⟩ := nOk_done hG.now hd
      obtain ⟨i, hi⟩ := Int.eq_ofNat_of_zero_le d3
      have hil : i < m.vs.length := by omega
      have hnil : m.fs = [] := by simpa using hf
      have e1 : vlAt m m.val = m.vs[i] := by unfold vlAt; rw [hi, List.getD_eq_getElem?_getD]; simp [hil]
      have hst : stepM a l m = .inr (if m.vs[i].fn = true then 2 else 1) := by unfold stepM; rw [hd, hf, e1]; rfl
      rw [hst]
      have HR := hide h
      have HCm := hide (cameTo_any true m.pl m.env i (.slice af m.fs.length cf) (.slice ab m.bs.length cb) av cv m.vs w (RRow.ofOwn g3 rfl) hil (by have := hG.nv; omega))
      have hl0 : m.fs.length = 0 := by rw [hnil]; rfl
      rw [hi] at hc
      rw [hl0] at hc HCm
      obtain ⟨y, hy⟩ : ∃ y, y = m.vs[i] := ⟨_, rfl⟩
      rw [← hy] at HCm ⊢
      have hfd := fieldVal
      clear h hT hG g1 g2 g3 g4 hst hd hf hy e1 hnil hl0 hi d1 d2 d3 d4
      obtain ⟨y0, y1, y2, y3⟩ := y
      cases y0 with
      | true =>
        go_enter Tryz.func24, Tryz.ntmps24
        go_wp2_with fail
        refine HCm.out.mono ?_
        rintro r w1 ⟨rfl, hb⟩
        clear hc
        go_wp2_with fail
        go_ret
        exact ⟨rfl, HR.out.below hb, hb.mono hle⟩
      | false =>
        go_enter Tryz.func24, Tryz.ntmps24
        go_wp2_with fail
        refine HCm.out.mono ?_
        rintro r w1 ⟨rfl, hb⟩
        clear hc
        go_wp2_with fail
        go_ret
        exact ⟨rfl, HR.out.below hb, hb.mono hle⟩
end Go.Proofs.YtnmkbpflbfhpnaaGreat.W
