/-
  A contract of begin of a running machine. Conditions: good machines of closed terms.
-/
import Derived.Test.YtdajalchdbgooaaGreatGq
import Derived.Deep.RegionHeld3
import Derived.Deep.RegionLaw
import Derived.Deep.AppendLies
import Derived.Deep.CutRange
namespace Go.Proofs.YtdajalchdbgooaaGreat.W
open Go.ChangeShapes Go.WideShapes Go.ChangeAt Go.RowKit
set_option linter.unusedVariables false

/-- A frame more. -/
theorem RB.pushF {w w6 : World} {rb lo : Nat} {tv : Value} {m : Mc} {af : Option Addr} {cf g6 cap6 : Nat} {v : Fm} (h : RB w rb lo tv m)
    (hx : ∃ sv sb, Bx w rb #[tv, .bool m.done, .int .i64 m.pl, .int .i64 m.env, .int .i64 m.val, .slice af m.fs.length cf, sv, sb] 64)
    (ho : w6.ownsRow lo 93 4 (.slice (some ⟨g6, 0, none⟩) (m.fs.length + 1) cap6) (m.fs.length + 1) (rcells 4 Fm.c m.fs ++ [.int .i64 v.k, .int .i64 v.pl, .int .i64 v.env, .int .i64 v.val]))
    (hg : ∀ k, k < w.heap.size → some k ≠ (Value.slice af m.fs.length cf).ownBlock → w6.heap[k]? = w.heap[k]?) : RB (w6.setCell ⟨rb, 5, none⟩ (.slice (some ⟨g6, 0, none⟩) (m.fs.length + 1) cap6)) rb lo tv { m with fs := m.fs ++ [v] } := by
  obtain ⟨sf, sv, sb, h1, h2, h3, h4, h5⟩ := h
  obtain ⟨sv', sb', hx⟩ := hx
  have hcell := (h1.c 5).symm.trans (hx.c 5)
  have hsf : sf = .slice af m.fs.length cf := by simpa using hcell
  subst hsf
  have d1 := own_apart h3 h2 (by decide)
  have d2 := own_apart h4 h2 (by decide)
  have nb := own_bx h1 h2 (by decide)
  have hX6 : Bx w6 rb #[tv, .bool m.done, .int .i64 m.pl, .int .i64 m.env, .int .i64 m.val, .slice af m.fs.length cf, sv, sb] 64 := (hg rb h1.lt (fun e => nb e.symm)).trans h1
  have h3' := own_same (w' := w6) h3 (fun k hk _ hl => hg k hl (fun e => d1 k hk e.symm))
  have h4' := own_same (w' := w6) h4 (fun k hk _ hl => hg k hl (fun e => d2 k hk e.symm))
  refine ⟨.slice (some ⟨g6, 0, none⟩) (m.fs.length + 1) cap6, sv, sb, ?_, ?_, ?_, ?_, h5⟩
  · have := hX6.set 5 (.slice (some ⟨g6, 0, none⟩) (m.fs.length + 1) cap6)
    simpa using this
  · simp only
    rw [lies_v, List.length_append]
    exact own_same ho (fun k hk _ hl => Below.heap_setCell _ _ _ _ (fun e => own_bx hX6 ho (by decide) ((show k = rb from e) ▸ hk)))
  · exact own_same h3' (fun k hk _ hl => Below.heap_setCell _ _ _ _ (fun e => own_bx hX6 h3' (by decide) ((show k = rb from e) ▸ hk)))
  · exact own_same h4' (fun k hk _ hl => Below.heap_setCell _ _ _ _ (fun e => own_bx hX6 h4' (by decide) ((show k = rb from e) ▸ hk)))

set_option maxRecDepth 20000 in
set_option maxHeartbeats 4000000 in
theorem begin_var (rb lo : Nat) (ad : Option Addr) (c : Nat) (l : List Cc) (a : F) (m : Mc) (w : World) (hCl : Cl l a) (h : RB w rb lo (.slice ad l.length c) m) (hT : TR w lo ad c l) (hG : GM a l m) (hd : m.done = false) (x : Cc) (hxx : l[m.pl.toNat]? = some x) (k1h : Hid (x.k = 1)) :
    Calls Tryz.prog 61 #[.pointer (some ⟨rb, 0, none⟩)] w fun r w' => RunOut r w' rb lo (.slice ad l.length c) m (.inl (comeM m (lkB m.bs x.n.toNat m.env))) ∧ Below lo w w' := by
  have hrl := h.lt.1
  have hrb := h.lt.2
  have hle := hT.le
  obtain ⟨n1, n2⟩ := nOk_not hG.now hd
  obtain ⟨q1, q2, q3⟩ := pOk_iff.1 n2
  obtain ⟨x', e, k, x1, x2, x3, x4, x5, x6, x7⟩ := hCl.part q1
  obtain rfl : x = x' := by rw [x2] at hxx; simpa using hxx.symm
  obtain ⟨p, hp⟩ := Int.eq_ofNat_of_zero_le q1.1
  have hp' : m.pl.toNat = p := by rw [hp]; rfl
  rw [hp'] at x1 x2 x3
  have hpl : p < l.length := by have := q1.2; omega
  have hlx : l[p] = x := by rw [List.getElem?_eq_getElem hpl] at x2; simpa using x2
  have hnf := hG.nf
  have hnv := hG.nv
  obtain ⟨af, cf, av, cv, ab, cb, h1, h2, h3, h4, -⟩ := h.slots
  have t0 : w.cell? ⟨rb, 0, none⟩ = some (.slice ad l.length c) := h1.c 0
  have t2 : w.cell? ⟨rb, 2, none⟩ = some (.int .i64 (p : Int)) := by rw [h1.c 2]; simp [hp]
  have t3 : w.cell? ⟨rb, 3, none⟩ = some (.int .i64 m.env) := h1.c 3
  have HR := hide h
  have HT := hide hT
  have HG := hide hG
  have HX := hide h1
  clear h1 h2 h3 h4 h n2 hxx x4 x2
  go_enter Tryz.func61, Tryz.ntmps61
  go_upto_region 1 with fail
  go_cut [3] from 5 to 82 (fun v wx => v = .pointer (some ⟨w.heap.size, 0, none⟩) ∧ Bx wx w.heap.size #[.slice ad l.length c, .int .i64 (p : Int), .int .i64 m.env] 136 ∧ Below w.heap.size w wx)
  case first =>
    go_region_held3 (fun w' => w'.cell? ⟨rb, 0, none⟩ = some (.slice ad l.length c) ∧ w'.cell? ⟨rb, 2, none⟩ = some (.int .i64 (p : Int)) ∧ w'.cell? ⟨rb, 3, none⟩ = some (.int .i64 m.env)) (go_keep)
      (first | fail)
    go_wp2_with fail
    go_meet
    exact ⟨rfl, (Bx.new w _ _).drew, belowDrew ((Below.refl _ _).alloc (Nat.le_refl _) _)⟩
  case rest =>
    obtain ⟨rfl, hP, hBc⟩ := hcut
    have HP := hide hP
    have hcp := hP.c
    have hpl2 := hP.lt
    have HRc := hide (HR.out.below hBc)
    have HTc := hide (HT.out.below (hBc.mono hle))
    have hzc : lo ≤ wc.heap.size := Nat.le_trans hle hBc.size
    clear t0 t2 t3 hP
    go_wp2_with fail
    refine (taskCell_any ad c l p m.env _ HTc.out.now hpl (by have := hCl.le; omega)).mono ?_
    rw [hlx]
    rintro r w1 ⟨rfl, hb1⟩
    have HP1 := hide (HP.out.below hb1 hpl2)
    have HR1 := hide (HRc.out.below hb1)
    have HT1 := hide (HTc.out.below (hb1.mono hzc))
    have hB1 : Below w.heap.size w w1 := hBc.trans (hb1.mono hBc.size)
    clear hcp hb1 HP HRc HTc hBc
    have hz1 : lo ≤ w1.heap.size := Nat.le_trans hle hB1.size
    have hC2 := Bx.new w1 #[.int .i64 x.k, .int .i64 x.n] 56
    have hq2 : Below w1.heap.size w1 (w1.alloc (.cells #[.int .i64 x.k, .int .i64 x.n] 56)) := (Below.refl _ _).alloc (Nat.le_refl _) _
    go_upto_region 3 with fail
    obtain ⟨w2, hw2⟩ : ∃ w2, w2 = w1.alloc (.cells #[.int .i64 x.k, .int .i64 x.n] 56) := ⟨_, rfl⟩
    rw [← hw2] at hC2 hq2 ⊢
    clear hw2
    have HP2 := hide (HP1.out.below hq2 HP1.out.lt)
    have HR2 := hide (HR1.out.below hq2)
    have HT2 := hide (HT1.out.below (hq2.mono hz1))
    have hB2 : Below w.heap.size w w2 := hB1.trans (hq2.mono hB1.size)
    have hz2 : lo ≤ w2.heap.size := Nat.le_trans hle hB2.size
    have HC2 := hide hC2
    have hcc := hC2.c
    have hcp := HP2.out.c
    clear hC2 HP1 HR1 HT1
    have k1 := k1h.out
    have hxb := hCl.bound x1 k1
    obtain ⟨N, hN⟩ := Int.eq_ofNat_of_zero_le hxb.1
    have hbn : (N : Int) < (bw m.bs m.env).1 := by rw [q3, hp', x3]; omega
    obtain ⟨af2, cf2, av2, cv2, ab2, cb2, g1, g2, g3, g4, -⟩ := HR2.out.slots
    have HBt := hide (fun (w' : World) (hb : Below w2.heap.size w2 w') => boundTo_any false (p : Int) m.env (-1) (.slice af2 m.fs.length cf2) (.slice av2 m.vs.length cv2) ab2 cb2 m.vs.length m.bs m.env N w' ((RRow.ofOwn g4 rfl).below hb) hG.bs q2 hbn (by have := hG.nb; omega))
    have hcr := g1.c
    rw [k1, hN] at hcc
    have hNt : x.n.toNat = N := by rw [hN]; rfl
    rw [k1, hN]
    clear g1 g2 g3 g4 hCl hT hG x1 x3 x5 x6 x7 q1 q2 q3 hbn hxb HG
    go_upto_region 5 with fail
    go_region_with (first | (go_at_call 83; (with_reducible refine (HBt.out _ (belowDrew (Below.refl _ _))).mono ?_); rintro r w3 ⟨rfl, hb3⟩; have HR3 := hide (HR2.out.below (show Below w2.heap.size w2 w3 from ⟨hb3.os, hb3.tape, hb3.output, hb3.size, hb3.block⟩)); have hB3 : Below w.heap.size w w3 := hB2.trans ((show Below w2.heap.size w2 w3 from ⟨hb3.os, hb3.tape, hb3.output, hb3.size, hb3.block⟩).mono hB2.size); clear hb3) | (go_at_call 82; (with_reducible refine (come_any rb lo _ m _ _ HR3.out).mono ?_); rintro r w4 ⟨rfl, hR4, hO4⟩))
    all_goals
      clear hcc hcp hcr
      go_wp2_with fail
      go_ret
      refine ⟨⟨rfl, ?_⟩, (hB3.mono hle).trans (hO4.below (Nat.le_trans hle hB3.size) hrb)⟩
      rw [hNt]
      exact hR4
end Go.Proofs.YtdajalchdbgooaaGreat.W
