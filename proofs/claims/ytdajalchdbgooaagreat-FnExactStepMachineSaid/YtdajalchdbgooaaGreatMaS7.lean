/-
  A contract of step of a running machine. Conditions: good machines of closed terms.
-/
import Derived.Test.YtdajalchdbgooaaGreatGs
import Derived.Test.YtdajalchdbgooaaGreatMaS2
import Derived.Test.YtdajalchdbgooaaGreatMaS1
import Derived.Deep.RegionHeld3
import Derived.Deep.RegionLaw
import Derived.Deep.AppendLies
import Derived.Deep.CutRange
namespace Go.Proofs.YtdajalchdbgooaaGreat.W
open Go.ChangeShapes Go.WideShapes Go.ChangeAt Go.RowKit
set_option linter.unusedVariables false

theorem begin_any (rb lo : Nat) (ad : Option Addr) (c : Nat) (l : List Cc) (a : F) (m : Mc) (w : World) (hCl : Cl l a) (h : RB w rb lo (.slice ad l.length c) m) (hT : TR w lo ad c l) (hG : GM a l m) (hd : m.done = false) :
    Calls Tryz.prog 61 #[.pointer (some ⟨rb, 0, none⟩)] w fun r w' => RunOut r w' rb lo (.slice ad l.length c) m (doM a l m) ∧ Below lo w w' := by
  obtain ⟨n1, n2⟩ := nOk_not hG.now hd
  obtain ⟨q1, q2, q3⟩ := pOk_iff.1 n2
  obtain ⟨x, e, k, x1, x2, x3, x4, x5, x6, x7⟩ := hCl.part q1
  unfold doM
  rw [x2]
  simp only
  by_cases k1 : x.k = 1
  · rw [if_pos k1]; exact begin_var rb lo ad c l a m w hCl h hT hG hd x x2 (hide k1)
  · rw [if_neg k1]
    by_cases k2 : x.k = 2
    · rw [if_pos k2]; exact begin_num rb lo ad c l a m w hCl h hT hG hd x x2 (hide k2)
    · rw [if_neg k2]
      by_cases k3 : x.k = 3
      · rw [if_pos k3]; exact begin_lam rb lo ad c l a m w hCl h hT hG hd x x2 (hide k3)
      · rw [if_neg k3]
        by_cases hf : 500 ≤ m.fs.length
        · rw [if_pos hf]; exact begin_full rb lo ad c l a m w hCl h hT hG hd x x2 (hide ⟨k1, k2, k3⟩) (hide hf)
        · rw [if_neg hf]; exact begin_push rb lo ad c l a m w hCl h hT hG hd x x2 (hide ⟨k1, k2, k3⟩) (hide hf)
theorem goOn_any (rb lo : Nat) (ad : Option Addr) (c : Nat) (l : List Cc) (a : F) (m : Mc) (f : Fm) (w : World) (hCl : Cl l a) (h : RB w rb lo (.slice ad l.length c) m) (hT : TR w lo ad c l) (hG : GM a l m) (hd : m.done = true) (hf : m.fs.getLast? = some f) :
    Calls Tryz.prog 62 #[.pointer (some ⟨rb, 0, none⟩)] w fun r w' => RunOut r w' rb lo (.slice ad l.length c) m (goM a l m f) ∧ Below lo w w' := by
  obtain ⟨p1, p2, p3, p4⟩ := fOk_parts (hG.fs f (List.mem_of_getLast? hf))
  by_cases k6 : f.k = 6
  · exact goOn_if rb lo ad c l a m f w hCl h hT hG (hide hd) hf (hide k6)
  · by_cases k7 : f.k = 7
    · exact goOn_let rb lo ad c l a m f w hCl h hT hG (hide hd) hf (hide k7)
    · by_cases hv : f.val = -1
      · exact goOn_first rb lo ad c l a m f w hCl h hT hG (hide hd) hf (hide (by omega)) (hide hv)
      · by_cases k4 : f.k = 4
        · exact goOn_call rb lo ad c l a m f w hCl h hT hG (hide hd) hf (hide k4) (hide hv)
        · exact goOn_add rb lo ad c l a m f w hCl h hT hG (hide hd) hf (hide (by omega)) (hide hv)

set_option maxHeartbeats 2000000 in
theorem step_any (rb lo : Nat) (ad : Option Addr) (c : Nat) (l : List Cc) (a : F) (m : Mc) (w : World) (hCl : Cl l a) (h : RB w rb lo (.slice ad l.length c) m) (hT : TR w lo ad c l) (hG : GM a l m) :
    Calls Tryz.prog 28 #[.pointer (some ⟨rb, 0, none⟩)] w fun r w' => r = .returned (.int .i64 (cdOf (stepM a l m))) ∧ RB w' rb lo (.slice ad l.length c) (mcOf m (stepM a l m)) ∧ Below lo w w' := by
  obtain ⟨af, cf, av, cv, ab, cb, g1, g2, g3, g4, -⟩ := h.slots
  have hc := g1.c
  have hle := hT.le
  cases hd : m.done with
  | false =>
    have hst : stepM a l m = doM a l m := by unfold stepM; rw [hd]; rfl
    rw [hst]
    have HB := hide (begin_any rb lo ad c l a m w hCl h hT hG hd)
    rw [hd] at hc
    clear h hT hG g1 g2 g3 g4 hst hd
    obtain ⟨S, hS⟩ : ∃ S, S = doM a l m := ⟨_, rfl⟩
    rw [← hS] at HB ⊢
    clear hS
    go_enter Tryz.func28, Tryz.ntmps28
    go_wp2_with fail
    refine HB.out.mono ?_
    rintro r w1 ⟨ho, hb⟩
    obtain ⟨rfl, hR⟩ := ho.get
    clear hc
    go_wp2_with fail
    go_ret
    exact ⟨rfl, hR, hb⟩
  | true =>
    rw [hd] at hc
    cases hf : m.fs.getLast? with
    | some f =>
      have hst : stepM a l m = goM a l m f := by unfold stepM; rw [hd, hf]; rfl
      rw [hst]
      have HB := hide (goOn_any rb lo ad c l a m f w hCl h hT hG hd hf)
      have hpos : (0 : Int) < (m.fs.length : Int) := by have := List.length_pos_of_mem (List.mem_of_getLast? hf); omega
      clear h hT hG g1 g2 g3 g4 hst hd hf
      obtain ⟨S, hS⟩ : ∃ S, S = goM a l m f := ⟨_, rfl⟩
      rw [← hS] at HB ⊢
      clear hS
      go_enter Tryz.func28, Tryz.ntmps28
      go_wp2_with fail
      refine HB.out.mono ?_
      rintro r w1 ⟨ho, hb⟩
      obtain ⟨rfl, hR⟩ := ho.get
      clear hc
      go_wp2_with fail
      go_ret
      exact ⟨rfl, hR, hb⟩
    | none =>
      obtain ⟨d1, d2, d3, d4⟩ := nOk_done hG.now hd
      obtain ⟨i, hi⟩ := Int.eq_ofNat_of_zero_le d3
      have hil : i < m.vs.length := by omega
      have hnil : m.fs = [] := by simpa using hf
      have e1 : vlAt m m.val = m.vs[i] := by unfold vlAt; rw [hi, List.getD_eq_getElem?_getD]; simp [hil]
      have hst : stepM a l m = .inr (if m.vs[i].fn = true then 2 else 1) := by unfold stepM; rw [hd, hf, e1]; rfl
      rw [hst]
      have HR := hide h
      have HCm := hide (cameTo_any true m.pl m.env i (.slice af m.fs.length cf) (.slice ab m.bs.length cb) av cv m.vs w (RRow.ofOwn g3 rfl) hil (by have := hG.nv; omega))
      have hl0 : m.fs.length = 0 := by rw [hnil]; rfl
      rw [hi] at hc
      rw [hl0] at hc HCm
      obtain ⟨y, hy⟩ : ∃ y, y = m.vs[i] := ⟨_, rfl⟩
      rw [← hy] at HCm ⊢
      have hfd := fieldVal
      clear h hT hG g1 g2 g3 g4 hst hd hf hy e1 hnil hl0 hi d1 d2 d3 d4
      obtain ⟨y0, y1, y2, y3⟩ := y
      cases y0 with
      | true =>
        go_enter Tryz.func28, Tryz.ntmps28
        go_wp2_with fail
        refine HCm.out.mono ?_
        rintro r w1 ⟨rfl, hb⟩
        clear hc
        go_wp2_with fail
        go_ret
        exact ⟨rfl, HR.out.below hb, hb.mono hle⟩
      | false =>
        go_enter Tryz.func28, Tryz.ntmps28
        go_wp2_with fail
        refine HCm.out.mono ?_
        rintro r w1 ⟨rfl, hb⟩
        clear hc
        go_wp2_with fail
        go_ret
        exact ⟨rfl, HR.out.below hb, hb.mono hle⟩
end Go.Proofs.YtdajalchdbgooaaGreat.W
