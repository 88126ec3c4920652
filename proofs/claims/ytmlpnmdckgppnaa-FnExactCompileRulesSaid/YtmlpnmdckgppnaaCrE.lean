/-
  Paths compared: contracts of slices.Equal at numbers, of slices.IndexFunc over asks with answered's function. Conditions: at most 1048576 numbers and asks.
-/
import Derived.Test.YtmlpnmdckgppnaaCrA
namespace Go.Proofs.Ytmlpnmdckgppnaa.W
open Go.ChangeShapes Go.WideShapes Go.ChangeAt Go.RowKit
set_option linter.unusedVariables false

set_option maxRecDepth 20000 in
set_option maxHeartbeats 4000000 in
theorem equalI_any (a1 a2 : Option Addr) (c1 c2 : Nat) (l1 l2 : List Int) (w : World) (hl : l1.length ≤ 1048576) (h1 : IRow w a1 l1) (h2 : IRow w a2 l2) :
    Calls Try.prog 54 #[.slice a1 l1.length c1, .slice a2 l2.length c2] w fun e w' => e = .returned (.bool (decide (l1 = l2))) ∧ Below w.heap.size w w' := by
  have H1 := hide h1
  have H2 := hide h2
  clear h1 h2
  by_cases hlen : l1.length = l2.length
  · obtain ⟨n, hn⟩ : ∃ n, n = l1.length := ⟨_, rfl⟩
    have HN := hide hn
    have HL := hide hlen
    rw [← hlen, ← hn]
    rw [← hn] at hl
    clear hn hlen
    go_enter Try.func54, Try.ntmps54
    go_wp2_with fail
    go_loopw [13] (fun i w' => ∃ j : Nat, j ≤ n ∧ i = .int .i64 j ∧ l1.take j = l2.take j ∧ Below w.heap.size w w') (fun i _ => n - (intOf i).toNat)
    case atStart => exact ⟨0, by omega, rfl, rfl, Below.refl _ _⟩
    case round =>
      obtain ⟨j, hj, rfl, htk, hB⟩ := hrel
      have HT := hide htk
      clear htk
      by_cases hlt : j < n
      · have hlt' : (j : Int) < (n : Int) := by omega
        have hj0 : (0 : Int) ≤ (j : Int) := by omega
        have hj1 : j < l1.length := by rw [← HN.out]; exact hlt
        have hj2 : j < l2.length := by rw [← HL.out]; exact hj1
        obtain ⟨b, o, rfl, hb, p0⟩ := IRow.iat H1.out hB hj1
        obtain ⟨b', o', rfl, hb', p0'⟩ := IRow.iat H2.out hB hj2
        obtain ⟨x, hx⟩ : ∃ x, x = l1[j] := ⟨_, rfl⟩
        obtain ⟨y, hy⟩ : ∃ y, y = l2[j] := ⟨_, rfl⟩
        rw [← hx] at p0
        rw [← hy] at p0'
        have HXX := hide hx
        have HYY := hide hy
        clear hx hy
        by_cases hxy : x = y
        · subst hxy
          have HT2 := hide (show l1.take (j + 1) = l2.take (j + 1) by
            rw [List.take_succ_eq_append_getElem hj1, List.take_succ_eq_append_getElem hj2, HT.out, ← HXX.out, ← HYY.out])
          clear HXX HYY HT
          go_wp2_with fail
          go_quiet (fail)
          go_wp2_with fail
          exact ⟨⟨j + 1, by omega, by go_num, HT2.out, ⟨hB.os, hB.tape, hB.output, hB.size, hB.block⟩⟩, by simp [intOf]; omega⟩
        · have Hne : Hid (l1 ≠ l2) := hide (fun e => by
            apply hxy
            rw [HXX.out, HYY.out]
            subst e; rfl)
          clear HXX HYY HT
          go_wp2_with fail
          go_quiet (fail)
          go_wp2_with fail
          go_ret
          exact ⟨by rw [decide_eq_false Hne.out]; rfl, ⟨hB.os, hB.tape, hB.output, hB.size, hB.block⟩⟩
      · obtain rfl : j = n := by omega
        have He : Hid (l1 = l2) := hide (by
          have := HT.out
          rwa [HN.out, List.take_length, HL.out, List.take_length] at this)
        clear HT
        go_wp2_with fail
        go_ret
        exact ⟨by rw [decide_eq_true He.out]; rfl, hB⟩
  · have Hne : Hid (l1 ≠ l2) := hide (fun e => hlen (by rw [e]))
    have hlen' : ¬ (l1.length : Int) = (l2.length : Int) := by omega
    go_enter Try.func54, Try.ntmps54
    go_wp2_with fail
    go_ret
    exact ⟨by rw [decide_eq_false Hne.out]; rfl, Below.refl _ _⟩
theorem AkE.below {a : Ak} {pv cv : Value} {w w' : World} (h : AkE a pv cv w) (hb : Below w.heap.size w w') : AkE a pv cv w' := ⟨h.1.below hb, h.2.1.below hb, h.2.2⟩
theorem AkV.below {w w' : World} {v : Value} {q : List Ak} (h : AkV w v q) (hb : Below w.heap.size w w') : AkV w' v q := by
  obtain ⟨ad, c, e, h1, h2⟩ := h
  refine ⟨ad, c, e, h1, ?_⟩
  rcases h2 with h2 | ⟨b, o, h3, h4, h5⟩
  · exact .inl h2
  · refine .inr ⟨b, o, h3, Nat.lt_of_lt_of_le h4 hb.size, fun i hi => ?_⟩
    obtain ⟨pv, cv, e1, e2, e3⟩ := h5 i hi
    exact ⟨pv, cv, (hb.cell (p := ⟨b, o + i * 2, none⟩) h4).trans e1, (hb.cell (p := ⟨b, o + i * 2 + 1, none⟩) h4).trans e2, e3.below hb⟩
/-- The number of the first ask of a path. -/
def fiA (p : List Int) : List Ak → Nat → Int
  | [], _ => -1
  | a :: q, j => if a.p = p then (j : Int) else fiA p q (j + 1)
theorem fiA_at {p : List Int} {q : List Ak} {j : Nat} (h : j < q.length) : fiA p (q.drop j) j = if q[j].p = p then (j : Int) else fiA p (q.drop (j + 1)) (j + 1) := by
  rw [List.drop_eq_getElem_cons h]; rfl

set_option maxRecDepth 20000 in
set_option maxHeartbeats 4000000 in
theorem indexAsk_any (v : Value) (q : List Ak) (ta : Option Addr) (tc T : Nat) (t : List Int) (w : World) (hv : AkV w v q) (hL : q.length ≤ 1048576) (ht : IRow w ta t) (hT : T < w.heap.size) (hc : w.cell? ⟨T, 0, none⟩ = some (.slice ta t.length tc)) :
    Calls Try.prog 52 #[v, .func (.func 53) #[] #[.pointer (some ⟨T, 0, none⟩)]] w fun e w' => e = .returned (.int .i64 (fiA t q 0)) ∧ Below w.heap.size w w' := by
  have HR := hide hv
  obtain ⟨ad, c, rfl, hqc, -⟩ := hv
  have HT := hide ht
  obtain ⟨TN, hTN⟩ : ∃ TN, TN = t.length := ⟨_, rfl⟩
  rw [← hTN] at hc
  have HTN := hide hTN
  obtain ⟨LN, hLN⟩ : ∃ LN, LN = q.length := ⟨_, rfl⟩
  rw [← hLN] at hL HR ⊢
  have HLN := hide hLN
  clear ht hTN hLN
  go_enter Try.func52, Try.ntmps52
  go_wp2_with fail
  go_loopw [8] (fun i w' => ∃ j : Nat, j ≤ LN ∧ i = .int .i64 j ∧ fiA t q 0 = fiA t (q.drop j) j ∧ Below w.heap.size w w') (fun i _ => LN - (intOf i).toNat)
  case atStart => exact ⟨0, by omega, rfl, rfl, Below.refl _ _⟩
  case round =>
    obtain ⟨j, hj, rfl, hG, hB⟩ := hrel
    have HG := hide hG
    clear hG
    by_cases hlt : j < LN
    · have hlt' : (j : Int) < (LN : Int) := by omega
      have hj0 : (0 : Int) ≤ (j : Int) := by omega
      have hlt2 : j < q.length := by rw [← HLN.out]; exact hlt
      have HAt := hide (fiA_at (p := t) hlt2)
      obtain ⟨ad', c', e1, -, h3⟩ := HR.out
      simp only [Value.slice.injEq] at e1
      obtain ⟨rfl, -, rfl⟩ := e1
      rcases h3 with h3 | ⟨b, o, rfl, hb, h5⟩
      · rw [h3] at hlt2; simp at hlt2
      obtain ⟨pv, cv, p0, p1, hE⟩ := h5 j hlt2
      have hE' := hE.below hB
      obtain ⟨⟨pa, pc, rfl, hpr, hpl⟩, ⟨ca, cc, rfl, -, -⟩, -⟩ := hE'
      obtain ⟨pp, hpp⟩ : ∃ pp, pp = q[j].p := ⟨_, rfl⟩
      rw [← hpp] at p0 hpr hpl HAt
      obtain ⟨cn, hcn⟩ : ∃ cn, cn = (q[j].x :: q[j].k.flat).length := ⟨_, rfl⟩
      rw [← hcn] at p1
      have q0 := (hB.cell (p := ⟨b, o + j * 2, none⟩) hb).trans p0
      have q1 := (hB.cell (p := ⟨b, o + j * 2 + 1, none⟩) hb).trans p1
      have q2 := (hB.cell (p := ⟨T, 0, none⟩) hT).trans hc
      have HE := hide (fun (w' : World) (hb : Below wr.heap.size wr w') => equalI_any pa ta pc tc pp t w' hpl (hpr.below hb) ((HT.out.below hB).below hb))
      obtain ⟨NL, hNL⟩ : ∃ NL, NL = decide (pp = t) := ⟨_, rfl⟩
      have HNL := hide hNL
      obtain ⟨ln, hln⟩ : ∃ ln, ln = pp.length := ⟨_, rfl⟩
      have htn := HTN.out
      rw [← hNL, ← hln, ← htn] at HE
      rw [← hln] at q0
      have hTr : T < wr.heap.size := Nat.lt_of_lt_of_le hT hB.size
      clear hNL hpp hcn p0 p1 hlt2 hln htn hE h5 hpr hpl
      go_wp2_with fail
      have HC : Hid (Calls Try.prog 53 #[.agg #[.slice pa ln pc, .slice ca cn cc], .pointer (some ⟨T, 0, none⟩)] wr fun e w' => e = .returned (.bool NL) ∧ Below wr.heap.size wr w') := by
        refine hide ?_
        clear HAt HG
        have hb0 : Below wr.heap.size wr (wr.alloc (.cells #[.slice pa ln pc, .slice ca cn cc] 92)) := (Below.refl _ _).alloc (Nat.le_refl _) _
        have HB0 := hide hb0
        clear hb0
        go_enter Try.func53, Try.ntmps53
        go_wp2_with fail
        refine Calls.mono (HE.out _ HB0.out) ?_
        rintro e w2 ⟨rfl, hb⟩
        go_wp2_with fail
        go_ret
        exact ⟨rfl, HB0.out.trans (hb.mono HB0.out.size)⟩
      refine Calls.mono HC.out ?_
      rintro e w2 ⟨rfl, hb2⟩
      have hB2 : Below w.heap.size w w2 := hB.trans (hb2.mono hB.size)
      clear HC HE hb2 q0 q1 q2
      cases NL with
      | true =>
        have hg := hide (show fiA t q 0 = (j : Int) by rw [HG.out, HAt.out, if_pos (of_decide_eq_true HNL.out.symm)])
        clear HG HAt HNL
        go_wp2_with fail
        go_ret
        exact ⟨by rw [hg.out]; rfl, hB2⟩
      | false =>
        have hg := hide (show fiA t q 0 = fiA t (q.drop (j + 1)) (j + 1) by rw [HG.out, HAt.out, if_neg (of_decide_eq_false HNL.out.symm)])
        clear HG HAt HNL
        go_wp2_with fail
        exact ⟨⟨j + 1, by omega, by go_num, hg.out, hB2⟩, by simp [intOf]; omega⟩
    · obtain rfl : j = LN := by omega
      have hg := hide (show fiA t q 0 = -1 by rw [HG.out, HLN.out, List.drop_length]; rfl)
      clear HG
      go_wp2_with fail
      go_ret
      exact ⟨by rw [hg.out]; rfl, hB⟩
end Go.Proofs.Ytmlpnmdckgppnaa.W
