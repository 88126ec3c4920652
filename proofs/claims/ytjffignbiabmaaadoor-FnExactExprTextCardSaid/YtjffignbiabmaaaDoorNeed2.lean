/-
  The contract of the specification's l1Needs: whether two good tokens need a blank between them. The condition: both tokens are good.
-/
import Derived.Test.YtjffignbiabmaaaDoorNeed
namespace Go.Proofs.YtjffignbiabmaaaDoor.W
open Go.ChangeShapes Go.WideShapes Go.ChangeAt Go.RowKit

set_option maxRecDepth 20000 in
set_option maxHeartbeats 4000000 in
theorem l1Needs_any (k1 n1 a1 k2 n2 a2 : Int) (t1 t2 : ByteArray) (w : World) (g1 : goodB k1 n1 t1 a1 = true) (g2 : goodB k2 n2 t2 a2 = true) :
    Calls Tryd.prog 90 #[.agg #[.int .i64 k1, .int .i64 n1, .string t1, .int .i64 a1], .agg #[.int .i64 k2, .int .i64 n2, .string t2, .int .i64 a2]] w fun e w' => e = .returned (.bool (needB k1 n1 t1 k2 n2 t2)) ∧ Below w.heap.size w w' := by
  have s1 := txt_size g1
  have s2 := txt_size g2
  have G1 := hide g1
  have G2 := hide g2
  have hS : (txtOf k1 n1 t1 ++ txtOf k2 n2 t2).size ≤ 18 := by rw [ByteArray.size_append]; omega
  have hS2 : (txtOf k1 n1 t1).size + (txtOf k2 n2 t2).size ≤ 9223372036854775807 := by omega
  have hSm : (txtOf k1 n1 t1 ++ txtOf k2 n2 t2).size ≤ 1000 := by omega
  clear g1 g2
  go_enter Tryd.func90, Tryd.ntmps90
  have HB : Hid (∀ w1, Below ((w.alloc (.cells #[.int .i64 k1, .int .i64 n1, .string t1, .int .i64 a1] 87)).alloc (.cells #[.int .i64 k2, .int .i64 n2, .string t2, .int .i64 a2] 87)).drew.heap.size ((w.alloc (.cells #[.int .i64 k1, .int .i64 n1, .string t1, .int .i64 a1] 87)).alloc (.cells #[.int .i64 k2, .int .i64 n2, .string t2, .int .i64 a2] 87)).drew w1 → w1.heap[w.heap.size]? = some (.cells #[.int .i64 k1, .int .i64 n1, .string t1, .int .i64 a1] 87) ∧ w1.heap[w.heap.size + 1]? = some (.cells #[.int .i64 k2, .int .i64 n2, .string t2, .int .i64 a2] 87) ∧ Below w.heap.size w w1) := fun w1 h => boxes_kept (bel_drew h)
  go_wp2_with fail
  go_cut [5, 6, 7] from 8 (fun v i b wx => (∃ bs, wx.ownsRow bs 87 4 v (lexR (txtOf k1 n1 t1 ++ txtOf k2 n2 t2)).1.length (toksC (lexR (txtOf k1 n1 t1 ++ txtOf k2 n2 t2)).1)) ∧ i = .int .i64 ((lexR (txtOf k1 n1 t1 ++ txtOf k2 n2 t2)).2.1 : Nat) ∧ b = .bool (lexR (txtOf k1 n1 t1 ++ txtOf k2 n2 t2)).2.2 ∧ Hid (wx.heap[w.heap.size]? = some (.cells #[.int .i64 k1, .int .i64 n1, .string t1, .int .i64 a1] 87)) ∧ Hid (wx.heap[w.heap.size + 1]? = some (.cells #[.int .i64 k2, .int .i64 n2, .string t2, .int .i64 a2] 87)) ∧ Below w.heap.size w wx)
  case first =>
    go_region_with (first | (go_at_call_of 91 t1; refine (l1Text_any _ _ _ _ _ (good_num G1.out)).mono ?_; rintro e w1 ⟨rfl, hb1⟩; obtain ⟨d0, d1, d2, d3⟩ := box_cells (HB.out w1 hb1).2.1) | (go_at_call_of 91 t2; refine (l1Text_any _ _ _ _ _ (good_num G2.out)).mono ?_; rintro e w2 ⟨rfl, hb2⟩) | (go_at_call 43; refine (l1Lex_any _ _ hSm).mono ?_; rintro e w3 ⟨v, rfl, ho, hb3⟩))
    all_goals
      obtain ⟨x1, y1, hB1⟩ := HB.out w1 hb1
      have hb12 := hb2.trans (hb3.mono hb2.size)
      have X3 : Hid (w3.heap[w.heap.size]? = _) := (hb12.block _ (Array.getElem?_eq_some_iff.1 x1).1).trans x1
      have Y3 : Hid (w3.heap[w.heap.size + 1]? = _) := (hb12.block _ (Array.getElem?_eq_some_iff.1 y1).1).trans y1
      have hB3 : Below w.heap.size w w3 := hB1.trans (hb12.mono hB1.size)
      clear hb1 hb2 hb3 hb12 hB1 x1 y1 HB d0 d1 d2 d3
      go_wp2_with fail
      go_meet
      case rel => exact ⟨⟨_, ho⟩, rfl, rfl, X3, Y3, hB3⟩
  case rest =>
    obtain ⟨⟨bs, ho⟩, rfl, rfl, X3, Y3, hB3⟩ := hcut
    clear HB G1 G2 hSm hS hS2 s1 s2
    obtain ⟨⟨l, q, ok⟩, hr⟩ : ∃ r, r = lexR (txtOf k1 n1 t1 ++ txtOf k2 n2 t2) := ⟨_, rfl⟩
    rw [← hr] at ho ⊢
    have NB : needB k1 n1 t1 k2 n2 t2 = needR (l, q, ok) k1 n1 t1 k2 n2 t2 := by unfold needB; rw [← hr]
    have HNB := hide NB
    clear hr NB
    dsimp only at ho ⊢
    obtain ⟨ad, cp, rfl⟩ := own_form ho
    cases ok with
    | false =>
      go_wp2_with fail
      go_quiet (fail)
      go_wp2_with fail
      go_ret
      exact ⟨ret_bool (by rw [HNB.out, need_no rfl]), below_drewN hB3 _⟩
    | true =>
      by_cases hl : l.length = 2
      · obtain ⟨x, y, rfl⟩ : ∃ x y, l = [x, y] := by
          match l, hl with
          | [x, y], _ => exact ⟨x, y, rfl⟩
        have HN2 := hide (HNB.out.trans (need_two x y rfl))
        clear HNB hl
        obtain ⟨g, c, he, -, hg, p0, p1, p2, p3⟩ := own_tok ho (i := 0) (by simp)
        obtain ⟨g', c', he', -, hg', q0, q1, q2, q3⟩ := own_tok ho (i := 1) (by simp)
        simp only [Value.slice.injEq] at he he'
        obtain ⟨rfl, -, rfl⟩ := he
        obtain ⟨he1, -, -⟩ := he'
        simp only [Option.some.injEq, Addr.mk.injEq, and_true] at he1
        subst he1
        simp at p0 p1 p2 p3 q0 q1 q2 q3
        obtain ⟨c0, c1, c2, c3⟩ := box_cells X3.out
        obtain ⟨d0, d1, d2, d3⟩ := box_cells Y3.out
        have P0 := cell_regrown p0
        have P1 := cell_regrown p1
        have P2 := cell_regrown p2
        have P3 := cell_regrown p3
        have Q0 := cell_regrown q0
        have Q1 := cell_regrown q1
        have Q2 := cell_regrown q2
        have Q3 := cell_regrown q3
        have C0 := cell_regrown c0
        have C1 := cell_regrown c1
        have C2 := cell_regrown c2
        have C3 := cell_regrown c3
        have D0 := cell_regrown d0
        have D1 := cell_regrown d1
        have D2 := cell_regrown d2
        have D3 := cell_regrown d3
        clear p0 p1 p2 p3 q0 q1 q2 q3 c0 c1 c2 c3 d0 d1 d2 d3 ho hg hg'
        by_cases hs0 : sameB x.1.kind x.1.num x.1.text k1 n1 t1 = true
        · have cX : Hid (∀ d os, Calls Tryd.prog 132 #[.agg #[.int .i64 x.1.kind, .int .i64 x.1.num, .string x.1.text, .int .i64 x.2], .agg #[.int .i64 k1, .int .i64 n1, .string t1, .int .i64 a1]] (Go.Sort.grow (redrawn wc d) os) fun e w'' => e = .returned (.bool true) ∧ ∃ p : Regrown, w'' = Go.Sort.grow (redrawn wc p.d) p.os) := fun d os => Calls.regrown_of (by have := l1Same_any x.1.kind x.1.num x.2 k1 n1 a1 x.1.text t1 (Go.Sort.grow (redrawn wc d) os); rw [hs0] at this; exact this)
          have cY : Hid (∀ d os, Calls Tryd.prog 132 #[.agg #[.int .i64 y.1.kind, .int .i64 y.1.num, .string y.1.text, .int .i64 y.2], .agg #[.int .i64 k2, .int .i64 n2, .string t2, .int .i64 a2]] (Go.Sort.grow (redrawn wc d) os) fun e w'' => e = .returned (.bool (sameB y.1.kind y.1.num y.1.text k2 n2 t2)) ∧ ∃ p : Regrown, w'' = Go.Sort.grow (redrawn wc p.d) p.os) := fun d os => Calls.regrown_of (l1Same_any y.1.kind y.1.num y.2 k2 n2 a2 y.1.text t2 (Go.Sort.grow (redrawn wc d) os))
          go_wp2_with fail
          refine wp_region_quiet_below (by kernel_rfl) (by kernel_rfl) ?_
          repeat (go_big_quiet_step (first | (go_at_call_of 132 (x.1.kind); exact cX.out _ _) | (go_at_call_of 132 (y.1.kind); exact cY.out _ _)))
          refine wpQuiet_nil ?_
          intro _ hw'
          obtain ⟨⟨dq, osq⟩, hw''⟩ := hw'
          subst hw''
          go_wp2_with fail
          go_ret
          exact ⟨ret_bool (by rw [HN2.out, hs0]; rfl), hB3.trans ((below_regrown wc dq osq).mono hB3.size)⟩
        · rw [Bool.not_eq_true] at hs0
          have cX : Hid (∀ d os, Calls Tryd.prog 132 #[.agg #[.int .i64 x.1.kind, .int .i64 x.1.num, .string x.1.text, .int .i64 x.2], .agg #[.int .i64 k1, .int .i64 n1, .string t1, .int .i64 a1]] (Go.Sort.grow (redrawn wc d) os) fun e w'' => e = .returned (.bool false) ∧ ∃ p : Regrown, w'' = Go.Sort.grow (redrawn wc p.d) p.os) := fun d os => Calls.regrown_of (by have := l1Same_any x.1.kind x.1.num x.2 k1 n1 a1 x.1.text t1 (Go.Sort.grow (redrawn wc d) os); rw [hs0] at this; exact this)
          go_wp2_with fail
          refine wp_region_quiet_below (by kernel_rfl) (by kernel_rfl) ?_
          repeat (go_big_quiet_step ((go_at_call_of 132 (x.1.kind); exact cX.out _ _)))
          refine wpQuiet_nil ?_
          intro _ hw'
          obtain ⟨⟨dq, osq⟩, hw''⟩ := hw'
          subst hw''
          go_wp2_with fail
          go_ret
          exact ⟨ret_bool (by rw [HN2.out, hs0]; rfl), hB3.trans ((below_regrown wc dq osq).mono hB3.size)⟩
      · have hl' : ((l.length : Int) != 2) = true := by simp; omega
        go_wp2_with fail
        go_quiet (fail)
        go_wp2_with fail
        go_ret
        exact ⟨ret_bool (by rw [HNB.out, need_len hl]), below_drewN hB3 _⟩
end Go.Proofs.YtjffignbiabmaaaDoor.W
