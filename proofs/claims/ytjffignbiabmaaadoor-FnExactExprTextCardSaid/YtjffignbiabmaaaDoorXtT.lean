/-
  The text of an expression, the specification's: the contract of l2Text. Conditions: an expression of at most 40 parts.
-/
import Derived.Test.YtjffignbiabmaaaDoorXtW
import Derived.Test.YtjffignbiabmaaaDoorJoin
namespace Go.Proofs.YtjffignbiabmaaaDoor.W.T
open Go.ChangeShapes Go.WideShapes Go.ChangeAt Go.RowKit
set_option linter.unusedVariables false

theorem tkC_get : ∀ (l : List Tk) (i : Nat) (h : i < l.length), (tkC l)[i * 4]? = some (.int .i64 l[i].k) ∧ (tkC l)[i * 4 + 1]? = some (.int .i64 l[i].n) ∧ (tkC l)[i * 4 + 2]? = some (.string l[i].t) ∧ (tkC l)[i * 4 + 3]? = some (.int .i64 l[i].a)
  | x :: l, 0, h => ⟨rfl, rfl, rfl, rfl⟩
  | x :: l, i + 1, h => by
    have ih := tkC_get l i (by simpa using h)
    have e : ∀ r, (tkC (x :: l))[(i + 1) * 4 + r]? = (tkC l)[i * 4 + r]? := fun r => by
      rw [tkC_cons, List.getElem?_append_right (by simp [tkC1]; omega)]
      congr 1
      simp [tkC1]; omega
    have e0 := e 0
    simp only [Nat.add_zero] at e0
    exact ⟨e0.trans ih.1, (e 1).trans ih.2.1, (e 2).trans ih.2.2.1, (e 3).trans ih.2.2.2⟩
theorem own_row {w : World} {base n : Nat} {v : Value} {l : List Tk} {xs : List Value} (h : w.ownsRow base 87 4 v n xs) (hn : n = l.length) (hx : xs = tkC l) : ∃ ad c, v = .slice ad l.length c ∧ Row w ad l := by
  subst hn hx
  by_cases h0 : l = []
  · obtain ⟨ad, c, rfl⟩ := xOwn_form h
    exact ⟨ad, c, rfl, .inl h0⟩
  · have hp : 0 < l.length := List.length_pos_iff.2 h0
    obtain ⟨g, cap, rfl, hb, hlt⟩ := World.ownsRow.form h hp
    refine ⟨_, cap, rfl, .inr ⟨g, 0, rfl, hlt, fun i hi => ?_⟩⟩
    obtain ⟨t0, t1, t2, t3⟩ := tkC_get l i hi
    have hc := h.cells (g := g) rfl
    have k : ∀ j u, (tkC l)[j]? = some u → w.cell? ⟨g, 0 + j, none⟩ = some u := fun j u hu => by
      have := hc j u hu
      simp only [Addr.add] at this
      rw [Nat.zero_add]
      split at this <;> rename_i hj
      · subst hj; exact this
      · simpa using this
    refine ⟨k _ _ t0, ?_, ?_, ?_⟩
    · have := k _ _ t1; rwa [← Nat.add_assoc] at this
    · have := k _ _ t2; rwa [← Nat.add_assoc] at this
    · have := k _ _ t3; rwa [← Nat.add_assoc] at this

set_option maxRecDepth 20000 in
set_option maxHeartbeats 4000000 in
theorem l2Text_any (e : E) (hok : e.ok) (s : Value) (lo : Nat) (w : World) (hT : TrK w lo e s) (hl40 : e.flat.length ≤ 40) (l : List Tk) (hel : tks e 1 = l) (hgl : ∀ i (h : i < l.length), goodT l[i] = true) :
    Calls Tryd.prog 54 #[.agg #[.int .i64 e.head.k, .int .i64 e.head.n, .string e.head.t, s]] w fun x w' => x = .returned (.string (joinTo l l.length)) ∧ Below w.heap.size w w' := by
  have hll := (tks_len e 1).1
  rw [hel] at hll
  obtain ⟨sad, sn, sc, rfl⟩ := TrK.form hT
  have HC := hide (l2Signs_any e hok 1 (.slice sad sn sc) (.slice none 0 0) lo (w.alloc (.cells #[.int .i64 e.head.k, .int .i64 e.head.n, .string e.head.t, .slice sad sn sc] 79)).heap.size 0 [] (w.alloc (.cells #[.int .i64 e.head.k, .int .i64 e.head.n, .string e.head.t, .slice sad sn sc] 79)) (w.alloc (.cells #[.int .i64 e.head.k, .int .i64 e.head.n, .string e.head.t, .slice sad sn sc] 79)) (hT.below ((Below.refl _ _).alloc (Nat.le_refl _) _)) (Below.refl _ _) (Nat.le_refl _) (Nat.le_refl _) (by omega) (World.ownsRow_nil _ _ _ _))
  rw [hel, List.nil_append, Nat.zero_add] at HC
  have HGl := hide hgl
  clear hT hgl hel hok
  obtain ⟨hk, hhk⟩ : ∃ k, k = e.head.k := ⟨_, rfl⟩
  obtain ⟨hn, hhn⟩ : ∃ k, k = e.head.n := ⟨_, rfl⟩
  obtain ⟨ht, hht⟩ : ∃ k, k = e.head.t := ⟨_, rfl⟩
  rw [← hhk, ← hhn, ← hht] at HC ⊢
  clear hhk hhn hht
  go_enter Tryd.func54, Tryd.ntmps54
  go_wp2_with fail
  refine Calls.mono HC.out ?_
  rintro x w1 ⟨v1, rfl, hown1, hg1⟩
  have hB0 : Below w.heap.size w w1 := hg1.below ((Below.refl _ _).alloc (Nat.le_refl _) _) (by simp) (fun k hk => by simp [Value.ownBlock] at hk)
  obtain ⟨ad, c, rfl, hR⟩ := own_row hown1 rfl rfl
  have HR := hide hR
  clear hown1 hg1 hR HC
  go_wp2_with fail
  go_loopw [3, 11] (fun s i w' => ∃ j : Nat, j ≤ l.length ∧ i = .int .i64 j ∧ s = .string (joinTo l j) ∧ (joinTo l j).size ≤ 10 * j ∧ Below w1.heap.size w1 w') (fun _ i _ => l.length - (intOf i).toNat)
  case atStart => exact ⟨0, by omega, rfl, rfl, Nat.le_refl 0, Below.refl _ _⟩
  case round =>
    obtain ⟨j, hj, rfl, rfl, hz, hB⟩ := hrel
    by_cases hlt : j < l.length
    · have hlt' : (j : Int) < (l.length : Int) := by omega
      have hj0 : (0 : Int) ≤ (j : Int) := by omega
      obtain ⟨b, o, rfl, hb, p0, p1, p2, p3⟩ := HR.out.tok hB hlt
      obtain ⟨x, hx⟩ : ∃ x, x = l[j] := ⟨_, rfl⟩
      have hg : goodB x.k x.n x.t x.a = true := by rw [hx]; exact HGl.out j hlt
      rw [← hx] at p0 p1 p2 p3
      have HX := hide hx
      clear hx
      have hts := txt_size hg
      have hsum : (joinTo l j).size + (txtOf x.k x.n x.t).size ≤ 9223372036854775807 := by omega
      go_wp2_with fail
      obtain ⟨w2, hw2⟩ : ∃ w2, w2 = wr.alloc (.cells #[.int .i64 x.k, .int .i64 x.n, .string x.t, .int .i64 x.a] 87) := ⟨_, rfl⟩
      rw [← hw2]
      obtain ⟨c0, c1, c2, c3, hz1, hB1'⟩ := box_kept (w := wr) (w1 := w2) (T := 87) (by rw [hw2]; exact Below.refl _ _)
      have hB1 : Below w1.heap.size w1 w2 := hB.trans (hB1'.mono hB.size)
      clear p0 p1 p2 p3 hB1' hw2
      by_cases hjz : j = 0
      · subst hjz
        have HJ : Hid (joinTo l (0 + 1) = joinTo l 0 ++ txtOf x.k x.n x.t) := by
          have := join_no hlt (rfl : gapB l 0 = false); rw [← HX.out] at this; exact this
        go_quiet (fail)
        go_wp2_with fail
        refine (l1Text_any _ _ _ _ _ (good_num hg)).mono ?_
        rintro e w3 ⟨rfl, hb3⟩
        go_wp2_with fail
        have hb3' := bel_drewN hb3
        exact ⟨⟨1, by omega, rfl, by rw [HJ.out], by rw [HJ.out, ByteArray.size_append]; omega, hB1.trans (hb3'.mono hB1.size)⟩, by simp [intOf]; omega⟩
      · obtain ⟨i, rfl⟩ : ∃ i, j = i + 1 := ⟨j - 1, by omega⟩
        clear hjz
        obtain ⟨b', o', hbo, -, q0, q1, q2, q3⟩ := HR.out.tok hB1 (i := i) (by omega)
        simp only [Option.some.injEq, Addr.mk.injEq, and_true] at hbo
        obtain ⟨rfl, rfl⟩ := hbo
        obtain ⟨y, hy⟩ : ∃ y, y = l[i] := ⟨_, rfl⟩
        have hgy : goodB y.k y.n y.t y.a = true := by rw [hy]; exact HGl.out i (by omega)
        have HGp : Hid (gapB l (i + 1) = needB y.k y.n y.t x.k x.n x.t) := by
          have := gap_succ hlt; rw [← HX.out, ← hy] at this; exact this
        rw [← hy] at q0 q1 q2 q3
        clear hy
        have C0 := cell_regrown c0
        have C1 := cell_regrown c1
        have C2 := cell_regrown c2
        have C3 := cell_regrown c3
        have Q0 := cell_regrown q0
        have Q1 := cell_regrown q1
        have Q2 := cell_regrown q2
        have Q3 := cell_regrown q3
        clear c0 c1 c2 c3 q0 q1 q2 q3
        have cN : Hid (∀ d os, Calls Tryd.prog 90 #[.agg #[.int .i64 y.k, .int .i64 y.n, .string y.t, .int .i64 y.a], .agg #[.int .i64 x.k, .int .i64 x.n, .string x.t, .int .i64 x.a]] (Go.Sort.grow (redrawn w2 d) os) fun e w'' => e = .returned (.bool (gapB l (i + 1))) ∧ ∃ p : Regrown, w'' = Go.Sort.grow (redrawn w2 p.d) p.os) := fun d os => Calls.regrown_of (by rw [HGp.out]; exact l1Needs_any y.k y.n y.a x.k x.n x.a y.t x.t _ hgy hg)
        by_cases hn : gapB l (i + 1) = true
        · have HJ : Hid (joinTo l (i + 1 + 1) = joinTo l (i + 1) ++ ⟨#[32]⟩ ++ txtOf x.k x.n x.t) := by
            have := join_gap hlt hn; rw [← HX.out] at this; exact this
          rw [hn] at cN
          clear hn HGp
          have hsum1 : (joinTo l (i + 1)).size + 1 ≤ 9223372036854775807 := by omega
          have hsum2 : (joinTo l (i + 1)).size + 1 + (txtOf x.k x.n x.t).size ≤ 9223372036854775807 := by omega
          refine wp_region_quiet_below (by kernel_rfl) (by kernel_rfl) ?_
          repeat (go_big_quiet_step ((go_at_call 90; exact cN.out _ _)))
          refine wpQuiet_nil ?_
          intro _ hw'
          obtain ⟨⟨dq, osq⟩, hw''⟩ := hw'
          subst hw''
          go_wp2_with fail
          refine (l1Text_any _ _ _ _ _ (good_num hg)).mono ?_
          rintro e w3 ⟨rfl, hb3⟩
          have hb2 := below_regrown w2 dq osq
          have hB3 : Below w1.heap.size w1 w3 := hB1.trans ((hb2.trans (hb3.mono hb2.size)).mono hB1.size)
          clear hb2 hb3 C0 C1 C2 C3 Q0 Q1 Q2 Q3
          go_wp2_with fail
          refine ⟨⟨i + 1 + 1, by omega, by go_num, by rw [HJ.out], ?_, hB3⟩, by simp [intOf]; omega⟩
          rw [HJ.out, ByteArray.size_append, ByteArray.size_append, show (⟨#[32]⟩ : ByteArray).size = 1 from rfl]; omega
        · rw [Bool.not_eq_true] at hn
          have HJ : Hid (joinTo l (i + 1 + 1) = joinTo l (i + 1) ++ txtOf x.k x.n x.t) := by
            have := join_no hlt hn; rw [← HX.out] at this; exact this
          rw [hn] at cN
          clear hn HGp
          refine wp_region_quiet_below (by kernel_rfl) (by kernel_rfl) ?_
          repeat (go_big_quiet_step ((go_at_call 90; exact cN.out _ _)))
          refine wpQuiet_nil ?_
          intro _ hw'
          obtain ⟨⟨dq, osq⟩, hw''⟩ := hw'
          subst hw''
          go_wp2_with fail
          refine (l1Text_any _ _ _ _ _ (good_num hg)).mono ?_
          rintro e w3 ⟨rfl, hb3⟩
          have hb2 := below_regrown w2 dq osq
          have hB3 : Below w1.heap.size w1 w3 := hB1.trans ((hb2.trans (hb3.mono hb2.size)).mono hB1.size)
          clear hb2 hb3 C0 C1 C2 C3 Q0 Q1 Q2 Q3
          go_wp2_with fail
          refine ⟨⟨i + 1 + 1, by omega, by go_num, by rw [HJ.out], ?_, hB3⟩, by simp [intOf]; omega⟩
          rw [HJ.out, ByteArray.size_append]; omega
    · obtain rfl : j = l.length := by omega
      go_wp2_with fail
      go_ret
      exact ⟨rfl, hB0.trans (hB.mono hB0.size)⟩
end Go.Proofs.YtjffignbiabmaaaDoor.W.T
