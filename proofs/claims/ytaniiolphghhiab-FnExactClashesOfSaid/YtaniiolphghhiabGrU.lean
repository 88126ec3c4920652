/-
  l1Put: a number put to its place in a rising row, once. Conditions: at most 1000 numbers. Written by wip/build/mk_gru.py.
-/
import Derived.Test.YtaniiolphghhiabGrP
namespace Go.Proofs.Ytaniiolphghhiab.W
open Go.ChangeShapes Go.WideShapes Go.ChangeAt Go.RowKit Go.Joins
set_option linter.unusedVariables false

set_option maxHeartbeats 4000000 in
theorem l1Put_some (g o c : Nat) (l : List Int) (n : Int) (w : World) (hl : l.length ≤ 1000) (hlc : l.length ≤ c) (hg : g < w.heap.size) (hc : ∀ i (h : i < l.length), w.cell? ⟨g, o + i, none⟩ = some (.int .i64 l[i])) :
    Calls Try.prog 17 #[.slice (some ⟨g, o, none⟩) l.length c, .int .i64 n] w fun e w' => ∃ v', e = .returned v' ∧ NV w' v' (putL l n) ∧ Below w.heap.size w w' := by
  have HC := hide hc
  clear hc
  go_enter Try.func17, Try.ntmps17
  go_wp2_with fail
  go_loopw [5] (fun i w' => ∃ j : Nat, j ≤ l.length ∧ i = .int .i64 j ∧ (∀ q (h : q < l.length), q < j → l[q] < n) ∧ w' = w) (fun i _ => l.length - (intOf i).toNat)
  case atStart => exact ⟨0, by omega, rfl, by intros; omega, rfl⟩
  case round =>
    obtain ⟨j, hj, rfl, hall, rfl⟩ := hrel
    have HA := hide hall
    clear hall
    by_cases hlt : j < l.length
    · have hlt' : (j : Int) < (l.length : Int) := by omega
      have p1 := HC.out j hlt
      obtain ⟨x, hxx⟩ : ∃ x, x = l[j] := ⟨_, rfl⟩
      rw [← hxx] at p1
      have HX := hide hxx
      clear hxx
      by_cases hx : x < n
      · have HA2 : Hid (∀ q (h : q < l.length), q < j + 1 → l[q] < n) := hide (fun q h hq => by
          by_cases e : q = j
          · subst e; rw [← HX.out]; exact hx
          · exact HA.out q h (by omega))
        go_wp2_with fail
        exact ⟨⟨j + 1, by omega, by go_num, HA2.out, trivial⟩, by simp [intOf]; omega⟩
      · by_cases he : x = n
        · subst he
          have HP := hide (putL_there x l j hlt HA.out HX.out.symm)
          go_wp2_with fail
          go_ret
          refine ⟨_, rfl, ?_, Below.refl _ _⟩
          rw [HP.out]
          exact .inr ⟨g, o, c, rfl, hlc, hg, HC.out⟩
        · have hbe : (x == n) = false := by simpa using he
          have hjc : (j : Int) ≤ (c : Int) := by omega
          have HK : Hid (∀ h : j < l.length, n < l[j]) := hide (fun h => by rw [← HX.out]; omega)
          have hj63 : (j : Int) ≤ 9223372036854775807 := by omega
          clear he

          have HPt1 : Hid (PtI wr (.slice (some ⟨g, o, none⟩) j c) j (ic (l.take j))) := hide (.inr ⟨⟨g, o, none⟩, c, rfl, by simp [ic]; omega, fun q x hx => by
            obtain ⟨hq, e⟩ := List.getElem?_eq_some_iff.1 hx
            have hq' : q < j := by have := hq; simp [ic] at this; omega
            rw [Addr.add_lit, HC.out q (by omega), ← e]; simp [ic], ic_one _⟩)
          go_wp2_with (at_builtin; refine wpList_append_i rfl _ _ rfl wr.heap.size _ 0 [] rfl (World.ownsRow_nil _ _ _ _) _ j _ rfl HPt1.out (by omega) (Nat.le_refl _) ?_)
          intro v1 w1 hO1 hg1
          have hb1 : Below wr.heap.size wr w1 := grown_below hg1 (Nat.le_refl _) (fun k e => by cases e)
          have HO1 := hide hO1
          have hS1 : wr.heap.size ≤ w1.heap.size := hb1.size
          have HB1 := hide hb1
          obtain ⟨p1, q1, rfl⟩ := own_form hO1
          clear hO1 hg1 hb1 HPt1
          have HPt2 : Hid (PtI (w1.alloc (.cells #[.int .i64 n] 3)) (.slice (some ⟨w1.heap.size, 0, none⟩) 1 1) 1 (ic [n])) := hide (.inr ⟨_, _, rfl, rfl, fun q x hx => by
            obtain rfl : q = 0 := by have := (List.getElem?_eq_some_iff.1 hx).1; simp [ic] at this; omega
            rw [Addr.add_lit, (Bx.new w1 #[.int .i64 n] 3).c]
            simpa [ic] using hx, ic_one _⟩)
          have HO1' : Hid ((w1.alloc (.cells #[.int .i64 n] 3)).ownsRow wr.heap.size 3 1 (.slice p1 j q1) j (ic (l.take j))) := hide (own_keep HO1.out (fun k _ hk => Below.heap_alloc w1 _ k hk))
          have hS2 : w1.heap.size ≤ (w1.alloc (.cells #[.int .i64 n] 3)).heap.size := by simp
          go_wp2_with (at_builtin; refine wpList_append_i rfl _ _ rfl wr.heap.size _ j _ rfl HO1'.out _ 1 _ rfl HPt2.out (by omega) (by omega) ?_)
          intro v2 w2 hO2 hg2
          have hb2 : Below wr.heap.size w1 w2 := ((Below.refl _ _).alloc hS1 _).trans (grown_below hg2 (by omega) (own_ge HO1.out))
          have HO2 := hide hO2
          have HB2 := hide (HB1.out.trans hb2)
          obtain ⟨p2, q2, rfl⟩ := own_form hO2
          clear hO2 hg2 hb2 HPt2 HO1 HO1' HB1
          have HPt3 : Hid (PtI w2 (.slice (some ⟨g, o + j, none⟩) ((l.length - j)) (c - j)) ((l.length - j)) (ic (l.drop j))) := hide (.inr ⟨⟨g, o + j, none⟩, c - j, rfl, by simp [ic], fun q x hx => by
            obtain ⟨hq, e⟩ := List.getElem?_eq_some_iff.1 hx
            have hq' : q < l.length - j := by have := hq; simp [ic] at this; omega
            rw [Addr.add_lit, (HB2.out.cell (p := ⟨g, o + j + q, none⟩) hg), Nat.add_assoc, HC.out (j + q) (by omega), ← e]
            simp [ic], ic_one _⟩)
          have hS3 : wr.heap.size ≤ w2.heap.size := HB2.out.size
          go_wp2_with (at_builtin; refine wpList_append_i rfl _ _ rfl wr.heap.size _ (j + 1) _ rfl HO2.out _ ((l.length - j)) _ rfl HPt3.out (by omega) hS3 ?_)
          intro v3 w3 hO3 hg3
          have hb3 : Below wr.heap.size w2 w3 := grown_below hg3 hS3 (own_ge HO2.out)
          have HB3 := hide (HB2.out.trans hb3)
          rw [show j + 1 + (l.length - j) = l.length + 1 by omega, ← ic_app, ← ic_app, ← putL_new n l j hj HA.out HK.out] at hO3
          have HO3 := hide (NV.ofOwn hO3 (by rw [putL_new n l j hj HA.out HK.out]; simp; omega))
          clear hO3 hg3 hb3 HPt3 HO2 HB2
          go_wp2_with fail
          go_ret
          exact ⟨_, rfl, HO3.out, HB3.out⟩

    · obtain hje : j = l.length := by omega
      have HK : Hid (∀ h : j < l.length, n < l[j]) := hide (fun h => absurd h hlt)
      have hnl : ¬ (j : Int) < (l.length : Int) := by omega
      have hjc : (j : Int) ≤ (c : Int) := by omega
      have HJ := hide hje
      clear hje
      by_cases hcj : c = j
      · subst hcj

        have HPt1 : Hid (PtI wr (.slice (some ⟨g, o, none⟩) c c) c (ic (l.take c))) := hide (.inr ⟨⟨g, o, none⟩, c, rfl, by simp [ic]; omega, fun q x hx => by
          obtain ⟨hq, e⟩ := List.getElem?_eq_some_iff.1 hx
          have hq' : q < c := by have := hq; simp [ic] at this; omega
          rw [Addr.add_lit, HC.out q (by omega), ← e]; simp [ic], ic_one _⟩)
        go_wp2_with (at_builtin; refine wpList_append_i rfl _ _ rfl wr.heap.size _ 0 [] rfl (World.ownsRow_nil _ _ _ _) _ c _ rfl HPt1.out (by omega) (Nat.le_refl _) ?_)
        intro v1 w1 hO1 hg1
        have hb1 : Below wr.heap.size wr w1 := grown_below hg1 (Nat.le_refl _) (fun k e => by cases e)
        have HO1 := hide hO1
        have hS1 : wr.heap.size ≤ w1.heap.size := hb1.size
        have HB1 := hide hb1
        obtain ⟨p1, q1, rfl⟩ := own_form hO1
        clear hO1 hg1 hb1 HPt1
        have HPt2 : Hid (PtI (w1.alloc (.cells #[.int .i64 n] 3)) (.slice (some ⟨w1.heap.size, 0, none⟩) 1 1) 1 (ic [n])) := hide (.inr ⟨_, _, rfl, rfl, fun q x hx => by
          obtain rfl : q = 0 := by have := (List.getElem?_eq_some_iff.1 hx).1; simp [ic] at this; omega
          rw [Addr.add_lit, (Bx.new w1 #[.int .i64 n] 3).c]
          simpa [ic] using hx, ic_one _⟩)
        have HO1' : Hid ((w1.alloc (.cells #[.int .i64 n] 3)).ownsRow wr.heap.size 3 1 (.slice p1 c q1) c (ic (l.take c))) := hide (own_keep HO1.out (fun k _ hk => Below.heap_alloc w1 _ k hk))
        have hS2 : w1.heap.size ≤ (w1.alloc (.cells #[.int .i64 n] 3)).heap.size := by simp
        go_wp2_with (at_builtin; refine wpList_append_i rfl _ _ rfl wr.heap.size _ c _ rfl HO1'.out _ 1 _ rfl HPt2.out (by omega) (by omega) ?_)
        intro v2 w2 hO2 hg2
        have hb2 : Below wr.heap.size w1 w2 := ((Below.refl _ _).alloc hS1 _).trans (grown_below hg2 (by omega) (own_ge HO1.out))
        have HO2 := hide hO2
        have HB2 := hide (HB1.out.trans hb2)
        obtain ⟨p2, q2, rfl⟩ := own_form hO2
        clear hO2 hg2 hb2 HPt2 HO1 HO1' HB1
        have HPt3 : Hid (PtI w2 (.slice (some ⟨g, o, none⟩) (0) (0)) (0) (ic (l.drop c))) := hide (.inr ⟨⟨g, o, none⟩, 0, rfl, by simp [ic]; omega, fun q x hx => by
          obtain ⟨hq, e⟩ := List.getElem?_eq_some_iff.1 hx
          have hq' : q < l.length - c := by have := hq; simp [ic] at this; omega
          rw [Addr.add_lit, show o + q = o + c + q by omega, (HB2.out.cell (p := ⟨g, o + c + q, none⟩) hg), Nat.add_assoc, HC.out (c + q) (by omega), ← e]
          simp [ic], ic_one _⟩)
        have hS3 : wr.heap.size ≤ w2.heap.size := HB2.out.size
        go_wp2_with (at_builtin; refine wpList_append_i rfl _ _ rfl wr.heap.size _ (c + 1) _ rfl HO2.out _ (0) _ rfl HPt3.out (by omega) hS3 ?_)
        intro v3 w3 hO3 hg3
        have hb3 : Below wr.heap.size w2 w3 := grown_below hg3 hS3 (own_ge HO2.out)
        have HB3 := hide (HB2.out.trans hb3)
        rw [show c + 1 + 0 = l.length + 1 by omega, ← ic_app, ← ic_app, ← putL_new n l c hj HA.out HK.out] at hO3
        have HO3 := hide (NV.ofOwn hO3 (by rw [putL_new n l c hj HA.out HK.out]; simp; omega))
        clear hO3 hg3 hb3 HPt3 HO2 HB2
        go_wp2_with fail
        go_ret
        exact ⟨_, rfl, HO3.out, HB3.out⟩

      · have hcj2 : ¬ (c : Int) = (j : Int) := by omega
        have hcj3 : ¬ (j : Int) = (c : Int) := by omega

        have HPt1 : Hid (PtI wr (.slice (some ⟨g, o, none⟩) j c) j (ic (l.take j))) := hide (.inr ⟨⟨g, o, none⟩, c, rfl, by simp [ic]; omega, fun q x hx => by
          obtain ⟨hq, e⟩ := List.getElem?_eq_some_iff.1 hx
          have hq' : q < j := by have := hq; simp [ic] at this; omega
          rw [Addr.add_lit, HC.out q (by omega), ← e]; simp [ic], ic_one _⟩)
        go_wp2_with (at_builtin; refine wpList_append_i rfl _ _ rfl wr.heap.size _ 0 [] rfl (World.ownsRow_nil _ _ _ _) _ j _ rfl HPt1.out (by omega) (Nat.le_refl _) ?_)
        intro v1 w1 hO1 hg1
        have hb1 : Below wr.heap.size wr w1 := grown_below hg1 (Nat.le_refl _) (fun k e => by cases e)
        have HO1 := hide hO1
        have hS1 : wr.heap.size ≤ w1.heap.size := hb1.size
        have HB1 := hide hb1
        obtain ⟨p1, q1, rfl⟩ := own_form hO1
        clear hO1 hg1 hb1 HPt1
        have HPt2 : Hid (PtI (w1.alloc (.cells #[.int .i64 n] 3)) (.slice (some ⟨w1.heap.size, 0, none⟩) 1 1) 1 (ic [n])) := hide (.inr ⟨_, _, rfl, rfl, fun q x hx => by
          obtain rfl : q = 0 := by have := (List.getElem?_eq_some_iff.1 hx).1; simp [ic] at this; omega
          rw [Addr.add_lit, (Bx.new w1 #[.int .i64 n] 3).c]
          simpa [ic] using hx, ic_one _⟩)
        have HO1' : Hid ((w1.alloc (.cells #[.int .i64 n] 3)).ownsRow wr.heap.size 3 1 (.slice p1 j q1) j (ic (l.take j))) := hide (own_keep HO1.out (fun k _ hk => Below.heap_alloc w1 _ k hk))
        have hS2 : w1.heap.size ≤ (w1.alloc (.cells #[.int .i64 n] 3)).heap.size := by simp
        go_wp2_with (at_builtin; refine wpList_append_i rfl _ _ rfl wr.heap.size _ j _ rfl HO1'.out _ 1 _ rfl HPt2.out (by omega) (by omega) ?_)
        intro v2 w2 hO2 hg2
        have hb2 : Below wr.heap.size w1 w2 := ((Below.refl _ _).alloc hS1 _).trans (grown_below hg2 (by omega) (own_ge HO1.out))
        have HO2 := hide hO2
        have HB2 := hide (HB1.out.trans hb2)
        obtain ⟨p2, q2, rfl⟩ := own_form hO2
        clear hO2 hg2 hb2 HPt2 HO1 HO1' HB1
        have HPt3 : Hid (PtI w2 (.slice (some ⟨g, o + j, none⟩) ((l.length - j)) (c - j)) ((l.length - j)) (ic (l.drop j))) := hide (.inr ⟨⟨g, o + j, none⟩, c - j, rfl, by simp [ic], fun q x hx => by
          obtain ⟨hq, e⟩ := List.getElem?_eq_some_iff.1 hx
          have hq' : q < l.length - j := by have := hq; simp [ic] at this; omega
          rw [Addr.add_lit, (HB2.out.cell (p := ⟨g, o + j + q, none⟩) hg), Nat.add_assoc, HC.out (j + q) (by omega), ← e]
          simp [ic], ic_one _⟩)
        have hS3 : wr.heap.size ≤ w2.heap.size := HB2.out.size
        go_wp2_with (at_builtin; refine wpList_append_i rfl _ _ rfl wr.heap.size _ (j + 1) _ rfl HO2.out _ ((l.length - j)) _ rfl HPt3.out (by omega) hS3 ?_)
        intro v3 w3 hO3 hg3
        have hb3 : Below wr.heap.size w2 w3 := grown_below hg3 hS3 (own_ge HO2.out)
        have HB3 := hide (HB2.out.trans hb3)
        rw [show j + 1 + (l.length - j) = l.length + 1 by omega, ← ic_app, ← ic_app, ← putL_new n l j hj HA.out HK.out] at hO3
        have HO3 := hide (NV.ofOwn hO3 (by rw [putL_new n l j hj HA.out HK.out]; simp; omega))
        clear hO3 hg3 hb3 HPt3 HO2 HB2
        go_wp2_with fail
        go_ret
        exact ⟨_, rfl, HO3.out, HB3.out⟩

set_option maxHeartbeats 4000000 in
theorem l1Put_nil (n : Int) (w : World) :
    Calls Try.prog 17 #[.slice none 0 0, .int .i64 n] w fun e w' => ∃ v', e = .returned v' ∧ NV w' v' (putL [] n) ∧ Below w.heap.size w w' := by
  have HPt1 : Hid (PtI w (.slice none 0 0) 0 []) := hide (.inl ⟨rfl, rfl, rfl⟩)
  go_enter Try.func17, Try.ntmps17
  go_wp2_with fail
  refine wp_loop_rounds 1 ?_
  rw [rounds_succ]
  go_wp2_with (at_builtin; refine wpList_append_i rfl _ _ rfl w.heap.size _ 0 [] rfl (World.ownsRow_nil _ _ _ _) _ 0 _ rfl HPt1.out (by omega) (Nat.le_refl _) ?_)
  intro v1 w1 hO1 hg1
  have hb1 : Below w.heap.size w w1 := grown_below hg1 (Nat.le_refl _) (fun k e => by cases e)
  have HO1 := hide hO1
  have hS1 : w.heap.size ≤ w1.heap.size := hb1.size
  have HB1 := hide hb1
  obtain ⟨p1, q1, rfl⟩ := own_form hO1
  clear hO1 hg1 hb1 HPt1
  have HPt2 : Hid (PtI (w1.alloc (.cells #[.int .i64 n] 3)) (.slice (some ⟨w1.heap.size, 0, none⟩) 1 1) 1 (ic [n])) := hide (.inr ⟨_, _, rfl, rfl, fun q x hx => by
    obtain rfl : q = 0 := by have := (List.getElem?_eq_some_iff.1 hx).1; simp [ic] at this; omega
    rw [Addr.add_lit, (Bx.new w1 #[.int .i64 n] 3).c]
    simpa [ic] using hx, ic_one _⟩)
  have HO1' : Hid ((w1.alloc (.cells #[.int .i64 n] 3)).ownsRow w.heap.size 3 1 (.slice p1 0 q1) 0 []) := hide (own_keep HO1.out (fun k _ hk => Below.heap_alloc w1 _ k hk))
  have hS2 : w1.heap.size ≤ (w1.alloc (.cells #[.int .i64 n] 3)).heap.size := by simp
  go_wp2_with (at_builtin; refine wpList_append_i rfl _ _ rfl w.heap.size _ 0 _ rfl HO1'.out _ 1 _ rfl HPt2.out (by omega) (by omega) ?_)
  intro v2 w2 hO2 hg2
  have hb2 : Below w.heap.size w1 w2 := ((Below.refl _ _).alloc hS1 _).trans (grown_below hg2 (by omega) (own_ge HO1.out))
  have HO2 := hide hO2
  have HB2 := hide (HB1.out.trans hb2)
  obtain ⟨p2, q2, rfl⟩ := own_form hO2
  clear hO2 hg2 hb2 HPt2 HO1 HO1' HB1
  have HPt3 : Hid (PtI w2 (.slice none 0 0) 0 []) := hide (.inl ⟨rfl, rfl, rfl⟩)
  have hS3 : w.heap.size ≤ w2.heap.size := HB2.out.size
  go_wp2_with (at_builtin; refine wpList_append_i rfl _ _ rfl w.heap.size _ 1 _ rfl HO2.out _ 0 _ rfl HPt3.out (by omega) hS3 ?_)
  intro v3 w3 hO3 hg3
  have hb3 : Below w.heap.size w2 w3 := grown_below hg3 hS3 (own_ge HO2.out)
  have HB3 := hide (HB2.out.trans hb3)
  have HO3 : Hid (NV w3 v3 [n]) := hide (NV.ofOwn hO3 rfl)
  clear hO3 hg3 hb3 HPt3 HO2 HB2
  go_wp2_with fail
  go_ret
  exact ⟨_, rfl, HO3.out, HB3.out⟩

theorem l1Put_any (v : Value) (l : List Int) (n : Int) (w : World) (h : NV w v l) (hl : l.length ≤ 1000) :
    Calls Try.prog 17 #[v, .int .i64 n] w fun e w' => ∃ v', e = .returned v' ∧ NV w' v' (putL l n) ∧ Below w.heap.size w w' := by
  rcases h with ⟨rfl, rfl⟩ | ⟨g, o, c, rfl, h2, h3, h4⟩
  · exact l1Put_nil n w
  · exact l1Put_some g o c l n w hl h2 h3 h4
end Go.Proofs.Ytaniiolphghhiab.W
