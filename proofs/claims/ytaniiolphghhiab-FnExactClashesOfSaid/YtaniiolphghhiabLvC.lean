/-
  Sets of names, further: with (slices.Grow, slices.Concat), what slices.Clone makes of a set. Conditions: names below 8, rows of at most 1000.
-/
import Derived.Test.YtaniiolphghhiabLvQ
import Derived.Test.YtaniiolphghhiabLvS
namespace Go.Proofs.Ytaniiolphghhiab.W
open Go.ChangeShapes Go.WideShapes Go.ChangeAt Go.RowKit Go.Joins
set_option linter.unusedVariables false

abbrev QSS := QST 51
theorem belowDrwK {B : Nat} {x y : World} (h : Below B x y) : Below B x y.drew := ⟨h.os, h.tape, h.output, h.size, h.block⟩

set_option maxHeartbeats 1000000 in
theorem growS_any (n : Nat) (h0 : 0 < n) (hn : n ≤ 1048576) (w : World) :
    Calls Try.prog 63 #[.slice none 0 0, .int .i64 (n : Int)] w fun e w' => ∃ g cap, e = .returned (.slice (some ⟨g, 0, none⟩) 0 cap) ∧ w'.ownsRow w.heap.size 3 1 (.slice (some ⟨g, 0, none⟩) 0 cap) 0 [] ∧ Below w.heap.size w w' := by
  have hby : Try.t3.bytes = 8 := by kernel_rfl
  have h48 : ¬ 281474976710656 < Builtin.nextslicecap n 0 * Try.t3.bytes := by rw [nextslicecap_zero h0, hby]; omega
  have h49 : (n : Int) * (Try.t3.bytes : Int) ≤ 281474976710656 := by rw [hby]; omega
  have hni : (0 : Int) < (n : Int) := by omega
  have hn0 : ¬ n = 0 := by omega
  have hn63 : (n : Int) ≤ 9223372036854775807 := by omega
  have hge : n ≤ grownCap w n 0 3 := grownCap_ge _ _ _ _
  have hle : grownCap w n 0 3 ≤ maxLen := grownCap_le_maxLen w n 0 _ (by unfold maxLen; omega)
  have HGe := hide hge
  have HLe := hide hle
  clear hby hge hle
  go_enter Try.func63, Try.ntmps63
  go_wp2_with fail
  have hge := HGe.out
  have hle := HLe.out
  unfold grownCap at hge hle
  go_ret
  exact ⟨_, _, rfl, ⟨rfl, .inr ⟨w.heap.size, _, _, rfl, Nat.le_refl _, heap_alloc_new w _, by omega, hle, by simp [size_zeroCells]; omega, by simp⟩⟩, belowDrwK ((Below.refl _ _).alloc (Nat.le_refl _) _)⟩
set_option maxHeartbeats 1000000 in
theorem growS_zero (w : World) :
    Calls Try.prog 63 #[.slice none 0 0, .int .i64 0] w fun e w' => e = .returned (.slice none 0 0) ∧ w' = w := by
  go_enter Try.func63, Try.ntmps63
  go_wp2_with fail
  go_ret
  exact ⟨rfl, rfl⟩
theorem growS_all (n : Nat) (hn : n ≤ 1048576) (w : World) :
    Calls Try.prog 63 #[.slice none 0 0, .int .i64 (n : Int)] w fun e w' => ∃ v, e = .returned v ∧ w'.ownsRow w.heap.size 3 1 v 0 [] ∧ Below w.heap.size w w' := by
  by_cases h0 : n = 0
  · subst h0
    refine (growS_zero w).mono ?_
    rintro e w' ⟨rfl, rfl⟩
    exact ⟨_, rfl, World.ownsRow_nil _ _ _ _, Below.refl _ _⟩
  · refine (growS_any n (by omega) hn w).mono ?_
    rintro e w' ⟨g, cap, rfl, h1, h2⟩
    exact ⟨_, rfl, h1, h2⟩

theorem wpList_append_set {w : World} {ops : Array Oper} {rest : List Oper} {o : Oper} {a : Act} {Q : Exit → Act → World → Prop} (hgd : o.guard = none) (s x : Operand)
    (ho : o.op = .call { callee := .builtin .append, args := #[s, x], argTypes := #[51, 51] })
    (base : Nat) (v : Value) (n : Nat) (xs : List Value) (hs : a.eval s = v) (hown : w.ownsRow base 3 1 v n xs) (u : Value) (m : Nat) (vs : List Value) (hx : a.eval x = u) (hu : PtI w u m vs) (hnm : n + m ≤ 1048576) (hbase : base ≤ w.heap.size)
    (h : ∀ v' w', w'.ownsRow base 3 1 v' (n + m) (xs ++ vs) → w.grownBy w' v.ownBlock → wpList Try.prog ops Q rest (a.put o.dst v') w') : wpList Try.prog ops Q (o :: rest) a w := by
  obtain ⟨i0, hi0, hzz⟩ := Option.map_eq_some_iff.1 infoInt1
  simp only [Prod.mk.injEq] at hzz
  obtain ⟨hz0, hz1, hz2⟩ := hzz
  refine wpList_plain hgd fun K hK => ?_
  rcases hu with ⟨rfl, rfl, rfl⟩ | ⟨ad, c, rfl, h2, h3, h4⟩
  · have hr := run_append_owned_none (P := Try.prog) (w := w) base 51 o.type 3 i0 1 Try.underlying51 hi0 v n xs hown
    unfold Oper.wp execOp
    simp only [ho, resolve, invoke, builtin, Sem.run_bind, Sem.run_pure, Result.andThen_ok, List.map_toArray, List.map_cons, List.map_nil, hs, hx, hr]
    exact hK _ _ (h v w (by simpa using hown) (World.grownBy.refl _ _))
  · obtain ⟨v', w', hr, g2, g3, -⟩ := run_append_sep (P := Try.prog) w base 51 o.type 3 i0 (.int .i64 0) 1 8 Try.underlying51 hi0 hz0 hz1 hz2 (by simp [Value.cells]) (by decide) v n xs hown ad m c vs h2 h3 h4 (by unfold maxLen; omega) (by omega) hbase
    unfold Oper.wp execOp
    simp only [ho, resolve, invoke, builtin, Sem.run_bind, Sem.run_pure, Result.andThen_ok, List.map_toArray, List.map_cons, List.map_nil, hs, hx, hr]
    exact hK _ _ (h v' w' g2 g3)

set_option maxRecDepth 20000 in
set_option maxHeartbeats 4000000 in
theorem concatS_any (g : Nat) (v1 v2 : Value) (l1 l2 : List Int) (w : World) (hl : l1.length + l2.length ≤ 1048576) (hg : g < w.heap.size)
    (q1 : w.cell? ⟨g, 0, none⟩ = some v1) (q2 : w.cell? ⟨g, 1, none⟩ = some v2) (h1 : NV w v1 l1) (h2 : NV w v2 l2) :
    Calls Try.prog 45 #[.slice (some ⟨g, 0, none⟩) 2 2] w fun e w' => ∃ v, e = .returned v ∧ w'.ownsRow w.heap.size 3 1 v (l1.length + l2.length) (ic (l1 ++ l2)) ∧ Below w.heap.size w w' := by
  have H1 := hide h1
  have H2 := hide h2
  obtain ⟨a1, c1, rfl, -⟩ := h1.form
  obtain ⟨a2, c2, rfl, -⟩ := h2.form
  clear h1 h2
  obtain ⟨n1, hn1⟩ : ∃ n1, n1 = l1.length := ⟨_, rfl⟩
  obtain ⟨n2, hn2⟩ : ∃ n2, n2 = l2.length := ⟨_, rfl⟩
  rw [← hn1] at q1 H1
  rw [← hn2] at q2 H2
  rw [← hn1, ← hn2] at hl ⊢
  have HN1 := hide hn1
  have HN2 := hide hn2
  clear hn1 hn2
  go_enter Try.func45, Try.ntmps45
  go_wp2_with fail
  go_loopw [3, 11] (fun s i w' => w' = w ∧ ((i = .int .i64 0 ∧ s = .int .i64 0) ∨ (i = .int .i64 1 ∧ s = .int .i64 (n1 : Int)) ∨ (i = .int .i64 2 ∧ s = .int .i64 ((n1 : Int) + (n2 : Int))))) (fun _ i _ => 2 - (intOf i).toNat)
  case atStart => exact ⟨rfl, .inl ⟨rfl, rfl⟩⟩
  case round =>
    obtain ⟨rfl, ⟨rfl, rfl⟩ | ⟨rfl, rfl⟩ | ⟨rfl, rfl⟩⟩ := hrel
    · go_wp2_with fail
      exact ⟨⟨trivial, .inr (.inl ⟨rfl, rfl⟩)⟩, by decide⟩
    · go_wp2_with fail
      exact ⟨⟨trivial, .inr (.inr ⟨rfl, rfl⟩)⟩, by decide⟩
    · go_wp2_with fail
      obtain ⟨N, hN⟩ : ∃ N, N = n1 + n2 := ⟨_, rfl⟩
      have hsum : (n1 : Int) + (n2 : Int) = (N : Int) := by omega
      rw [hsum]
      clear hsum
      refine (growS_all N (by omega) _).mono ?_
      have HN := hide hN
      clear hN
      rintro e w1 ⟨v0, rfl, ho1, hb1⟩
      have HO1 := hide ho1
      obtain ⟨va0, vc0, rfl⟩ := own_form ho1
      clear ho1
      obtain ⟨W0, hW0⟩ : ∃ W0, W0 = wr := ⟨_, rfl⟩
      subst hW0
      go_wp2_with fail
      go_loopw [6, 27] (fun v i w' => Below W0.heap.size W0 w' ∧ ((i = .int .i64 0 ∧ w'.ownsRow W0.heap.size 3 1 v 0 []) ∨ (i = .int .i64 1 ∧ w'.ownsRow W0.heap.size 3 1 v n1 (ic l1)) ∨ (i = .int .i64 2 ∧ w'.ownsRow W0.heap.size 3 1 v (n1 + n2) (ic l1 ++ ic l2)))) (fun _ i _ => 2 - (intOf i).toNat)
      case atStart => exact ⟨hb1, .inl ⟨rfl, HO1.out⟩⟩
      case round =>
        clear HO1 hb1
        obtain ⟨hBr, ⟨rfl, ho⟩ | ⟨rfl, ho⟩ | ⟨rfl, ho⟩⟩ := hrel
        · obtain ⟨va, vc, rfl⟩ := own_form ho
          have HO := hide ho
          have s1 := (hBr.cell (p := ⟨g, 0, none⟩) hg).trans q1
          have hP : PtI wr (.slice a1 n1 c1) l1.length (ic l1) := by
            have := (H1.out.below hBr).pt
            exact this
          rw [← HN1.out] at hP
          have HPt := hide hP
          have hlo : W0.heap.size ≤ wr.heap.size := hBr.size
          have HOb := hide (own_ge ho)
          clear ho hP
          go_wp2_with (at_builtin; refine wpList_append_set rfl _ _ rfl W0.heap.size _ 0 [] rfl HO.out _ n1 (ic l1) rfl HPt.out (by omega) hlo ?_)
          intro v2 w2 hown2 hgrow2
          have hB2 : Below W0.heap.size W0 w2 := hBr.grown hgrow2 hlo (fun k hk => HOb.out k hk)
          have HO2 := hide hown2
          obtain ⟨va2, vc2, rfl⟩ := own_form hown2
          clear hown2 hgrow2 HOb
          go_wp2_with fail
          exact ⟨⟨hB2, .inr (.inl ⟨rfl, HO2.out⟩)⟩, by decide⟩
        · obtain ⟨va, vc, rfl⟩ := own_form ho
          have HO := hide ho
          have s1 := (hBr.cell (p := ⟨g, 1, none⟩) hg).trans q2
          have hP : PtI wr (.slice a2 n2 c2) l2.length (ic l2) := by
            have := (H2.out.below hBr).pt
            exact this
          rw [← HN2.out] at hP
          have HPt := hide hP
          have hlo : W0.heap.size ≤ wr.heap.size := hBr.size
          have HOb := hide (own_ge ho)
          clear ho hP
          go_wp2_with (at_builtin; refine wpList_append_set rfl _ _ rfl W0.heap.size _ n1 (ic l1) rfl HO.out _ n2 (ic l2) rfl HPt.out (by omega) hlo ?_)
          intro v2 w2 hown2 hgrow2
          have hB2 : Below W0.heap.size W0 w2 := hBr.grown hgrow2 hlo (fun k hk => HOb.out k hk)
          have HO2 := hide hown2
          obtain ⟨va2, vc2, rfl⟩ := own_form hown2
          clear hown2 hgrow2 HOb
          go_wp2_with fail
          exact ⟨⟨hB2, .inr (.inr ⟨rfl, HO2.out⟩)⟩, by decide⟩
        · obtain ⟨va, vc, rfl⟩ := own_form ho
          have HO := hide ho
          clear ho
          go_wp2_with fail
          go_ret
          exact ⟨_, rfl, by rw [ic_app]; exact HO.out, hBr⟩

/-- The names of both. -/
def orL (a b : List Int) : List Int := lst (fun n => hb a n || hb b n) 8
set_option maxHeartbeats 2000000 in
theorem with_any (v1 v2 : Value) (l1 l2 : List Int) (w : World) (h1 : NV w v1 l1) (h2 : NV w v2 l2) (r1 : R8 l1) (r2 : R8 l2) :
    Calls Try.prog 22 #[v1, v2] w fun e w' => ∃ v', e = .returned v' ∧ NV w' v' (orL l1 l2) ∧ Below w.heap.size w w' := by
  have hr : lst (hb (l1 ++ l2)) 8 = orL l1 l2 := lst_congr (fun n _ => by
    rw [Bool.eq_iff_iff, Bool.or_eq_true, hb_iff, hb_iff, hb_iff, List.mem_append])
  have k1 := r8_len r1
  have k2 := r8_len r2
  have HC := hide (fun (g : Nat) (w' : World) (hb' : Below w.heap.size w w') (hg : g < w'.heap.size) (q1 : w'.cell? ⟨g, 0, none⟩ = some v1) (q2 : w'.cell? ⟨g, 1, none⟩ = some v2) => concatS_any g v1 v2 l1 l2 w' (by omega) hg q1 q2 (h1.below hb') (h2.below hb'))
  have HS := hide (fun (v : Value) (w' : World) (h : IV w' v (l1 ++ l2)) => setOf_any v (l1 ++ l2) w' h (by simp; omega) (fun x hx => (List.mem_append.1 hx).elim (r1.2 x) (r2.2 x)))
  rw [hr] at HS
  have HL : Hid ((l1 ++ l2).length ≤ 1048576 ∧ l1.length + l2.length = (l1 ++ l2).length) := hide ⟨by simp; omega, by simp⟩
  have hb0 : Below w.heap.size w (w.alloc (.cells #[v1, v2] 51)) := (Below.refl _ _).alloc (Nat.le_refl _) _
  have HX := hide (Bx.new w #[v1, v2] 51)
  obtain ⟨a1, c1, rfl, -⟩ := h1.form
  obtain ⟨a2, c2, rfl, -⟩ := h2.form
  obtain ⟨n1, hn1⟩ : ∃ n1, n1 = l1.length := ⟨_, rfl⟩
  obtain ⟨n2, hn2⟩ : ∃ n2, n2 = l2.length := ⟨_, rfl⟩
  rw [← hn1, ← hn2] at HC HX HL hb0 ⊢
  clear h1 h2 r1 r2 k1 k2 hr hn1 hn2
  go_enter Try.func22, Try.ntmps22
  go_wp2_with fail
  refine Calls.mono (HC.out _ _ hb0 HX.out.lt ((HX.out.c 0).trans rfl) ((HX.out.c 1).trans rfl)) ?_
  rintro e w1 ⟨v, rfl, ho, hb1⟩
  have hB1 := hb0.trans (hb1.mono hb0.size)
  have HV := hide (NV.iv (NV.ofOwn ho HL.out.2) HL.out.1)
  obtain ⟨va, vc, rfl⟩ := own_form ho
  clear ho hb1 HC hb0 HX
  go_wp2_with fail
  refine Calls.mono (HS.out _ _ HV.out) ?_
  rintro e w2 ⟨v', rfl, hv, hb2⟩
  have hB2 := hB1.trans (hb2.mono hB1.size)
  have HV2 := hide hv
  obtain ⟨va2, vc2, rfl, -⟩ := hv.form
  clear hv hb2 hB1 HV HS
  go_wp2_with fail
  go_ret
  exact ⟨_, rfl, HV2.out, hB2⟩

/-- What slices.Clone makes of a set is its own. -/
theorem cloneS_any (v : Value) (l : List Int) (w : World) (h : NV w v l) (hl : l.length ≤ 1000) :
    Calls Try.prog 47 #[v] w fun e w' => ∃ v', e = .returned v' ∧ w'.ownsRow w.heap.size 3 1 v' l.length (ic l) ∧ ((v' = .slice none 0 0 ∧ l = []) ∨ v' ≠ .slice none 0 0) ∧ Below w.heap.size w w' := by
  rcases h with ⟨rfl, rfl⟩ | ⟨g, o, c, rfl, h2, h3, h4⟩
  · refine (Try.slices_Clone_int_nil_f47 0 0 w).mono ?_
    rintro e w' ⟨rfl, rfl⟩
    exact ⟨_, rfl, World.ownsRow_nil _ _ _ _, .inl ⟨rfl, rfl⟩, Below.refl _ _⟩
  · have := Try.slices_Clone_int_f47 g o l.length c l w (Nat.le_refl _) (by omega) (fun j hj => by rw [h4 j hj]; simp [List.getD, hj])
    rw [List.take_length] at this
    refine this.mono ?_
    rintro e w' ⟨v', rfl, k1, k2, k3⟩
    exact ⟨v', rfl, k1, .inr k2, k3⟩
end Go.Proofs.Ytaniiolphghhiab.W
