/-
  The marked ones of a set, rising: (blockSet).list; reached; both ReachedOf and both Without. Conditions: none but those that each theorem states.
-/
import Derived.Test.YtgmablmkjngkkaaGrY
namespace Go.Proofs.Ytgmablmkjngkkaa.W
open Go.ChangeShapes Go.WideShapes Go.ChangeAt Go.RowKit Go.Joins
set_option linter.unusedVariables false
set_option maxRecDepth 20000

theorem wpList_indexA {P : Program} {ops : Array Oper} {rest : List Oper} {o : Oper} {a : Act} {w : World} {Q : Exit → Act → World → Prop} (hgd : o.guard = none) (ty : TypeId) (x i : Operand) (ho : o.op = .index ty x i)
    (vx vi v : Value) (hx : a.eval x = vx) (hi : a.eval i = vi) (hr : (Instr.index ty vx vi).run P w = .ok v w)
    (h : wpList P ops Q rest (a.put o.dst v) w) : wpList P ops Q (o :: rest) a w :=
  wpList_plain hgd fun _ hK => by
    unfold Oper.wp execOp
    simp only [ho, hx, hi, Sem.run_bind, hr, Result.andThen_ok]
    exact hK _ _ h
theorem sIdx (f : Nat → Bool) (w : World) : ∀ j : Nat, j < 12 → (Instr.index 60 (.agg (sA f)) (.int .i64 (j : Int))).run Try.prog w = .ok (.bool (f j)) w
  | 0, _ => by kernel_rfl
  | 1, _ => by kernel_rfl
  | 2, _ => by kernel_rfl
  | 3, _ => by kernel_rfl
  | 4, _ => by kernel_rfl
  | 5, _ => by kernel_rfl
  | 6, _ => by kernel_rfl
  | 7, _ => by kernel_rfl
  | 8, _ => by kernel_rfl
  | 9, _ => by kernel_rfl
  | 10, _ => by kernel_rfl
  | 11, _ => by kernel_rfl
  | n + 12, h => absurd h (by omega)

set_option maxHeartbeats 4000000 in
theorem list_any (f : Nat → Bool) (w : World) :
    Calls Try.prog 55 #[.agg (sA f)] w fun e w' => ∃ v', e = .returned v' ∧ w'.ownsRow w.heap.size 3 1 v' (lst f 12).length (ic (lst f 12)) ∧ Below w.heap.size w w' := by
  have hB0 : Below w.heap.size w (w.alloc (.cells (sA f) 60)) := (Below.refl _ _).alloc (Nat.le_refl _) _
  have HX := hide (Bx.new w (sA f) 60)
  go_enter Try.func55, Try.ntmps55
  go_wp2_with (refine wpList_load_row rfl 60 _ rfl w.heap.size rfl 60 _ (0, 0) _ HX.out Try.underlying60 rfl bsInfo ?_)
  obtain ⟨W0, hW0⟩ : ∃ W0, W0 = w.alloc (.cells (sA f) 60) := ⟨_, rfl⟩
  rw [← hW0] at hB0 ⊢
  clear hW0 HX
  go_loopw [3, 7] (fun v3 i w' => ∃ j : Nat, j ≤ 12 ∧ i = .int .i64 j ∧ w'.ownsRow w.heap.size 3 1 v3 (lst f j).length (ic (lst f j)) ∧ Below w.heap.size w w') (fun _ i _ => 12 - (intOf i).toNat)
  case atStart => exact ⟨0, by omega, rfl, World.ownsRow_nil _ _ _ _, hB0⟩
  case round =>
    clear hB0
    obtain ⟨j, hj, rfl, hO, hB⟩ := hrel
    have HO := hide hO
    have HB := hide hB
    have hjl := lst_len f j
    have hbs := hB.size
    obtain ⟨p3, q3, rfl⟩ := own_form hO
    have Hge := hide (own_ge hO)
    clear hO hB
    by_cases hlt : j < 12
    · have hlt' : (j : Int) < 12 := by omega
      have HI := hide (sIdx f wr j hlt)
      have hsucc := lst_succ f j
      obtain ⟨b, hb⟩ : ∃ b, b = f j := ⟨_, rfl⟩
      rw [← hb] at HI hsucc
      have HS := hide hsucc
      clear hb hsucc
      cases b with
      | false =>
        go_wp2_with (refine wpList_indexA rfl 60 _ _ rfl _ _ _ rfl rfl HI.out ?_)
        have e : lst f (j + 1) = lst f j := by rw [HS.out]; simp
        exact ⟨⟨j + 1, by omega, by go_num, by rw [e]; exact HO.out, HB.out⟩, by simp [intOf]; omega⟩
      | true =>
        have HPt : Hid (PtI (wr.alloc (.cells #[.int .i64 (j : Int)] 3)) (.slice (some ⟨wr.heap.size, 0, none⟩) 1 1) 1 (ic [(j : Int)])) := hide (.inr ⟨_, _, rfl, rfl, fun q x hx => by
          obtain rfl : q = 0 := by have := (List.getElem?_eq_some_iff.1 hx).1; simp [ic] at this; omega
          rw [Addr.add_lit, (Bx.new wr #[.int .i64 (j : Int)] 3).c]
          simpa [ic] using hx, ic_one _⟩)
        have HO' : Hid ((wr.alloc (.cells #[.int .i64 (j : Int)] 3)).ownsRow w.heap.size 3 1 (.slice p3 (lst f j).length q3) (lst f j).length (ic (lst f j))) := hide (own_keep HO.out (fun k _ hk => Below.heap_alloc wr _ k hk))
        have hS2 : wr.heap.size ≤ (wr.alloc (.cells #[.int .i64 (j : Int)] 3)).heap.size := by simp
        have HBa := hide (HB.out.alloc hbs (.cells #[.int .i64 (j : Int)] 3))
        obtain ⟨n3, hn3⟩ : ∃ n3, n3 = (lst f j).length := ⟨_, rfl⟩
        rw [← hn3] at hjl HO' Hge ⊢
        have Hn3 := hide hn3
        clear hn3
        go_wp2_with (first | (refine wpList_indexA rfl 60 _ _ rfl _ _ _ rfl rfl HI.out ?_) | (at_builtin; refine wpList_append_i rfl _ _ rfl w.heap.size _ n3 _ rfl HO'.out _ 1 _ rfl HPt.out (by omega) (by omega) ?_))
        intro v' w' hO2 hg2
        have HB2 := hide (HBa.out.trans (grown_below hg2 (by omega) Hge.out))
        have HO2 := hide hO2
        clear hO2 hg2
        go_wp2_with fail
        have e : lst f (j + 1) = lst f j ++ [(j : Int)] := by rw [HS.out]; simp
        refine ⟨⟨j + 1, by omega, by go_num, ?_, HB2.out⟩, by simp [intOf]; omega⟩
        rw [e, ic_app, List.length_append, ← Hn3.out]
        exact HO2.out
    · obtain rfl : j = 12 := by omega
      go_wp2_with fail
      go_ret
      exact ⟨_, rfl, HO.out, HB.out⟩

set_option maxHeartbeats 2000000 in
theorem reached_any (v : Value) (L : List (List Int)) (w : World) (h : GRow w v L) (hg : GG L) :
    Calls Try.prog 56 #[v] w fun e w' => e = .returned (.agg (sA (rc L (-1) 0))) ∧ Below w.heap.size w w' := by
  obtain ⟨ad, c, rfl, hR, hs, hlc⟩ := h
  obtain ⟨W1, hW1⟩ : ∃ W1, W1 = (w.alloc (.cells #[.slice ad L.length c] 28)).alloc (.cells (sA fun _ => false) 60) := ⟨_, rfl⟩
  have hB1 : Below w.heap.size w W1 := by rw [hW1]; exact ((Below.refl _ _).alloc (Nat.le_refl _) _).alloc (by simp) _
  have HX : Hid (Bx W1 w.heap.size #[.slice ad L.length c] 28) := hide (by rw [hW1]; exact (Bx.new w _ _).alloc _)
  have HX2 : Hid (Bx W1 (w.heap.size + 1) (sA fun _ => false) 60) := hide (by rw [hW1]; have := Bx.new (w.alloc (.cells #[.slice ad L.length c] 28)) (sA fun _ => false) 60; simpa using this)
  have HC := hide (reachedFrom_any (.agg #[.slice ad L.length c]) L 0 (-1) W1 ⟨ad, c, rfl, hR.below hB1, hs, hlc⟩ hg hg.1)
  have HW1 := hide hW1
  clear hR hs hlc hW1 hg
  go_enter Try.func56, Try.ntmps56
  go_upto_region 1 with fail
  rw [show ((w.alloc (.cells #[.slice ad L.length c] 28)).alloc (.cells #[.bool false, .bool false, .bool false, .bool false, .bool false, .bool false, .bool false, .bool false, .bool false, .bool false, .bool false, .bool false] 60)) = W1 from HW1.out.symm]
  have cx := HX.out.c
  have lx := HX.out.lt
  go_wp2_with fail
  refine Calls.mono HC.out ?_
  rintro e w1 ⟨rfl, hb⟩
  have hB2 := hB1.trans (hb.mono hB1.size)
  have HX3 := hide (HX2.out.below hb HX2.out.lt)
  clear hb cx HC
  go_wp2_with (refine wpList_store_row rfl 60 _ _ rfl (w.heap.size + 1) _ rfl rfl 60 _ HX3.out bsInfo rfl (sA_one _) ?_)
  refine bodyPost_ret (v := .agg (sA (rc L (-1) 0))) (results_cell_row (p := 2) rfl _ _ (w.heap.size + 1) 60 _ (0, 0) _ rfl (setRow_same HX3.out _) Try.underlying60 rfl bsInfo) rfl ⟨rfl, setRow_below _ hB2 (by omega)⟩
end Go.Proofs.Ytgmablmkjngkkaa.W
