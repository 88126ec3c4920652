/-
  Tokens of an expression, the specification's: l2Signs at an expression of one part. Conditions: at most 100000 tokens.
-/
import Derived.Test.YtjffignbiabmaaaDoorXtS
namespace Go.Proofs.YtjffignbiabmaaaDoor.W.T
open Go.ChangeShapes Go.WideShapes Go.ChangeAt Go.RowKit
set_option linter.unusedVariables false

set_option maxRecDepth 20000 in
set_option maxHeartbeats 2000000 in
theorem l2Signs_one (x : Xx) (a : E) (hok : (E.one x a).ok) (ih : L2SGoal a 8) (least : Int) : L2SGoal (.one x a) least := by
  intro s v lo base n xs w0 w hT hB hb0 hb hn hown
  obtain ⟨hg, hb1, -⟩ := hok
  obtain ⟨sad, sc, rfl, hkid⟩ := TrK.kid hT
  obtain ⟨g, si, rfl, hg0, hTa, p0, p1, p2, p3⟩ := hkid 0 (by simp [E.kids])
  simp only [E.kids, List.getElem_cons_zero, Nat.zero_mul, Nat.zero_add] at hTa p0 p1 p2 p3
  obtain ⟨ad, c, rfl⟩ := xOwn_form hown
  have hk := behind_1 hb1
  have HO := hide hown
  have hhd : (E.one x a).head = x := rfl
  rw [hhd]
  have hnn : n + 1 + 3 * a.flat.length ≤ 100000 := by simp [E.flat] at hn; omega
  have hn' : n ≤ 100000 := by omega
  have e1 : tks (.one x a) least = sgT (oneS x) :: tks a 8 := rfl
  rw [e1, tkC_cons, List.length_cons]
  have IH : Hid (∀ (v : Value) (w1 : World), Below w0.heap.size w0 w1 → base ≤ w1.heap.size → w1.ownsRow base 87 4 v (n + 1) (xs ++ tkC1 (sgT (oneS x))) → Calls Tryd.prog 53 #[.agg #[.int .i64 a.head.k, .int .i64 a.head.n, .string a.head.t, si], .int .i64 8, v] w1 fun z w' => ∃ v', z = .returned v' ∧ w'.ownsRow base 87 4 v' (n + 1 + (tks a 8).length) (xs ++ tkC1 (sgT (oneS x)) ++ tkC (tks a 8)) ∧ GA w1 v w' v') := fun v w1 h1 h2 h3 => ih si v lo base (n + 1) _ w0 w1 hTa h1 hb0 h2 hnn h3
  have HP : Hid (∀ w1 : World, Below w0.heap.size w0 w1 → w1.cell? ⟨g, 0, none⟩ = some (.int .i64 a.head.k) ∧ w1.cell? ⟨g, 1, none⟩ = some (.int .i64 a.head.n) ∧ w1.cell? ⟨g, 2, none⟩ = some (.string a.head.t) ∧ w1.cell? ⟨g, 3, none⟩ = some si) := fun w1 h1 => ⟨(h1.cell (p := ⟨g, 0, none⟩) hg0).trans p0, (h1.cell (p := ⟨g, 1, none⟩) hg0).trans p1, (h1.cell (p := ⟨g, 2, none⟩) hg0).trans p2, (h1.cell (p := ⟨g, 3, none⟩) hg0).trans p3⟩
  clear hT hkid hown hg hb1 hhd hn e1 hTa p0 p1 p2 p3 ih hnn
  have hgw : g < w.heap.size := Nat.lt_of_lt_of_le hg0 hB.size
  obtain ⟨q0, q1, q2, q3⟩ := HP.out w hB
  obtain ⟨xk, xn, xt⟩ := x
  simp only at *
  have hkl : (E.one ⟨xk, xn, xt⟩ a).kids.length = 1 := rfl
  rw [hkl]
  rcases hk with rfl | rfl
  · have e2 : oneS ⟨3, xn, xt⟩ = ⟨#[45]⟩ := rfl
    rw [e2] at IH ⊢
    go_enter Tryd.func53, Tryd.ntmps53
    go_wp2_with fail
    obtain ⟨w1, hw1⟩ : ∃ w1, w1 = w.alloc (.cells #[.int .i64 3, .int .i64 xn, .string xt, .slice (some ⟨g, 0, none⟩) 1 sc] 79) := ⟨_, rfl⟩
    rw [← hw1]
    have hsz1 : w.heap.size < w1.heap.size := by rw [hw1]; simp
    have hB1 : Below w0.heap.size w0 w1 := by rw [hw1]; exact hB.alloc hB.size _
    have HO1 : Hid (w1.ownsRow base 87 4 (.slice ad n c) n xs) := hide (by rw [hw1]; exact HO.out.alloc _)
    have HG1 : Hid (GA w (.slice ad n c) w1 (.slice ad n c)) := hide (by rw [hw1]; exact GA.alloc _ _ _)
    have c3 : w1.cell? ⟨w.heap.size, 3, none⟩ = some (.slice (some ⟨g, 0, none⟩) 1 sc) := by rw [hw1, cell_of_blk (heap_alloc_new w _)]; rfl
    obtain ⟨q0, q1, q2, q3⟩ := HP.out w1 hB1
    have hszB := hB.size
    obtain ⟨u0, u1, u2, u3⟩ := HP.out (w1.alloc (.cells #[.int .i64 3, .int .i64 0, .string ⟨#[45]⟩, .int .i64 0] 87)) (hB1.alloc (by omega) _)
    have c3' : (w1.alloc (.cells #[.int .i64 3, .int .i64 0, .string ⟨#[45]⟩, .int .i64 0] 87)).cell? ⟨w.heap.size, 3, none⟩ = some (.slice (some ⟨g, 0, none⟩) 1 sc) := by rw [World.cell?_alloc_some _ _ _ (by rw [c3]; rfl)]; exact c3
    have hol : Hid (∀ k, (Value.slice ad n c).ownBlock = some k → base ≤ k ∧ k < w.heap.size) := hide (HO.out.lt)
    clear hw1 HO
    go_region_law
      (first
        | (refine step_append_tk rfl _ _ rfl base _ n xs rfl (show World.ownsRow (World.drew _) _ _ _ _ _ _ from HO1.out.alloc _) w1.heap.size 1 (sgT ⟨#[45]⟩) rfl (heap_alloc_new w1 _) (by omega) (by show base ≤ (World.alloc w1 _).heap.size; simp; omega) ?_; intro g7 cap7 w7 hown7 hgrow7; have hB7 : Below w0.heap.size w0 w7 := hgrow7.below (belowDrew (hB1.alloc (by omega) _)) (by show w0.heap.size ≤ (World.alloc w1 _).heap.size; simp; omega) (fun k hk => Nat.le_trans hb0 (hol.out k hk).1); have hs7 : w1.heap.size + 1 ≤ w7.heap.size := (by have := hgrow7.g.size; have e : (World.drew (World.alloc w1 (.cells #[.int .i64 3, .int .i64 0, .string ⟨#[45]⟩, .int .i64 0] 87))).heap.size = w1.heap.size + 1 := (by show (World.alloc w1 _).heap.size = _; simp); omega); have r3 : w7.cell? ⟨w.heap.size, 3, none⟩ = some (.slice (some ⟨g, 0, none⟩) 1 sc) := hgrow7.cell (by show (World.alloc w1 _).cell? _ = _; rw [World.cell?_alloc_some _ _ _ (by rw [c3]; rfl)]; exact c3) (fun k hk => by have := (hol.out k hk).2; omega); obtain ⟨t0, t1, t2, t3⟩ := HP.out w7 hB7; have HO7 := hide hown7; have HB7 := hide hB7; have HG7 := hide (HG1.out.trans ((GA.alloc w1 _ _).trans ((GA.drew _ _).trans hgrow7))); clear hown7 hgrow7 hB7)
        | (go_simp; go_wp2_with (go_at_call 53; refine Calls.mono (IH.out _ _ HB7.out (by omega) HO7.out) ?_; rintro e w8 ⟨v8, rfl, hown8, hg8⟩; obtain ⟨ad8, c8, rfl⟩ := xOwn_form hown8; have HO8 := hide hown8; have HG8 := hide (HG7.out.trans hg8); clear hown8 hg8)))
    all_goals
      go_wp2_with fail
      go_ret
      refine ⟨.slice ad8 (n + 1 + (tks a 8).length) c8, rfl, ?_, HG8.out⟩
      have h8 := HO8.out
      have e9 : n + 1 + (tks a 8).length = n + ((tks a 8).length + 1) := by omega
      rw [← List.append_assoc, ← e9]
      exact h8
  · have e2 : oneS ⟨4, xn, xt⟩ = ⟨#[33]⟩ := rfl
    rw [e2] at IH ⊢
    go_enter Tryd.func53, Tryd.ntmps53
    go_wp2_with fail
    obtain ⟨w1, hw1⟩ : ∃ w1, w1 = w.alloc (.cells #[.int .i64 4, .int .i64 xn, .string xt, .slice (some ⟨g, 0, none⟩) 1 sc] 79) := ⟨_, rfl⟩
    rw [← hw1]
    have hsz1 : w.heap.size < w1.heap.size := by rw [hw1]; simp
    have hB1 : Below w0.heap.size w0 w1 := by rw [hw1]; exact hB.alloc hB.size _
    have HO1 : Hid (w1.ownsRow base 87 4 (.slice ad n c) n xs) := hide (by rw [hw1]; exact HO.out.alloc _)
    have HG1 : Hid (GA w (.slice ad n c) w1 (.slice ad n c)) := hide (by rw [hw1]; exact GA.alloc _ _ _)
    have c3 : w1.cell? ⟨w.heap.size, 3, none⟩ = some (.slice (some ⟨g, 0, none⟩) 1 sc) := by rw [hw1, cell_of_blk (heap_alloc_new w _)]; rfl
    obtain ⟨q0, q1, q2, q3⟩ := HP.out w1 hB1
    have hszB := hB.size
    obtain ⟨u0, u1, u2, u3⟩ := HP.out (w1.alloc (.cells #[.int .i64 3, .int .i64 0, .string ⟨#[33]⟩, .int .i64 0] 87)) (hB1.alloc (by omega) _)
    have c3' : (w1.alloc (.cells #[.int .i64 3, .int .i64 0, .string ⟨#[33]⟩, .int .i64 0] 87)).cell? ⟨w.heap.size, 3, none⟩ = some (.slice (some ⟨g, 0, none⟩) 1 sc) := by rw [World.cell?_alloc_some _ _ _ (by rw [c3]; rfl)]; exact c3
    have hol : Hid (∀ k, (Value.slice ad n c).ownBlock = some k → base ≤ k ∧ k < w.heap.size) := hide (HO.out.lt)
    clear hw1 HO
    go_region_law
      (first
        | (refine step_append_tk rfl _ _ rfl base _ n xs rfl (show World.ownsRow (World.drew _) _ _ _ _ _ _ from HO1.out.alloc _) w1.heap.size 1 (sgT ⟨#[33]⟩) rfl (heap_alloc_new w1 _) (by omega) (by show base ≤ (World.alloc w1 _).heap.size; simp; omega) ?_; intro g7 cap7 w7 hown7 hgrow7; have hB7 : Below w0.heap.size w0 w7 := hgrow7.below (belowDrew (hB1.alloc (by omega) _)) (by show w0.heap.size ≤ (World.alloc w1 _).heap.size; simp; omega) (fun k hk => Nat.le_trans hb0 (hol.out k hk).1); have hs7 : w1.heap.size + 1 ≤ w7.heap.size := (by have := hgrow7.g.size; have e : (World.drew (World.alloc w1 (.cells #[.int .i64 3, .int .i64 0, .string ⟨#[33]⟩, .int .i64 0] 87))).heap.size = w1.heap.size + 1 := (by show (World.alloc w1 _).heap.size = _; simp); omega); have r3 : w7.cell? ⟨w.heap.size, 3, none⟩ = some (.slice (some ⟨g, 0, none⟩) 1 sc) := hgrow7.cell (by show (World.alloc w1 _).cell? _ = _; rw [World.cell?_alloc_some _ _ _ (by rw [c3]; rfl)]; exact c3) (fun k hk => by have := (hol.out k hk).2; omega); obtain ⟨t0, t1, t2, t3⟩ := HP.out w7 hB7; have HO7 := hide hown7; have HB7 := hide hB7; have HG7 := hide (HG1.out.trans ((GA.alloc w1 _ _).trans ((GA.drew _ _).trans hgrow7))); clear hown7 hgrow7 hB7)
        | (go_simp; go_wp2_with (go_at_call 53; refine Calls.mono (IH.out _ _ HB7.out (by omega) HO7.out) ?_; rintro e w8 ⟨v8, rfl, hown8, hg8⟩; obtain ⟨ad8, c8, rfl⟩ := xOwn_form hown8; have HO8 := hide hown8; have HG8 := hide (HG7.out.trans hg8); clear hown8 hg8)))
    all_goals
      go_wp2_with fail
      go_ret
      refine ⟨.slice ad8 (n + 1 + (tks a 8).length) c8, rfl, ?_, HG8.out⟩
      have h8 := HO8.out
      have e9 : n + 1 + (tks a 8).length = n + ((tks a 8).length + 1) := by omega
      rw [← List.append_assoc, ← e9]
      exact h8
end Go.Proofs.YtjffignbiabmaaaDoor.W.T
