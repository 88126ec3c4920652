/-
  Tokens of an expression, the specification's: l2Signs at an expression of two parts. Conditions: at most 100000 tokens.
-/
import Derived.Test.YtjffignbiabmaaaDoorXtU
namespace Go.Proofs.YtjffignbiabmaaaDoor.W.T
open Go.ChangeShapes Go.WideShapes Go.ChangeAt Go.RowKit
set_option linter.unusedVariables false

/-- What stands without brackets. -/
def inn (x : Xx) (a b : E) : List Tk := tks a (lL (strN x.t)) ++ sgT x.t :: tks b (lR (strN x.t))

theorem look_le (s : List UInt8) : ∀ l : List (List UInt8 × Int), (∀ x ∈ l, x.2 ≤ 7) → look s l ≤ 7
  | [], _ => by simp [look]
  | x :: l, h => by
    unfold look
    split
    · exact h x (by simp)
    · exact look_le s l (fun y hy => h y (by simp [hy]))
theorem strN_le (s : ByteArray) : strN s ≤ 7 := look_le _ _ (by decide)

set_option maxRecDepth 20000 in
set_option maxHeartbeats 4000000 in
theorem l2Signs_in (x : Xx) (a b : E) (hok : (E.two x a b).ok) (iha : L2SGoal a (lL (strN x.t))) (ihb : L2SGoal b (lR (strN x.t))) (least : Int) (hle : least ≤ strN x.t) : L2SGoalB 100002 (.two x a b) least := by
  intro s v lo base n xs w0 w hT hB hb0 hb hn hown
  obtain ⟨hg, hb1, -⟩ := hok
  have hk := behind_2 hb1
  obtain ⟨sad, sc, rfl, hkid⟩ := TrK.kid hT
  obtain ⟨g, si, rfl, hg0, hTa, p0, p1, p2, p3⟩ := hkid 0 (by simp [E.kids])
  obtain ⟨g', sj, hgg, -, hTb, p4, p5, p6, p7⟩ := hkid 1 (by simp [E.kids])
  simp only [Option.some.injEq, Addr.mk.injEq, and_true] at hgg
  subst hgg
  simp only [E.kids, List.getElem_cons_zero, List.getElem_cons_succ, Nat.zero_mul, Nat.zero_add, Nat.one_mul, Nat.reduceAdd] at hTa hTb p0 p1 p2 p3 p4 p5 p6 p7
  obtain ⟨ad, c, rfl⟩ := xOwn_form hown
  have HO := hide hown
  have hhd : (E.two x a b).head = x := rfl
  rw [hhd]
  have hla := (tks_len a (lL (strN x.t))).1
  have hlb := (tks_len b (lR (strN x.t))).1
  have hnn : n + 3 * a.flat.length ≤ 100000 := by simp [E.flat] at hn; omega
  have hnb : n + (tks a (lL (strN x.t))).length + 1 + 3 * b.flat.length ≤ 100000 := by simp [E.flat] at hn; omega
  have hn' : n + (tks a (lL (strN x.t))).length ≤ 100000 := by omega
  have e1 : tks (.two x a b) least = inn x a b := if_neg (by omega)
  rw [e1]
  have IA : Hid (∀ (w1 : World), Below w0.heap.size w0 w1 → base ≤ w1.heap.size → w1.ownsRow base 87 4 (.slice ad n c) n xs → Calls Tryd.prog 53 #[.agg #[.int .i64 a.head.k, .int .i64 a.head.n, .string a.head.t, si], .int .i64 (lL (strN x.t)), .slice ad n c] w1 fun z w' => ∃ v', z = .returned v' ∧ w'.ownsRow base 87 4 v' (n + (tks a (lL (strN x.t))).length) (xs ++ tkC (tks a (lL (strN x.t)))) ∧ GA w1 (.slice ad n c) w' v') := fun w1 h1 h2 h3 => iha si _ lo base n xs w0 w1 hTa h1 hb0 h2 hnn h3
  obtain ⟨n2, hn2⟩ : ∃ n2, n2 = n + (tks a (lL (strN x.t))).length := ⟨_, rfl⟩
  obtain ⟨xs2, hxs2⟩ : ∃ xs2, xs2 = xs ++ tkC (tks a (lL (strN x.t))) := ⟨_, rfl⟩
  rw [← hn2, ← hxs2] at IA
  rw [← hn2] at hnb hn'
  have IB : Hid (∀ (v : Value) (w1 : World), Below w0.heap.size w0 w1 → base ≤ w1.heap.size → w1.ownsRow base 87 4 v (n2 + 1) (xs2 ++ tkC1 (sgT x.t)) → Calls Tryd.prog 53 #[.agg #[.int .i64 b.head.k, .int .i64 b.head.n, .string b.head.t, sj], .int .i64 (lR (strN x.t)), v] w1 fun z w' => ∃ v', z = .returned v' ∧ w'.ownsRow base 87 4 v' (n2 + 1 + (tks b (lR (strN x.t))).length) (xs2 ++ tkC1 (sgT x.t) ++ tkC (tks b (lR (strN x.t)))) ∧ GA w1 v w' v') := fun v w1 h1 h2 h3 => ihb sj v lo base (n2 + 1) _ w0 w1 hTb h1 hb0 h2 hnb h3
  have HP : Hid (∀ w1 : World, Below w0.heap.size w0 w1 → w1.cell? ⟨g, 0, none⟩ = some (.int .i64 a.head.k) ∧ w1.cell? ⟨g, 1, none⟩ = some (.int .i64 a.head.n) ∧ w1.cell? ⟨g, 2, none⟩ = some (.string a.head.t) ∧ w1.cell? ⟨g, 3, none⟩ = some si) := fun w1 h1 => ⟨(h1.cell (p := ⟨g, 0, none⟩) hg0).trans p0, (h1.cell (p := ⟨g, 1, none⟩) hg0).trans p1, (h1.cell (p := ⟨g, 2, none⟩) hg0).trans p2, (h1.cell (p := ⟨g, 3, none⟩) hg0).trans p3⟩
  have HQ : Hid (∀ w1 : World, Below w0.heap.size w0 w1 → w1.cell? ⟨g, 4, none⟩ = some (.int .i64 b.head.k) ∧ w1.cell? ⟨g, 5, none⟩ = some (.int .i64 b.head.n) ∧ w1.cell? ⟨g, 6, none⟩ = some (.string b.head.t) ∧ w1.cell? ⟨g, 7, none⟩ = some sj) := fun w1 h1 => ⟨(h1.cell (p := ⟨g, 4, none⟩) hg0).trans p4, (h1.cell (p := ⟨g, 5, none⟩) hg0).trans p5, (h1.cell (p := ⟨g, 6, none⟩) hg0).trans p6, (h1.cell (p := ⟨g, 7, none⟩) hg0).trans p7⟩
  have hfin : Hid (n2 + 1 + (tks b (lR (strN x.t))).length = n + (inn x a b).length ∧ xs2 ++ tkC1 (sgT x.t) ++ tkC (tks b (lR (strN x.t))) = xs ++ tkC (inn x a b)) := hide ⟨by rw [hn2]; unfold inn; simp; omega, by rw [hxs2]; unfold inn; rw [tkC_app, tkC_cons]; simp⟩
  have HTa := hide hTa
  have HTb := hide hTb
  clear hT hkid hown hg hb1 hhd hn e1 hTa hTb p0 p1 p2 p3 p4 p5 p6 p7 iha ihb hnn hnb hla hlb hxs2 hn2
  obtain ⟨nb, hnb⟩ : ∃ nb, nb = n2 + 1 + (tks b (lR (strN x.t))).length := ⟨_, rfl⟩
  obtain ⟨xb, hxb⟩ : ∃ xb, xb = xs2 ++ tkC1 (sgT x.t) ++ tkC (tks b (lR (strN x.t))) := ⟨_, rfl⟩
  rw [← hnb, ← hxb] at IB hfin
  clear hnb hxb
  obtain ⟨xk, xn, xt⟩ := x
  simp only at *
  have hkl : (E.two ⟨xk, xn, xt⟩ a b).kids.length = 2 := rfl
  rw [hkl]
  have HS := hide (fun w => l2Strength_any xt w)
  have hS0 := strN_nonneg xt
  have hS9 : strN xt ≤ 7 := strN_le xt
  subst hk
  obtain ⟨N, hN⟩ : ∃ N, N = strN xt := ⟨_, rfl⟩
  rw [← hN] at HS IA IB hS0 hS9 hle
  have HN := hide hN
  clear hN
  have hlt : ¬ N < least := by omega
  have c0 : w.cell? ⟨g, 0, none⟩ = some (.int .i64 a.head.k) := (HP.out w hB).1
  have hszB := hB.size
  have hol : Hid (∀ k, (Value.slice ad n c).ownBlock = some k → base ≤ k ∧ k < w.heap.size) := hide (HO.out.lt)
  have hfa := TrK.form HTa.out
  have hfb := TrK.form HTb.out
  clear HTa HTb
  by_cases h7 : N = 7
  · subst h7
    have eL : lL 7 = 8 := by decide
    have eR : lR 7 = 7 := by decide
    rw [eL] at IA
    rw [eR] at IB
    clear eL eR HN hS0 hS9
    obtain ⟨u0, u1, u2, u3⟩ := HP.out (w.alloc (.cells #[.int .i64 5, .int .i64 xn, .string xt, .slice (some ⟨g, 0, none⟩) 2 sc] 79)) (hB.alloc hszB _)
    obtain ⟨siad, sin, sic, rfl⟩ := hfa
    obtain ⟨sjad, sjn, sjc, rfl⟩ := hfb
    go_enter Tryd.func53, Tryd.ntmps53
    go_wp2_with (first | (go_at_call 83; refine (HS.out _).mono ?_; rintro e w' ⟨rfl, rfl⟩))
    refine Calls.mono (IA.out _ (hB.alloc hszB _) (by simp; omega) (HO.out.alloc _)) ?_
    rintro e w2 ⟨v2, rfl, hown2, hg2⟩
    obtain ⟨ad2, cc2, rfl⟩ := xOwn_form hown2
    have hb2 : Below w0.heap.size w0 w2 := hg2.below (hB.alloc hszB _) (by simp; omega) (fun k hk => by have := (hol.out k hk).1; omega)
    have hs2 : w.heap.size < w2.heap.size := by have := hg2.g.size; simp at this; omega
    have d2 : w2.cell? ⟨w.heap.size, 2, none⟩ = some (.string xt) := hg2.cell (by rw [cell_of_blk (heap_alloc_new w _)]; rfl) (fun k hk => by have := (hol.out k hk).2; omega)
    have d3 : w2.cell? ⟨w.heap.size, 3, none⟩ = some (.slice (some ⟨g, 0, none⟩) 2 sc) := hg2.cell (by rw [cell_of_blk (heap_alloc_new w _)]; rfl) (fun k hk => by have := (hol.out k hk).2; omega)
    have hne2 : Hid (∀ k, (Value.slice ad2 n2 cc2).ownBlock = some k → k ≠ w.heap.size) := hide (hg2.ne (by simp) (fun k hk => by have := (hol.out k hk).2; omega))
    have HG2 := hide ((GA.alloc w (.slice ad n c) _).trans hg2)
    have HO2 := hide hown2
    have hol2 : Hid (∀ k, (Value.slice ad2 n2 cc2).ownBlock = some k → base ≤ k ∧ k < w2.heap.size) := hide (hown2.lt)
    clear hown2 hg2 u0 u1 u2 u3 c0
    go_wp2_with (at_builtin; refine wpList_append_tk rfl _ _ rfl base _ n2 xs2 rfl (HO2.out.alloc _) w2.heap.size 1 (sgT xt) rfl (heap_alloc_new w2 _) (by omega) (by simp; omega) ?_)
    intro v3 w3 hown3 hg3
    obtain ⟨ad3, cc3, rfl⟩ := xOwn_form hown3
    have hs3 : w2.heap.size < w3.heap.size := by have := hg3.g.size; simp at this; omega
    have f3 : w3.cell? ⟨w.heap.size, 3, none⟩ = some (.slice (some ⟨g, 0, none⟩) 2 sc) := hg3.cell (by rw [World.cell?_alloc_some _ _ _ (by rw [d3]; rfl)]; exact d3) hne2.out
    have hb3 : Below w0.heap.size w0 w3 := hg3.below (hb2.alloc (by omega) _) (by simp; omega) (fun k hk => by have := (hol2.out k hk).1; omega)
    obtain ⟨u4, u5, u6, u7⟩ := HQ.out w3 hb3
    have HG3 := hide (HG2.out.trans ((GA.alloc w2 _ _).trans hg3))
    have HO3 := hide hown3
    clear hown3 hg3 d2 d3
    go_wp2_with fail
    refine Calls.mono (IB.out _ _ hb3 (by omega) HO3.out) ?_
    rintro e w4 ⟨v4, rfl, hown4, hg4⟩
    obtain ⟨ad4, cc4, rfl⟩ := xOwn_form hown4
    have HO4 := hide hown4
    have HG4 := hide (HG3.out.trans hg4)
    clear hown4 hg4
    go_wp2_with fail
    go_ret
    rw [← hfin.out.1, ← hfin.out.2]
    exact ⟨_, rfl, HO4.out, HG4.out⟩
  · have eL : lL N = N := if_neg h7
    have eR : lR N = N + 1 := if_neg h7
    rw [eL] at IA
    rw [eR] at IB
    have h7' : (N == 7) = false := by simpa using h7
    have ew : IntKind.i64.wrap (N + 1) = N + 1 := Go.IntWalk.i64_in _ ⟨by omega, by omega⟩
    clear eL eR HN
    obtain ⟨u0, u1, u2, u3⟩ := HP.out (w.alloc (.cells #[.int .i64 5, .int .i64 xn, .string xt, .slice (some ⟨g, 0, none⟩) 2 sc] 79)) (hB.alloc hszB _)
    obtain ⟨siad, sin, sic, rfl⟩ := hfa
    obtain ⟨sjad, sjn, sjc, rfl⟩ := hfb
    go_enter Tryd.func53, Tryd.ntmps53
    go_wp2_with (first | (go_at_call 83; refine (HS.out _).mono ?_; rintro e w' ⟨rfl, rfl⟩))
    refine Calls.mono (IA.out _ (hB.alloc hszB _) (by simp; omega) (HO.out.alloc _)) ?_
    rintro e w2 ⟨v2, rfl, hown2, hg2⟩
    obtain ⟨ad2, cc2, rfl⟩ := xOwn_form hown2
    have hb2 : Below w0.heap.size w0 w2 := hg2.below (hB.alloc hszB _) (by simp; omega) (fun k hk => by have := (hol.out k hk).1; omega)
    have hs2 : w.heap.size < w2.heap.size := by have := hg2.g.size; simp at this; omega
    have d2 : w2.cell? ⟨w.heap.size, 2, none⟩ = some (.string xt) := hg2.cell (by rw [cell_of_blk (heap_alloc_new w _)]; rfl) (fun k hk => by have := (hol.out k hk).2; omega)
    have d3 : w2.cell? ⟨w.heap.size, 3, none⟩ = some (.slice (some ⟨g, 0, none⟩) 2 sc) := hg2.cell (by rw [cell_of_blk (heap_alloc_new w _)]; rfl) (fun k hk => by have := (hol.out k hk).2; omega)
    have hne2 : Hid (∀ k, (Value.slice ad2 n2 cc2).ownBlock = some k → k ≠ w.heap.size) := hide (hg2.ne (by simp) (fun k hk => by have := (hol.out k hk).2; omega))
    have HG2 := hide ((GA.alloc w (.slice ad n c) _).trans hg2)
    have HO2 := hide hown2
    have hol2 : Hid (∀ k, (Value.slice ad2 n2 cc2).ownBlock = some k → base ≤ k ∧ k < w2.heap.size) := hide (hown2.lt)
    clear hown2 hg2 u0 u1 u2 u3 c0
    go_wp2_with (at_builtin; refine wpList_append_tk rfl _ _ rfl base _ n2 xs2 rfl (HO2.out.alloc _) w2.heap.size 1 (sgT xt) rfl (heap_alloc_new w2 _) (by omega) (by simp; omega) ?_)
    intro v3 w3 hown3 hg3
    obtain ⟨ad3, cc3, rfl⟩ := xOwn_form hown3
    have hs3 : w2.heap.size < w3.heap.size := by have := hg3.g.size; simp at this; omega
    have f3 : w3.cell? ⟨w.heap.size, 3, none⟩ = some (.slice (some ⟨g, 0, none⟩) 2 sc) := hg3.cell (by rw [World.cell?_alloc_some _ _ _ (by rw [d3]; rfl)]; exact d3) hne2.out
    have hb3 : Below w0.heap.size w0 w3 := hg3.below (hb2.alloc (by omega) _) (by simp; omega) (fun k hk => by have := (hol2.out k hk).1; omega)
    obtain ⟨u4, u5, u6, u7⟩ := HQ.out w3 hb3
    have HG3 := hide (HG2.out.trans ((GA.alloc w2 _ _).trans hg3))
    have HO3 := hide hown3
    clear hown3 hg3 d2 d3
    go_wp2_with fail
    refine Calls.mono (IB.out _ _ hb3 (by omega) HO3.out) ?_
    rintro e w4 ⟨v4, rfl, hown4, hg4⟩
    obtain ⟨ad4, cc4, rfl⟩ := xOwn_form hown4
    have HO4 := hide hown4
    have HG4 := hide (HG3.out.trans hg4)
    clear hown4 hg4
    go_wp2_with fail
    go_ret
    rw [← hfin.out.1, ← hfin.out.2]
    exact ⟨_, rfl, HO4.out, HG4.out⟩
end Go.Proofs.YtjffignbiabmaaaDoor.W.T
