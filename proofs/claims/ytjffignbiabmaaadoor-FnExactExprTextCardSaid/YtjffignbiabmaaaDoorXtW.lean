/-
  Tokens of an expression, the specification's: the contract of l2Signs. Conditions: at most 100000 tokens.
-/
import Derived.Test.YtjffignbiabmaaaDoorXtV
namespace Go.Proofs.YtjffignbiabmaaaDoor.W.T
open Go.ChangeShapes Go.WideShapes Go.ChangeAt Go.RowKit
set_option linter.unusedVariables false

set_option maxRecDepth 20000 in
set_option maxHeartbeats 4000000 in
theorem l2Signs_br (x : Xx) (a b : E) (hok : (E.two x a b).ok) (ihi : L2SGoalB 100002 (.two x a b) 1) (least : Int) (h1 : 1 ≤ strN x.t) (hlt : strN x.t < least) : L2SGoal (.two x a b) least := by
  intro s v lo base n xs w0 w hT hB hb0 hb hn hown
  obtain ⟨hg, hb1, -⟩ := hok
  have hk := behind_2 hb1
  obtain ⟨sad, sn, sc, rfl⟩ := TrK.form hT
  obtain ⟨ad, c, rfl⟩ := xOwn_form hown
  have HO := hide hown
  have hhd : (E.two x a b).head = x := rfl
  have e1 : tks (.two x a b) least = sgT ⟨#[40]⟩ :: inn x a b ++ [sgT ⟨#[41]⟩] := if_pos hlt
  have e2 : tks (.two x a b) 1 = inn x a b := if_neg (by omega)
  have hli := (tks_len (.two x a b) least).1
  rw [e1] at hli ⊢
  have hfl : (inn x a b).length + 2 ≤ 3 * (E.two x a b).flat.length := by simpa using hli
  have HI : Hid (∀ (v : Value) (w1 : World), Below w0.heap.size w0 w1 → base ≤ w1.heap.size → w1.ownsRow base 87 4 v (n + 1) (xs ++ tkC1 (sgT ⟨#[40]⟩)) → Calls Tryd.prog 53 #[.agg #[.int .i64 x.k, .int .i64 x.n, .string x.t, .slice sad sn sc], .int .i64 1, v] w1 fun z w' => ∃ v', z = .returned v' ∧ w'.ownsRow base 87 4 v' (n + 1 + (inn x a b).length) (xs ++ tkC1 (sgT ⟨#[40]⟩) ++ tkC (inn x a b)) ∧ GA w1 v w' v') := fun v w1 h1 h2 h3 => by
    have := ihi (.slice sad sn sc) v lo base (n + 1) _ w0 w1 hT h1 hb0 h2 (by omega) h3
    rw [e2] at this
    exact this
  rw [hhd]
  have hfin : Hid (n + 1 + (inn x a b).length + 1 = n + (sgT ⟨#[40]⟩ :: inn x a b ++ [sgT ⟨#[41]⟩]).length ∧ xs ++ tkC1 (sgT ⟨#[40]⟩) ++ tkC (inn x a b) ++ tkC1 (sgT ⟨#[41]⟩) = xs ++ tkC (sgT ⟨#[40]⟩ :: inn x a b ++ [sgT ⟨#[41]⟩])) := hide ⟨by simp; omega, by rw [tkC_app, tkC_cons, tkC_one]; simp⟩
  obtain ⟨n2, hn2⟩ : ∃ n2, n2 = n + 1 + (inn x a b).length := ⟨_, rfl⟩
  obtain ⟨xs2, hxs2⟩ : ∃ xs2, xs2 = xs ++ tkC1 (sgT ⟨#[40]⟩) ++ tkC (inn x a b) := ⟨_, rfl⟩
  rw [← hn2, ← hxs2] at HI hfin
  have hn' : n ≤ 100000 := by omega
  have hn3 : n2 ≤ 100000 := by omega
  clear hT hown hg hb1 hhd hn e1 e2 hli hfl hn2 hxs2 ihi
  have HS := hide (fun w => l2Strength_any x.t w)
  have hS9 := strN_le x.t
  obtain ⟨xk, xn, xt⟩ := x
  simp only at *
  subst hk
  obtain ⟨N, hN⟩ : ∃ N, N = strN xt := ⟨_, rfl⟩
  rw [← hN] at HS hlt h1 hS9
  clear hN
  have hszB := hB.size
  have hol : Hid (∀ k, (Value.slice ad n c).ownBlock = some k → base ≤ k ∧ k < w.heap.size) := hide (HO.out.lt)
  go_enter Tryd.func53, Tryd.ntmps53
  go_wp2_with (first | (go_at_call 83; refine (HS.out _).mono ?_; rintro e w' ⟨rfl, rfl⟩) | (at_builtin; refine wpList_append_tk rfl _ _ rfl base _ n xs rfl ((HO.out.alloc _).alloc _) (w.heap.size + 1) 1 (sgT ⟨#[40]⟩) rfl (by have := heap_alloc_new (w.alloc (.cells #[.int .i64 5, .int .i64 xn, .string xt, .slice sad sn sc] 79)) (.cells #[.int .i64 3, .int .i64 0, .string ⟨#[40]⟩, .int .i64 0] 87); rw [World.size_alloc] at this; exact this) (by omega) (by simp; omega) ?_))
  intro v2 w2 hown2 hg2
  obtain ⟨ad2, cc2, rfl⟩ := xOwn_form hown2
  have hb2 : Below w0.heap.size w0 w2 := hg2.below ((hB.alloc hszB _).alloc (by simp; omega) _) (by simp; omega) (fun k hk => by have := (hol.out k hk).1; omega)
  have hs2 : w.heap.size < w2.heap.size := by have := hg2.g.size; simp at this; omega
  have d : ∀ (i : Nat) (u : Value), (w.alloc (.cells #[.int .i64 5, .int .i64 xn, .string xt, .slice sad sn sc] 79)).cell? ⟨w.heap.size, i, none⟩ = some u → w2.cell? ⟨w.heap.size, i, none⟩ = some u := fun i u h => hg2.cell (by rw [World.cell?_alloc_some _ _ _ (by rw [h]; rfl)]; exact h) (fun k hk => by have := (hol.out k hk).2; omega)
  have d0 := d 0 (.int .i64 5) (by rw [cell_of_blk (heap_alloc_new w _)]; rfl)
  have d1 := d 1 (.int .i64 xn) (by rw [cell_of_blk (heap_alloc_new w _)]; rfl)
  have d2 := d 2 (.string xt) (by rw [cell_of_blk (heap_alloc_new w _)]; rfl)
  have d3 := d 3 (.slice sad sn sc) (by rw [cell_of_blk (heap_alloc_new w _)]; rfl)
  have HG2 := hide (((GA.alloc w (.slice ad n c) _).trans (GA.alloc _ _ _)).trans hg2)
  have HO2 := hide hown2
  clear hown2 hg2 d
  go_wp2_with fail
  refine Calls.mono (HI.out _ _ hb2 (by omega) HO2.out) ?_
  rintro e w3 ⟨v3, rfl, hown3, hg3⟩
  obtain ⟨ad3, cc3, rfl⟩ := xOwn_form hown3
  have hs3 : w2.heap.size ≤ w3.heap.size := hg3.g.size
  have HG3 := hide (HG2.out.trans hg3)
  have HO3 := hide hown3
  clear hown3 hg3 d0 d1 d2 d3
  go_wp2_with (at_builtin; refine wpList_append_tk rfl _ _ rfl base _ n2 xs2 rfl (HO3.out.alloc _) w3.heap.size 1 (sgT ⟨#[41]⟩) rfl (heap_alloc_new w3 _) (by omega) (by simp; omega) ?_)
  intro v4 w4 hown4 hg4
  obtain ⟨ad4, cc4, rfl⟩ := xOwn_form hown4
  have HO4 := hide hown4
  have HG4 := hide (HG3.out.trans ((GA.alloc w3 _ _).trans hg4))
  clear hown4 hg4
  go_wp2_with fail
  go_ret
  have e3 := hfin.out
  simp only [List.cons_append, List.length_cons] at e3
  rw [← e3.1, ← e3.2]
  exact ⟨_, rfl, HO4.out, HG4.out⟩

theorem two_pos {x : Xx} {a b : E} (h : (E.two x a b).ok) : 1 ≤ strN x.t := by
  obtain ⟨hg, hb, -⟩ := h
  have hk := behind_2 hb
  have h0 := strN_nonneg x.t
  simp [goodX, hk] at hg
  omega

theorem l2Signs_any : ∀ (e : E), e.ok → ∀ least, L2SGoal e least
  | .leaf x, h, m => l2Signs_leaf x h m
  | .one x a, h, m => l2Signs_one x a h (l2Signs_any a h.2.2 8) m
  | .two x a b, h, m => by
    have hp := two_pos h
    have hi := fun m hm => l2Signs_in x a b h (l2Signs_any a h.2.2.1 _) (l2Signs_any b h.2.2.2 _) m hm
    by_cases hm : m ≤ strN x.t
    · exact (hi m hm).to (by decide)
    · exact l2Signs_br x a b h (hi 1 hp) m hp (by omega)
end Go.Proofs.YtjffignbiabmaaaDoor.W.T
