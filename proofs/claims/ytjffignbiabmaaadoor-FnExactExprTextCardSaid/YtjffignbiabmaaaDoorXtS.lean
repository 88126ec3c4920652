/-
  Tokens of an expression, the specification's: the contract of l2Signs. Conditions: at most 1048576 tokens.
-/
import Derived.Test.YtjffignbiabmaaaDoorXtM
namespace Go.Proofs.YtjffignbiabmaaaDoor.W.T
open Go.ChangeShapes Go.WideShapes Go.ChangeAt Go.RowKit
set_option linter.unusedVariables false

def L2SGoalB (M : Nat) (e : E) (least : Int) : Prop := ∀ (s v : Value) (lo base n : Nat) (xs : List Value) (w0 w : World), TrK w0 lo e s → Below w0.heap.size w0 w → w0.heap.size ≤ base → base ≤ w.heap.size → n + 3 * e.flat.length ≤ M → w.ownsRow base 87 4 v n xs →
    Calls Tryd.prog 53 #[.agg #[.int .i64 e.head.k, .int .i64 e.head.n, .string e.head.t, s], .int .i64 least, v] w fun x w' => ∃ v', x = .returned v' ∧ w'.ownsRow base 87 4 v' (n + (tks e least).length) (xs ++ tkC (tks e least)) ∧ GA w v w' v'
def L2SGoal (e : E) (least : Int) : Prop := L2SGoalB 100000 e least
theorem L2SGoalB.to {M : Nat} {e : E} {least : Int} (h : L2SGoalB M e least) (hM : 100000 ≤ M) : L2SGoal e least := fun s v lo base n xs w0 w h1 h2 h3 h4 h5 h6 => h s v lo base n xs w0 w h1 h2 h3 h4 (by omega) h6

set_option maxRecDepth 20000 in
set_option maxHeartbeats 2000000 in
theorem l2Signs_leaf (x : Xx) (hok : (E.leaf x).ok) (least : Int) : L2SGoal (.leaf x) least := by
  intro s v lo base n xs w0 w hT hB hb0 hb hn hown
  obtain ⟨hg, hb0'⟩ := hok
  obtain ⟨sad, sc, rfl, -⟩ := TrK.kid hT
  obtain ⟨ad, c, rfl⟩ := xOwn_form hown
  have hk := behind_0 hg hb0'
  have HO := hide hown
  have hhd : (E.leaf x).head = x := rfl
  rw [hhd]
  have hn' : n ≤ 100000 := by omega
  have e1 : tks (.leaf x) least = [leafT x] := rfl
  rw [e1, tkC_one, List.length_singleton]
  clear hT hown hg hb0' hhd hn e1
  obtain ⟨xk, xn, xt⟩ := x
  simp only at *
  rcases hk with rfl | rfl
  · go_enter Tryd.func53, Tryd.ntmps53
    go_wp2_with (at_builtin; refine wpList_append_tk rfl _ _ rfl base _ n xs rfl ((HO.out.alloc _).alloc _) (w.heap.size + 1) 1 ⟨1, xn, ⟨#[]⟩, 0⟩ rfl (by have := heap_alloc_new (w.alloc (.cells #[.int .i64 1, .int .i64 xn, .string xt, .slice sad (E.leaf ⟨1, xn, xt⟩).kids.length sc] 79)) (.cells #[.int .i64 1, .int .i64 xn, .string ⟨#[]⟩, .int .i64 0] 87); simpa using this) (by omega) (by simp; omega) ?_)
    intro v' w2 hown2 hgrow
    have HG2 := hide (((GA.alloc w (.slice ad n c) _).trans (GA.alloc _ _ _)).trans hgrow)
    obtain ⟨ad2, c2, rfl⟩ := xOwn_form hown2
    have HO2 := hide hown2
    clear hown2 hgrow
    go_wp2_with fail
    go_ret
    exact ⟨_, rfl, HO2.out, HG2.out⟩
  · go_enter Tryd.func53, Tryd.ntmps53
    go_wp2_with (at_builtin; refine wpList_append_tk rfl _ _ rfl base _ n xs rfl ((HO.out.alloc _).alloc _) (w.heap.size + 1) 1 ⟨2, 0, xt, 0⟩ rfl (by have := heap_alloc_new (w.alloc (.cells #[.int .i64 2, .int .i64 xn, .string xt, .slice sad (E.leaf ⟨2, xn, xt⟩).kids.length sc] 79)) (.cells #[.int .i64 2, .int .i64 0, .string xt, .int .i64 0] 87); simpa using this) (by omega) (by simp; omega) ?_)
    intro v' w2 hown2 hgrow
    have HG2 := hide (((GA.alloc w (.slice ad n c) _).trans (GA.alloc _ _ _)).trans hgrow)
    obtain ⟨ad2, c2, rfl⟩ := xOwn_form hown2
    have HO2 := hide hown2
    clear hown2 hgrow
    go_wp2_with fail
    go_ret
    exact ⟨_, rfl, HO2.out, HG2.out⟩
end Go.Proofs.YtjffignbiabmaaaDoor.W.T
