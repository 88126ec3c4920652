/-
  Whether a row of cells is a good term without free variables: the contract of isClosed. Conditions: at most 1048576 cells.
-/
import Derived.Test.YtnmkbpflbfhpnaaTeI
import Derived.Test.YtnmkbpflbfhpnaaTeH
import Derived.Test.YtnmkbpflbfhpnaaMaP
import Derived.Test.YtnmkbpflbfhpnaaRwG
namespace Go.Proofs.Ytnmkbpflbfhpnaa.W
open Go.ChangeShapes Go.WideShapes Go.ChangeAt Go.RowKit
set_option linter.unusedVariables false

/-- Is it a good term without free variables? -/
def closed (l : List Cc) : Bool := (closedT l).isSome
set_option maxHeartbeats 1000000 in
theorem isClosed_any (ad : Option Addr) (c : Nat) (l : List Cc) (w : World) (hl : l.length ≤ 1048576) (hcap : l.length ≤ c) (h : CRow w ad l) :
    Calls Try.prog 20 #[.slice ad l.length c] w fun e w' => e = .returned (.bool (closed l)) ∧ Below w.heap.size w w' := by
  cases ht : treeT l with
  | none =>
    have HC := hide (implFreeIn_none ad c l w hl h ht)
    have hcl : closed l = false := by unfold closed closedT; rw [ht]; rfl
    rw [hcl]
    clear h ht hcl
    go_enter Try.func20, Try.ntmps20
    go_wp2_with fail
    refine HC.out.mono ?_
    rintro e w1 ⟨rfl, hb1⟩
    go_wp2_with fail
    go_ret
    exact ⟨rfl, hb1⟩
  | some a =>
    obtain ⟨t1, t2, t3, t4, -⟩ := treeT_flat ht
    obtain ⟨x, k, rfl⟩ := F.len_1 t3
    have HC := hide (implFreeIn_some ad c l _ w hl hcap h ht x k rfl)
    rw [marked_bits x k t2] at HC
    have hcl : closed l = decide ((fr1 0 x k []).length = 0) := by
      unfold closed closedT
      rw [ht]
      dsimp only
      by_cases hf : fr1 0 x k [] = []
      · rw [if_pos (show freT (.cons x k .nil) = [] from hf), hf]; rfl
      · rw [if_neg (show ¬ freT (.cons x k .nil) = [] from hf), decide_eq_false (fun e => hf (List.eq_nil_of_length_eq_zero e))]; rfl
    rw [hcl]
    obtain ⟨NL, hNL⟩ : ∃ NL, NL = (fr1 0 x k []).length := ⟨_, rfl⟩
    rw [← hNL] at HC ⊢
    clear h ht hcl t1 t2 t3 t4 hNL
    by_cases h0 : NL = 0
    · subst h0
      go_enter Try.func20, Try.ntmps20
      go_wp2_with fail
      refine HC.out.mono ?_
      rintro e w1 ⟨s', rfl, ho, hb1⟩
      obtain ⟨sa, sc, rfl⟩ := own_form ho
      clear ho
      go_wp2_with fail
      go_ret
      exact ⟨rfl, hb1⟩
    · have h0' : ¬ (NL : Int) = 0 := by omega
      rw [decide_eq_false h0]
      go_enter Try.func20, Try.ntmps20
      go_wp2_with fail
      refine HC.out.mono ?_
      rintro e w1 ⟨s', rfl, ho, hb1⟩
      obtain ⟨sa, sc, rfl⟩ := own_form ho
      clear ho
      go_wp2_with fail
      go_ret
      exact ⟨ret_bool (by simpa using h0'), hb1⟩
end Go.Proofs.Ytnmkbpflbfhpnaa.W
