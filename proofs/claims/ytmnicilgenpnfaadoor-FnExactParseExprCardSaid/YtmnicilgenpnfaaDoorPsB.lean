/-
  The specification's reader: the contract of sign. Conditions: at most 1000 tokens.
-/
import Derived.Test.YtmnicilgenpnfaaDoorPsA
import Derived.Lib.QuietBelow
namespace Go.Proofs.YtmnicilgenpnfaaDoor.W
open Go.ChangeShapes Go.WideShapes Go.ChangeAt Go.RowKit
set_option linter.unusedVariables false
set_option linter.unusedSimpArgs false

set_option maxRecDepth 20000 in
set_option maxHeartbeats 4000000 in
theorem sign_old (g : Nat) (ta : Option Addr) (n tc p en : Nat) (b : Int) (t : Bool) (s : ByteArray) (w : World) (h : 0 ≤ b) (hb : Bk w g (spC ta n tc p en b t) 33) :
    Calls Tryd.prog 28 #[.pointer (some ⟨g, 0, none⟩), .string s] w fun e w' => e = .returned (.bool false) ∧ Below w.heap.size w w' := by
  have C3 := cell_regrown ((hb.c 3).trans rfl : w.cell? ⟨g, 3, none⟩ = some (.int .i64 b))
  have C0 := cell_regrown ((hb.c 0).trans rfl : w.cell? ⟨g, 0, none⟩ = some (.slice ta n tc))
  have C1 := cell_regrown ((hb.c 1).trans rfl : w.cell? ⟨g, 1, none⟩ = some (.int .i64 (p : Int)))
  have h' : ¬ b < 0 := by omega
  have h2 : decide (b < 0) = false := decide_eq_false h'
  clear hb
  go_enter Tryd.func28, Tryd.ntmps28
  go_wp2_with fail
  refine wp_region_quiet_below (by kernel_rfl) (by kernel_rfl) ?_
  repeat (go_big_quiet_step (fail))
  refine wpQuiet_nil ?_
  intro _ hw'
  obtain ⟨⟨dq, osq⟩, hw''⟩ := hw'
  subst hw''
  go_wp2_with fail
  go_ret
  exact ⟨rfl, below_regrown w dq osq⟩

set_option maxRecDepth 20000 in
set_option maxHeartbeats 4000000 in
theorem sign_new (g : Nat) (ta : Option Addr) (tc : Nat) (l : List T.Tk) (p en : Nat) (t : Bool) (s : ByteArray) (w : World) (hl : l.length ≤ 1000) (hp : p ≤ l.length) (hb : Bk w g (spC ta l.length tc p en (-1) t) 33) (hr : T.Row w ta l) :
    Calls Tryd.prog 28 #[.pointer (some ⟨g, 0, none⟩), .string s] w fun e w' => e = .returned (.bool (sqAt l p s.data.toList)) ∧ Below w.heap.size w w' := by
  have C0 := cell_regrown ((hb.c 0).trans rfl : w.cell? ⟨g, 0, none⟩ = some (.slice ta l.length tc))
  have C1 := cell_regrown ((hb.c 1).trans rfl : w.cell? ⟨g, 1, none⟩ = some (.int .i64 (p : Int)))
  have C3 := cell_regrown ((hb.c 3).trans rfl : w.cell? ⟨g, 3, none⟩ = some (.int .i64 (-1)))
  have hp0 : (0 : Int) ≤ (p : Int) := by omega
  by_cases hlt : p < l.length
  · have hlt' : (p : Int) < (l.length : Int) := by omega
    obtain ⟨b, o, rfl, hbl, q0, -, q2, -⟩ := hr.tok (Below.refl _ _) hlt
    have hk : sqAt l p s.data.toList = (decide (l[p].k = 3) && decide (l[p].t.data.toList = s.data.toList)) := by unfold sqAt; rw [List.getElem?_eq_getElem hlt]
    rw [hk]
    obtain ⟨x, hx⟩ : ∃ x, x = l[p] := ⟨_, rfl⟩
    rw [← hx] at q0 q2 ⊢
    obtain ⟨xk, xn, xt, xa⟩ := x
    simp only at q0 q2 ⊢
    have Q0 := cell_regrown q0
    have Q2 := cell_regrown q2
    clear hx hk hr hb q0 q2
    by_cases hxk : xk = 3
    · subst hxk
      by_cases hxs : xt.data.toList = s.data.toList
      · have hxb : (xt.toList == s.toList) = true := by rw [Lib.toList_data, Lib.toList_data, hxs]; exact beq_self_eq_true _
        rw [decide_eq_true rfl, decide_eq_true hxs]
        clear hxs
        go_enter Tryd.func28, Tryd.ntmps28
        go_wp2_with fail
        refine wp_region_quiet_below (by kernel_rfl) (by kernel_rfl) ?_
        repeat (go_big_quiet_step (fail))
        refine wpQuiet_nil ?_
        intro _ hw'
        obtain ⟨⟨dq, osq⟩, hw''⟩ := hw'
        subst hw''
        go_wp2_with fail
        go_ret
        exact ⟨rfl, below_regrown w dq osq⟩
      · have hxb : (xt.toList == s.toList) = false := by rw [Lib.toList_data, Lib.toList_data]; exact beq_eq_false_iff_ne.2 hxs
        rw [decide_eq_true rfl, decide_eq_false hxs]
        clear hxs
        go_enter Tryd.func28, Tryd.ntmps28
        go_wp2_with fail
        refine wp_region_quiet_below (by kernel_rfl) (by kernel_rfl) ?_
        repeat (go_big_quiet_step (fail))
        refine wpQuiet_nil ?_
        intro _ hw'
        obtain ⟨⟨dq, osq⟩, hw''⟩ := hw'
        subst hw''
        go_wp2_with fail
        go_ret
        exact ⟨rfl, below_regrown w dq osq⟩
    · have hxb : (xk == 3) = false := by simpa using hxk
      rw [decide_eq_false hxk]
      go_enter Tryd.func28, Tryd.ntmps28
      go_wp2_with fail
      refine wp_region_quiet_below (by kernel_rfl) (by kernel_rfl) ?_
      repeat (go_big_quiet_step (fail))
      refine wpQuiet_nil ?_
      intro _ hw'
      obtain ⟨⟨dq, osq⟩, hw''⟩ := hw'
      subst hw''
      go_wp2_with fail
      go_ret
      exact ⟨rfl, below_regrown w dq osq⟩
  · have hlt' : ¬ (p : Int) < (l.length : Int) := by omega
    have hk : sqAt l p s.data.toList = false := by unfold sqAt; rw [List.getElem?_eq_none (by omega)]
    rw [hk]
    clear hk hr hb
    go_enter Tryd.func28, Tryd.ntmps28
    go_wp2_with fail
    refine wp_region_quiet_below (by kernel_rfl) (by kernel_rfl) ?_
    repeat (go_big_quiet_step (fail))
    refine wpQuiet_nil ?_
    intro _ hw'
    obtain ⟨⟨dq, osq⟩, hw''⟩ := hw'
    subst hw''
    go_wp2_with fail
    go_ret
    exact ⟨rfl, below_regrown w dq osq⟩
end Go.Proofs.YtmnicilgenpnfaaDoor.W
