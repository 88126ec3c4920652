/-
  Numbers of expressions, the program's: contracts of doTwo, twoAt and numberAt. Conditions: the numbers are in the bound; rows of at most 1048576 parts.
-/
import Derived.Test.YtjffignbiabmaaaDoorEv2
namespace Go.Proofs.YtjffignbiabmaaaDoor.W
open Go.ChangeShapes Go.WideShapes Go.ChangeAt Go.RowKit
set_option linter.unusedVariables false

set_option maxHeartbeats 1000000 in
theorem doTwo_and (s : ByteArray) (a b : Int) (w : World) (hs : s.toList = [38, 38]) :
    Calls Tryd.prog 138 #[.string s, .int .i64 a, .int .i64 b] w fun e w' => e = .returned (.tuple #[.int .i64 (tr (b != 0)), .int .i64 0]) ∧ w' = w := by
  go_enter Tryd.func138, Tryd.ntmps138
  go_wp2_with fail
  refine (oneIf_any _ _).mono ?_
  rintro e w' ⟨rfl, rfl⟩
  go_wp2_with fail
  refine (inBound_any _ _).mono ?_
  rintro e w' ⟨rfl, rfl⟩
  rw [tr_bd]
  go_wp2_with fail
  go_ret2
  exact ⟨rfl, rfl⟩

set_option maxHeartbeats 1000000 in
theorem doTwo_or (s : ByteArray) (a b : Int) (w : World) (hs : s.toList = [124, 124]) :
    Calls Tryd.prog 138 #[.string s, .int .i64 a, .int .i64 b] w fun e w' => e = .returned (.tuple #[.int .i64 (tr (b != 0)), .int .i64 0]) ∧ w' = w := by
  go_enter Tryd.func138, Tryd.ntmps138
  go_wp2_with fail
  refine (oneIf_any _ _).mono ?_
  rintro e w' ⟨rfl, rfl⟩
  go_wp2_with fail
  refine (inBound_any _ _).mono ?_
  rintro e w' ⟨rfl, rfl⟩
  rw [tr_bd]
  go_wp2_with fail
  go_ret2
  exact ⟨rfl, rfl⟩

theorem strN_cases {s : ByteArray} (h : strN s ≠ 0) : s.toList = [38, 38] ∨ s.toList = [124, 124] ∨ s.toList = [43] ∨ s.toList = [45] ∨ s.toList = [42] ∨ s.toList = [60] ∨ s.toList = [60, 61] ∨ s.toList = [61, 61] ∨ s.toList = [33, 61] ∨ s.toList = [60, 60] ∨ s.toList = [47] ∨ s.toList = [37] := by
  unfold strN sgL at h
  simp only [look] at h
  by_cases h1 : s.toList = [38, 38]
  · exact .inl h1
  by_cases h2 : s.toList = [124, 124]
  · exact .inr (.inl h2)
  by_cases k0 : s.toList = [43]
  · simp [k0]
  by_cases k1 : s.toList = [45]
  · simp [k1]
  by_cases k2 : s.toList = [42]
  · simp [k2]
  by_cases k3 : s.toList = [60]
  · simp [k3]
  by_cases k4 : s.toList = [60, 61]
  · simp [k4]
  by_cases k5 : s.toList = [61, 61]
  · simp [k5]
  by_cases k6 : s.toList = [33, 61]
  · simp [k6]
  by_cases k7 : s.toList = [60, 60]
  · simp [k7]
  by_cases k8 : s.toList = [47]
  · simp [k8]
  by_cases k9 : s.toList = [37]
  · simp [k9]
  exfalso
  apply h
  simp [h1, h2, k0, k1, k2, k3, k4, k5, k6, k7, k8, k9]

theorem doTwo_other (s : ByteArray) (a b : Int) (w : World) (h : strN s ≠ 0) (h1 : s.toList ≠ [38, 38]) (h2 : s.toList ≠ [124, 124]) (ha : bdB a = true) (hb : bdB b = true) :
    Calls Tryd.prog 138 #[.string s, .int .i64 a, .int .i64 b] w fun e w' => e = .returned (.tuple #[.int .i64 (do2 s.toList a b).1, .int .i64 (do2 s.toList a b).2]) ∧ w' = w := by
  rcases strN_cases h with k | k | k | k | k | k | k | k | k | k | k | k
  · exact absurd k h1
  · exact absurd k h2
  · exact doTwo_add s a b w k ha hb
  · exact doTwo_sub s a b w k ha hb
  · exact doTwo_mul s a b w k ha hb
  · exact doTwo_lss s a b w k ha hb
  · exact doTwo_leq s a b w k ha hb
  · exact doTwo_eql s a b w k ha hb
  · exact doTwo_neq s a b w k ha hb
  · exact doTwo_shl s a b w k ha hb
  · exact doTwo_quo s a b w k ha hb
  · exact doTwo_rem s a b w k ha hb

theorem l2Do_other (s : ByteArray) (a b : Int) (w : World) (h : strN s ≠ 0) (h1 : s.toList ≠ [38, 38]) (h2 : s.toList ≠ [124, 124]) (ha : bdB a = true) (hb : bdB b = true) :
    Calls Tryd.prog 102 #[.string s, .int .i64 a, .int .i64 b] w fun e w' => e = .returned (.tuple #[.int .i64 (do1 s.toList a b).1, .int .i64 (do1 s.toList a b).2]) ∧ w' = w := by
  rcases strN_cases h with k | k | k | k | k | k | k | k | k | k | k | k
  · exact absurd k h1
  · exact absurd k h2
  · exact l2Do_add s a b w k ha hb
  · exact l2Do_sub s a b w k ha hb
  · exact l2Do_mul s a b w k ha hb
  · exact l2Do_lss s a b w k ha hb
  · exact l2Do_leq s a b w k ha hb
  · exact l2Do_eql s a b w k ha hb
  · exact l2Do_neq s a b w k ha hb
  · exact l2Do_shl s a b w k ha hb
  · exact l2Do_quo s a b w k ha hb
  · exact l2Do_rem s a b w k ha hb

/-- What numberAt tells: the code; and where it is 0 the number and the place behind. -/
def NOut (ns : List ByteArray) (vs : List Int) (e : E) (p : Nat) (x : Ending) : Prop := ∃ n c q : Int, x = .returned (.tuple #[.int .i64 n, .int .i64 c, .int .i64 q]) ∧ c = (ev ns vs e).2 ∧ (c = 0 → n = (ev ns vs e).1 ∧ q = ((p + e.flat.length : Nat) : Int))
def NAGoal (g : Nat) (ade adn adv : Option Addr) (ce cn cv : Nat) (l : List Xx) (ns : List ByteArray) (vs : List Int) (e : E) : Prop := e.ok → ∀ (p : Nat) (r : List Xx) (w : World), EvS w g ade adn adv ce cn cv l ns vs → l.drop p = e.flat ++ r →
    Calls Tryd.prog 62 #[.pointer (some ⟨g, 0, none⟩), .int .i64 p] w fun x w' => NOut ns vs e p x ∧ Below w.heap.size w w'

end Go.Proofs.YtjffignbiabmaaaDoor.W
