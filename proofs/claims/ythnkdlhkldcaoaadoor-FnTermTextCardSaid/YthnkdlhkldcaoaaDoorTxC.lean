/-
  A cell's text, a term's text: contracts of cellText, l3Word, and of both TermText. Conditions: Go's own table of powers of ten reads as its text lays it; at most 1048576 cells.
-/
import Derived.Test.YthnkdlhkldcaoaaDoorTxN
import Derived.Test.YthnkdlhkldcaoaaDoorTeS
namespace Go.Proofs.YthnkdlhkldcaoaaDoor.W
open Go.ChangeShapes Go.WideShapes Go.ChangeAt Go.RowKit
set_option linter.unusedVariables false

/-- A cell's text. -/
def wd (x : Cc) : ByteArray :=
  if x.k = 1 then ⟨#[118]⟩ ++ itB x.n else if x.k = 2 then itB x.n else if x.k = 3 then ⟨#[92]⟩ else if x.k = 4 then ⟨#[64]⟩ else if x.k = 5 then ⟨#[43]⟩ else if x.k = 6 then ⟨#[63]⟩ else ⟨#[61]⟩
theorem good_n' {x : Cc} (h : goodC x = true) : -1000000 ≤ x.n ∧ x.n ≤ 1000000 := by
  unfold goodC at h
  unfold inB at h
  split at h
  · simp at h; omega
  · split at h
    · simp at h; omega
    · simp at h; omega
theorem wd_len {x : Cc} (h : goodC x = true) : (wd x).size ≤ 11 := by
  obtain ⟨h1, h2⟩ := good_n' h
  have := itB_len x.n (by omega) (by omega)
  unfold wd
  split
  · rw [ByteArray.size_append]; show 1 + _ ≤ _; omega
  · split
    · omega
    · split
      · decide
      · split
        · decide
        · split
          · decide
          · split <;> decide

set_option maxRecDepth 20000 in
set_option maxHeartbeats 1000000 in
theorem l3Word_any (x : Cc) (w : World) (h : goodC x = true) :
    Calls Tryd.prog 25 #[.agg #[.int .i64 x.k, .int .i64 x.n]] w fun e w' => e = .returned (.string (wd x)) ∧ Below w.heap.size w w' := by
  obtain ⟨h1, h2⟩ := good_n' h
  have hin := good_ar h
  have hl := itB_len x.n (by omega) (by omega)
  obtain ⟨k, n⟩ := x
  simp only [inB, Bool.and_eq_true, decide_eq_true_eq] at *
  have HC := hide (fun w => l1NumI_any n w (by omega) (by omega))
  have hx : k = 1 ∨ k = 2 ∨ k = 3 ∨ k = 4 ∨ k = 5 ∨ k = 6 ∨ k = 7 := by omega
  rcases hx with h | h | h | h | h | h | h
  · subst h
    have HE : Hid (wd ⟨1, n⟩ = ⟨#[118]⟩ ++ itB n) := hide rfl
    rw [HE.out]
    go_enter Tryd.func25, Tryd.ntmps25
    go_wp2_with fail
    refine (HC.out _).mono ?_
    rintro e w1 ⟨rfl, hb1⟩
    go_wp2_with fail
    go_ret
    exact ⟨rfl, ((Below.refl _ _).alloc (Nat.le_refl _) _).trans (hb1.mono (by simp))⟩
  · subst h
    have HE : Hid (wd ⟨2, n⟩ = itB n) := hide rfl
    rw [HE.out]
    go_enter Tryd.func25, Tryd.ntmps25
    go_wp2_with fail
    refine (HC.out _).mono ?_
    rintro e w1 ⟨rfl, hb1⟩
    go_wp2_with fail
    go_ret
    exact ⟨rfl, ((Below.refl _ _).alloc (Nat.le_refl _) _).trans (hb1.mono (by simp))⟩
  all_goals
    subst h
    go_enter Tryd.func25, Tryd.ntmps25
    go_wp2_with fail
    go_ret
    exact ⟨rfl, (Below.refl _ _).alloc (Nat.le_refl _) _⟩

set_option maxRecDepth 20000 in
set_option maxHeartbeats 1000000 in
theorem cellText_any (x : Cc) (w : World) (h : goodC x = true) (ht : Tab w) :
    Calls Tryd.prog 23 #[.agg #[.int .i64 x.k, .int .i64 x.n]] w fun e w' => e = .returned (.string (wd x)) ∧ Below w.heap.size w w' := by
  obtain ⟨h1, h2⟩ := good_n' h
  have hin := good_ar h
  have hl := itB_len x.n (by omega) (by omega)
  obtain ⟨k, n⟩ := x
  simp only [inB, Bool.and_eq_true, decide_eq_true_eq] at *
  have HC := hide (fun w' (hb : Below w.heap.size w w') => ItoaI_any n w' (by omega) (by omega) (ht.below hb))
  clear ht
  have hx : k = 1 ∨ k = 2 ∨ k = 3 ∨ k = 4 ∨ k = 5 ∨ k = 6 ∨ k = 7 := by omega
  rcases hx with h | h | h | h | h | h | h
  · subst h
    have HE : Hid (wd ⟨1, n⟩ = ⟨#[118]⟩ ++ itB n) := hide rfl
    rw [HE.out]
    go_enter Tryd.func23, Tryd.ntmps23
    go_wp2_with fail
    refine (HC.out _ ((Below.refl _ _).alloc (Nat.le_refl _) _)).mono ?_
    rintro e w1 ⟨rfl, hb1⟩
    go_wp2_with fail
    go_ret
    exact ⟨rfl, ((Below.refl _ _).alloc (Nat.le_refl _) _).trans (hb1.mono (by simp))⟩
  · subst h
    have HE : Hid (wd ⟨2, n⟩ = itB n) := hide rfl
    rw [HE.out]
    go_enter Tryd.func23, Tryd.ntmps23
    go_wp2_with fail
    refine (HC.out _ ((Below.refl _ _).alloc (Nat.le_refl _) _)).mono ?_
    rintro e w1 ⟨rfl, hb1⟩
    go_wp2_with fail
    go_ret
    exact ⟨rfl, ((Below.refl _ _).alloc (Nat.le_refl _) _).trans (hb1.mono (by simp))⟩
  all_goals
    subst h
    go_enter Tryd.func23, Tryd.ntmps23
    go_wp2_with fail
    go_ret
    refine ⟨ret_str ?_, (Below.refl _ _).alloc (Nat.le_refl _) _⟩
    first | (refine Eq.trans (b := ⟨#[92]⟩) ?_ rfl; decide) | (refine Eq.trans (b := ⟨#[64]⟩) ?_ rfl; decide) | (refine Eq.trans (b := ⟨#[43]⟩) ?_ rfl; decide) | (refine Eq.trans (b := ⟨#[63]⟩) ?_ rfl; decide) | (refine Eq.trans (b := ⟨#[61]⟩) ?_ rfl; decide)
end Go.Proofs.YthnkdlhkldcaoaaDoor.W
