/-
  The specification's reader of trees of chapter 13: contracts of l13Read at a leaf, at a bad cell and behind the row. Conditions: at most 1048576 cells.
-/
import Derived.Test.YtiphcjbmoekkkaaPlM
import Derived.Test.YtiphcjbmoekkkaaPlG
import Derived.Test.YtiphcjbmoekkkaaApS
namespace Go.Proofs.Ytiphcjbmoekkkaa.L
open Go.Proofs.Ytiphcjbmoekkkaa.W
open Go.ChangeShapes Go.WideShapes Go.ChangeAt Go.RowKit
set_option linter.unusedVariables false

/-- What l13Read tells of what is read from a place on. -/
def TRdOut (w' : World) (lo n p : Nat) (e : Ending) : Option (F × List Cc) → Prop
  | none => e = .returned (.tuple #[.agg #[.int .i64 0, .int .i64 0, .int .i64 0, .slice none 0 0], .int .i64 0])
  | some (a, r) => ∃ x k s, a = .cons x k .nil ∧ e = .returned (.tuple #[.agg #[.int .i64 x.k, .int .i64 x.n, .int .i64 (p : Int), s], .int .i64 ((n - r.length : Nat) : Int)]) ∧ KidT w' (fun g => lo ≤ g) k (p + 1) s

theorem rt_end {l a r : List Cc} {n : Nat} (h : l.drop n = a ++ r) : r = l.drop (l.length - r.length) := by
  have hl : (l.drop n).length = a.length + r.length := by rw [h]; simp
  rw [List.length_drop] at hl
  by_cases hn : n ≤ l.length
  · have : l.drop (n + a.length) = r := by rw [← List.drop_drop, h]; simp
    rw [← this]
    congr 1
    rw [List.length_drop]; omega
  · have h0 : r = [] := List.eq_nil_of_length_eq_zero (by omega)
    rw [h0]; simp

def TRdGoal (ad : Option Addr) (c : Nat) (l : List Cc) (at_ : Nat) (w : World) : Prop :=
    Calls Try.prog 56 #[.slice ad l.length c, .int .i64 at_] w fun e w' => Below w.heap.size w w' ∧ TRdOut w' w.heap.size l.length at_ e (rt 1 (l.drop at_))
def TRdIH (f : Nat) (ad : Option Addr) (c : Nat) (l : List Cc) : Prop := ∀ (at' : Nat) (w' : World), CRow w' ad l → at' ≤ l.length → l.length - at' ≤ f → TRdGoal ad c l at' w'

set_option maxHeartbeats 1000000 in
theorem l13Read_none (ad : Option Addr) (c : Nat) (l : List Cc) (at_ : Nat) (w : World) (hl : l.length ≤ 1048576) (hge : l.length ≤ at_) (ha : at_ ≤ l.length) : TRdGoal ad c l at_ w := by
  unfold TRdGoal
  have hr : rt 1 (l.drop at_) = none := by rw [List.drop_eq_nil_of_le hge]; rfl
  rw [hr]
  have hge' : ¬ (at_ : Int) < (l.length : Int) := by omega
  go_enter Try.func56, Try.ntmps56
  go_wp2_with fail
  exact bodyPost_ret (v := .tuple #[.agg #[.int .i64 0, .int .i64 0, .int .i64 0, .slice none 0 0], .int .i64 0]) (by simp [results, Try.results56, go_sem]) rfl ⟨(Below.refl _ _).alloc (Nat.le_refl _) _, rfl⟩

theorem rt_1v {x : Cc} {l : List Cc} (h : goodC x = true) (ha : ar x.k = 0) : rt 1 (x :: l) = some (.cons x .nil .nil, l) := by rw [rt_1 h, ha, rt_0]; rfl

set_option maxRecDepth 20000 in
set_option maxHeartbeats 4000000 in
theorem l13Read_leaf (ad : Option Addr) (c : Nat) (l : List Cc) (at_ : Nat) (w : World) (hl : l.length ≤ 1048576) (hR : CRow w ad l) (hlt : at_ < l.length) (h3 : l[at_].k = 1 ∨ goodC l[at_] = false) :
    TRdGoal ad c l at_ w := by
  unfold TRdGoal
  have HR := hide hR
  clear hR
  have hlt' : (at_ : Int) < (l.length : Int) := by omega
  have hnle : ¬ l.length ≤ at_ := by omega
  obtain ⟨b, o, rfl, hb, p0, p1⟩ := HR.out.tok (Below.refl _ _) hlt
  have hd : l.drop at_ = l[at_] :: l.drop (at_ + 1) := List.drop_eq_getElem_cons hlt
  obtain ⟨x, hx⟩ : ∃ x, x = l[at_] := ⟨_, rfl⟩
  rw [← hx] at p0 p1 hd h3
  rw [hd]
  have hat1 : ((l.length - (l.drop (at_ + 1)).length : Nat) : Int) = (at_ : Int) + 1 := by rw [List.length_drop]; omega
  have HAt := hide hat1
  clear hx hd hat1
  have q0 : ∀ B : Obj, (w.alloc B).cell? ⟨b, o + at_ * 2, none⟩ = some (.int .i64 x.k) := fun B => by rw [((Below.refl w.heap.size w).alloc (Nat.le_refl _) _).cell hb]; exact p0
  have q1 : ∀ B : Obj, (w.alloc B).cell? ⟨b, o + at_ * 2 + 1, none⟩ = some (.int .i64 x.n) := fun B => by rw [((Below.refl w.heap.size w).alloc (Nat.le_refl _) _).cell hb]; exact p1
  obtain ⟨xk, xn⟩ := x
  simp only at *
  have hB3 : ∀ o1 o2 o3 : Obj, Below w.heap.size w (((w.alloc o1).alloc o2).alloc o3) := fun o1 o2 o3 => (((Below.refl _ _).alloc (Nat.le_refl _) _).alloc (by simp) _).alloc (by simp; omega) _
  have HB3 := hide hB3
  clear hB3
  by_cases k1 : xk = 1
  · subst k1
    have HC := hide (l1In_any xn (-1000) 1000)
    cases hg : inB xn (-1000) 1000 with
    | true =>
      have hg1 : goodC ⟨1, xn⟩ = true := by simpa [goodC] using hg
      rw [rt_1v hg1 rfl]
      rw [hg] at HC
      clear hg hg1 h3
      go_enter Try.func56, Try.ntmps56
      go_wp2_with fail
      refine (HC.out _).mono ?_
      rintro e w' ⟨rfl, rfl⟩
      go_wp2_with fail
      refine bodyPost_ret (v := .tuple #[.agg #[.int .i64 1, .int .i64 xn, .int .i64 (at_ : Int), .slice none 0 0], .int .i64 ((at_ : Int) + 1)]) (by simp [results, Try.results56, go_sem]) rfl ⟨HB3.out _ _ _, ⟨1, xn⟩, _, _, rfl, by rw [HAt.out], KidT.nil⟩
    | false =>
      have hg1 : goodC ⟨1, xn⟩ = false := by simpa [goodC] using hg
      rw [rt_bad hg1]
      rw [hg] at HC
      clear hg hg1 h3
      go_enter Try.func56, Try.ntmps56
      go_wp2_with fail
      refine (HC.out _).mono ?_
      rintro e w' ⟨rfl, rfl⟩
      go_wp2_with fail
      exact bodyPost_ret (v := .tuple #[.agg #[.int .i64 0, .int .i64 0, .int .i64 0, .slice none 0 0], .int .i64 0]) (by simp [results, Try.results56, go_sem]) rfl ⟨HB3.out _ _ _, rfl⟩
  · have hg1 : goodC ⟨xk, xn⟩ = false := by
      rcases h3 with h | h
      · exact absurd h k1
      · exact h
    rw [rt_bad hg1]
    have HC := hide (l1In_any xk 2 4)
    have hg2 : inB xk 2 4 = false ∨ inB xk 2 4 = true ∧ xn ≠ 0 := by
      simp only [goodC, if_neg k1, Bool.and_eq_false_iff, decide_eq_false_iff_not] at hg1
      cases hh : inB xk 2 4 with
      | true => exact .inr ⟨rfl, by rcases hg1 with h | h; · rw [hh] at h; cases h
                                    · exact h⟩
      | false => exact .inl rfl
    clear hg1 h3
    rcases hg2 with hg | ⟨hg, hn⟩
    · rw [hg] at HC
      clear hg
      go_enter Try.func56, Try.ntmps56
      go_wp2_with fail
      refine (HC.out _).mono ?_
      rintro e w' ⟨rfl, rfl⟩
      go_wp2_with fail
      exact bodyPost_ret (v := .tuple #[.agg #[.int .i64 0, .int .i64 0, .int .i64 0, .slice none 0 0], .int .i64 0]) (by simp [results, Try.results56, go_sem]) rfl ⟨HB3.out _ _ _, rfl⟩
    · rw [hg] at HC
      clear hg
      go_enter Try.func56, Try.ntmps56
      go_wp2_with fail
      refine (HC.out _).mono ?_
      rintro e w' ⟨rfl, rfl⟩
      go_wp2_with fail
      exact bodyPost_ret (v := .tuple #[.agg #[.int .i64 0, .int .i64 0, .int .i64 0, .slice none 0 0], .int .i64 0]) (by simp [results, Try.results56, go_sem]) rfl ⟨HB3.out _ _ _, rfl⟩
end Go.Proofs.Ytiphcjbmoekkkaa.L
