/-
  Contracts of IsValue: the program's (isValueCell, IsValue) and the specification's (l4Value, IsValue). Conditions: at most 1048576 cells.
-/
import Derived.Test.YtbimfnnbfbfdoabTeS
namespace Go.Proofs.Ytbimfnnbfbfdoab.W
open Go.ChangeShapes Go.WideShapes Go.ChangeAt Go.RowKit
set_option linter.unusedVariables false

/-- A value, by its first cell's kind. -/
def isVal (k : Int) : Bool := decide (k = 3) || decide (k = 2)
/-- Whether what is read is a value. -/
def valT : Option F → Bool
  | some (.cons x _ _) => isVal x.k
  | _ => false

set_option maxHeartbeats 400000 in
theorem isValueCell_any (k n : Int) (w : World) :
    Calls Try.prog 47 #[.agg #[.int .i64 k, .int .i64 n]] w fun e w' => e = .returned (.bool (isVal k)) ∧ Below w.heap.size w w' := by
  go_enter Try.func47, Try.ntmps47
  go_wp2
  all_goals
    go_ret
    refine ⟨ret_bool ?_, (Below.refl _ _).alloc (Nat.le_refl _) _⟩
    rw [Bool.eq_iff_iff]; simp_all [isVal]

set_option maxHeartbeats 400000 in
theorem l4Value_any (k n : Int) (sad : Option Addr) (sn sc : Nat) (w : World) :
    Calls Try.prog 46 #[.agg #[.int .i64 k, .int .i64 n, .slice sad sn sc]] w fun e w' => e = .returned (.bool (isVal k)) ∧ Below w.heap.size w w' := by
  go_enter Try.func46, Try.ntmps46
  go_wp2
  all_goals
    go_ret
    refine ⟨ret_bool ?_, (Below.refl _ _).alloc (Nat.le_refl _) _⟩
    rw [Bool.eq_iff_iff]; simp_all [isVal]

set_option maxHeartbeats 1000000 in
theorem specIsValue_any (ad : Option Addr) (c : Nat) (l : List Cc) (w : World) (hl : l.length ≤ 1048576) (h : CRow w ad l) :
    Calls Try.prog 24 #[.slice ad l.length c] w fun e w' => e = .returned (.tuple #[.bool (valT (treeT l)), .bool (goodT l)]) ∧ Below w.heap.size w w' := by
  unfold goodT
  have HC := hide (l3Tree_any ad c l w hl h)
  clear h
  obtain ⟨T, hT⟩ : ∃ T, T = treeT l := ⟨_, rfl⟩
  rw [← hT] at HC ⊢
  clear hT
  go_enter Try.func24, Try.ntmps24
  go_wp2_with fail
  refine Calls.mono HC.out ?_
  rintro e w1 ⟨hb1, ho⟩
  clear HC
  cases T with
  | none =>
    obtain ⟨k, n, sad, sn, sc, rfl⟩ := ho
    go_wp2_with fail
    exact bodyPost_ret (v := .tuple #[.bool false, .bool false]) (by simp [results, Try.results24, go_sem]) rfl ⟨rfl, hb1.alloc hb1.size _⟩
  | some t =>
    obtain ⟨x, k, s, rfl, rfl, hT⟩ := ho
    obtain ⟨sad, sc, rfl⟩ := hT.form
    clear hT
    obtain ⟨sn, hsn⟩ : ∃ sn, sn = k.len := ⟨_, rfl⟩
    rw [← hsn]
    clear hsn
    go_wp2_with fail
    refine Calls.mono (l4Value_any x.k x.n sad sn sc _) ?_
    rintro e w2 ⟨rfl, hb2⟩
    go_wp2_with fail
    exact bodyPost_ret (v := .tuple #[.bool (isVal x.k), .bool true]) (by simp [results, Try.results24, go_sem]) rfl ⟨rfl, (hb1.alloc hb1.size _).trans (hb2.mono (by have := hb1.size; simp; omega))⟩

set_option maxHeartbeats 1000000 in
theorem implIsValue_any (ad : Option Addr) (c : Nat) (l : List Cc) (w : World) (hl : l.length ≤ 1048576) (h : CRow w ad l) :
    Calls Try.prog 25 #[.slice ad l.length c] w fun e w' => e = .returned (.tuple #[.bool (valT (treeT l)), .bool (goodT l)]) ∧ Below w.heap.size w w' := by
  have HR := hide h
  have HC := hide (implGoodT_any ad c l w hl h)
  clear h
  cases hg : treeT l with
  | none =>
    have hg2 : goodT l = false := by unfold goodT; rw [hg]; rfl
    rw [hg2] at HC ⊢
    clear hg hg2
    go_enter Try.func25, Try.ntmps25
    go_wp2_with fail
    refine Calls.mono HC.out ?_
    rintro e w1 ⟨rfl, hb1⟩
    clear HC
    go_wp2_with fail
    exact bodyPost_ret (v := .tuple #[.bool false, .bool false]) (by simp [results, Try.results25, go_sem]) rfl ⟨rfl, hb1⟩
  | some t =>
    have hg2 : goodT l = true := by unfold goodT; rw [hg]; rfl
    rw [hg2] at HC ⊢
    obtain ⟨e1, -, e3, -, -⟩ := treeT_flat hg
    obtain ⟨x, k, rfl⟩ := F.len_1 e3
    have hlt : 0 < l.length := by rw [e1]; simp [F.flat]
    have hx : l[0] = x := by simp [e1, F.flat]
    clear hg hg2 e3 e1
    go_enter Try.func25, Try.ntmps25
    go_wp2_with fail
    refine Calls.mono HC.out ?_
    rintro e w1 ⟨rfl, hb1⟩
    obtain ⟨b, o, rfl, hb, p0, p1⟩ := HR.out.tok hb1 hlt
    rw [hx] at p0 p1
    simp only [Nat.zero_mul, Nat.add_zero] at p0 p1
    clear HC hx
    have hlt' : (0 : Int) < (l.length : Int) := by omega
    go_wp2_with fail
    refine Calls.mono (isValueCell_any x.k x.n _) ?_
    rintro e w2 ⟨rfl, hb2⟩
    go_wp2_with fail
    exact bodyPost_ret (v := .tuple #[.bool (isVal x.k), .bool true]) (by simp [results, Try.results25, go_sem]) rfl ⟨rfl, hb1.trans (hb2.mono hb1.size)⟩
end Go.Proofs.Ytbimfnnbfbfdoab.W
