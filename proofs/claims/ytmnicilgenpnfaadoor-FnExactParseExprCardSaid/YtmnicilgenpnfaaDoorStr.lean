/-
  StrengthOf, of the program and of its specification: how strongly a sign binds. The program's table of signs reads as its text lays it.
-/
import Derived.Test.YtmnicilgenpnfaaDoorLow
import Derived.WalkKit
import Derived.ProofKit
import Derived.OpenShut
import Derived.ShutString
import Derived.WalkLawsBesides
import Derived.WalkSpells
import Derived.LoopN
import Derived.Deep.QuietTactic
import Derived.BigQuiet
import Derived.Deep.RegionWith
import Derived.Laws.BytesArg
import Derived.Lib.Strings
import Derived.WalkMore
import Derived.Deep.Cut
import Derived.OwnWalk
namespace Go.Proofs.YtmnicilgenpnfaaDoor.W
open Go.ChangeShapes Go.WideShapes Go.ChangeAt Go.RowKit

def sgL : List (List UInt8 × Int) := [([124, 124], 1), ([38, 38], 2), ([61, 61], 3), ([33, 61], 3), ([60], 4), ([60, 61], 4), ([43], 5), ([45], 5), ([42], 6), ([47], 6), ([37], 6), ([60, 60], 7)]
def look (s : List UInt8) : List (List UInt8 × Int) → Int
  | [] => 0
  | (b, n) :: l => if s == b then n else look s l
/-- How strongly a sign binds; 0 where it is none. -/
def strN (s : ByteArray) : Int := look s.toList sgL

theorem look_nonneg (s : List UInt8) : ∀ l : List (List UInt8 × Int), (∀ x ∈ l, 0 ≤ x.2) → 0 ≤ look s l
  | [], _ => by simp [look]
  | (b, n) :: l, h => by
    unfold look
    split
    · exact h (b, n) (by simp)
    · exact look_nonneg s l (fun x hx => h x (by simp [hx]))
theorem strN_nonneg (s : ByteArray) : 0 ≤ strN s := look_nonneg _ _ (by decide)

set_option linter.unusedSimpArgs false in
set_option maxHeartbeats 1000000 in
theorem l2Strength_any (s : ByteArray) (w : World) :
    Calls Tryd.prog 19 #[.string s] w fun e w' => e = .returned (.int .i64 (strN s)) ∧ w' = w := by
  go_enter Tryd.func19, Tryd.ntmps19
  go_wp2
  all_goals
    go_ret
    refine ⟨ret_int ?_, rfl⟩
    first
    | (simp [strN, sgL, look, *]; done)
    | simp_all [strN, sgL, look]

def sgRows : Array Value := #[
  .string ⟨#[124, 124]⟩, .int .i64 1, .bool false, .string ⟨#[38, 38]⟩, .int .i64 2, .bool false, .string ⟨#[61, 61]⟩, .int .i64 3, .bool false, .string ⟨#[33, 61]⟩, .int .i64 3, .bool false,
  .string ⟨#[60]⟩, .int .i64 4, .bool false, .string ⟨#[60, 61]⟩, .int .i64 4, .bool false, .string ⟨#[43]⟩, .int .i64 5, .bool false, .string ⟨#[45]⟩, .int .i64 5, .bool false,
  .string ⟨#[42]⟩, .int .i64 6, .bool false, .string ⟨#[47]⟩, .int .i64 6, .bool false, .string ⟨#[37]⟩, .int .i64 6, .bool false, .string ⟨#[60, 60]⟩, .int .i64 7, .bool true]
theorem gSg : Tryd.prog.globalNamed "loop.example/g00339/impl.signRows" = some 0 := by kernel_rfl
/-- The table of signs reads as its text lays it. -/
def SgTab (w : World) : Prop := w.var? Tryd.prog "loop.example/g00339/impl.signRows" = some sgRows

theorem SgTab.row {w : World} (h : SgTab w) : ∃ t fr, w.heap[0]? = some (.cells sgRows t fr) := by
  unfold SgTab at h
  simp only [World.var?, gSg, Option.bind_some] at h
  split at h
  · rename_i c t fr hb
    simp only [Option.some.injEq] at h
    subst h
    exact ⟨t, fr, hb⟩
  · cases h
theorem sgInfo : (Tryd.prog.info? 73).map (·.size) = some sgRows.size := by kernel_rfl

theorem wpList_index {P : Program} {ops : Array Oper} {rest : List Oper} {o : Oper} {a : Act} {w : World} {Q : Exit → Act → World → Prop} (hgd : o.guard = none) (ty : TypeId) (x i : Operand) (ho : o.op = .index ty x i)
    (vx vi v : Value) (hx : a.eval x = vx) (hi : a.eval i = vi) (hr : (Instr.index ty vx vi).run P w = .ok v w)
    (h : wpList P ops Q rest (a.put o.dst v) w) : wpList P ops Q (o :: rest) a w :=
  wpList_plain hgd fun _ hK => by
    unfold Oper.wp execOp
    simp only [ho, hx, hi, Sem.run_bind, hr, Result.andThen_ok]
    exact hK _ _ h
def sgAt (j : Nat) : List UInt8 × Int := sgL.getD j ([], 0)
theorem sgIdx (w : World) : ∀ j : Nat, j < 12 → (Instr.index 73 (.agg sgRows) (.int .i64 (j : Int))).run Tryd.prog w = .ok (.agg #[.string ⟨(sgAt j).1.toArray⟩, .int .i64 (sgAt j).2, .bool (decide ((sgAt j).2 = 7))]) w
  | 0, _ => by kernel_rfl
  | 1, _ => by kernel_rfl
  | 2, _ => by kernel_rfl
  | 3, _ => by kernel_rfl
  | 4, _ => by kernel_rfl
  | 5, _ => by kernel_rfl
  | 6, _ => by kernel_rfl
  | 7, _ => by kernel_rfl
  | 8, _ => by kernel_rfl
  | 9, _ => by kernel_rfl
  | 10, _ => by kernel_rfl
  | 11, _ => by kernel_rfl
  | n + 12, h => absurd h (by omega)
theorem sg_pos : ∀ j : Nat, j < 12 → (sgAt j).2 ≠ 0 := by decide
theorem look_at (l : List UInt8) : ∀ j : Nat, j < 12 → look l (sgL.drop j) = if l == (sgAt j).1 then (sgAt j).2 else look l (sgL.drop (j + 1))
  | 0, _ => rfl
  | 1, _ => rfl
  | 2, _ => rfl
  | 3, _ => rfl
  | 4, _ => rfl
  | 5, _ => rfl
  | 6, _ => rfl
  | 7, _ => rfl
  | 8, _ => rfl
  | 9, _ => rfl
  | 10, _ => rfl
  | 11, _ => rfl
  | n + 12, h => absurd h (by omega)

set_option maxRecDepth 20000 in
set_option maxHeartbeats 4000000 in
theorem StrengthOf_any (s : ByteArray) (w : World) (h : SgTab w) :
    Calls Tryd.prog 38 #[.string s] w fun e w' => e = .returned (.tuple #[.int .i64 (strN s), .bool (decide (strN s = 7)), .bool (decide (strN s ≠ 0))]) ∧ Below w.heap.size w w' := by
  obtain ⟨tt, fr, hg⟩ := h.row
  have hi := sgInfo
  obtain ⟨S, hS⟩ : ∃ S, S = sgRows := ⟨_, rfl⟩
  rw [← hS] at hg hi
  have HS := hide hS
  have HG := hide hg
  have HI := hide hi
  clear h hS hg hi
  go_enter Tryd.func38, Tryd.ntmps38
  go_wp2_with (refine wpList_load_row rfl 73 _ rfl 0 rfl tt S fr _ HG.out Tryd.underlying73 rfl HI.out ?_)
  go_loopw [8] (fun i w' => ∃ j : Nat, j ≤ 12 ∧ i = .int .i64 j ∧ strN s = look s.toList (sgL.drop j) ∧ Below w.heap.size w w') (fun i _ => 12 - (intOf i).toNat)
  case atStart => exact ⟨0, by omega, rfl, rfl, Below.refl _ _⟩
  case round =>
    obtain ⟨j, hj, rfl, hr, hB⟩ := hrel
    have HR := hide hr
    clear hr
    by_cases hlt : j < 12
    · have hlt' : (j : Int) < 12 := by omega
      have hidx : ∀ w', (Instr.index 73 (.agg S) (.int .i64 (j : Int))).run Tryd.prog w' = .ok (.agg #[.string ⟨(sgAt j).1.toArray⟩, .int .i64 (sgAt j).2, .bool (decide ((sgAt j).2 = 7))]) w' := fun w' => by rw [HS.out]; exact sgIdx w' j hlt
      have HL := hide (HR.out.trans (look_at s.toList j hlt))
      have HP := hide (sg_pos j hlt)
      obtain ⟨bn, hbn⟩ : ∃ x, x = sgAt j := ⟨_, rfl⟩
      rw [← hbn] at hidx HL HP
      clear hbn
      obtain ⟨b, n⟩ := bn
      simp only at hidx HL HP
      have HX := hide hidx
      clear hidx
      go_upto_region 3 with fail
      go_upto_region 4 with (refine wpList_index (ty := 73) (x := .tmp 7) (i := .tmp 8) (vx := .agg S) (vi := .int .i64 (j : Int)) (v := .agg #[.string ⟨b.toArray⟩, .int .i64 n, .bool (decide (n = 7))]) rfl rfl (by simp [Act.eval]) (by simp [Act.eval]) (HX.out _) ?_)
      clear HX
      have hX : (⟨b.toArray⟩ : ByteArray).toList = b := by rw [Lib.toList_data]
      obtain ⟨X, eX⟩ : ∃ X, X = (⟨b.toArray⟩ : ByteArray) := ⟨_, rfl⟩
      rw [← eX] at hX ⊢
      have HXb := hide hX
      clear hX eX
      by_cases heq : (X.toList == s.toList) = true
      · go_wp2_with fail
        go_quiet (fail)
        go_wp2_with fail
        go_ret3
        have h2 : strN s = n := by
          have h := HL.out
          rw [HXb.out] at heq
          rwa [if_pos (by rw [eq_of_beq heq]; simp)] at h
        rw [h2]
        exact ⟨by simp [HP.out], below_drewN (hB.alloc hB.size _) _⟩
      · rw [Bool.not_eq_true] at heq
        go_wp2_with fail
        refine ⟨⟨j + 1, by omega, by go_num, ?_, hB.alloc hB.size _⟩, by simp [intOf]; omega⟩
        have h := HL.out
        rw [HXb.out] at heq
        rwa [if_neg (fun e => by rw [eq_of_beq e] at heq; simp at heq)] at h
    · obtain rfl : j = 12 := by omega
      have h2 : strN s = 0 := HR.out
      go_wp2_with fail
      go_ret3
      rw [h2]
      exact ⟨rfl, hB⟩
end Go.Proofs.YtmnicilgenpnfaaDoor.W
