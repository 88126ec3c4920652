/-
  What rules of each kind do: the contract of the program's doingOf. No conditions.
-/
import Derived.Test.YtaddopoafaojdaaHaL
import Derived.Test.YtaddopoafaojdaaCoZ
import Derived.Deep.CutRange
import Derived.Laws.EntriesVeiled
namespace Go.Proofs.Ytaddopoafaojdaa.C
open Go.Proofs.Ytaddopoafaojdaa.W
open Go.ChangeShapes Go.WideShapes Go.ChangeAt Go.RowKit
set_option linter.unusedVariables false

/-- What a rule of this kind does. -/
def dg (k : Int) : Value := if k = 1 then .agg #[.func (.func 45) #[] #[], .func (.func 46) #[] #[], .func (.func 47) #[] #[]] else if k = 2 then .agg #[.func (.func 45) #[] #[], .func (.func 48) #[] #[], .func (.func 47) #[] #[]] else if k = 3 then .agg #[.func (.func 45) #[] #[], .func (.func 49) #[] #[], .func (.func 50) #[] #[]] else if k = 4 then .agg #[.func (.func 51) #[] #[], .func (.func 52) #[] #[], .func (.func 53) #[] #[]] else if k = 5 then .agg #[.func (.func 45) #[] #[], .func (.func 54) #[] #[], .func (.func 55) #[] #[]] else .agg #[.nilFunc, .nilFunc, .nilFunc]

set_option maxRecDepth 20000 in
set_option maxHeartbeats 4000000 in
theorem doingOf_any (k n : Int) (w : World) :
    Calls Try.prog 37 #[.agg #[.int .i64 k, .int .i64 n]] w fun e w' => e = .returned (.tuple #[dg k, .bool (inB k 1 5)]) ∧ Below w.heap.size w w' := by
  go_enter Try.func37, Try.ntmps37
  go_upto_region 1 with fail
  obtain ⟨w0, hw0⟩ : ∃ w0, w0 = (w.alloc (.cells #[.int .i64 k, .int .i64 n] 62)).alloc (.cells #[.nilFunc, .nilFunc, .nilFunc] 74) := ⟨_, rfl⟩
  have hB0 : Below w.heap.size w w0 := by rw [hw0]; exact ((Below.refl _ _).alloc (Nat.le_refl _) _).alloc (by simp) _
  have x0 : Bx w0 w.heap.size #[.int .i64 k, .int .i64 n] 62 := by rw [hw0]; exact (Bx.new w _ _).alloc _
  have x1 : Bx w0 (w.heap.size + 1) #[.nilFunc, .nilFunc, .nilFunc] 74 := by
    have := Bx.new (w.alloc (.cells #[.int .i64 k, .int .i64 n] 62)) #[.nilFunc, .nilFunc, .nilFunc] 74
    rw [hw0]; simpa using this
  have hl0 := x0.lt
  have hl1 := x1.lt
  rw [← hw0]
  have HX1 := hide x1
  have HX0 := hide x0
  clear hw0 x0 x1
  go_upto_region 2 with fail
  obtain ⟨W, hW⟩ : ∃ W, W = w0.alloc (.cells #[.nilFunc, .nilFunc, .nilFunc, .func (.func 45) #[] #[], .func (.func 46) #[] #[], .func (.func 47) #[] #[], .func (.func 45) #[] #[], .func (.func 48) #[] #[], .func (.func 47) #[] #[], .func (.func 45) #[] #[], .func (.func 49) #[] #[], .func (.func 50) #[] #[], .func (.func 51) #[] #[], .func (.func 52) #[] #[], .func (.func 53) #[] #[], .func (.func 45) #[] #[], .func (.func 54) #[] #[], .func (.func 55) #[] #[]] 90) := ⟨_, rfl⟩
  rw [← hW]
  have hBW : Below w.heap.size w W := by rw [hW]; exact hB0.alloc hB0.size _
  have x0 : Bx W w.heap.size #[.int .i64 k, .int .i64 n] 62 := by rw [hW]; exact HX0.out.alloc _
  have x1 : Bx W (w.heap.size + 1) #[.nilFunc, .nilFunc, .nilFunc] 74 := by rw [hW]; exact HX1.out.alloc _
  have xt : Bx W w0.heap.size #[.nilFunc, .nilFunc, .nilFunc, .func (.func 45) #[] #[], .func (.func 46) #[] #[], .func (.func 47) #[] #[], .func (.func 45) #[] #[], .func (.func 48) #[] #[], .func (.func 47) #[] #[], .func (.func 45) #[] #[], .func (.func 49) #[] #[], .func (.func 50) #[] #[], .func (.func 51) #[] #[], .func (.func 52) #[] #[], .func (.func 53) #[] #[], .func (.func 45) #[] #[], .func (.func 54) #[] #[], .func (.func 55) #[] #[]] 90 := by rw [hW]; exact Bx.new w0 _ _
  have c0 := x0.c
  have c1 := x1.c
  have f1 := x1.f
  have HXT := hide xt
  have HXW := hide x1
  clear hW x0 x1 xt HX0 HX1
  by_cases hk : 1 ≤ k ∧ k ≤ 5
  · obtain rfl | rfl | rfl | rfl | rfl : k = 1 ∨ k = 2 ∨ k = 3 ∨ k = 4 ∨ k = 5 := by omega
    · have t0 : W.cell? ⟨w0.heap.size, 3, none⟩ = some (.func (.func 45) #[] #[]) := (HXT.out.c 3).trans rfl
      have t1 : W.cell? ⟨w0.heap.size, 4, none⟩ = some (.func (.func 46) #[] #[]) := (HXT.out.c 4).trans rfl
      have t2 : W.cell? ⟨w0.heap.size, 5, none⟩ = some (.func (.func 47) #[] #[]) := (HXT.out.c 5).trans rfl
      clear hk
      go_wp2_with fail
      have hR : (set3 W (w.heap.size + 1) (.func (.func 45) #[] #[]) (.func (.func 46) #[] #[]) (.func (.func 47) #[] #[])).heap[w.heap.size + 1]? = some (.cells #[.func (.func 45) #[] #[], .func (.func 46) #[] #[], .func (.func 47) #[] #[]] 74 (0, 0)) := set3_at HXW.out _ _ _
      have r0 := (cell_of_blk hR 0).trans rfl
      have r1 := (cell_of_blk hR 1).trans rfl
      have r2 := (cell_of_blk hR 2).trans rfl
      clear c0 c1 f1 t0 t1 t2
      refine bodyPost_ret (v := .tuple #[.agg #[.func (.func 45) #[] #[], .func (.func 46) #[] #[], .func (.func 47) #[] #[]], .bool true]) (by simp [results, Try.results37, go_sem, r0, r1, r2]) rfl ⟨rfl, below_set3 hBW (by omega) _ _ _⟩
    · have t0 : W.cell? ⟨w0.heap.size, 6, none⟩ = some (.func (.func 45) #[] #[]) := (HXT.out.c 6).trans rfl
      have t1 : W.cell? ⟨w0.heap.size, 7, none⟩ = some (.func (.func 48) #[] #[]) := (HXT.out.c 7).trans rfl
      have t2 : W.cell? ⟨w0.heap.size, 8, none⟩ = some (.func (.func 47) #[] #[]) := (HXT.out.c 8).trans rfl
      clear hk
      go_wp2_with fail
      have hR : (set3 W (w.heap.size + 1) (.func (.func 45) #[] #[]) (.func (.func 48) #[] #[]) (.func (.func 47) #[] #[])).heap[w.heap.size + 1]? = some (.cells #[.func (.func 45) #[] #[], .func (.func 48) #[] #[], .func (.func 47) #[] #[]] 74 (0, 0)) := set3_at HXW.out _ _ _
      have r0 := (cell_of_blk hR 0).trans rfl
      have r1 := (cell_of_blk hR 1).trans rfl
      have r2 := (cell_of_blk hR 2).trans rfl
      clear c0 c1 f1 t0 t1 t2
      refine bodyPost_ret (v := .tuple #[.agg #[.func (.func 45) #[] #[], .func (.func 48) #[] #[], .func (.func 47) #[] #[]], .bool true]) (by simp [results, Try.results37, go_sem, r0, r1, r2]) rfl ⟨rfl, below_set3 hBW (by omega) _ _ _⟩
    · have t0 : W.cell? ⟨w0.heap.size, 9, none⟩ = some (.func (.func 45) #[] #[]) := (HXT.out.c 9).trans rfl
      have t1 : W.cell? ⟨w0.heap.size, 10, none⟩ = some (.func (.func 49) #[] #[]) := (HXT.out.c 10).trans rfl
      have t2 : W.cell? ⟨w0.heap.size, 11, none⟩ = some (.func (.func 50) #[] #[]) := (HXT.out.c 11).trans rfl
      clear hk
      go_wp2_with fail
      have hR : (set3 W (w.heap.size + 1) (.func (.func 45) #[] #[]) (.func (.func 49) #[] #[]) (.func (.func 50) #[] #[])).heap[w.heap.size + 1]? = some (.cells #[.func (.func 45) #[] #[], .func (.func 49) #[] #[], .func (.func 50) #[] #[]] 74 (0, 0)) := set3_at HXW.out _ _ _
      have r0 := (cell_of_blk hR 0).trans rfl
      have r1 := (cell_of_blk hR 1).trans rfl
      have r2 := (cell_of_blk hR 2).trans rfl
      clear c0 c1 f1 t0 t1 t2
      refine bodyPost_ret (v := .tuple #[.agg #[.func (.func 45) #[] #[], .func (.func 49) #[] #[], .func (.func 50) #[] #[]], .bool true]) (by simp [results, Try.results37, go_sem, r0, r1, r2]) rfl ⟨rfl, below_set3 hBW (by omega) _ _ _⟩
    · have t0 : W.cell? ⟨w0.heap.size, 12, none⟩ = some (.func (.func 51) #[] #[]) := (HXT.out.c 12).trans rfl
      have t1 : W.cell? ⟨w0.heap.size, 13, none⟩ = some (.func (.func 52) #[] #[]) := (HXT.out.c 13).trans rfl
      have t2 : W.cell? ⟨w0.heap.size, 14, none⟩ = some (.func (.func 53) #[] #[]) := (HXT.out.c 14).trans rfl
      clear hk
      go_wp2_with fail
      have hR : (set3 W (w.heap.size + 1) (.func (.func 51) #[] #[]) (.func (.func 52) #[] #[]) (.func (.func 53) #[] #[])).heap[w.heap.size + 1]? = some (.cells #[.func (.func 51) #[] #[], .func (.func 52) #[] #[], .func (.func 53) #[] #[]] 74 (0, 0)) := set3_at HXW.out _ _ _
      have r0 := (cell_of_blk hR 0).trans rfl
      have r1 := (cell_of_blk hR 1).trans rfl
      have r2 := (cell_of_blk hR 2).trans rfl
      clear c0 c1 f1 t0 t1 t2
      refine bodyPost_ret (v := .tuple #[.agg #[.func (.func 51) #[] #[], .func (.func 52) #[] #[], .func (.func 53) #[] #[]], .bool true]) (by simp [results, Try.results37, go_sem, r0, r1, r2]) rfl ⟨rfl, below_set3 hBW (by omega) _ _ _⟩
    · have t0 : W.cell? ⟨w0.heap.size, 15, none⟩ = some (.func (.func 45) #[] #[]) := (HXT.out.c 15).trans rfl
      have t1 : W.cell? ⟨w0.heap.size, 16, none⟩ = some (.func (.func 54) #[] #[]) := (HXT.out.c 16).trans rfl
      have t2 : W.cell? ⟨w0.heap.size, 17, none⟩ = some (.func (.func 55) #[] #[]) := (HXT.out.c 17).trans rfl
      clear hk
      go_wp2_with fail
      have hR : (set3 W (w.heap.size + 1) (.func (.func 45) #[] #[]) (.func (.func 54) #[] #[]) (.func (.func 55) #[] #[])).heap[w.heap.size + 1]? = some (.cells #[.func (.func 45) #[] #[], .func (.func 54) #[] #[], .func (.func 55) #[] #[]] 74 (0, 0)) := set3_at HXW.out _ _ _
      have r0 := (cell_of_blk hR 0).trans rfl
      have r1 := (cell_of_blk hR 1).trans rfl
      have r2 := (cell_of_blk hR 2).trans rfl
      clear c0 c1 f1 t0 t1 t2
      refine bodyPost_ret (v := .tuple #[.agg #[.func (.func 45) #[] #[], .func (.func 54) #[] #[], .func (.func 55) #[] #[]], .bool true]) (by simp [results, Try.results37, go_sem, r0, r1, r2]) rfl ⟨rfl, below_set3 hBW (by omega) _ _ _⟩
  · have hd : dg k = .agg #[.nilFunc, .nilFunc, .nilFunc] := by unfold dg; rw [if_neg (by omega), if_neg (by omega), if_neg (by omega), if_neg (by omega), if_neg (by omega)]
    have hi : inB k 1 5 = false := by rw [Bool.eq_false_iff]; simp [inB]; omega
    have HD := hide hd
    have HI := hide hi
    clear hd hi
    have hR : (set3 W (w.heap.size + 1) .nilFunc .nilFunc .nilFunc).heap[w.heap.size + 1]? = some (.cells #[.nilFunc, .nilFunc, .nilFunc] 74 (0, 0)) := set3_at HXW.out _ _ _
    have HR := hide hR
    clear hR
    by_cases h1 : k < 1
    · clear hk
      go_wp2_with fail
      have r0 := (cell_of_blk HR.out 0).trans rfl
      have r1 := (cell_of_blk HR.out 1).trans rfl
      have r2 := (cell_of_blk HR.out 2).trans rfl
      clear c0 c1 f1
      refine bodyPost_ret (v := .tuple #[.agg #[.nilFunc, .nilFunc, .nilFunc], .bool false]) (by simp [results, Try.results37, go_sem, r0, r1, r2]) rfl ⟨by rw [HD.out, HI.out], below_set3 hBW (by omega) _ _ _⟩
    · have h5 : 5 < k := by omega
      clear hk
      go_wp2_with fail
      have r0 := (cell_of_blk HR.out 0).trans rfl
      have r1 := (cell_of_blk HR.out 1).trans rfl
      have r2 := (cell_of_blk HR.out 2).trans rfl
      clear c0 c1 f1
      refine bodyPost_ret (v := .tuple #[.agg #[.nilFunc, .nilFunc, .nilFunc], .bool false]) (by simp [results, Try.results37, go_sem, r0, r1, r2]) rfl ⟨by rw [HD.out, HI.out], below_set3 hBW (by omega) _ _ _⟩
theorem dg_form (k : Int) : ∃ a b c : Value, dg k = .agg #[a, b, c] ∧ a.oneCell' = true ∧ b.oneCell' = true ∧ c.oneCell' = true := by
  unfold dg
  repeat' split
  all_goals exact ⟨_, _, _, rfl, rfl, rfl, rfl⟩
end Go.Proofs.Ytaddopoafaojdaa.C
