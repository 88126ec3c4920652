/-
  Contracts of come and next of a running machine. No conditions.
-/
import Derived.Test.YtdajalchdbgooaaMaR0
import Derived.Deep.RegionHeld3
import Derived.Deep.RegionLaw
import Derived.Deep.AppendLies
import Derived.Deep.CutRange
namespace Go.Proofs.Ytdajalchdbgooaa.W
open Go.ChangeShapes Go.WideShapes Go.ChangeAt Go.RowKit
set_option linter.unusedVariables false

set_option maxHeartbeats 1000000 in
theorem come_any (rb lo : Nat) (tv : Value) (m : Mc) (v : Int) (w : World) (h : RB w rb lo tv m) :
    Calls Try.prog 101 #[.pointer (some ⟨rb, 0, none⟩), .int .i64 v] w fun e w' => e = .returned (.tuple #[]) ∧ RB w' rb lo tv (comeM m v) ∧ Oth rb w w' := by
  have HR := hide h
  obtain ⟨sf, sv, sb, h1, -⟩ := h
  have hc := h1.c
  have hf := h1.f
  clear h1
  go_enter Try.func101, Try.ntmps101
  go_wp2_with fail
  refine bodyPost_end (results_none rfl _ _ _) rfl ?_
  refine ⟨rfl, RB.write HR.out ?_ (fun sf sv sb hx => ?_), ?_⟩
  · exact oth_set (oth_set (oth_set (oth_set (Oth.refl _ _) _ _) _ _) _ _) _ _
  · have := (((hx.set 1 (.bool true)).set 2 (.int .i64 (-1))).set 3 (.int .i64 (-1))).set 4 (.int .i64 v)
    simpa using this
  · exact oth_set (oth_set (oth_set (oth_set (Oth.refl _ _) _ _) _ _) _ _) _ _

set_option maxHeartbeats 2000000 in
theorem next_any (rb lo : Nat) (tv tv' : Value) (m : Mc) (p e : Int) (w : World) (h : RB w rb lo tv m) :
    Calls Try.prog 103 #[.pointer (some ⟨rb, 0, none⟩), .agg #[tv', .int .i64 p, .int .i64 e]] w fun r w' => r = .returned (.tuple #[]) ∧ RB w' rb lo tv (nextM m p e) ∧ Oth rb w w' := by
  have HR := hide h
  have hlt := h.lt.1
  obtain ⟨sf, sv, sb, h1, -⟩ := h
  clear h1
  go_enter Try.func103, Try.ntmps103
  go_wp2_with fail
  have hp := Bx.new w #[tv', .int .i64 p, .int .i64 e] 163
  have hB0 : Below w.heap.size w (w.alloc (.cells #[tv', .int .i64 p, .int .i64 e] 163)) := (Below.refl _ _).alloc (Nat.le_refl _) _
  obtain ⟨w0, hw0⟩ : ∃ w0, w0 = w.alloc (.cells #[tv', .int .i64 p, .int .i64 e] 163) := ⟨_, rfl⟩
  rw [← hw0] at hp hB0 ⊢
  clear hw0
  have HR0 := hide (HR.out.below hB0)
  obtain ⟨sf, sv, sb, h1, -⟩ := HR0.out
  have hc := h1.c
  have hf := h1.f
  have hp0 : w0.cell? ⟨w.heap.size, 1, none⟩ = some (.int .i64 p) := hp.c 1
  have hp1 : w0.cell? ⟨w.heap.size, 2, none⟩ = some (.int .i64 e) := hp.c 2
  have hne : ¬ w.heap.size = rb := by omega
  have hne' : ¬ rb = w.heap.size := by omega
  clear h1 hp
  go_region_held3 (fun w' => w'.cell? ⟨w.heap.size, 1, none⟩ = some (.int .i64 p) ∧ w'.cell? ⟨w.heap.size, 2, none⟩ = some (.int .i64 e)) (go_keep)
    (first | fail)
  go_wp2_with fail
  refine bodyPost_end (results_none rfl _ _ _) rfl ?_
  have hO : Oth rb w0 ((((w0.setCell ⟨rb, 1, none⟩ (.bool false)).setCell ⟨rb, 2, none⟩ (.int .i64 p)).setCell ⟨rb, 3, none⟩ (.int .i64 e)).setCell ⟨rb, 4, none⟩ (.int .i64 (-1))).drew := oth_drew (oth_set (oth_set (oth_set (oth_set (Oth.refl _ _) _ _) _ _) _ _) _ _)
  refine ⟨rfl, RB.write HR0.out hO (fun sf sv sb hx => ?_), (Oth.ofBelow hB0).trans hO⟩
  have := (((hx.set 1 (.bool false)).set 2 (.int .i64 p)).set 3 (.int .i64 e)).set 4 (.int .i64 (-1))
  simpa using this.drew

end Go.Proofs.Ytdajalchdbgooaa.W
