/-
  The contract of l6Part. Conditions: closed terms, good bindings. Written by wip/build/mk_gm.py.
-/
import Derived.Test.YtdajalchdbgooaaGmA
import Derived.Deep.RegionHeld3
import Derived.Deep.RegionLaw
import Derived.Deep.AppendLies
import Derived.Deep.CutRange
namespace Go.Proofs.Ytdajalchdbgooaa.W
open Go.ChangeShapes Go.WideShapes Go.ChangeAt Go.RowKit
set_option linter.unusedVariables false
set_option linter.unusedSimpArgs false

set_option maxRecDepth 20000 in
set_option maxHeartbeats 4000000 in
theorem l6Part_neg (cb0 : Nat) (ad : Option Addr) (c : Nat) (l : List Cc) (a : F) (d : Bool) (p e x : Int) (sf sv : Value) (ab : Option Addr) (cb nv : Nat) (bs : List Bd) (pl env : Int) (w : World) (hCl : Cl l a) (hC : CD w cb0 (.slice ad l.length c) l.length a) (h : BdRow w ab bs) (hb : bsOk nv bs = true) (hl : bs.length ≤ 1048576) (h0 : ¬ 0 ≤ pl) :
    Calls Try.prog 75 #[.pointer (some ⟨cb0, 0, none⟩), .agg #[.bool d, .int .i64 p, .int .i64 e, .int .i64 x, sf, sv, .slice ab bs.length cb], .int .i64 pl, .int .i64 env] w fun r w' => r = .returned (.bool false) ∧ Below w.heap.size w w' := by
  have HCd := hide hC
  have hll := hCl.le
  clear h hb hC hCl
  go_enter Try.func75, Try.ntmps75
  go_upto_region 1 with fail
  have hB0 : Below w.heap.size w (w.alloc (.cells #[.bool d, .int .i64 p, .int .i64 e, .int .i64 x, sf, sv, .slice ab bs.length cb] 28)) := (Below.refl _ _).alloc (Nat.le_refl _) _
  have hX := Bx.new w #[.bool d, .int .i64 p, .int .i64 e, .int .i64 x, sf, sv, .slice ab bs.length cb] 28
  obtain ⟨w0, hw0⟩ : ∃ w0, w0 = w.alloc (.cells #[.bool d, .int .i64 p, .int .i64 e, .int .i64 x, sf, sv, .slice ab bs.length cb] 28) := ⟨_, rfl⟩
  obtain ⟨XB, hXB⟩ : ∃ XB, XB = w.heap.size := ⟨_, rfl⟩
  rw [← hw0] at hX hB0 ⊢
  rw [← hXB] at hX ⊢
  have xl : XB < w0.heap.size := hX.lt

  clear hX hw0 hXB
  go_quiet (fail)
  go_wp2_with fail
  go_ret
  exact ⟨rfl, ⟨hB0.os, hB0.tape, hB0.output, hB0.size, hB0.block⟩⟩

set_option maxRecDepth 20000 in
set_option maxHeartbeats 4000000 in
theorem l6Part_far (cb0 : Nat) (ad : Option Addr) (c : Nat) (l : List Cc) (a : F) (d : Bool) (p e x : Int) (sf sv : Value) (ab : Option Addr) (cb nv : Nat) (bs : List Bd) (pl env : Int) (w : World) (hCl : Cl l a) (hC : CD w cb0 (.slice ad l.length c) l.length a) (h : BdRow w ab bs) (hb : bsOk nv bs = true) (hl : bs.length ≤ 1048576) (h0 : 0 ≤ pl) (h1 : ¬ pl < (l.length : Int)) :
    Calls Try.prog 75 #[.pointer (some ⟨cb0, 0, none⟩), .agg #[.bool d, .int .i64 p, .int .i64 e, .int .i64 x, sf, sv, .slice ab bs.length cb], .int .i64 pl, .int .i64 env] w fun r w' => r = .returned (.bool false) ∧ Below w.heap.size w w' := by
  have HCd := hide hC
  have hll := hCl.le
  clear h hb hC hCl
  go_enter Try.func75, Try.ntmps75
  go_upto_region 1 with fail
  have hB0 : Below w.heap.size w (w.alloc (.cells #[.bool d, .int .i64 p, .int .i64 e, .int .i64 x, sf, sv, .slice ab bs.length cb] 28)) := (Below.refl _ _).alloc (Nat.le_refl _) _
  have hX := Bx.new w #[.bool d, .int .i64 p, .int .i64 e, .int .i64 x, sf, sv, .slice ab bs.length cb] 28
  obtain ⟨w0, hw0⟩ : ∃ w0, w0 = w.alloc (.cells #[.bool d, .int .i64 p, .int .i64 e, .int .i64 x, sf, sv, .slice ab bs.length cb] 28) := ⟨_, rfl⟩
  obtain ⟨XB, hXB⟩ : ∃ XB, XB = w.heap.size := ⟨_, rfl⟩
  rw [← hw0] at hX hB0 ⊢
  rw [← hXB] at hX ⊢
  have xl : XB < w0.heap.size := hX.lt
  obtain ⟨kb, vb, hcx, -, hvl, hvv, -⟩ := HCd.out.ex
  have HCX := hide (hcx.below hB0 hcx.lt)
  have cl : cb0 < w0.heap.size := Nat.lt_of_lt_of_le hcx.lt hB0.size
  clear hcx hvv hvl
  have b0 : w0.cell? ⟨cb0, 0, none⟩ = some (.slice ad l.length c) := HCX.out.c 0
  clear hX hw0 hXB
  go_quiet (fail)
  go_wp2_with fail
  go_ret
  exact ⟨rfl, ⟨hB0.os, hB0.tape, hB0.output, hB0.size, hB0.block⟩⟩
end Go.Proofs.Ytdajalchdbgooaa.W
