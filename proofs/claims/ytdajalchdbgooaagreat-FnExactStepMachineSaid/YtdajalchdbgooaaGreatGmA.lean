/-
  Contracts of l6Val, l6Env, l6Bound, l6Elder. Conditions: rows of at most 1048576, good bindings.
-/
import Derived.Test.YtdajalchdbgooaaGreatGr
import Derived.Deep.RegionHeld3
import Derived.Deep.RegionLaw
import Derived.Deep.AppendLies
import Derived.Deep.CutRange
namespace Go.Proofs.YtdajalchdbgooaaGreat.W
open Go.ChangeShapes Go.WideShapes Go.ChangeAt Go.RowKit
set_option linter.unusedVariables false
set_option linter.unusedSimpArgs false

set_option maxHeartbeats 1000000 in
theorem l6Val_any (d : Bool) (p e x : Int) (sf sb : Value) (av : Option Addr) (nv cv : Nat) (y : Int) (w : World) (hl : nv ≤ 1048576) :
    Calls Tryz.prog 42 #[.agg #[.bool d, .int .i64 p, .int .i64 e, .int .i64 x, sf, .slice av nv cv, sb], .int .i64 y] w fun r w' => r = .returned (.bool (blw y nv)) ∧ Below w.heap.size w w' := by
  by_cases h0 : 0 ≤ y
  · by_cases h1 : y < (nv : Int)
    · have hb : blw y nv = true := blw_iff.2 ⟨h0, h1⟩
      rw [hb]
      clear hb
      go_enter Tryz.func42, Tryz.ntmps42
      go_wp2_with fail
      go_ret
      exact ⟨rfl, (Below.refl _ _).alloc (Nat.le_refl _) _⟩
    · have hb : blw y nv = false := blw_not.2 (.inr (by omega))
      rw [hb]
      clear hb
      go_enter Tryz.func42, Tryz.ntmps42
      go_wp2_with fail
      go_ret
      exact ⟨rfl, (Below.refl _ _).alloc (Nat.le_refl _) _⟩
  · have hb : blw y nv = false := blw_not.2 (.inl (by omega))
    rw [hb]
    clear hb
    go_enter Tryz.func42, Tryz.ntmps42
    go_wp2_with fail
    go_ret
    exact ⟨rfl, (Below.refl _ _).alloc (Nat.le_refl _) _⟩

set_option maxHeartbeats 1000000 in
theorem l6Env_any (d : Bool) (p e x : Int) (sf sv : Value) (ab : Option Addr) (nb cb : Nat) (y : Int) (w : World) (hl : nb ≤ 1048576) :
    Calls Tryz.prog 71 #[.agg #[.bool d, .int .i64 p, .int .i64 e, .int .i64 x, sf, sv, .slice ab nb cb], .int .i64 y] w fun r w' => r = .returned (.bool (decide (y = -1) || blw y nb)) ∧ Below w.heap.size w w' := by
  have hw : IntKind.i64.wrap ((nb : Int) - 1) = (nb : Int) - 1 := IntWalk.i64_in _ ⟨by omega, by omega⟩
  have hb : inB y (-1) ((nb : Int) - 1) = (decide (y = -1) || blw y nb) := by
    rw [Bool.eq_iff_iff, Bool.or_eq_true, blw_iff, decide_eq_true_iff]
    unfold inB
    simp
    omega
  rw [← hb]
  have HI := hide (l1In_any y (-1) ((nb : Int) - 1))
  clear hb
  go_enter Tryz.func71, Tryz.ntmps71
  go_wp2_with fail
  refine (HI.out _).mono ?_
  rintro r w' ⟨rfl, hw'⟩
  subst hw'
  go_wp2_with fail
  go_ret
  exact ⟨rfl, (Below.refl _ _).alloc (Nat.le_refl _) _⟩

set_option maxHeartbeats 1000000 in
theorem l6Bound_any (d : Bool) (p e x : Int) (sf sv : Value) (ab : Option Addr) (cb nv : Nat) (bs : List Bd) (env : Int) (w : World) (h : BdRow w ab bs) (hb : bsOk nv bs = true) (he : -1 ≤ env ∧ env < bs.length) (hl : bs.length ≤ 1048576) :
    Calls Tryz.prog 72 #[.agg #[.bool d, .int .i64 p, .int .i64 e, .int .i64 x, sf, sv, .slice ab bs.length cb], .int .i64 env] w fun r w' => r = .returned (.int .i64 (bw bs env).1) ∧ Below w.heap.size w w' := by
  have HR := hide h
  have HB := hide hb
  obtain ⟨N, hN⟩ : ∃ N, N = (bw bs env).1 := ⟨_, rfl⟩
  rw [← hN]
  have HN := hide hN
  have HNb : Hid (N ≤ 1048576) := hide (by have := bw_bound hb (env.toNat + 1) env he.1 (by omega) he.2; omega)
  have hNb := HNb.out
  clear h hb hN HNb
  go_enter Tryz.func72, Tryz.ntmps72
  go_wp2_with fail
  have hX := Bx.new w #[.bool d, .int .i64 p, .int .i64 e, .int .i64 x, sf, sv, .slice ab bs.length cb] 34
  have hB0 : Below w.heap.size w (w.alloc (.cells #[.bool d, .int .i64 p, .int .i64 e, .int .i64 x, sf, sv, .slice ab bs.length cb] 34)) := (Below.refl _ _).alloc (Nat.le_refl _) _
  obtain ⟨w0, hw0⟩ : ∃ w0, w0 = w.alloc (.cells #[.bool d, .int .i64 p, .int .i64 e, .int .i64 x, sf, sv, .slice ab bs.length cb] 34) := ⟨_, rfl⟩
  rw [← hw0] at hX hB0 ⊢
  have hcx := hX.c
  clear hw0 hX
  go_loopw [1, 5] (fun ev i w' => ∃ (j : Nat) (en : Int), i = .int .i64 (j : Int) ∧ ev = .int .i64 en ∧ -1 ≤ en ∧ en < bs.length ∧ (bw bs en).1 + j = N ∧ w' = w0) (fun ev _ _ => (intOf ev + 1).toNat)
  case atStart => exact ⟨0, env, rfl, rfl, he.1, he.2, by rw [HN.out]; simp, rfl⟩
  case round =>
    obtain ⟨j, en, rfl, rfl, e1, e2, e3, rfl⟩ := hrel
    have E3 := hide e3
    have hbd := bw_bound HB.out (en.toNat + 1) en e1 (by omega) e2
    have hj6 : (j : Int) ≤ 1048576 := by omega
    clear e3 hbd
    by_cases hn : en < 0
    · have HZ := hide (bw_neg bs en hn)
      have hn' : ¬ (0 : Int) ≤ en := by omega
      go_wp2_with fail
      go_ret
      have h3 := E3.out
      rw [HZ.out] at h3
      simp only at h3
      exact ⟨ret_int (by omega), hB0⟩
    · obtain ⟨k, rfl⟩ := Int.eq_ofNat_of_zero_le (Int.not_lt.1 hn)
      have hk : k < bs.length := by omega
      have hk' : (k : Int) < (bs.length : Int) := by omega
      have hk0 : (0 : Int) ≤ (k : Int) := by omega
      obtain ⟨b, o, rfl, hb, q0, q1⟩ := BdRow.tok HR.out hB0 hk
      have hbk := bsOk_at HB.out hk
      have HS := hide (bw_step HB.out hk)
      obtain ⟨y, hy⟩ : ∃ y, y = bs[k] := ⟨_, rfl⟩
      rw [← hy] at q0 q1 hbk HS
      clear hy q0 hn
      go_wp2_with fail
      have h3 := E3.out
      rw [HS.out] at h3
      simp only at h3
      exact ⟨⟨j + 1, y.up, by go_num, rfl, by omega, by omega, by omega, trivial⟩, by simp [intOf]; omega⟩

set_option maxHeartbeats 1000000 in
theorem l6Elder_any (d : Bool) (p e x : Int) (sf sv : Value) (ab : Option Addr) (cb nv : Nat) (bs : List Bd) (env t : Int) (w : World) (h : BdRow w ab bs) (hb : bsOk nv bs = true) (he : -1 ≤ env ∧ env < bs.length) (ht : 0 ≤ t) (hl : bs.length ≤ 1048576) :
    Calls Tryz.prog 44 #[.agg #[.bool d, .int .i64 p, .int .i64 e, .int .i64 x, sf, sv, .slice ab bs.length cb], .int .i64 env, .int .i64 t] w fun r w' => r = .returned (.bool (decide ((bw bs env).2 < t))) ∧ Below w.heap.size w w' := by
  have HR := hide h
  have HB := hide hb
  obtain ⟨N, hN⟩ : ∃ N, N = decide ((bw bs env).2 < t) := ⟨_, rfl⟩
  rw [← hN]
  have HN := hide hN
  clear h hb hN
  go_enter Tryz.func44, Tryz.ntmps44
  go_wp2_with fail
  have hX := Bx.new w #[.bool d, .int .i64 p, .int .i64 e, .int .i64 x, sf, sv, .slice ab bs.length cb] 34
  have hB0 : Below w.heap.size w (w.alloc (.cells #[.bool d, .int .i64 p, .int .i64 e, .int .i64 x, sf, sv, .slice ab bs.length cb] 34)) := (Below.refl _ _).alloc (Nat.le_refl _) _
  obtain ⟨w0, hw0⟩ : ∃ w0, w0 = w.alloc (.cells #[.bool d, .int .i64 p, .int .i64 e, .int .i64 x, sf, sv, .slice ab bs.length cb] 34) := ⟨_, rfl⟩
  rw [← hw0] at hX hB0 ⊢
  have hcx := hX.c
  clear hw0 hX
  go_loopw [1] (fun ev w' => ∃ (en : Int), ev = .int .i64 en ∧ -1 ≤ en ∧ en < bs.length ∧ N = decide ((bw bs en).2 < t) ∧ w' = w0) (fun ev _ => (intOf ev + 1).toNat)
  case atStart => exact ⟨env, rfl, he.1, he.2, HN.out, rfl⟩
  case round =>
    obtain ⟨en, rfl, e1, e2, e3, rfl⟩ := hrel
    have E3 := hide e3
    clear e3
    by_cases hn : en < 0
    · have HZ := hide (bw_neg bs en hn)
      have hn' : ¬ (0 : Int) ≤ en := by omega
      go_wp2_with fail
      go_ret
      have h3 := E3.out
      rw [HZ.out, decide_eq_true (show ((0 : Int), (-1 : Int)).2 < t by simp only; omega)] at h3
      exact ⟨by rw [h3]; rfl, hB0⟩
    · obtain ⟨k, rfl⟩ := Int.eq_ofNat_of_zero_le (Int.not_lt.1 hn)
      have hk : k < bs.length := by omega
      have hk' : (k : Int) < (bs.length : Int) := by omega
      have hk0 : (0 : Int) ≤ (k : Int) := by omega
      obtain ⟨b, o, rfl, hb, q0, q1⟩ := BdRow.tok HR.out hB0 hk
      have hbk := bsOk_at HB.out hk
      have HS := hide (bw_step HB.out hk)
      obtain ⟨y, hy⟩ : ∃ y, y = bs[k] := ⟨_, rfl⟩
      rw [← hy] at q0 q1 hbk HS
      clear hy hn
      by_cases hv : t ≤ y.val
      · clear q1
        go_wp2_with fail
        go_ret
        have h3 := E3.out
        rw [HS.out, decide_eq_false (show ¬ ((bw bs y.up).1 + 1, max (bw bs y.up).2 y.val).2 < t by simp only; omega)] at h3
        exact ⟨by rw [h3]; rfl, hB0⟩
      · go_wp2_with fail
        have h3 := E3.out
        rw [HS.out] at h3
        refine ⟨⟨y.up, rfl, by omega, by omega, ?_, trivial⟩, by simp [intOf]; omega⟩
        rw [h3]
        simp only [decide_eq_decide]
        omega
end Go.Proofs.YtdajalchdbgooaaGreat.W
