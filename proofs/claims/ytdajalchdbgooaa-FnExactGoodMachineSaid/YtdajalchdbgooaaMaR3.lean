/-
  Contracts of cell, partNo, cameTo and boundTo. Conditions: places, bindings and values that are there.
-/
import Derived.Test.YtdajalchdbgooaaMaR0
import Derived.Deep.RegionHeld3
import Derived.Deep.RegionLaw
import Derived.Deep.AppendLies
import Derived.Deep.CutRange
namespace Go.Proofs.Ytdajalchdbgooaa.W
open Go.ChangeShapes Go.WideShapes Go.ChangeAt Go.RowKit
set_option linter.unusedVariables false

theorem fieldCell : ∀ (a b : Int) (w : World), (Instr.field 59 (.agg #[.int .i64 a, .int .i64 b]) 0).run Try.prog w = .ok (.int .i64 a) w := fun _ _ _ => by kernel_rfl
theorem fieldVal : ∀ (d : Bool) (a b c : Int) (w : World), (Instr.field 74 (.agg #[.bool d, .int .i64 a, .int .i64 b, .int .i64 c]) 0).run Try.prog w = .ok (.bool d) w := fun _ _ _ _ _ => by kernel_rfl

set_option maxHeartbeats 1000000 in
theorem taskCell_any (ad : Option Addr) (c : Nat) (l : List Cc) (p : Nat) (e : Int) (w : World) (h : CRow w ad l) (hp : p < l.length) (hl : l.length ≤ 1048576) :
    Calls Try.prog 100 #[.agg #[.slice ad l.length c, .int .i64 (p : Int), .int .i64 e]] w fun r w' => r = .returned (.agg #[.int .i64 l[p].k, .int .i64 l[p].n]) ∧ Below w.heap.size w w' := by
  obtain ⟨b, o, rfl, hb, q0, q1⟩ := h.tok (Below.refl _ _) hp
  have hp' : (p : Int) < (l.length : Int) := by omega
  have hp0 : (0 : Int) ≤ (p : Int) := by omega
  obtain ⟨x, hx⟩ : ∃ x, x = l[p] := ⟨_, rfl⟩
  rw [← hx] at q0 q1 ⊢
  clear hx h
  have a0 : ((w.alloc (.cells #[.slice (some ⟨b, o, none⟩) l.length c, .int .i64 (p : Int), .int .i64 e] 163)).alloc (.cells #[.int .i64 0, .int .i64 0] 59)).cell? ⟨b, o + p * 2, none⟩ = some (.int .i64 x.k) := by rw [World.cell?_alloc_some _ _ _ (by rw [World.cell?_alloc_some _ _ _ (by rw [q0]; rfl), q0]; rfl), World.cell?_alloc_some _ _ _ (by rw [q0]; rfl)]; exact q0
  have a1 : ((w.alloc (.cells #[.slice (some ⟨b, o, none⟩) l.length c, .int .i64 (p : Int), .int .i64 e] 163)).alloc (.cells #[.int .i64 0, .int .i64 0] 59)).cell? ⟨b, o + p * 2 + 1, none⟩ = some (.int .i64 x.n) := by rw [World.cell?_alloc_some _ _ _ (by rw [World.cell?_alloc_some _ _ _ (by rw [q1]; rfl), q1]; rfl), World.cell?_alloc_some _ _ _ (by rw [q1]; rfl)]; exact q1
  go_enter Try.func100, Try.ntmps100
  go_wp2_with fail
  exact bodyPost_ret (v := .agg #[.int .i64 x.k, .int .i64 x.n]) (by simp [results, Try.results100, go_sem]) rfl ⟨rfl, ((Below.refl _ _).alloc (Nat.le_refl _) _).alloc (by simp) _⟩

set_option maxHeartbeats 1000000 in
theorem cameTo_any (d : Bool) (p e : Int) (x : Nat) (sf sb : Value) (av : Option Addr) (cv : Nat) (vs : List Vl) (w : World) (h : VlRow w av vs) (hx : x < vs.length) (hl : vs.length ≤ 1048576) :
    Calls Try.prog 46 #[.agg #[.bool d, .int .i64 p, .int .i64 e, .int .i64 (x : Int), sf, .slice av vs.length cv, sb]] w fun r w' => r = .returned vs[x].v ∧ Below w.heap.size w w' := by
  obtain ⟨b, o, rfl, hb, q0, q1, q2, q3⟩ := VlRow.tok h (Below.refl _ _) hx
  have hp' : (x : Int) < (vs.length : Int) := by omega
  have hp0 : (0 : Int) ≤ (x : Int) := by omega
  obtain ⟨y, hy⟩ : ∃ y, y = vs[x] := ⟨_, rfl⟩
  rw [← hy] at q0 q1 q2 q3 ⊢
  clear hy h
  have aa : ∀ i v (o1 o2 : Obj), w.cell? ⟨b, i, none⟩ = some v → ((w.alloc o1).alloc o2).cell? ⟨b, i, none⟩ = some v := fun i v o1 o2 hv => by rw [World.cell?_alloc_some _ _ _ (by rw [World.cell?_alloc_some _ _ _ (by rw [hv]; rfl), hv]; rfl), World.cell?_alloc_some _ _ _ (by rw [hv]; rfl)]; exact hv
  have a0 := fun o1 o2 => aa _ _ o1 o2 q0
  have a1 := fun o1 o2 => aa _ _ o1 o2 q1
  have a2 := fun o1 o2 => aa _ _ o1 o2 q2
  have a3 := fun o1 o2 => aa _ _ o1 o2 q3
  clear aa
  go_enter Try.func46, Try.ntmps46
  go_wp2_with fail
  exact bodyPost_ret (v := y.v) (by simp [results, Try.results46, go_sem]) rfl ⟨rfl, ((Below.refl _ _).alloc (Nat.le_refl _) _).alloc (by simp) _⟩

set_option maxHeartbeats 1000000 in
theorem boundTo_any (d : Bool) (p e x : Int) (sf sv : Value) (ab : Option Addr) (cb nv : Nat) (bs : List Bd) (env : Int) (n : Nat) (w : World) (h : BdRow w ab bs) (hb : bsOk nv bs = true) (he : -1 ≤ env ∧ env < bs.length) (hn : (n : Int) < (bw bs env).1) (hl : bs.length ≤ 1048576) :
    Calls Try.prog 92 #[.agg #[.bool d, .int .i64 p, .int .i64 e, .int .i64 x, sf, sv, .slice ab bs.length cb], .int .i64 env, .int .i64 (n : Int)] w fun r w' => r = .returned (.int .i64 (lkB bs n env)) ∧ Below w.heap.size w w' := by
  have HR := hide h
  have HB := hide hb
  have HN : Hid (n ≤ 1048576) := hide (by have := bw_bound hb (env.toNat + 1) env he.1 (by omega) he.2; omega)
  have hn6 := HN.out
  clear h hb HN
  go_enter Try.func92, Try.ntmps92
  go_wp2_with fail
  have hX := Bx.new w #[.bool d, .int .i64 p, .int .i64 e, .int .i64 x, sf, sv, .slice ab bs.length cb] 28
  have hB0 : Below w.heap.size w (w.alloc (.cells #[.bool d, .int .i64 p, .int .i64 e, .int .i64 x, sf, sv, .slice ab bs.length cb] 28)) := (Below.refl _ _).alloc (Nat.le_refl _) _
  obtain ⟨w0, hw0⟩ : ∃ w0, w0 = w.alloc (.cells #[.bool d, .int .i64 p, .int .i64 e, .int .i64 x, sf, sv, .slice ab bs.length cb] 28) := ⟨_, rfl⟩
  rw [← hw0] at hX hB0 ⊢
  have hcx := hX.c
  clear hw0 hX
  go_loopw [1, 8] (fun ev i w' => ∃ (j : Nat) (en : Int), j ≤ n ∧ i = .int .i64 (j : Int) ∧ ev = .int .i64 en ∧ -1 ≤ en ∧ en < bs.length ∧ ((n - j : Nat) : Int) < (bw bs en).1 ∧ lkB bs (n - j) en = lkB bs n env ∧ w' = w0) (fun _ i _ => n - (intOf i).toNat)
  case atStart => exact ⟨0, env, by omega, rfl, rfl, he.1, he.2, by simpa using hn, by simp, rfl⟩
  case round =>
    obtain ⟨j, en, hj, rfl, rfl, e1, e2, e3, e4, rfl⟩ := hrel
    have e5 := (lkB_ok HB.out (n - j) en e2 e3).2.2
    obtain ⟨k, rfl⟩ := Int.eq_ofNat_of_zero_le e5
    have hk : k < bs.length := by omega
    have hk' : (k : Int) < (bs.length : Int) := by omega
    obtain ⟨b, o, rfl, hb, q0, q1⟩ := BdRow.tok HR.out hB0 hk
    have E4 := hide e4
    have E3 := hide e3
    have hbk := bsOk_at HB.out hk
    have HS := hide (bw_step HB.out hk)
    have HL0 : Hid (lkB bs 0 (k : Int) = bs[k].val) := hide (by unfold lkB; rw [Int.toNat_natCast, List.getElem?_eq_getElem hk])
    have HL1 : Hid (∀ i, lkB bs (i + 1) (k : Int) = lkB bs i bs[k].up) := hide (fun i => by rw [lkB, Int.toNat_natCast, List.getElem?_eq_getElem hk])
    obtain ⟨y, hy⟩ : ∃ y, y = bs[k] := ⟨_, rfl⟩
    rw [← hy] at q0 q1 hbk HS HL0 HL1
    clear hy e4 e3
    by_cases hlt : j < n
    · have hlt' : (j : Int) < (n : Int) := by omega
      clear q0
      go_wp2_with fail
      have h3 := E3.out
      rw [HS.out] at h3
      simp only at h3
      refine ⟨⟨j + 1, y.up, by omega, by go_num, rfl, by omega, by omega, by omega, ?_, trivial⟩, by simp [intOf]; omega⟩
      rw [← E4.out, show n - j = (n - (j + 1)) + 1 by omega, HL1.out]
    · obtain rfl : j = n := by omega
      clear q1
      go_wp2_with fail
      go_ret
      have h4 := E4.out
      rw [Nat.sub_self, HL0.out] at h4
      exact ⟨ret_int h4, hB0⟩
end Go.Proofs.Ytdajalchdbgooaa.W
