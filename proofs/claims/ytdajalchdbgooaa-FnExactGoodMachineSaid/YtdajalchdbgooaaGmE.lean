/-
  Contracts of isBelow and canBeDone. Conditions: closed terms, good bindings. Written by wip/build/mk_look.py.
-/
import Derived.Test.YtdajalchdbgooaaMaR3
import Derived.Deep.RegionHeld3
import Derived.Deep.RegionLaw
import Derived.Deep.AppendLies
import Derived.Deep.CutRange
namespace Go.Proofs.Ytdajalchdbgooaa.W
open Go.ChangeShapes Go.WideShapes Go.ChangeAt Go.RowKit
set_option linter.unusedVariables false
set_option linter.unusedSimpArgs false

theorem isBelow_any (n c : Int) (w : World) : Calls Try.prog 81 #[.int .i64 n, .int .i64 c] w fun r w' => r = .returned (.bool (blw n c)) ∧ w' = w := by
  by_cases h0 : 0 ≤ n
  · by_cases h1 : n < c
    · rw [blw_iff.2 ⟨h0, h1⟩]
      go_enter Try.func81, Try.ntmps81
      go_wp2_with fail
      go_ret
      exact ⟨rfl, rfl⟩
    · rw [blw_not.2 (.inr (Int.not_lt.1 h1))]
      go_enter Try.func81, Try.ntmps81
      go_wp2_with fail
      go_ret
      exact ⟨rfl, rfl⟩
  · rw [blw_not.2 (.inl (Int.not_le.1 h0))]
    go_enter Try.func81, Try.ntmps81
    go_wp2_with fail
    go_ret
    exact ⟨rfl, rfl⟩

/-- What a look reads: the term, what is bound around its places, the rows of bindings. -/
structure LkR (w : World) (ad : Option Addr) (l : List Cc) (a : F) (bs : List Bd) (ga ra : Nat) : Prop where
  t : CRow w ad l
  g : ∀ i, i < l.length → w.cell? ⟨ga, i, none⟩ = some (.int .i64 (tV (ndT a) i))
  gl : ga < w.heap.size
  r : ∀ i, i ≤ bs.length → w.cell? ⟨ra, i * 2, none⟩ = some (.int .i64 (bw bs ((i : Int) - 1)).1) ∧ w.cell? ⟨ra, i * 2 + 1, none⟩ = some (.int .i64 (bw bs ((i : Int) - 1)).2)
  rl : ra < w.heap.size
theorem LkR.below {w w' : World} {ad : Option Addr} {l : List Cc} {a : F} {bs : List Bd} {ga ra : Nat} (h : LkR w ad l a bs ga ra) (hb : Below w.heap.size w w') : LkR w' ad l a bs ga ra :=
  ⟨h.t.below hb, fun i hi => (hb.cell (p := ⟨ga, i, none⟩) h.gl).trans (h.g i hi), Nat.lt_of_lt_of_le h.gl hb.size,
    fun i hi => ⟨(hb.cell (p := ⟨ra, i * 2, none⟩) h.rl).trans (h.r i hi).1, (hb.cell (p := ⟨ra, i * 2 + 1, none⟩) h.rl).trans (h.r i hi).2⟩, Nat.lt_of_lt_of_le h.rl hb.size⟩

set_option maxRecDepth 20000 in
set_option maxHeartbeats 4000000 in
theorem canBeDone_any (ad : Option Addr) (c : Nat) (l : List Cc) (a : F) (d : Bool) (p e x : Int) (af av ab : Option Addr) (nf cf nv cv cb : Nat) (bs : List Bd) (ga ca ra NR cr : Nat) (pl env : Int) (w : World) (hCl : Cl l a) (hL : LkR w ad l a bs ga ra) (hb : bsOk nv bs = true) (hNR : NR = bs.length + 1) (hl : bs.length ≤ 1048576) (hv : nv ≤ 1048576) :
    Calls Try.prog 83 #[.agg #[.bool d, .int .i64 p, .int .i64 e, .int .i64 x, .slice af nf cf, .slice av nv cv, .slice ab bs.length cb, .slice ad l.length c, .slice (some ⟨ga, 0, none⟩) l.length ca, .slice (some ⟨ra, 0, none⟩) NR cr], .int .i64 pl, .int .i64 env] w fun r w' => r = .returned (.bool (pOk a l.length bs pl env)) ∧ Below w.heap.size w w' := by
  have hll := hCl.le
  have HA := hide (isBelow_any pl l.length)
  have HV := hide (isBelow_any env bs.length)
  have HL := hide hL
  by_cases h0 : 0 ≤ pl ∧ pl < (l.length : Int)
  · rw [blw_iff.2 h0] at HA
    by_cases h2 : -1 ≤ env ∧ env < (bs.length : Int)
    · obtain ⟨q, rfl⟩ := Int.eq_ofNat_of_zero_le h0.1
      obtain ⟨k, hk⟩ : ∃ k : Nat, env = (k : Int) - 1 := ⟨(env + 1).toNat, by omega⟩
      subst hk
      have hql : q < l.length := by omega
      have hkl : k ≤ bs.length := by omega
      have hq' : (q : Int) < (l.length : Int) := h0.2
      have hq0 : (0 : Int) ≤ (q : Int) := h0.1
      have hk' : (k : Int) < (NR : Int) := by omega
      have hk0 : (0 : Int) ≤ (k : Int) := by omega
      have hkw : IntKind.i64.wrap ((k : Int) - 1 + 1) = (k : Int) := by rw [show (k : Int) - 1 + 1 = (k : Int) by omega]; exact IntWalk.i64_in _ ⟨by omega, by omega⟩
      obtain ⟨TV, hTV⟩ : ∃ TV, TV = tV (ndT a) q := ⟨_, rfl⟩
      obtain ⟨NB, hNB⟩ : ∃ NB, NB = (bw bs ((k : Int) - 1)).1 := ⟨_, rfl⟩
      have hp : pOk a l.length bs (q : Int) ((k : Int) - 1) = decide (NB = TV) := by
        rw [hNB, hTV, Bool.eq_iff_iff, pOk_iff, decide_eq_true_iff]
        exact ⟨fun hh => hh.2.2, fun hh => ⟨h0, h2, hh⟩⟩
      rw [hp]
      have HTV := hide hTV
      have HNB := hide hNB
      clear hp hTV hNB h0 hNR
      by_cases h3 : (k : Int) - 1 = -1
      · clear HV h2
        obtain rfl : k = 0 := by omega
        have hz : (0 : Int) < (NR : Int) := by omega
        have hz1 : 1 ≤ NR := by omega
        rw [show ((0 : Nat) : Int) - 1 = -1 from rfl] at HNB ⊢
        clear hk' hk0 hkw h3
        go_enter Try.func83, Try.ntmps83
        go_upto_region 1 with fail
        have hB0 : Below w.heap.size w (w.alloc (.cells #[.bool d, .int .i64 p, .int .i64 e, .int .i64 x, .slice af nf cf, .slice av nv cv, .slice ab bs.length cb, .slice ad l.length c, .slice (some ⟨ga, 0, none⟩) l.length ca, .slice (some ⟨ra, 0, none⟩) NR cr] 93)) := (Below.refl _ _).alloc (Nat.le_refl _) _
        have hX := Bx.new w #[.bool d, .int .i64 p, .int .i64 e, .int .i64 x, .slice af nf cf, .slice av nv cv, .slice ab bs.length cb, .slice ad l.length c, .slice (some ⟨ga, 0, none⟩) l.length ca, .slice (some ⟨ra, 0, none⟩) NR cr] 93
        obtain ⟨w0, hw0⟩ : ∃ w0, w0 = (w.alloc (.cells #[.bool d, .int .i64 p, .int .i64 e, .int .i64 x, .slice af nf cf, .slice av nv cv, .slice ab bs.length cb, .slice ad l.length c, .slice (some ⟨ga, 0, none⟩) l.length ca, .slice (some ⟨ra, 0, none⟩) NR cr] 93)) := ⟨_, rfl⟩
        obtain ⟨XB, hXB⟩ : ∃ XB, XB = w.heap.size := ⟨_, rfl⟩
        rw [← hw0] at hX hB0 ⊢
        rw [← hXB] at hX ⊢
        have xl : XB < w0.heap.size := hX.lt
        have cx := hX.c
        have b0 : w0.cell? ⟨XB, 9, none⟩ = some (.slice (some ⟨ra, 0, none⟩) NR cr) := cx 9
        have b1 : w0.cell? ⟨XB, 8, none⟩ = some (.slice (some ⟨ga, 0, none⟩) l.length ca) := cx 8
        have b2 : w0.cell? ⟨ra, 0, none⟩ = some (.int .i64 NB) := by rw [HNB.out]; exact ((HL.out.below hB0).r 0 (Nat.zero_le _)).1
        have b3 : w0.cell? ⟨ga, q, none⟩ = some (.int .i64 TV) := by rw [HTV.out]; exact (HL.out.below hB0).g q hql
        clear hX hw0 hXB hL
        go_wp2_with fail
        refine (HA.out _).mono ?_
        rintro r w' ⟨rfl, hw'⟩
        subst hw'
        clear cx
        go_upto_region 3 with fail
        go_quiet (fail)
        go_wp2_with fail
        go_ret
        exact ⟨rfl, ⟨hB0.os, hB0.tape, hB0.output, hB0.size, hB0.block⟩⟩
      · have hev : blw ((k : Int) - 1) bs.length = true := blw_iff.2 ⟨by omega, h2.2⟩
        rw [hev] at HV
        clear hev h2
        go_enter Try.func83, Try.ntmps83
        go_upto_region 1 with fail
        have hB0 : Below w.heap.size w (w.alloc (.cells #[.bool d, .int .i64 p, .int .i64 e, .int .i64 x, .slice af nf cf, .slice av nv cv, .slice ab bs.length cb, .slice ad l.length c, .slice (some ⟨ga, 0, none⟩) l.length ca, .slice (some ⟨ra, 0, none⟩) NR cr] 93)) := (Below.refl _ _).alloc (Nat.le_refl _) _
        have hX := Bx.new w #[.bool d, .int .i64 p, .int .i64 e, .int .i64 x, .slice af nf cf, .slice av nv cv, .slice ab bs.length cb, .slice ad l.length c, .slice (some ⟨ga, 0, none⟩) l.length ca, .slice (some ⟨ra, 0, none⟩) NR cr] 93
        obtain ⟨w0, hw0⟩ : ∃ w0, w0 = (w.alloc (.cells #[.bool d, .int .i64 p, .int .i64 e, .int .i64 x, .slice af nf cf, .slice av nv cv, .slice ab bs.length cb, .slice ad l.length c, .slice (some ⟨ga, 0, none⟩) l.length ca, .slice (some ⟨ra, 0, none⟩) NR cr] 93)) := ⟨_, rfl⟩
        obtain ⟨XB, hXB⟩ : ∃ XB, XB = w.heap.size := ⟨_, rfl⟩
        rw [← hw0] at hX hB0 ⊢
        rw [← hXB] at hX ⊢
        have xl : XB < w0.heap.size := hX.lt
        have cx := hX.c
        have b0 : w0.cell? ⟨XB, 9, none⟩ = some (.slice (some ⟨ra, 0, none⟩) NR cr) := cx 9
        have b1 : w0.cell? ⟨XB, 8, none⟩ = some (.slice (some ⟨ga, 0, none⟩) l.length ca) := cx 8
        have b2 : w0.cell? ⟨ra, k * 2, none⟩ = some (.int .i64 NB) := by rw [HNB.out]; exact ((HL.out.below hB0).r k hkl).1
        have b3 : w0.cell? ⟨ga, q, none⟩ = some (.int .i64 TV) := by rw [HTV.out]; exact (HL.out.below hB0).g q hql
        clear hX hw0 hXB hL
        go_wp2_with fail
        refine (HA.out _).mono ?_
        rintro r w' ⟨rfl, hw'⟩
        subst hw'
        go_wp2_with fail
        refine (HV.out _).mono ?_
        rintro r w' ⟨rfl, hw'⟩
        subst hw'
        clear cx
        go_upto_region 3 with fail
        go_quiet (fail)
        go_wp2_with fail
        go_ret
        exact ⟨rfl, ⟨hB0.os, hB0.tape, hB0.output, hB0.size, hB0.block⟩⟩
    · have hp : pOk a l.length bs pl env = false := by
        rw [Bool.eq_false_iff]; intro hh; exact h2 (pOk_iff.1 hh).2.1
      have hev : blw env bs.length = false := by
        rw [Bool.eq_false_iff]; intro hh; rw [blw_iff] at hh; omega
      have hne : ¬ env = -1 := by omega
      rw [hp]
      rw [hev] at HV
      clear hp hev h2 hL HL h0 hNR
      go_enter Try.func83, Try.ntmps83
      go_upto_region 1 with fail
      have hB0 : Below w.heap.size w (w.alloc (.cells #[.bool d, .int .i64 p, .int .i64 e, .int .i64 x, .slice af nf cf, .slice av nv cv, .slice ab bs.length cb, .slice ad l.length c, .slice (some ⟨ga, 0, none⟩) l.length ca, .slice (some ⟨ra, 0, none⟩) NR cr] 93)) := (Below.refl _ _).alloc (Nat.le_refl _) _
      have hX := Bx.new w #[.bool d, .int .i64 p, .int .i64 e, .int .i64 x, .slice af nf cf, .slice av nv cv, .slice ab bs.length cb, .slice ad l.length c, .slice (some ⟨ga, 0, none⟩) l.length ca, .slice (some ⟨ra, 0, none⟩) NR cr] 93
      obtain ⟨w0, hw0⟩ : ∃ w0, w0 = (w.alloc (.cells #[.bool d, .int .i64 p, .int .i64 e, .int .i64 x, .slice af nf cf, .slice av nv cv, .slice ab bs.length cb, .slice ad l.length c, .slice (some ⟨ga, 0, none⟩) l.length ca, .slice (some ⟨ra, 0, none⟩) NR cr] 93)) := ⟨_, rfl⟩
      obtain ⟨XB, hXB⟩ : ∃ XB, XB = w.heap.size := ⟨_, rfl⟩
      rw [← hw0] at hX hB0 ⊢
      rw [← hXB] at hX ⊢
      have xl : XB < w0.heap.size := hX.lt
      have cx := hX.c
      clear hX hw0 hXB
      go_wp2_with fail
      refine (HA.out _).mono ?_
      rintro r w' ⟨rfl, hw'⟩
      subst hw'
      go_wp2_with fail
      refine (HV.out _).mono ?_
      rintro r w' ⟨rfl, hw'⟩
      subst hw'
      go_wp2_with fail
      go_ret
      exact ⟨rfl, hB0⟩
  · have hp : pOk a l.length bs pl env = false := by
      rw [Bool.eq_false_iff]; intro hh; exact h0 (pOk_iff.1 hh).1
    have hev : blw pl l.length = false := by
      rw [Bool.eq_false_iff]; intro hh; exact h0 (blw_iff.1 hh)
    rw [hp]
    rw [hev] at HA
    clear hp hev h0 hL HL HV hNR
    go_enter Try.func83, Try.ntmps83
    go_upto_region 1 with fail
    have hB0 : Below w.heap.size w (w.alloc (.cells #[.bool d, .int .i64 p, .int .i64 e, .int .i64 x, .slice af nf cf, .slice av nv cv, .slice ab bs.length cb, .slice ad l.length c, .slice (some ⟨ga, 0, none⟩) l.length ca, .slice (some ⟨ra, 0, none⟩) NR cr] 93)) := (Below.refl _ _).alloc (Nat.le_refl _) _
    have hX := Bx.new w #[.bool d, .int .i64 p, .int .i64 e, .int .i64 x, .slice af nf cf, .slice av nv cv, .slice ab bs.length cb, .slice ad l.length c, .slice (some ⟨ga, 0, none⟩) l.length ca, .slice (some ⟨ra, 0, none⟩) NR cr] 93
    obtain ⟨w0, hw0⟩ : ∃ w0, w0 = (w.alloc (.cells #[.bool d, .int .i64 p, .int .i64 e, .int .i64 x, .slice af nf cf, .slice av nv cv, .slice ab bs.length cb, .slice ad l.length c, .slice (some ⟨ga, 0, none⟩) l.length ca, .slice (some ⟨ra, 0, none⟩) NR cr] 93)) := ⟨_, rfl⟩
    obtain ⟨XB, hXB⟩ : ∃ XB, XB = w.heap.size := ⟨_, rfl⟩
    rw [← hw0] at hX hB0 ⊢
    rw [← hXB] at hX ⊢
    have xl : XB < w0.heap.size := hX.lt
    have cx := hX.c
    clear hX hw0 hXB
    go_wp2_with fail
    refine (HA.out _).mono ?_
    rintro r w' ⟨rfl, hw'⟩
    subst hw'
    go_wp2_with fail
    go_ret
    exact ⟨rfl, hB0⟩
end Go.Proofs.Ytdajalchdbgooaa.W
