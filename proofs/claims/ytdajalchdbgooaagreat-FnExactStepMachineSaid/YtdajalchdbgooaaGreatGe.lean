/-
  Some texts of this proof in one: GmE, GmF, GmG.
-/
import Derived.Test.YtdajalchdbgooaaGreatGr
import Derived.Deep.RegionHeld3
import Derived.Deep.RegionLaw
import Derived.Deep.AppendLies
import Derived.Deep.CutRange
import Derived.Test.YtdajalchdbgooaaGreatTeG
/-
  Contracts of isBelow and canBeDone. Conditions: closed terms, good bindings. Written by wip/build/mk_look.py.
-/
namespace Go.Proofs.YtdajalchdbgooaaGreat.W
open Go.ChangeShapes Go.WideShapes Go.ChangeAt Go.RowKit
set_option linter.unusedVariables false
set_option linter.unusedSimpArgs false

theorem isBelow_any (n c : Int) (w : World) : Calls Tryz.prog 78 #[.int .i64 n, .int .i64 c] w fun r w' => r = .returned (.bool (blw n c)) ∧ w' = w := by
  by_cases h0 : 0 ≤ n
  · by_cases h1 : n < c
    · rw [blw_iff.2 ⟨h0, h1⟩]
      go_enter Tryz.func78, Tryz.ntmps78
      go_wp2_with fail
      go_ret
      exact ⟨rfl, rfl⟩
    · rw [blw_not.2 (.inr (Int.not_lt.1 h1))]
      go_enter Tryz.func78, Tryz.ntmps78
      go_wp2_with fail
      go_ret
      exact ⟨rfl, rfl⟩
  · rw [blw_not.2 (.inl (Int.not_le.1 h0))]
    go_enter Tryz.func78, Tryz.ntmps78
    go_wp2_with fail
    go_ret
    exact ⟨rfl, rfl⟩

/-- What a look reads: the term, what is bound around its places, the rows of bindings. -/
structure LkR (w : World) (ad : Option Addr) (l : List Cc) (a : F) (bs : List Bd) (ga ra : Nat) : Prop where
  t : CRow w ad l
  g : ∀ i, i < l.length → w.cell? ⟨ga, i, none⟩ = some (.int .i64 (tV (ndT a) i))
  gl : ga < w.heap.size
  r : ∀ i, i ≤ bs.length → w.cell? ⟨ra, i * 2, none⟩ = some (.int .i64 (bw bs ((i : Int) - 1)).1) ∧ w.cell? ⟨ra, i * 2 + 1, none⟩ = some (.int .i64 (bw bs ((i : Int) - 1)).2)
  rl : ra < w.heap.size
theorem LkR.below {w w' : World} {ad : Option Addr} {l : List Cc} {a : F} {bs : List Bd} {ga ra : Nat} (h : LkR w ad l a bs ga ra) (hb : Below w.heap.size w w') : LkR w' ad l a bs ga ra :=
  ⟨h.t.below hb, fun i hi => (hb.cell (p := ⟨ga, i, none⟩) h.gl).trans (h.g i hi), Nat.lt_of_lt_of_le h.gl hb.size,
    fun i hi => ⟨(hb.cell (p := ⟨ra, i * 2, none⟩) h.rl).trans (h.r i hi).1, (hb.cell (p := ⟨ra, i * 2 + 1, none⟩) h.rl).trans (h.r i hi).2⟩, Nat.lt_of_lt_of_le h.rl hb.size⟩

set_option maxRecDepth 20000 in
set_option maxHeartbeats 4000000 in
theorem canBeDone_any (ad : Option Addr) (c : Nat) (l : List Cc) (a : F) (d : Bool) (p e x : Int) (af av ab : Option Addr) (nf cf nv cv cb : Nat) (bs : List Bd) (ga ca ra NR cr : Nat) (pl env : Int) (w : World) (hCl : Cl l a) (hL : LkR w ad l a bs ga ra) (hb : bsOk nv bs = true) (hNR : NR = bs.length + 1) (hl : bs.length ≤ 1048576) (hv : nv ≤ 1048576) :
    Calls Tryz.prog 80 #[.agg #[.bool d, .int .i64 p, .int .i64 e, .int .i64 x, .slice af nf cf, .slice av nv cv, .slice ab bs.length cb, .slice ad l.length c, .slice (some ⟨ga, 0, none⟩) l.length ca, .slice (some ⟨ra, 0, none⟩) NR cr], .int .i64 pl, .int .i64 env] w fun r w' => r = .returned (.bool (pOk a l.length bs pl env)) ∧ Below w.heap.size w w' := by
  have hll := hCl.le
  have HA := hide (isBelow_any pl l.length)
  have HV := hide (isBelow_any env bs.length)
  have HL := hide hL
  by_cases h0 : 0 ≤ pl ∧ pl < (l.length : Int)
  · rw [blw_iff.2 h0] at HA
    by_cases h2 : -1 ≤ env ∧ env < (bs.length : Int)
    · obtain ⟨q, rfl⟩ := Int.eq_ofNat_of_zero_le h0.1
      obtain ⟨k, hk⟩ : ∃ k : Nat, env = (k : Int) - 1 := ⟨(env + 1).toNat, by omega⟩
      subst hk
      have hql : q < l.length := by omega
      have hkl : k ≤ bs.length := by omega
      have hq' : (q : Int) < (l.length : Int) := h0.2
      have hq0 : (0 : Int) ≤ (q : Int) := h0.1
      have hk' : (k : Int) < (NR : Int) := by omega
      have hk0 : (0 : Int) ≤ (k : Int) := by omega
      have hkw : IntKind.i64.wrap ((k : Int) - 1 + 1) = (k : Int) := by rw [show (k : Int) - 1 + 1 = (k : Int) by omega]; exact IntWalk.i64_in _ ⟨by omega, by omega⟩
      obtain ⟨TV, hTV⟩ : ∃ TV, TV = tV (ndT a) q := ⟨_, rfl⟩
      obtain ⟨NB, hNB⟩ : ∃ NB, NB = (bw bs ((k : Int) - 1)).1 := ⟨_, rfl⟩
      have hp : pOk a l.length bs (q : Int) ((k : Int) - 1) = decide (NB = TV) := by
        rw [hNB, hTV, Bool.eq_iff_iff, pOk_iff, decide_eq_true_iff]
        exact ⟨fun hh => hh.2.2, fun hh => ⟨h0, h2, hh⟩⟩
      rw [hp]
      have HTV := hide hTV
      have HNB := hide hNB
      clear hp hTV hNB h0 hNR
      by_cases h3 : (k : Int) - 1 = -1
      · clear HV h2
        obtain rfl : k = 0 := by omega
        have hz : (0 : Int) < (NR : Int) := by omega
        have hz1 : 1 ≤ NR := by omega
        rw [show ((0 : Nat) : Int) - 1 = -1 from rfl] at HNB ⊢
        clear hk' hk0 hkw h3
        go_enter Tryz.func80, Tryz.ntmps80
        go_upto_region 1 with fail
        have hB0 : Below w.heap.size w (w.alloc (.cells #[.bool d, .int .i64 p, .int .i64 e, .int .i64 x, .slice af nf cf, .slice av nv cv, .slice ab bs.length cb, .slice ad l.length c, .slice (some ⟨ga, 0, none⟩) l.length ca, .slice (some ⟨ra, 0, none⟩) NR cr] 108)) := (Below.refl _ _).alloc (Nat.le_refl _) _
        have hX := Bx.new w #[.bool d, .int .i64 p, .int .i64 e, .int .i64 x, .slice af nf cf, .slice av nv cv, .slice ab bs.length cb, .slice ad l.length c, .slice (some ⟨ga, 0, none⟩) l.length ca, .slice (some ⟨ra, 0, none⟩) NR cr] 108
        obtain ⟨w0, hw0⟩ : ∃ w0, w0 = (w.alloc (.cells #[.bool d, .int .i64 p, .int .i64 e, .int .i64 x, .slice af nf cf, .slice av nv cv, .slice ab bs.length cb, .slice ad l.length c, .slice (some ⟨ga, 0, none⟩) l.length ca, .slice (some ⟨ra, 0, none⟩) NR cr] 108)) := ⟨_, rfl⟩
        obtain ⟨XB, hXB⟩ : ∃ XB, XB = w.heap.size := ⟨_, rfl⟩
        rw [← hw0] at hX hB0 ⊢
        rw [← hXB] at hX ⊢
        have xl : XB < w0.heap.size := hX.lt
        have cx := hX.c
        have b0 : w0.cell? ⟨XB, 9, none⟩ = some (.slice (some ⟨ra, 0, none⟩) NR cr) := cx 9
        have b1 : w0.cell? ⟨XB, 8, none⟩ = some (.slice (some ⟨ga, 0, none⟩) l.length ca) := cx 8
        have b2 : w0.cell? ⟨ra, 0, none⟩ = some (.int .i64 NB) := by rw [HNB.out]; exact ((HL.out.below hB0).r 0 (Nat.zero_le _)).1
        have b3 : w0.cell? ⟨ga, q, none⟩ = some (.int .i64 TV) := by rw [HTV.out]; exact (HL.out.below hB0).g q hql
        clear hX hw0 hXB hL
        go_wp2_with fail
        refine (HA.out _).mono ?_
        rintro r w' ⟨rfl, hw'⟩
        subst hw'
        clear cx
        go_upto_region 3 with fail
        go_quiet (fail)
        go_wp2_with fail
        go_ret
        exact ⟨rfl, ⟨hB0.os, hB0.tape, hB0.output, hB0.size, hB0.block⟩⟩
      · have hev : blw ((k : Int) - 1) bs.length = true := blw_iff.2 ⟨by omega, h2.2⟩
        rw [hev] at HV
        clear hev h2
        go_enter Tryz.func80, Tryz.ntmps80
        go_upto_region 1 with fail
        have hB0 : Below w.heap.size w (w.alloc (.cells #[.bool d, .int .i64 p, .int .i64 e, .int .i64 x, .slice af nf cf, .slice av nv cv, .slice ab bs.length cb, .slice ad l.length c, .slice (some ⟨ga, 0, none⟩) l.length ca, .slice (some ⟨ra, 0, none⟩) NR cr] 108)) := (Below.refl _ _).alloc (Nat.le_refl _) _
        have hX := Bx.new w #[.bool d, .int .i64 p, .int .i64 e, .int .i64 x, .slice af nf cf, .slice av nv cv, .slice ab bs.length cb, .slice ad l.length c, .slice (some ⟨ga, 0, none⟩) l.length ca, .slice (some ⟨ra, 0, none⟩) NR cr] 108
        obtain ⟨w0, hw0⟩ : ∃ w0, w0 = (w.alloc (.cells #[.bool d, .int .i64 p, .int .i64 e, .int .i64 x, .slice af nf cf, .slice av nv cv, .slice ab bs.length cb, .slice ad l.length c, .slice (some ⟨ga, 0, none⟩) l.length ca, .slice (some ⟨ra, 0, none⟩) NR cr] 108)) := ⟨_, rfl⟩
        obtain ⟨XB, hXB⟩ : ∃ XB, XB = w.heap.size := ⟨_, rfl⟩
        rw [← hw0] at hX hB0 ⊢
        rw [← hXB] at hX ⊢
        have xl : XB < w0.heap.size := hX.lt
        have cx := hX.c
        have b0 : w0.cell? ⟨XB, 9, none⟩ = some (.slice (some ⟨ra, 0, none⟩) NR cr) := cx 9
        have b1 : w0.cell? ⟨XB, 8, none⟩ = some (.slice (some ⟨ga, 0, none⟩) l.length ca) := cx 8
        have b2 : w0.cell? ⟨ra, k * 2, none⟩ = some (.int .i64 NB) := by rw [HNB.out]; exact ((HL.out.below hB0).r k hkl).1
        have b3 : w0.cell? ⟨ga, q, none⟩ = some (.int .i64 TV) := by rw [HTV.out]; exact (HL.out.below hB0).g q hql
        clear hX hw0 hXB hL
        go_wp2_with fail
        refine (HA.out _).mono ?_
        rintro r w' ⟨rfl, hw'⟩
        subst hw'
        go_wp2_with fail
        refine (HV.out _).mono ?_
        rintro r w' ⟨rfl, hw'⟩
        subst hw'
        clear cx
        go_upto_region 3 with fail
        go_quiet (fail)
        go_wp2_with fail
        go_ret
        exact ⟨rfl, ⟨hB0.os, hB0.tape, hB0.output, hB0.size, hB0.block⟩⟩
    · have hp : pOk a l.length bs pl env = false := by
        rw [Bool.eq_false_iff]; intro hh; exact h2 (pOk_iff.1 hh).2.1
      have hev : blw env bs.length = false := by
        rw [Bool.eq_false_iff]; intro hh; rw [blw_iff] at hh; omega
      have hne : ¬ env = -1 := by omega
      rw [hp]
      rw [hev] at HV
      clear hp hev h2 hL HL h0 hNR
      go_enter Tryz.func80, Tryz.ntmps80
      go_upto_region 1 with fail
      have hB0 : Below w.heap.size w (w.alloc (.cells #[.bool d, .int .i64 p, .int .i64 e, .int .i64 x, .slice af nf cf, .slice av nv cv, .slice ab bs.length cb, .slice ad l.length c, .slice (some ⟨ga, 0, none⟩) l.length ca, .slice (some ⟨ra, 0, none⟩) NR cr] 108)) := (Below.refl _ _).alloc (Nat.le_refl _) _
      have hX := Bx.new w #[.bool d, .int .i64 p, .int .i64 e, .int .i64 x, .slice af nf cf, .slice av nv cv, .slice ab bs.length cb, .slice ad l.length c, .slice (some ⟨ga, 0, none⟩) l.length ca, .slice (some ⟨ra, 0, none⟩) NR cr] 108
      obtain ⟨w0, hw0⟩ : ∃ w0, w0 = (w.alloc (.cells #[.bool d, .int .i64 p, .int .i64 e, .int .i64 x, .slice af nf cf, .slice av nv cv, .slice ab bs.length cb, .slice ad l.length c, .slice (some ⟨ga, 0, none⟩) l.length ca, .slice (some ⟨ra, 0, none⟩) NR cr] 108)) := ⟨_, rfl⟩
      obtain ⟨XB, hXB⟩ : ∃ XB, XB = w.heap.size := ⟨_, rfl⟩
      rw [← hw0] at hX hB0 ⊢
      rw [← hXB] at hX ⊢
      have xl : XB < w0.heap.size := hX.lt
      have cx := hX.c
      clear hX hw0 hXB
      go_wp2_with fail
      refine (HA.out _).mono ?_
      rintro r w' ⟨rfl, hw'⟩
      subst hw'
      go_wp2_with fail
      refine (HV.out _).mono ?_
      rintro r w' ⟨rfl, hw'⟩
      subst hw'
      go_wp2_with fail
      go_ret
      exact ⟨rfl, hB0⟩
  · have hp : pOk a l.length bs pl env = false := by
      rw [Bool.eq_false_iff]; intro hh; exact h0 (pOk_iff.1 hh).1
    have hev : blw pl l.length = false := by
      rw [Bool.eq_false_iff]; intro hh; exact h0 (blw_iff.1 hh)
    rw [hp]
    rw [hev] at HA
    clear hp hev h0 hL HL HV hNR
    go_enter Tryz.func80, Tryz.ntmps80
    go_upto_region 1 with fail
    have hB0 : Below w.heap.size w (w.alloc (.cells #[.bool d, .int .i64 p, .int .i64 e, .int .i64 x, .slice af nf cf, .slice av nv cv, .slice ab bs.length cb, .slice ad l.length c, .slice (some ⟨ga, 0, none⟩) l.length ca, .slice (some ⟨ra, 0, none⟩) NR cr] 108)) := (Below.refl _ _).alloc (Nat.le_refl _) _
    have hX := Bx.new w #[.bool d, .int .i64 p, .int .i64 e, .int .i64 x, .slice af nf cf, .slice av nv cv, .slice ab bs.length cb, .slice ad l.length c, .slice (some ⟨ga, 0, none⟩) l.length ca, .slice (some ⟨ra, 0, none⟩) NR cr] 108
    obtain ⟨w0, hw0⟩ : ∃ w0, w0 = (w.alloc (.cells #[.bool d, .int .i64 p, .int .i64 e, .int .i64 x, .slice af nf cf, .slice av nv cv, .slice ab bs.length cb, .slice ad l.length c, .slice (some ⟨ga, 0, none⟩) l.length ca, .slice (some ⟨ra, 0, none⟩) NR cr] 108)) := ⟨_, rfl⟩
    obtain ⟨XB, hXB⟩ : ∃ XB, XB = w.heap.size := ⟨_, rfl⟩
    rw [← hw0] at hX hB0 ⊢
    rw [← hXB] at hX ⊢
    have xl : XB < w0.heap.size := hX.lt
    have cx := hX.c
    clear hX hw0 hXB
    go_wp2_with fail
    refine (HA.out _).mono ?_
    rintro r w' ⟨rfl, hw'⟩
    subst hw'
    go_wp2_with fail
    go_ret
    exact ⟨rfl, hB0⟩
end Go.Proofs.YtdajalchdbgooaaGreat.W

/-
  Contracts of goodVal, goodFrame, goodNow. Conditions: closed terms, good bindings. Written by wip/build/mk_look.py.
-/
namespace Go.Proofs.YtdajalchdbgooaaGreat.W
open Go.ChangeShapes Go.WideShapes Go.ChangeAt Go.RowKit
set_option linter.unusedVariables false
set_option linter.unusedSimpArgs false

theorem kAt_nat (l : List Cc) (q : Nat) (h : q < l.length) : kAt l (q : Int) = l[q].k := by unfold kAt; rw [Int.toNat_natCast, List.getElem?_eq_getElem h]

set_option maxRecDepth 20000 in
set_option maxHeartbeats 4000000 in
theorem goodVal_num (ad : Option Addr) (c : Nat) (l : List Cc) (a : F) (d : Bool) (p e x : Int) (af av ab : Option Addr) (nf cf nv cv cb : Nat) (bs : List Bd) (ga ca ra NR cr : Nat) (num pl env : Int) (i : Nat) (w : World) (hCl : Cl l a) (hL : LkR w ad l a bs ga ra) (hb : bsOk nv bs = true) (hNR : NR = bs.length + 1) (hl : bs.length ≤ 1048576) (hv : nv ≤ 1048576) :
    Calls Tryz.prog 55 #[.agg #[.bool d, .int .i64 p, .int .i64 e, .int .i64 x, .slice af nf cf, .slice av nv cv, .slice ab bs.length cb, .slice ad l.length c, .slice (some ⟨ga, 0, none⟩) l.length ca, .slice (some ⟨ra, 0, none⟩) NR cr], .agg #[.bool false, .int .i64 num, .int .i64 pl, .int .i64 env], .int .i64 (i : Int)] w fun r w' => r = .returned (.bool (vOk a l bs i ⟨false, num, pl, env⟩)) ∧ Below w.heap.size w w' := by
  have hvo : vOk a l bs i ⟨false, num, pl, env⟩ = (goodC ⟨2, num⟩ && decide (pl = 0) && decide (env = 0)) := by
    unfold vOk goodC; simp
  rw [hvo]
  have HG := hide (goodCell_any ⟨2, num⟩)
  simp only at HG
  obtain ⟨G, hG⟩ : ∃ G, G = goodC ⟨2, num⟩ := ⟨_, rfl⟩
  rw [← hG] at HG ⊢
  clear hG hvo hL hb hNR hCl
  go_enter Tryz.func55, Tryz.ntmps55
  go_upto_region 1 with fail
  have hB0 : Below w.heap.size w ((w.alloc (.cells #[.bool d, .int .i64 p, .int .i64 e, .int .i64 x, .slice af nf cf, .slice av nv cv, .slice ab bs.length cb, .slice ad l.length c, .slice (some ⟨ga, 0, none⟩) l.length ca, .slice (some ⟨ra, 0, none⟩) NR cr] 108)).alloc (.cells #[.bool false, .int .i64 num, .int .i64 pl, .int .i64 env] 88)) := ((Below.refl _ _).alloc (Nat.le_refl _) _).alloc (by simp) _
  have hX := (Bx.new w #[.bool d, .int .i64 p, .int .i64 e, .int .i64 x, .slice af nf cf, .slice av nv cv, .slice ab bs.length cb, .slice ad l.length c, .slice (some ⟨ga, 0, none⟩) l.length ca, .slice (some ⟨ra, 0, none⟩) NR cr] 108).alloc (.cells #[.bool false, .int .i64 num, .int .i64 pl, .int .i64 env] 88)
  have hY := Bx.new (w.alloc (.cells #[.bool d, .int .i64 p, .int .i64 e, .int .i64 x, .slice af nf cf, .slice av nv cv, .slice ab bs.length cb, .slice ad l.length c, .slice (some ⟨ga, 0, none⟩) l.length ca, .slice (some ⟨ra, 0, none⟩) NR cr] 108)) #[.bool false, .int .i64 num, .int .i64 pl, .int .i64 env] 88
  simp only [World.size_alloc] at hY
  obtain ⟨w0, hw0⟩ : ∃ w0, w0 = ((w.alloc (.cells #[.bool d, .int .i64 p, .int .i64 e, .int .i64 x, .slice af nf cf, .slice av nv cv, .slice ab bs.length cb, .slice ad l.length c, .slice (some ⟨ga, 0, none⟩) l.length ca, .slice (some ⟨ra, 0, none⟩) NR cr] 108)).alloc (.cells #[.bool false, .int .i64 num, .int .i64 pl, .int .i64 env] 88)) := ⟨_, rfl⟩
  obtain ⟨XB, hXB⟩ : ∃ XB, XB = w.heap.size := ⟨_, rfl⟩
  rw [← hw0] at hX hY hB0 ⊢
  rw [← hXB] at hX hY ⊢
  have xl : XB < w0.heap.size := hX.lt
  have yl : XB + 1 < w0.heap.size := hY.lt
  have HX := hide hX
  have HY := hide hY
  have cx := hX.c
  have cy := hY.c
  clear hX hY hw0 hXB
  go_wp2_with fail
  refine (HG.out _).mono ?_
  rintro r w1 ⟨rfl, hb1⟩
  have hB1 : Below w.heap.size w w1 := hB0.trans (hb1.mono hB0.size)
  have cy1 := (HY.out.below hb1 yl).c
  clear cx cy hb1
  cases G with
  | false =>
    go_wp2_with fail
    go_ret
    exact ⟨rfl, hB1⟩
  | true =>
    by_cases h1 : pl = 0
    · by_cases h2 : env = 0
      · subst h1 h2
        go_wp2_with fail
        go_ret
        exact ⟨rfl, hB1⟩
      · subst h1
        go_wp2_with fail
        go_ret
        exact ⟨ret_bool (by simp [h2]), hB1⟩
    · go_wp2_with fail
      go_ret
      exact ⟨ret_bool (by simp [h1]), hB1⟩

set_option maxRecDepth 20000 in
set_option maxHeartbeats 4000000 in
theorem goodVal_fun (ad : Option Addr) (c : Nat) (l : List Cc) (a : F) (d : Bool) (p e x : Int) (af av ab : Option Addr) (nf cf nv cv cb : Nat) (bs : List Bd) (ga ca ra NR cr : Nat) (num pl env : Int) (i : Nat) (w : World) (hCl : Cl l a) (hL : LkR w ad l a bs ga ra) (hb : bsOk nv bs = true) (hNR : NR = bs.length + 1) (hl : bs.length ≤ 1048576) (hv : nv ≤ 1048576) (hi : i ≤ 1048576) :
    Calls Tryz.prog 55 #[.agg #[.bool d, .int .i64 p, .int .i64 e, .int .i64 x, .slice af nf cf, .slice av nv cv, .slice ab bs.length cb, .slice ad l.length c, .slice (some ⟨ga, 0, none⟩) l.length ca, .slice (some ⟨ra, 0, none⟩) NR cr], .agg #[.bool true, .int .i64 num, .int .i64 pl, .int .i64 env], .int .i64 (i : Int)] w fun r w' => r = .returned (.bool (vOk a l bs i ⟨true, num, pl, env⟩)) ∧ Below w.heap.size w w' := by
  have hll := hCl.le
  by_cases hn : num = 0
  · subst hn
    have HD := hide (fun (w' : World) (hb' : Below w.heap.size w w') => canBeDone_any ad c l a d p e x af av ab nf cf nv cv cb bs ga ca ra NR cr pl env w' hCl (hL.below hb') hb hNR hl hv)
    cases hp : pOk a l.length bs pl env with
    | false =>
      have hvo : vOk a l bs i ⟨true, 0, pl, env⟩ = false := by unfold vOk; simp [hp]
      rw [hvo]
      rw [hp] at HD
      clear hvo hp hL hb hNR hCl
      go_enter Tryz.func55, Tryz.ntmps55
      go_upto_region 1 with fail
      have hB0 : Below w.heap.size w ((w.alloc (.cells #[.bool d, .int .i64 p, .int .i64 e, .int .i64 x, .slice af nf cf, .slice av nv cv, .slice ab bs.length cb, .slice ad l.length c, .slice (some ⟨ga, 0, none⟩) l.length ca, .slice (some ⟨ra, 0, none⟩) NR cr] 108)).alloc (.cells #[.bool true, .int .i64 0, .int .i64 pl, .int .i64 env] 88)) := ((Below.refl _ _).alloc (Nat.le_refl _) _).alloc (by simp) _
      have hX := (Bx.new w #[.bool d, .int .i64 p, .int .i64 e, .int .i64 x, .slice af nf cf, .slice av nv cv, .slice ab bs.length cb, .slice ad l.length c, .slice (some ⟨ga, 0, none⟩) l.length ca, .slice (some ⟨ra, 0, none⟩) NR cr] 108).alloc (.cells #[.bool true, .int .i64 0, .int .i64 pl, .int .i64 env] 88)
      have hY := Bx.new (w.alloc (.cells #[.bool d, .int .i64 p, .int .i64 e, .int .i64 x, .slice af nf cf, .slice av nv cv, .slice ab bs.length cb, .slice ad l.length c, .slice (some ⟨ga, 0, none⟩) l.length ca, .slice (some ⟨ra, 0, none⟩) NR cr] 108)) #[.bool true, .int .i64 0, .int .i64 pl, .int .i64 env] 88
      simp only [World.size_alloc] at hY
      obtain ⟨w0, hw0⟩ : ∃ w0, w0 = ((w.alloc (.cells #[.bool d, .int .i64 p, .int .i64 e, .int .i64 x, .slice af nf cf, .slice av nv cv, .slice ab bs.length cb, .slice ad l.length c, .slice (some ⟨ga, 0, none⟩) l.length ca, .slice (some ⟨ra, 0, none⟩) NR cr] 108)).alloc (.cells #[.bool true, .int .i64 0, .int .i64 pl, .int .i64 env] 88)) := ⟨_, rfl⟩
      obtain ⟨XB, hXB⟩ : ∃ XB, XB = w.heap.size := ⟨_, rfl⟩
      rw [← hw0] at hX hY hB0 ⊢
      rw [← hXB] at hX hY ⊢
      have xl : XB < w0.heap.size := hX.lt
      have yl : XB + 1 < w0.heap.size := hY.lt
      have HX := hide hX
      have HY := hide hY
      have cx := hX.c
      have cy := hY.c
      clear hX hY hw0 hXB
      go_wp2_with fail
      refine (HD.out _ hB0).mono ?_
      rintro r w1 ⟨rfl, hb1⟩
      have hB1 : Below w.heap.size w w1 := hB0.trans (hb1.mono hB0.size)
      clear cx cy hb1
      go_wp2_with fail
      go_ret
      exact ⟨rfl, hB1⟩
    | true =>
      obtain ⟨p1, p2, p3⟩ := pOk_iff.1 hp
      obtain ⟨q, rfl⟩ := Int.eq_ofNat_of_zero_le p1.1
      obtain ⟨k, hk⟩ : ∃ k : Nat, env = (k : Int) - 1 := ⟨(env + 1).toNat, by omega⟩
      subst hk
      have hql : q < l.length := by omega
      have hkl : k ≤ bs.length := by omega
      have hq' : (q : Int) < (l.length : Int) := p1.2
      have hq0 : (0 : Int) ≤ (q : Int) := p1.1
      have hk' : (k : Int) < (NR : Int) := by omega
      have hk0 : (0 : Int) ≤ (k : Int) := by omega
      have hkw : IntKind.i64.wrap ((k : Int) - 1 + 1) = (k : Int) := by rw [show (k : Int) - 1 + 1 = (k : Int) by omega]; exact IntWalk.i64_in _ ⟨by omega, by omega⟩
      have hvo : vOk a l bs i ⟨true, 0, (q : Int), (k : Int) - 1⟩ = (decide (l[q].k = 3) && decide ((bw bs ((k : Int) - 1)).2 < (i : Int))) := by unfold vOk; simp [hp, kAt_nat l q hql]
      rw [hvo]
      rw [hp] at HD
      have HL := hide hL
      obtain ⟨KD, hKD⟩ : ∃ KD, KD = l[q].k := ⟨_, rfl⟩
      obtain ⟨GR, hGR⟩ : ∃ GR, GR = (bw bs ((k : Int) - 1)).2 := ⟨_, rfl⟩
      rw [← hKD, ← hGR]
      have HKD := hide hKD
      have HGR := hide hGR
      clear hvo hp hL hb hNR hCl hKD hGR p1 p2 p3
      go_enter Tryz.func55, Tryz.ntmps55
      go_upto_region 1 with fail
      have hB0 : Below w.heap.size w ((w.alloc (.cells #[.bool d, .int .i64 p, .int .i64 e, .int .i64 x, .slice af nf cf, .slice av nv cv, .slice ab bs.length cb, .slice ad l.length c, .slice (some ⟨ga, 0, none⟩) l.length ca, .slice (some ⟨ra, 0, none⟩) NR cr] 108)).alloc (.cells #[.bool true, .int .i64 0, .int .i64 (q : Int), .int .i64 ((k : Int) - 1)] 88)) := ((Below.refl _ _).alloc (Nat.le_refl _) _).alloc (by simp) _
      have hX := (Bx.new w #[.bool d, .int .i64 p, .int .i64 e, .int .i64 x, .slice af nf cf, .slice av nv cv, .slice ab bs.length cb, .slice ad l.length c, .slice (some ⟨ga, 0, none⟩) l.length ca, .slice (some ⟨ra, 0, none⟩) NR cr] 108).alloc (.cells #[.bool true, .int .i64 0, .int .i64 (q : Int), .int .i64 ((k : Int) - 1)] 88)
      have hY := Bx.new (w.alloc (.cells #[.bool d, .int .i64 p, .int .i64 e, .int .i64 x, .slice af nf cf, .slice av nv cv, .slice ab bs.length cb, .slice ad l.length c, .slice (some ⟨ga, 0, none⟩) l.length ca, .slice (some ⟨ra, 0, none⟩) NR cr] 108)) #[.bool true, .int .i64 0, .int .i64 (q : Int), .int .i64 ((k : Int) - 1)] 88
      simp only [World.size_alloc] at hY
      obtain ⟨w0, hw0⟩ : ∃ w0, w0 = ((w.alloc (.cells #[.bool d, .int .i64 p, .int .i64 e, .int .i64 x, .slice af nf cf, .slice av nv cv, .slice ab bs.length cb, .slice ad l.length c, .slice (some ⟨ga, 0, none⟩) l.length ca, .slice (some ⟨ra, 0, none⟩) NR cr] 108)).alloc (.cells #[.bool true, .int .i64 0, .int .i64 (q : Int), .int .i64 ((k : Int) - 1)] 88)) := ⟨_, rfl⟩
      obtain ⟨XB, hXB⟩ : ∃ XB, XB = w.heap.size := ⟨_, rfl⟩
      rw [← hw0] at hX hY hB0 ⊢
      rw [← hXB] at hX hY ⊢
      have xl : XB < w0.heap.size := hX.lt
      have yl : XB + 1 < w0.heap.size := hY.lt
      have HX := hide hX
      have HY := hide hY
      have cx := hX.c
      have cy := hY.c
      clear hX hY hw0 hXB
      go_wp2_with fail
      refine (HD.out _ hB0).mono ?_
      rintro r w1 ⟨rfl, hb1⟩
      have hB1 : Below w.heap.size w w1 := hB0.trans (hb1.mono hB0.size)
      have cx1 := (HX.out.below hb1 xl).c
      have cy1 := (HY.out.below hb1 yl).c
      obtain ⟨b, o, rfl, -, q0, -⟩ := CRow.tok HL.out.t hB1 hql
      rw [← HKD.out] at q0
      have r1 : w1.cell? ⟨ra, k * 2 + 1, none⟩ = some (.int .i64 GR) := by rw [HGR.out]; exact ((HL.out.below hB1).r k hkl).2
      clear cx cy hb1
      by_cases h3 : KD = 3
      · subst h3
        by_cases h4 : GR < (i : Int)
        · go_wp2_with fail
          go_ret
          exact ⟨ret_bool (by simp [h4]), hB1⟩
        · go_wp2_with fail
          go_ret
          exact ⟨ret_bool (by simp [h4]), hB1⟩
      · go_wp2_with fail
        go_ret
        exact ⟨ret_bool (by simp [h3]), hB1⟩
  · have hvo : vOk a l bs i ⟨true, num, pl, env⟩ = false := by unfold vOk; simp [hn]
    rw [hvo]
    clear hvo hL hb hNR hCl
    go_enter Tryz.func55, Tryz.ntmps55
    go_upto_region 1 with fail
    have hB0 : Below w.heap.size w ((w.alloc (.cells #[.bool d, .int .i64 p, .int .i64 e, .int .i64 x, .slice af nf cf, .slice av nv cv, .slice ab bs.length cb, .slice ad l.length c, .slice (some ⟨ga, 0, none⟩) l.length ca, .slice (some ⟨ra, 0, none⟩) NR cr] 108)).alloc (.cells #[.bool true, .int .i64 num, .int .i64 pl, .int .i64 env] 88)) := ((Below.refl _ _).alloc (Nat.le_refl _) _).alloc (by simp) _
    have hX := (Bx.new w #[.bool d, .int .i64 p, .int .i64 e, .int .i64 x, .slice af nf cf, .slice av nv cv, .slice ab bs.length cb, .slice ad l.length c, .slice (some ⟨ga, 0, none⟩) l.length ca, .slice (some ⟨ra, 0, none⟩) NR cr] 108).alloc (.cells #[.bool true, .int .i64 num, .int .i64 pl, .int .i64 env] 88)
    have hY := Bx.new (w.alloc (.cells #[.bool d, .int .i64 p, .int .i64 e, .int .i64 x, .slice af nf cf, .slice av nv cv, .slice ab bs.length cb, .slice ad l.length c, .slice (some ⟨ga, 0, none⟩) l.length ca, .slice (some ⟨ra, 0, none⟩) NR cr] 108)) #[.bool true, .int .i64 num, .int .i64 pl, .int .i64 env] 88
    simp only [World.size_alloc] at hY
    obtain ⟨w0, hw0⟩ : ∃ w0, w0 = ((w.alloc (.cells #[.bool d, .int .i64 p, .int .i64 e, .int .i64 x, .slice af nf cf, .slice av nv cv, .slice ab bs.length cb, .slice ad l.length c, .slice (some ⟨ga, 0, none⟩) l.length ca, .slice (some ⟨ra, 0, none⟩) NR cr] 108)).alloc (.cells #[.bool true, .int .i64 num, .int .i64 pl, .int .i64 env] 88)) := ⟨_, rfl⟩
    obtain ⟨XB, hXB⟩ : ∃ XB, XB = w.heap.size := ⟨_, rfl⟩
    rw [← hw0] at hX hY hB0 ⊢
    rw [← hXB] at hX hY ⊢
    have xl : XB < w0.heap.size := hX.lt
    have yl : XB + 1 < w0.heap.size := hY.lt
    have HX := hide hX
    have HY := hide hY
    have cx := hX.c
    have cy := hY.c
    clear hX hY hw0 hXB
    go_wp2_with fail
    go_ret
    exact ⟨rfl, hB0⟩
theorem goodVal_any (ad : Option Addr) (c : Nat) (l : List Cc) (a : F) (d : Bool) (p e x : Int) (af av ab : Option Addr) (nf cf nv cv cb : Nat) (bs : List Bd) (ga ca ra NR cr : Nat) (v : Vl) (i : Nat) (w : World) (hCl : Cl l a) (hL : LkR w ad l a bs ga ra) (hb : bsOk nv bs = true) (hNR : NR = bs.length + 1) (hl : bs.length ≤ 1048576) (hv : nv ≤ 1048576) (hi : i ≤ 1048576) :
    Calls Tryz.prog 55 #[.agg #[.bool d, .int .i64 p, .int .i64 e, .int .i64 x, .slice af nf cf, .slice av nv cv, .slice ab bs.length cb, .slice ad l.length c, .slice (some ⟨ga, 0, none⟩) l.length ca, .slice (some ⟨ra, 0, none⟩) NR cr], v.v, .int .i64 (i : Int)] w fun r w' => r = .returned (.bool (vOk a l bs i v)) ∧ Below w.heap.size w w' := by
  obtain ⟨fn, num, pl, env⟩ := v
  cases fn with
  | true => exact goodVal_fun ad c l a d p e x af av ab nf cf nv cv cb bs ga ca ra NR cr num pl env i w hCl hL hb hNR hl hv hi
  | false => exact goodVal_num ad c l a d p e x af av ab nf cf nv cv cb bs ga ca ra NR cr num pl env i w hCl hL hb hNR hl hv
end Go.Proofs.YtdajalchdbgooaaGreat.W

/-
  Contracts of goodFrame and goodNow. Conditions: closed terms, good bindings. Written by wip/build/mk_look.py.
-/
namespace Go.Proofs.YtdajalchdbgooaaGreat.W
open Go.ChangeShapes Go.WideShapes Go.ChangeAt Go.RowKit
set_option linter.unusedVariables false
set_option linter.unusedSimpArgs false

set_option maxRecDepth 20000 in
set_option maxHeartbeats 4000000 in
theorem goodFrame_not (ad : Option Addr) (c : Nat) (l : List Cc) (a : F) (d : Bool) (p e x : Int) (af av ab : Option Addr) (nf cf nv cv cb : Nat) (bs : List Bd) (ga ca ra NR cr : Nat) (fk pl env fv : Int) (w : World) (hCl : Cl l a) (hL : LkR w ad l a bs ga ra) (hb : bsOk nv bs = true) (hNR : NR = bs.length + 1) (hl : bs.length ≤ 1048576) (hv : nv ≤ 1048576) (hp : pOk a l.length bs pl env = false) :
    Calls Tryz.prog 56 #[.agg #[.bool d, .int .i64 p, .int .i64 e, .int .i64 x, .slice af nf cf, .slice av nv cv, .slice ab bs.length cb, .slice ad l.length c, .slice (some ⟨ga, 0, none⟩) l.length ca, .slice (some ⟨ra, 0, none⟩) NR cr], .agg #[.int .i64 fk, .int .i64 pl, .int .i64 env, .int .i64 fv]] w fun r w' => r = .returned (.bool false) ∧ Below w.heap.size w w' := by
  have HD := hide (fun (w' : World) (hb' : Below w.heap.size w w') => canBeDone_any ad c l a d p e x af av ab nf cf nv cv cb bs ga ca ra NR cr pl env w' hCl (hL.below hb') hb hNR hl hv)
  rw [hp] at HD
  clear hp hL hb hNR hCl
  go_enter Tryz.func56, Tryz.ntmps56
  go_upto_region 1 with fail
  have hB0 : Below w.heap.size w ((w.alloc (.cells #[.bool d, .int .i64 p, .int .i64 e, .int .i64 x, .slice af nf cf, .slice av nv cv, .slice ab bs.length cb, .slice ad l.length c, .slice (some ⟨ga, 0, none⟩) l.length ca, .slice (some ⟨ra, 0, none⟩) NR cr] 108)).alloc (.cells #[.int .i64 fk, .int .i64 pl, .int .i64 env, .int .i64 fv] 93)) := ((Below.refl _ _).alloc (Nat.le_refl _) _).alloc (by simp) _
  have hX := (Bx.new w #[.bool d, .int .i64 p, .int .i64 e, .int .i64 x, .slice af nf cf, .slice av nv cv, .slice ab bs.length cb, .slice ad l.length c, .slice (some ⟨ga, 0, none⟩) l.length ca, .slice (some ⟨ra, 0, none⟩) NR cr] 108).alloc (.cells #[.int .i64 fk, .int .i64 pl, .int .i64 env, .int .i64 fv] 93)
  have hY := Bx.new (w.alloc (.cells #[.bool d, .int .i64 p, .int .i64 e, .int .i64 x, .slice af nf cf, .slice av nv cv, .slice ab bs.length cb, .slice ad l.length c, .slice (some ⟨ga, 0, none⟩) l.length ca, .slice (some ⟨ra, 0, none⟩) NR cr] 108)) #[.int .i64 fk, .int .i64 pl, .int .i64 env, .int .i64 fv] 93
  simp only [World.size_alloc] at hY
  obtain ⟨w0, hw0⟩ : ∃ w0, w0 = ((w.alloc (.cells #[.bool d, .int .i64 p, .int .i64 e, .int .i64 x, .slice af nf cf, .slice av nv cv, .slice ab bs.length cb, .slice ad l.length c, .slice (some ⟨ga, 0, none⟩) l.length ca, .slice (some ⟨ra, 0, none⟩) NR cr] 108)).alloc (.cells #[.int .i64 fk, .int .i64 pl, .int .i64 env, .int .i64 fv] 93)) := ⟨_, rfl⟩
  obtain ⟨XB, hXB⟩ : ∃ XB, XB = w.heap.size := ⟨_, rfl⟩
  rw [← hw0] at hX hY hB0 ⊢
  rw [← hXB] at hX hY ⊢
  have xl : XB < w0.heap.size := hX.lt
  have yl : XB + 1 < w0.heap.size := hY.lt
  have HX := hide hX
  have HY := hide hY
  have cx := hX.c
  have cy := hY.c
  clear hX hY hw0 hXB
  have b0 : w0.cell? ⟨XB, 0, none⟩ = some (.bool d) := cx 0
  have b1 : w0.cell? ⟨XB, 1, none⟩ = some (.int .i64 p) := cx 1
  have b2 : w0.cell? ⟨XB, 2, none⟩ = some (.int .i64 e) := cx 2
  have b3 : w0.cell? ⟨XB, 3, none⟩ = some (.int .i64 x) := cx 3
  have b4 : w0.cell? ⟨XB, 4, none⟩ = some (.slice af nf cf) := cx 4
  have b5 : w0.cell? ⟨XB, 5, none⟩ = some (.slice av nv cv) := cx 5
  have b6 : w0.cell? ⟨XB, 6, none⟩ = some (.slice ab bs.length cb) := cx 6
  have b7 : w0.cell? ⟨XB, 7, none⟩ = some (.slice ad l.length c) := cx 7
  have b8 : w0.cell? ⟨XB, 8, none⟩ = some (.slice (some ⟨ga, 0, none⟩) l.length ca) := cx 8
  have b9 : w0.cell? ⟨XB, 9, none⟩ = some (.slice (some ⟨ra, 0, none⟩) NR cr) := cx 9
  have b10 : w0.cell? ⟨XB + 1, 0, none⟩ = some (.int .i64 fk) := cy 0
  have b11 : w0.cell? ⟨XB + 1, 1, none⟩ = some (.int .i64 pl) := cy 1
  have b12 : w0.cell? ⟨XB + 1, 2, none⟩ = some (.int .i64 env) := cy 2
  have HB0 : Hid (Below w.heap.size w w0.drew) := hide (belowDrew hB0)
  clear cx cy
  refine wp_region_noPanic ?_
  refine wp_region_held_drew (S := fun w' => w'.cell? ⟨XB, 0, none⟩ = some (.bool d) ∧ w'.cell? ⟨XB, 1, none⟩ = some (.int .i64 p) ∧ w'.cell? ⟨XB, 2, none⟩ = some (.int .i64 e) ∧ w'.cell? ⟨XB, 3, none⟩ = some (.int .i64 x) ∧ w'.cell? ⟨XB, 4, none⟩ = some (.slice af nf cf) ∧ w'.cell? ⟨XB, 5, none⟩ = some (.slice av nv cv) ∧ w'.cell? ⟨XB, 6, none⟩ = some (.slice ab bs.length cb) ∧ w'.cell? ⟨XB, 7, none⟩ = some (.slice ad l.length c) ∧ w'.cell? ⟨XB, 8, none⟩ = some (.slice (some ⟨ga, 0, none⟩) l.length ca) ∧ w'.cell? ⟨XB, 9, none⟩ = some (.slice (some ⟨ra, 0, none⟩) NR cr) ∧ w'.cell? ⟨XB + 1, 0, none⟩ = some (.int .i64 fk) ∧ w'.cell? ⟨XB + 1, 1, none⟩ = some (.int .i64 pl) ∧ w'.cell? ⟨XB + 1, 2, none⟩ = some (.int .i64 env)) (by kernel_rfl) ⟨b0, b1, b2, b3, b4, b5, b6, b7, b8, b9, b10, b11, b12⟩ (fun hHeld => ?_)
  refine wpAnyH_take (i := 0) (oi := _) (v := ?_) rfl (by kernel_rfl) (by kernel_rfl) (by kernel_rfl) (fun _ _ _ h => h) (Or.inl ⟨by rfl, ?_⟩) (by assumption) ?_
  rotate_left 1
  · (intro w hSw; (try dsimp only at hSw); (first | (go_simp; done) | (go_simp; with_reducible rfl)))
  try simp only [Act.put, List.getElem_toArray, List.getElem_cons_zero, List.getElem_cons_succ, List.setIfInBounds_toArray, List.set_cons_zero, List.set_cons_succ]
  refine wpAnyH_take (i := 1) (oi := _) (v := ?_) rfl (by kernel_rfl) (by kernel_rfl) (by kernel_rfl) (fun _ _ _ h => h) (Or.inl ⟨by rfl, ?_⟩) (by assumption) ?_
  rotate_left 1
  · (intro w hSw; (try dsimp only at hSw); (first | (go_simp; done) | (go_simp; with_reducible rfl)))
  try simp only [Act.put, List.getElem_toArray, List.getElem_cons_zero, List.getElem_cons_succ, List.setIfInBounds_toArray, List.set_cons_zero, List.set_cons_succ]
  refine wpAnyH_take (i := 2) (oi := _) (v := ?_) rfl (by kernel_rfl) (by kernel_rfl) (by kernel_rfl) (fun _ _ _ h => h) (Or.inl ⟨by rfl, ?_⟩) (by assumption) ?_
  rotate_left 1
  · (intro w hSw; (try dsimp only at hSw); (first | (go_simp; done) | (go_simp; with_reducible rfl)))
  try simp only [Act.put, List.getElem_toArray, List.getElem_cons_zero, List.getElem_cons_succ, List.setIfInBounds_toArray, List.set_cons_zero, List.set_cons_succ]
  refine wpAnyH_take (i := 3) (oi := _) (v := ?_) rfl (by kernel_rfl) (by kernel_rfl) (by kernel_rfl) (fun _ _ _ h => h) (Or.inl ⟨by rfl, ?_⟩) (by assumption) ?_
  rotate_left 1
  · (intro w hSw; (try dsimp only at hSw); (first | (go_simp; done) | (go_simp; with_reducible rfl)))
  try simp only [Act.put, List.getElem_toArray, List.getElem_cons_zero, List.getElem_cons_succ, List.setIfInBounds_toArray, List.set_cons_zero, List.set_cons_succ]
  refine wpAnyH_take (i := 4) (oi := _) (v := ?_) rfl (by kernel_rfl) (by kernel_rfl) (by kernel_rfl) (fun _ _ _ h => h) (Or.inl ⟨by rfl, ?_⟩) (by assumption) ?_
  rotate_left 1
  · (intro w hSw; (try dsimp only at hSw); (first | (go_simp; done) | (go_simp; with_reducible rfl)))
  try simp only [Act.put, List.getElem_toArray, List.getElem_cons_zero, List.getElem_cons_succ, List.setIfInBounds_toArray, List.set_cons_zero, List.set_cons_succ]
  refine wpAnyH_ready (rs := [5]) (by kernel_rfl) (by simp) ?_
  refine AllReadyH.cons (o := _) rfl (fun K hK => ?_) AllReadyH.nil
  go_simp
  (with_reducible refine Calls.mono (HD.out _ HB0.out) ?_)
  rintro r wa ⟨rfl, hba⟩
  have HBa := hide hba
  have fa0 := (hba.cell (p := ⟨XB, 0, none⟩) (show XB < w0.heap.size by omega)).trans b0
  have fa1 := (hba.cell (p := ⟨XB, 1, none⟩) (show XB < w0.heap.size by omega)).trans b1
  have fa2 := (hba.cell (p := ⟨XB, 2, none⟩) (show XB < w0.heap.size by omega)).trans b2
  have fa3 := (hba.cell (p := ⟨XB, 3, none⟩) (show XB < w0.heap.size by omega)).trans b3
  have fa4 := (hba.cell (p := ⟨XB, 4, none⟩) (show XB < w0.heap.size by omega)).trans b4
  have fa5 := (hba.cell (p := ⟨XB, 5, none⟩) (show XB < w0.heap.size by omega)).trans b5
  have fa6 := (hba.cell (p := ⟨XB, 6, none⟩) (show XB < w0.heap.size by omega)).trans b6
  have fa7 := (hba.cell (p := ⟨XB, 7, none⟩) (show XB < w0.heap.size by omega)).trans b7
  have fa8 := (hba.cell (p := ⟨XB, 8, none⟩) (show XB < w0.heap.size by omega)).trans b8
  have fa9 := (hba.cell (p := ⟨XB, 9, none⟩) (show XB < w0.heap.size by omega)).trans b9
  have fa10 := (hba.cell (p := ⟨XB + 1, 0, none⟩) (show XB + 1 < w0.heap.size by omega)).trans b10
  have fa11 := (hba.cell (p := ⟨XB + 1, 1, none⟩) (show XB + 1 < w0.heap.size by omega)).trans b11
  have fa12 := (hba.cell (p := ⟨XB + 1, 2, none⟩) (show XB + 1 < w0.heap.size by omega)).trans b12
  clear hba
  (try go_wp2_with fail)
  refine hK.out _ _ ⟨fa0, fa1, fa2, fa3, fa4, fa5, fa6, fa7, fa8, fa9, fa10, fa11, fa12⟩ (fun hHeld => ?_)
  clear hK K
  try simp only [Act.put, List.getElem_toArray, List.getElem_cons_zero, List.getElem_cons_succ, List.setIfInBounds_toArray, List.set_cons_zero, List.set_cons_succ]
  refine wpAnyH_take (i := 6) (oi := _) (v := ?_) rfl (by kernel_rfl) (by kernel_rfl) (by kernel_rfl) (fun _ _ _ h => h) (Or.inl ⟨by rfl, ?_⟩) (by assumption) ?_
  rotate_left 1
  · (intro w hSw; (try dsimp only at hSw); (first | (go_simp; done) | (go_simp; with_reducible rfl)))
  try simp only [Act.put, List.getElem_toArray, List.getElem_cons_zero, List.getElem_cons_succ, List.setIfInBounds_toArray, List.set_cons_zero, List.set_cons_succ]
  refine wpAnyH_take (i := 7) (oi := _) (v := ?_) rfl (by kernel_rfl) (by kernel_rfl) (by kernel_rfl) (fun _ _ _ h => h) (Or.inl ⟨by rfl, ?_⟩) (by assumption) ?_
  rotate_left 1
  · (intro w hSw; (try dsimp only at hSw); (first | (go_simp; done) | (go_simp; with_reducible rfl)))
  try simp only [Act.put, List.getElem_toArray, List.getElem_cons_zero, List.getElem_cons_succ, List.setIfInBounds_toArray, List.set_cons_zero, List.set_cons_succ]
  refine wpAnyH_take (i := 8) (oi := _) (v := undef) rfl (by kernel_rfl) (by kernel_rfl) (by kernel_rfl) (fun _ _ _ h => h) (Or.inr ⟨by rfl, rfl⟩) (by assumption) ?_
  try simp only [Act.put, List.getElem_toArray, List.getElem_cons_zero, List.getElem_cons_succ, List.setIfInBounds_toArray, List.set_cons_zero, List.set_cons_succ]
  refine wpAnyH_take (i := 9) (oi := _) (v := undef) rfl (by kernel_rfl) (by kernel_rfl) (by kernel_rfl) (fun _ _ _ h => h) (Or.inr ⟨by rfl, rfl⟩) (by assumption) ?_
  try simp only [Act.put, List.getElem_toArray, List.getElem_cons_zero, List.getElem_cons_succ, List.setIfInBounds_toArray, List.set_cons_zero, List.set_cons_succ]
  refine wpAnyH_take (i := 10) (oi := _) (v := undef) rfl (by kernel_rfl) (by kernel_rfl) (by kernel_rfl) (fun _ _ _ h => h) (Or.inr ⟨by rfl, rfl⟩) (by assumption) ?_
  try simp only [Act.put, List.getElem_toArray, List.getElem_cons_zero, List.getElem_cons_succ, List.setIfInBounds_toArray, List.set_cons_zero, List.set_cons_succ]
  refine wpAnyH_take (i := 11) (oi := _) (v := undef) rfl (by kernel_rfl) (by kernel_rfl) (by kernel_rfl) (fun _ _ _ h => h) (Or.inr ⟨by rfl, rfl⟩) (by assumption) ?_
  try simp only [Act.put, List.getElem_toArray, List.getElem_cons_zero, List.getElem_cons_succ, List.setIfInBounds_toArray, List.set_cons_zero, List.set_cons_succ]
  refine wpAnyH_take (i := 12) (oi := _) (v := undef) rfl (by kernel_rfl) (by kernel_rfl) (by kernel_rfl) (fun _ _ _ h => h) (Or.inr ⟨by rfl, rfl⟩) (by assumption) ?_
  try simp only [Act.put, List.getElem_toArray, List.getElem_cons_zero, List.getElem_cons_succ, List.setIfInBounds_toArray, List.set_cons_zero, List.set_cons_succ]
  refine wpAnyH_take (i := 13) (oi := _) (v := undef) rfl (by kernel_rfl) (by kernel_rfl) (by kernel_rfl) (fun _ _ _ h => h) (Or.inr ⟨by rfl, rfl⟩) (by assumption) ?_
  try simp only [Act.put, List.getElem_toArray, List.getElem_cons_zero, List.getElem_cons_succ, List.setIfInBounds_toArray, List.set_cons_zero, List.set_cons_succ]
  refine wpAnyH_take (i := 14) (oi := _) (v := undef) rfl (by kernel_rfl) (by kernel_rfl) (by kernel_rfl) (fun _ _ _ h => h) (Or.inr ⟨by rfl, rfl⟩) (by assumption) ?_
  try simp only [Act.put, List.getElem_toArray, List.getElem_cons_zero, List.getElem_cons_succ, List.setIfInBounds_toArray, List.set_cons_zero, List.set_cons_succ]
  refine wpAnyH_take (i := 15) (oi := _) (v := undef) rfl (by kernel_rfl) (by kernel_rfl) (by kernel_rfl) (fun _ _ _ h => h) (Or.inr ⟨by rfl, rfl⟩) (by assumption) ?_
  try simp only [Act.put, List.getElem_toArray, List.getElem_cons_zero, List.getElem_cons_succ, List.setIfInBounds_toArray, List.set_cons_zero, List.set_cons_succ]
  refine wpAnyH_take (i := 16) (oi := _) (v := undef) rfl (by kernel_rfl) (by kernel_rfl) (by kernel_rfl) (fun _ _ _ h => h) (Or.inr ⟨by rfl, rfl⟩) (by assumption) ?_
  try simp only [Act.put, List.getElem_toArray, List.getElem_cons_zero, List.getElem_cons_succ, List.setIfInBounds_toArray, List.set_cons_zero, List.set_cons_succ]
  refine wpAnyH_take (i := 17) (oi := _) (v := undef) rfl (by kernel_rfl) (by kernel_rfl) (by kernel_rfl) (fun _ _ _ h => h) (Or.inr ⟨by rfl, rfl⟩) (by assumption) ?_
  try simp only [Act.put, List.getElem_toArray, List.getElem_cons_zero, List.getElem_cons_succ, List.setIfInBounds_toArray, List.set_cons_zero, List.set_cons_succ]
  refine wpAnyH_take (i := 18) (oi := _) (v := ?_) rfl (by kernel_rfl) (by kernel_rfl) (by kernel_rfl) (fun _ _ _ h => h) (Or.inl ⟨by rfl, ?_⟩) (by assumption) ?_
  rotate_left 1
  · (intro w hSw; (try dsimp only at hSw); (first | (go_simp; done) | (go_simp; with_reducible rfl)))
  try simp only [Act.put, List.getElem_toArray, List.getElem_cons_zero, List.getElem_cons_succ, List.setIfInBounds_toArray, List.set_cons_zero, List.set_cons_succ]
  refine wpAnyH_done (by kernel_rfl) ?_ _
  refine NoPanic.normal ?_
  go_wp2_with fail
  go_ret
  exact ⟨rfl, HB0.out.trans (HBa.out.mono HB0.out.size)⟩

set_option maxRecDepth 20000 in
set_option maxHeartbeats 4000000 in
theorem goodFrame_is (ad : Option Addr) (c : Nat) (l : List Cc) (a : F) (d : Bool) (p e x : Int) (af av ab : Option Addr) (nf cf nv cv cb : Nat) (bs : List Bd) (ga ca ra NR cr : Nat) (fk pl env fv : Int) (w : World) (hCl : Cl l a) (hL : LkR w ad l a bs ga ra) (hb : bsOk nv bs = true) (hNR : NR = bs.length + 1) (hl : bs.length ≤ 1048576) (hv : nv ≤ 1048576) (hp : pOk a l.length bs pl env = true) :
    Calls Tryz.prog 56 #[.agg #[.bool d, .int .i64 p, .int .i64 e, .int .i64 x, .slice af nf cf, .slice av nv cv, .slice ab bs.length cb, .slice ad l.length c, .slice (some ⟨ga, 0, none⟩) l.length ca, .slice (some ⟨ra, 0, none⟩) NR cr], .agg #[.int .i64 fk, .int .i64 pl, .int .i64 env, .int .i64 fv]] w fun r w' => r = .returned (.bool (fOk a l bs nv ⟨fk, pl, env, fv⟩)) ∧ Below w.heap.size w w' := by
  have hll := hCl.le
  have HD := hide (fun (w' : World) (hb' : Below w.heap.size w w') => canBeDone_any ad c l a d p e x af av ab nf cf nv cv cb bs ga ca ra NR cr pl env w' hCl (hL.below hb') hb hNR hl hv)
  rw [hp] at HD
  obtain ⟨p1, p2, p3⟩ := pOk_iff.1 hp
  obtain ⟨q, rfl⟩ := Int.eq_ofNat_of_zero_le p1.1
  obtain ⟨k, hk⟩ : ∃ k : Nat, env = (k : Int) - 1 := ⟨(env + 1).toNat, by omega⟩
  subst hk
  have hql : q < l.length := by omega
  have hq' : (q : Int) < (l.length : Int) := p1.2
  have hq0 : (0 : Int) ≤ (q : Int) := p1.1
  obtain ⟨KD, hKD⟩ : ∃ KD, KD = l[q].k := ⟨_, rfl⟩
  have hfo : fOk a l bs nv ⟨fk, (q : Int), (k : Int) - 1, fv⟩ = (decide (KD = fk) && (if fk = 4 ∨ fk = 5 then decide (fv = -1) || blw fv nv else decide (fk = 6 ∨ fk = 7) && decide (fv = -1))) := by
    unfold fOk; simp only [hp, kAt_nat l q hql, Bool.true_and, hKD]
  rw [hfo]
  have HL := hide hL
  have HKD := hide hKD
  have HI := hide (isBelow_any fv nv)
  obtain ⟨BV, hBV⟩ : ∃ BV, BV = blw fv nv := ⟨_, rfl⟩
  rw [← hBV] at HI ⊢
  obtain ⟨RES, hRES⟩ : ∃ RES, RES = (decide (KD = fk) && (if fk = 4 ∨ fk = 5 then decide (fv = -1) || BV else decide (fk = 6 ∨ fk = 7) && decide (fv = -1))) := ⟨_, rfl⟩
  rw [← hRES]
  have HRES := hide hRES
  clear hRES hfo hp hL hb hNR hCl hKD p1 p2 p3 hBV
  go_enter Tryz.func56, Tryz.ntmps56
  go_upto_region 1 with fail
  have hB0 : Below w.heap.size w ((w.alloc (.cells #[.bool d, .int .i64 p, .int .i64 e, .int .i64 x, .slice af nf cf, .slice av nv cv, .slice ab bs.length cb, .slice ad l.length c, .slice (some ⟨ga, 0, none⟩) l.length ca, .slice (some ⟨ra, 0, none⟩) NR cr] 108)).alloc (.cells #[.int .i64 fk, .int .i64 (q : Int), .int .i64 ((k : Int) - 1), .int .i64 fv] 93)) := ((Below.refl _ _).alloc (Nat.le_refl _) _).alloc (by simp) _
  have hX := (Bx.new w #[.bool d, .int .i64 p, .int .i64 e, .int .i64 x, .slice af nf cf, .slice av nv cv, .slice ab bs.length cb, .slice ad l.length c, .slice (some ⟨ga, 0, none⟩) l.length ca, .slice (some ⟨ra, 0, none⟩) NR cr] 108).alloc (.cells #[.int .i64 fk, .int .i64 (q : Int), .int .i64 ((k : Int) - 1), .int .i64 fv] 93)
  have hY := Bx.new (w.alloc (.cells #[.bool d, .int .i64 p, .int .i64 e, .int .i64 x, .slice af nf cf, .slice av nv cv, .slice ab bs.length cb, .slice ad l.length c, .slice (some ⟨ga, 0, none⟩) l.length ca, .slice (some ⟨ra, 0, none⟩) NR cr] 108)) #[.int .i64 fk, .int .i64 (q : Int), .int .i64 ((k : Int) - 1), .int .i64 fv] 93
  simp only [World.size_alloc] at hY
  obtain ⟨w0, hw0⟩ : ∃ w0, w0 = ((w.alloc (.cells #[.bool d, .int .i64 p, .int .i64 e, .int .i64 x, .slice af nf cf, .slice av nv cv, .slice ab bs.length cb, .slice ad l.length c, .slice (some ⟨ga, 0, none⟩) l.length ca, .slice (some ⟨ra, 0, none⟩) NR cr] 108)).alloc (.cells #[.int .i64 fk, .int .i64 (q : Int), .int .i64 ((k : Int) - 1), .int .i64 fv] 93)) := ⟨_, rfl⟩
  obtain ⟨XB, hXB⟩ : ∃ XB, XB = w.heap.size := ⟨_, rfl⟩
  rw [← hw0] at hX hY hB0 ⊢
  rw [← hXB] at hX hY ⊢
  have xl : XB < w0.heap.size := hX.lt
  have yl : XB + 1 < w0.heap.size := hY.lt
  have HX := hide hX
  have HY := hide hY
  have cx := hX.c
  have cy := hY.c
  clear hX hY hw0 hXB
  obtain ⟨b, o, rfl, hbl, q0, -⟩ := CRow.tok HL.out.t hB0 hql
  rw [← HKD.out] at q0
  have hbl0 : b < w0.heap.size := Nat.lt_of_lt_of_le hbl hB0.size
  by_cases hk1 : KD = fk
  · subst hk1
    have b0 : w0.cell? ⟨XB, 0, none⟩ = some (.bool d) := cx 0
    have b1 : w0.cell? ⟨XB, 1, none⟩ = some (.int .i64 p) := cx 1
    have b2 : w0.cell? ⟨XB, 2, none⟩ = some (.int .i64 e) := cx 2
    have b3 : w0.cell? ⟨XB, 3, none⟩ = some (.int .i64 x) := cx 3
    have b4 : w0.cell? ⟨XB, 4, none⟩ = some (.slice af nf cf) := cx 4
    have b5 : w0.cell? ⟨XB, 5, none⟩ = some (.slice av nv cv) := cx 5
    have b6 : w0.cell? ⟨XB, 6, none⟩ = some (.slice ab bs.length cb) := cx 6
    have b7 : w0.cell? ⟨XB, 7, none⟩ = some (.slice (some ⟨b, o, none⟩) l.length c) := cx 7
    have b8 : w0.cell? ⟨XB, 8, none⟩ = some (.slice (some ⟨ga, 0, none⟩) l.length ca) := cx 8
    have b9 : w0.cell? ⟨XB, 9, none⟩ = some (.slice (some ⟨ra, 0, none⟩) NR cr) := cx 9
    have b10 : w0.cell? ⟨XB + 1, 0, none⟩ = some (.int .i64 KD) := cy 0
    have b11 : w0.cell? ⟨XB + 1, 1, none⟩ = some (.int .i64 (q : Int)) := cy 1
    have b12 : w0.cell? ⟨XB + 1, 2, none⟩ = some (.int .i64 ((k : Int) - 1)) := cy 2
    have b13 : w0.cell? ⟨b, o + q * 2, none⟩ = some (.int .i64 KD) := q0
    have HB0 : Hid (Below w.heap.size w w0.drew) := hide (belowDrew hB0)
    clear cx cy
    refine wp_region_noPanic ?_
    refine wp_region_held_drew (S := fun w' => w'.cell? ⟨XB, 0, none⟩ = some (.bool d) ∧ w'.cell? ⟨XB, 1, none⟩ = some (.int .i64 p) ∧ w'.cell? ⟨XB, 2, none⟩ = some (.int .i64 e) ∧ w'.cell? ⟨XB, 3, none⟩ = some (.int .i64 x) ∧ w'.cell? ⟨XB, 4, none⟩ = some (.slice af nf cf) ∧ w'.cell? ⟨XB, 5, none⟩ = some (.slice av nv cv) ∧ w'.cell? ⟨XB, 6, none⟩ = some (.slice ab bs.length cb) ∧ w'.cell? ⟨XB, 7, none⟩ = some (.slice (some ⟨b, o, none⟩) l.length c) ∧ w'.cell? ⟨XB, 8, none⟩ = some (.slice (some ⟨ga, 0, none⟩) l.length ca) ∧ w'.cell? ⟨XB, 9, none⟩ = some (.slice (some ⟨ra, 0, none⟩) NR cr) ∧ w'.cell? ⟨XB + 1, 0, none⟩ = some (.int .i64 KD) ∧ w'.cell? ⟨XB + 1, 1, none⟩ = some (.int .i64 (q : Int)) ∧ w'.cell? ⟨XB + 1, 2, none⟩ = some (.int .i64 ((k : Int) - 1)) ∧ w'.cell? ⟨b, o + q * 2, none⟩ = some (.int .i64 KD)) (by kernel_rfl) ⟨b0, b1, b2, b3, b4, b5, b6, b7, b8, b9, b10, b11, b12, b13⟩ (fun hHeld => ?_)
    refine wpAnyH_take (i := 0) (oi := _) (v := ?_) rfl (by kernel_rfl) (by kernel_rfl) (by kernel_rfl) (fun _ _ _ h => h) (Or.inl ⟨by rfl, ?_⟩) (by assumption) ?_
    rotate_left 1
    · (intro w hSw; (try dsimp only at hSw); (first | (go_simp; done) | (go_simp; with_reducible rfl)))
    try simp only [Act.put, List.getElem_toArray, List.getElem_cons_zero, List.getElem_cons_succ, List.setIfInBounds_toArray, List.set_cons_zero, List.set_cons_succ]
    refine wpAnyH_take (i := 1) (oi := _) (v := ?_) rfl (by kernel_rfl) (by kernel_rfl) (by kernel_rfl) (fun _ _ _ h => h) (Or.inl ⟨by rfl, ?_⟩) (by assumption) ?_
    rotate_left 1
    · (intro w hSw; (try dsimp only at hSw); (first | (go_simp; done) | (go_simp; with_reducible rfl)))
    try simp only [Act.put, List.getElem_toArray, List.getElem_cons_zero, List.getElem_cons_succ, List.setIfInBounds_toArray, List.set_cons_zero, List.set_cons_succ]
    refine wpAnyH_take (i := 2) (oi := _) (v := ?_) rfl (by kernel_rfl) (by kernel_rfl) (by kernel_rfl) (fun _ _ _ h => h) (Or.inl ⟨by rfl, ?_⟩) (by assumption) ?_
    rotate_left 1
    · (intro w hSw; (try dsimp only at hSw); (first | (go_simp; done) | (go_simp; with_reducible rfl)))
    try simp only [Act.put, List.getElem_toArray, List.getElem_cons_zero, List.getElem_cons_succ, List.setIfInBounds_toArray, List.set_cons_zero, List.set_cons_succ]
    refine wpAnyH_take (i := 3) (oi := _) (v := ?_) rfl (by kernel_rfl) (by kernel_rfl) (by kernel_rfl) (fun _ _ _ h => h) (Or.inl ⟨by rfl, ?_⟩) (by assumption) ?_
    rotate_left 1
    · (intro w hSw; (try dsimp only at hSw); (first | (go_simp; done) | (go_simp; with_reducible rfl)))
    try simp only [Act.put, List.getElem_toArray, List.getElem_cons_zero, List.getElem_cons_succ, List.setIfInBounds_toArray, List.set_cons_zero, List.set_cons_succ]
    refine wpAnyH_take (i := 4) (oi := _) (v := ?_) rfl (by kernel_rfl) (by kernel_rfl) (by kernel_rfl) (fun _ _ _ h => h) (Or.inl ⟨by rfl, ?_⟩) (by assumption) ?_
    rotate_left 1
    · (intro w hSw; (try dsimp only at hSw); (first | (go_simp; done) | (go_simp; with_reducible rfl)))
    try simp only [Act.put, List.getElem_toArray, List.getElem_cons_zero, List.getElem_cons_succ, List.setIfInBounds_toArray, List.set_cons_zero, List.set_cons_succ]
    refine wpAnyH_ready (rs := [5]) (by kernel_rfl) (by simp) ?_
    refine AllReadyH.cons (o := _) rfl (fun K hK => ?_) AllReadyH.nil
    go_simp
    (with_reducible refine Calls.mono (HD.out _ HB0.out) ?_)
    rintro r wa ⟨rfl, hba⟩
    have HBa := hide hba
    have fa0 := (hba.cell (p := ⟨XB, 0, none⟩) (show XB < w0.heap.size by omega)).trans b0
    have fa1 := (hba.cell (p := ⟨XB, 1, none⟩) (show XB < w0.heap.size by omega)).trans b1
    have fa2 := (hba.cell (p := ⟨XB, 2, none⟩) (show XB < w0.heap.size by omega)).trans b2
    have fa3 := (hba.cell (p := ⟨XB, 3, none⟩) (show XB < w0.heap.size by omega)).trans b3
    have fa4 := (hba.cell (p := ⟨XB, 4, none⟩) (show XB < w0.heap.size by omega)).trans b4
    have fa5 := (hba.cell (p := ⟨XB, 5, none⟩) (show XB < w0.heap.size by omega)).trans b5
    have fa6 := (hba.cell (p := ⟨XB, 6, none⟩) (show XB < w0.heap.size by omega)).trans b6
    have fa7 := (hba.cell (p := ⟨XB, 7, none⟩) (show XB < w0.heap.size by omega)).trans b7
    have fa8 := (hba.cell (p := ⟨XB, 8, none⟩) (show XB < w0.heap.size by omega)).trans b8
    have fa9 := (hba.cell (p := ⟨XB, 9, none⟩) (show XB < w0.heap.size by omega)).trans b9
    have fa10 := (hba.cell (p := ⟨XB + 1, 0, none⟩) (show XB + 1 < w0.heap.size by omega)).trans b10
    have fa11 := (hba.cell (p := ⟨XB + 1, 1, none⟩) (show XB + 1 < w0.heap.size by omega)).trans b11
    have fa12 := (hba.cell (p := ⟨XB + 1, 2, none⟩) (show XB + 1 < w0.heap.size by omega)).trans b12
    have fa13 := (hba.cell (p := ⟨b, o + q * 2, none⟩) (show b < w0.heap.size by omega)).trans b13
    clear hba
    (try go_wp2_with fail)
    refine hK.out _ _ ⟨fa0, fa1, fa2, fa3, fa4, fa5, fa6, fa7, fa8, fa9, fa10, fa11, fa12, fa13⟩ (fun hHeld => ?_)
    clear hK K
    try simp only [Act.put, List.getElem_toArray, List.getElem_cons_zero, List.getElem_cons_succ, List.setIfInBounds_toArray, List.set_cons_zero, List.set_cons_succ]
    refine wpAnyH_take (i := 6) (oi := _) (v := ?_) rfl (by kernel_rfl) (by kernel_rfl) (by kernel_rfl) (fun _ _ _ h => h) (Or.inl ⟨by rfl, ?_⟩) (by assumption) ?_
    rotate_left 1
    · (intro w hSw; (try dsimp only at hSw); (first | (go_simp; done) | (go_simp; with_reducible rfl)))
    try simp only [Act.put, List.getElem_toArray, List.getElem_cons_zero, List.getElem_cons_succ, List.setIfInBounds_toArray, List.set_cons_zero, List.set_cons_succ]
    refine wpAnyH_take (i := 7) (oi := _) (v := ?_) rfl (by kernel_rfl) (by kernel_rfl) (by kernel_rfl) (fun _ _ _ h => h) (Or.inl ⟨by rfl, ?_⟩) (by assumption) ?_
    rotate_left 1
    · (intro w hSw; (try dsimp only at hSw); (first | (go_simp; done) | (go_simp; with_reducible rfl)))
    try simp only [Act.put, List.getElem_toArray, List.getElem_cons_zero, List.getElem_cons_succ, List.setIfInBounds_toArray, List.set_cons_zero, List.set_cons_succ]
    refine wpAnyH_take (i := 8) (oi := _) (v := ?_) rfl (by kernel_rfl) (by kernel_rfl) (by kernel_rfl) (fun _ _ _ h => h) (Or.inl ⟨by rfl, ?_⟩) (by assumption) ?_
    rotate_left 1
    · (intro w hSw; (try dsimp only at hSw); (first | (go_simp; done) | (go_simp; with_reducible rfl)))
    try simp only [Act.put, List.getElem_toArray, List.getElem_cons_zero, List.getElem_cons_succ, List.setIfInBounds_toArray, List.set_cons_zero, List.set_cons_succ]
    refine wpAnyH_take (i := 9) (oi := _) (v := ?_) rfl (by kernel_rfl) (by kernel_rfl) (by kernel_rfl) (fun _ _ _ h => h) (Or.inl ⟨by rfl, ?_⟩) (by assumption) ?_
    rotate_left 1
    · (intro w hSw; (try dsimp only at hSw); (first | (go_simp; done) | (go_simp; with_reducible rfl)))
    try simp only [Act.put, List.getElem_toArray, List.getElem_cons_zero, List.getElem_cons_succ, List.setIfInBounds_toArray, List.set_cons_zero, List.set_cons_succ]
    refine wpAnyH_take (i := 10) (oi := _) (v := ?_) rfl (by kernel_rfl) (by kernel_rfl) (by kernel_rfl) (fun _ _ _ h => h) (Or.inl ⟨by rfl, ?_⟩) (by assumption) ?_
    rotate_left 1
    · (intro w hSw; (try dsimp only at hSw); (first | (go_simp; done) | (go_simp; with_reducible rfl)))
    try simp only [Act.put, List.getElem_toArray, List.getElem_cons_zero, List.getElem_cons_succ, List.setIfInBounds_toArray, List.set_cons_zero, List.set_cons_succ]
    refine wpAnyH_take (i := 11) (oi := _) (v := ?_) rfl (by kernel_rfl) (by kernel_rfl) (by kernel_rfl) (fun _ _ _ h => h) (Or.inl ⟨by rfl, ?_⟩) (by assumption) ?_
    rotate_left 1
    · (intro w hSw; (try dsimp only at hSw); (first | (go_simp; done) | (go_simp; with_reducible rfl)))
    try simp only [Act.put, List.getElem_toArray, List.getElem_cons_zero, List.getElem_cons_succ, List.setIfInBounds_toArray, List.set_cons_zero, List.set_cons_succ]
    refine wpAnyH_take (i := 12) (oi := _) (v := ?_) rfl (by kernel_rfl) (by kernel_rfl) (by kernel_rfl) (fun _ _ _ h => h) (Or.inl ⟨by rfl, ?_⟩) (by assumption) ?_
    rotate_left 1
    · (intro w hSw; (try dsimp only at hSw); (first | (go_simp; done) | (go_simp; with_reducible rfl)))
    try simp only [Act.put, List.getElem_toArray, List.getElem_cons_zero, List.getElem_cons_succ, List.setIfInBounds_toArray, List.set_cons_zero, List.set_cons_succ]
    refine wpAnyH_take (i := 13) (oi := _) (v := ?_) rfl (by kernel_rfl) (by kernel_rfl) (by kernel_rfl) (fun _ _ _ h => h) (Or.inl ⟨by rfl, ?_⟩) (by assumption) ?_
    rotate_left 1
    · (intro w hSw; (try dsimp only at hSw); (first | (go_simp; done) | (go_simp; with_reducible rfl)))
    try simp only [Act.put, List.getElem_toArray, List.getElem_cons_zero, List.getElem_cons_succ, List.setIfInBounds_toArray, List.set_cons_zero, List.set_cons_succ]
    refine wpAnyH_take (i := 14) (oi := _) (v := ?_) rfl (by kernel_rfl) (by kernel_rfl) (by kernel_rfl) (fun _ _ _ h => h) (Or.inl ⟨by rfl, ?_⟩) (by assumption) ?_
    rotate_left 1
    · (intro w hSw; (try dsimp only at hSw); (first | (go_simp; done) | (go_simp; with_reducible rfl)))
    try simp only [Act.put, List.getElem_toArray, List.getElem_cons_zero, List.getElem_cons_succ, List.setIfInBounds_toArray, List.set_cons_zero, List.set_cons_succ]
    refine wpAnyH_take (i := 15) (oi := _) (v := ?_) rfl (by kernel_rfl) (by kernel_rfl) (by kernel_rfl) (fun _ _ _ h => h) (Or.inl ⟨by rfl, ?_⟩) (by assumption) ?_
    rotate_left 1
    · (intro w hSw; (try dsimp only at hSw); (first | (go_simp; done) | (go_simp; with_reducible rfl)))
    try simp only [Act.put, List.getElem_toArray, List.getElem_cons_zero, List.getElem_cons_succ, List.setIfInBounds_toArray, List.set_cons_zero, List.set_cons_succ]
    refine wpAnyH_take (i := 16) (oi := _) (v := ?_) rfl (by kernel_rfl) (by kernel_rfl) (by kernel_rfl) (fun _ _ _ h => h) (Or.inl ⟨by rfl, ?_⟩) (by assumption) ?_
    rotate_left 1
    · (intro w hSw; (try dsimp only at hSw); (first | (go_simp; done) | (go_simp; with_reducible rfl)))
    try simp only [Act.put, List.getElem_toArray, List.getElem_cons_zero, List.getElem_cons_succ, List.setIfInBounds_toArray, List.set_cons_zero, List.set_cons_succ]
    refine wpAnyH_take (i := 17) (oi := _) (v := ?_) rfl (by kernel_rfl) (by kernel_rfl) (by kernel_rfl) (fun _ _ _ h => h) (Or.inl ⟨by rfl, ?_⟩) (by assumption) ?_
    rotate_left 1
    · (intro w hSw; (try dsimp only at hSw); (first | (go_simp; done) | (go_simp; with_reducible rfl)))
    try simp only [Act.put, List.getElem_toArray, List.getElem_cons_zero, List.getElem_cons_succ, List.setIfInBounds_toArray, List.set_cons_zero, List.set_cons_succ]
    refine wpAnyH_take (i := 18) (oi := _) (v := ?_) rfl (by kernel_rfl) (by kernel_rfl) (by kernel_rfl) (fun _ _ _ h => h) (Or.inl ⟨by rfl, ?_⟩) (by assumption) ?_
    rotate_left 1
    · (intro w hSw; (try dsimp only at hSw); (first | (go_simp; done) | (go_simp; with_reducible rfl)))
    try simp only [Act.put, List.getElem_toArray, List.getElem_cons_zero, List.getElem_cons_succ, List.setIfInBounds_toArray, List.set_cons_zero, List.set_cons_succ]
    refine wpAnyH_done (by kernel_rfl) ?_ _
    refine NoPanic.normal ?_
    have hBB : Below w.heap.size w wa := HB0.out.trans (HBa.out.mono HB0.out.size)
    have cx1 := ((HX.out.drew).below HBa.out xl).c
    have cy1 := ((HY.out.drew).below HBa.out yl).c
    clear b0 b1 b2 b3 b4 b5 b6 b7 b8 b9 b10 b11 b12 b13
    clear fa0 fa1 fa2 fa3 fa4 fa5 fa6 fa7 fa8 fa9 fa10 fa11 fa12 fa13
    by_cases h4 : KD = 4
    · subst h4
      by_cases hv1 : fv = -1
      · subst hv1
        go_wp2_with fail
        go_ret
        exact ⟨ret_bool (by rw [HRES.out]; simp), hBB⟩
      · go_wp2_with fail
        refine (HI.out _).mono ?_
        rintro r w' ⟨rfl, hw'⟩
        subst hw'
        go_wp2_with fail
        go_ret
        exact ⟨ret_bool (by rw [HRES.out]; simp [hv1]), hBB⟩
    · by_cases h5 : KD = 5
      · subst h5
        by_cases hv1 : fv = -1
        · subst hv1
          go_wp2_with fail
          go_ret
          exact ⟨ret_bool (by rw [HRES.out]; simp), hBB⟩
        · go_wp2_with fail
          refine (HI.out _).mono ?_
          rintro r w' ⟨rfl, hw'⟩
          subst hw'
          go_wp2_with fail
          go_ret
          exact ⟨ret_bool (by rw [HRES.out]; simp [hv1]), hBB⟩
      · by_cases h6 : KD = 6
        · subst h6
          by_cases hv1 : fv = -1
          · subst hv1
            go_wp2_with fail
            go_ret
            exact ⟨ret_bool (by rw [HRES.out]; simp), hBB⟩
          · go_wp2_with fail
            go_ret
            exact ⟨ret_bool (by rw [HRES.out]; simp [hv1]), hBB⟩
        · by_cases h7 : KD = 7
          · subst h7
            by_cases hv1 : fv = -1
            · subst hv1
              go_wp2_with fail
              go_ret
              exact ⟨ret_bool (by rw [HRES.out]; simp), hBB⟩
            · go_wp2_with fail
              go_ret
              exact ⟨ret_bool (by rw [HRES.out]; simp [hv1]), hBB⟩
          · go_wp2_with fail
            go_ret
            exact ⟨ret_bool (by rw [HRES.out]; simp [h4, h5, h6, h7]), hBB⟩
  · skip
    have b0 : w0.cell? ⟨XB, 0, none⟩ = some (.bool d) := cx 0
    have b1 : w0.cell? ⟨XB, 1, none⟩ = some (.int .i64 p) := cx 1
    have b2 : w0.cell? ⟨XB, 2, none⟩ = some (.int .i64 e) := cx 2
    have b3 : w0.cell? ⟨XB, 3, none⟩ = some (.int .i64 x) := cx 3
    have b4 : w0.cell? ⟨XB, 4, none⟩ = some (.slice af nf cf) := cx 4
    have b5 : w0.cell? ⟨XB, 5, none⟩ = some (.slice av nv cv) := cx 5
    have b6 : w0.cell? ⟨XB, 6, none⟩ = some (.slice ab bs.length cb) := cx 6
    have b7 : w0.cell? ⟨XB, 7, none⟩ = some (.slice (some ⟨b, o, none⟩) l.length c) := cx 7
    have b8 : w0.cell? ⟨XB, 8, none⟩ = some (.slice (some ⟨ga, 0, none⟩) l.length ca) := cx 8
    have b9 : w0.cell? ⟨XB, 9, none⟩ = some (.slice (some ⟨ra, 0, none⟩) NR cr) := cx 9
    have b10 : w0.cell? ⟨XB + 1, 0, none⟩ = some (.int .i64 fk) := cy 0
    have b11 : w0.cell? ⟨XB + 1, 1, none⟩ = some (.int .i64 (q : Int)) := cy 1
    have b12 : w0.cell? ⟨XB + 1, 2, none⟩ = some (.int .i64 ((k : Int) - 1)) := cy 2
    have b13 : w0.cell? ⟨b, o + q * 2, none⟩ = some (.int .i64 KD) := q0
    have HB0 : Hid (Below w.heap.size w w0.drew) := hide (belowDrew hB0)
    clear cx cy
    refine wp_region_noPanic ?_
    refine wp_region_held_drew (S := fun w' => w'.cell? ⟨XB, 0, none⟩ = some (.bool d) ∧ w'.cell? ⟨XB, 1, none⟩ = some (.int .i64 p) ∧ w'.cell? ⟨XB, 2, none⟩ = some (.int .i64 e) ∧ w'.cell? ⟨XB, 3, none⟩ = some (.int .i64 x) ∧ w'.cell? ⟨XB, 4, none⟩ = some (.slice af nf cf) ∧ w'.cell? ⟨XB, 5, none⟩ = some (.slice av nv cv) ∧ w'.cell? ⟨XB, 6, none⟩ = some (.slice ab bs.length cb) ∧ w'.cell? ⟨XB, 7, none⟩ = some (.slice (some ⟨b, o, none⟩) l.length c) ∧ w'.cell? ⟨XB, 8, none⟩ = some (.slice (some ⟨ga, 0, none⟩) l.length ca) ∧ w'.cell? ⟨XB, 9, none⟩ = some (.slice (some ⟨ra, 0, none⟩) NR cr) ∧ w'.cell? ⟨XB + 1, 0, none⟩ = some (.int .i64 fk) ∧ w'.cell? ⟨XB + 1, 1, none⟩ = some (.int .i64 (q : Int)) ∧ w'.cell? ⟨XB + 1, 2, none⟩ = some (.int .i64 ((k : Int) - 1)) ∧ w'.cell? ⟨b, o + q * 2, none⟩ = some (.int .i64 KD)) (by kernel_rfl) ⟨b0, b1, b2, b3, b4, b5, b6, b7, b8, b9, b10, b11, b12, b13⟩ (fun hHeld => ?_)
    refine wpAnyH_take (i := 0) (oi := _) (v := ?_) rfl (by kernel_rfl) (by kernel_rfl) (by kernel_rfl) (fun _ _ _ h => h) (Or.inl ⟨by rfl, ?_⟩) (by assumption) ?_
    rotate_left 1
    · (intro w hSw; (try dsimp only at hSw); (first | (go_simp; done) | (go_simp; with_reducible rfl)))
    try simp only [Act.put, List.getElem_toArray, List.getElem_cons_zero, List.getElem_cons_succ, List.setIfInBounds_toArray, List.set_cons_zero, List.set_cons_succ]
    refine wpAnyH_take (i := 1) (oi := _) (v := ?_) rfl (by kernel_rfl) (by kernel_rfl) (by kernel_rfl) (fun _ _ _ h => h) (Or.inl ⟨by rfl, ?_⟩) (by assumption) ?_
    rotate_left 1
    · (intro w hSw; (try dsimp only at hSw); (first | (go_simp; done) | (go_simp; with_reducible rfl)))
    try simp only [Act.put, List.getElem_toArray, List.getElem_cons_zero, List.getElem_cons_succ, List.setIfInBounds_toArray, List.set_cons_zero, List.set_cons_succ]
    refine wpAnyH_take (i := 2) (oi := _) (v := ?_) rfl (by kernel_rfl) (by kernel_rfl) (by kernel_rfl) (fun _ _ _ h => h) (Or.inl ⟨by rfl, ?_⟩) (by assumption) ?_
    rotate_left 1
    · (intro w hSw; (try dsimp only at hSw); (first | (go_simp; done) | (go_simp; with_reducible rfl)))
    try simp only [Act.put, List.getElem_toArray, List.getElem_cons_zero, List.getElem_cons_succ, List.setIfInBounds_toArray, List.set_cons_zero, List.set_cons_succ]
    refine wpAnyH_take (i := 3) (oi := _) (v := ?_) rfl (by kernel_rfl) (by kernel_rfl) (by kernel_rfl) (fun _ _ _ h => h) (Or.inl ⟨by rfl, ?_⟩) (by assumption) ?_
    rotate_left 1
    · (intro w hSw; (try dsimp only at hSw); (first | (go_simp; done) | (go_simp; with_reducible rfl)))
    try simp only [Act.put, List.getElem_toArray, List.getElem_cons_zero, List.getElem_cons_succ, List.setIfInBounds_toArray, List.set_cons_zero, List.set_cons_succ]
    refine wpAnyH_take (i := 4) (oi := _) (v := ?_) rfl (by kernel_rfl) (by kernel_rfl) (by kernel_rfl) (fun _ _ _ h => h) (Or.inl ⟨by rfl, ?_⟩) (by assumption) ?_
    rotate_left 1
    · (intro w hSw; (try dsimp only at hSw); (first | (go_simp; done) | (go_simp; with_reducible rfl)))
    try simp only [Act.put, List.getElem_toArray, List.getElem_cons_zero, List.getElem_cons_succ, List.setIfInBounds_toArray, List.set_cons_zero, List.set_cons_succ]
    refine wpAnyH_ready (rs := [5]) (by kernel_rfl) (by simp) ?_
    refine AllReadyH.cons (o := _) rfl (fun K hK => ?_) AllReadyH.nil
    go_simp
    (with_reducible refine Calls.mono (HD.out _ HB0.out) ?_)
    rintro r wa ⟨rfl, hba⟩
    have HBa := hide hba
    have fa0 := (hba.cell (p := ⟨XB, 0, none⟩) (show XB < w0.heap.size by omega)).trans b0
    have fa1 := (hba.cell (p := ⟨XB, 1, none⟩) (show XB < w0.heap.size by omega)).trans b1
    have fa2 := (hba.cell (p := ⟨XB, 2, none⟩) (show XB < w0.heap.size by omega)).trans b2
    have fa3 := (hba.cell (p := ⟨XB, 3, none⟩) (show XB < w0.heap.size by omega)).trans b3
    have fa4 := (hba.cell (p := ⟨XB, 4, none⟩) (show XB < w0.heap.size by omega)).trans b4
    have fa5 := (hba.cell (p := ⟨XB, 5, none⟩) (show XB < w0.heap.size by omega)).trans b5
    have fa6 := (hba.cell (p := ⟨XB, 6, none⟩) (show XB < w0.heap.size by omega)).trans b6
    have fa7 := (hba.cell (p := ⟨XB, 7, none⟩) (show XB < w0.heap.size by omega)).trans b7
    have fa8 := (hba.cell (p := ⟨XB, 8, none⟩) (show XB < w0.heap.size by omega)).trans b8
    have fa9 := (hba.cell (p := ⟨XB, 9, none⟩) (show XB < w0.heap.size by omega)).trans b9
    have fa10 := (hba.cell (p := ⟨XB + 1, 0, none⟩) (show XB + 1 < w0.heap.size by omega)).trans b10
    have fa11 := (hba.cell (p := ⟨XB + 1, 1, none⟩) (show XB + 1 < w0.heap.size by omega)).trans b11
    have fa12 := (hba.cell (p := ⟨XB + 1, 2, none⟩) (show XB + 1 < w0.heap.size by omega)).trans b12
    have fa13 := (hba.cell (p := ⟨b, o + q * 2, none⟩) (show b < w0.heap.size by omega)).trans b13
    clear hba
    (try go_wp2_with fail)
    refine hK.out _ _ ⟨fa0, fa1, fa2, fa3, fa4, fa5, fa6, fa7, fa8, fa9, fa10, fa11, fa12, fa13⟩ (fun hHeld => ?_)
    clear hK K
    try simp only [Act.put, List.getElem_toArray, List.getElem_cons_zero, List.getElem_cons_succ, List.setIfInBounds_toArray, List.set_cons_zero, List.set_cons_succ]
    refine wpAnyH_take (i := 6) (oi := _) (v := ?_) rfl (by kernel_rfl) (by kernel_rfl) (by kernel_rfl) (fun _ _ _ h => h) (Or.inl ⟨by rfl, ?_⟩) (by assumption) ?_
    rotate_left 1
    · (intro w hSw; (try dsimp only at hSw); (first | (go_simp; done) | (go_simp; with_reducible rfl)))
    try simp only [Act.put, List.getElem_toArray, List.getElem_cons_zero, List.getElem_cons_succ, List.setIfInBounds_toArray, List.set_cons_zero, List.set_cons_succ]
    refine wpAnyH_take (i := 7) (oi := _) (v := ?_) rfl (by kernel_rfl) (by kernel_rfl) (by kernel_rfl) (fun _ _ _ h => h) (Or.inl ⟨by rfl, ?_⟩) (by assumption) ?_
    rotate_left 1
    · (intro w hSw; (try dsimp only at hSw); (first | (go_simp; done) | (go_simp; with_reducible rfl)))
    try simp only [Act.put, List.getElem_toArray, List.getElem_cons_zero, List.getElem_cons_succ, List.setIfInBounds_toArray, List.set_cons_zero, List.set_cons_succ]
    refine wpAnyH_take (i := 8) (oi := _) (v := ?_) rfl (by kernel_rfl) (by kernel_rfl) (by kernel_rfl) (fun _ _ _ h => h) (Or.inl ⟨by rfl, ?_⟩) (by assumption) ?_
    rotate_left 1
    · (intro w hSw; (try dsimp only at hSw); (first | (go_simp; done) | (go_simp; with_reducible rfl)))
    try simp only [Act.put, List.getElem_toArray, List.getElem_cons_zero, List.getElem_cons_succ, List.setIfInBounds_toArray, List.set_cons_zero, List.set_cons_succ]
    refine wpAnyH_take (i := 9) (oi := _) (v := ?_) rfl (by kernel_rfl) (by kernel_rfl) (by kernel_rfl) (fun _ _ _ h => h) (Or.inl ⟨by rfl, ?_⟩) (by assumption) ?_
    rotate_left 1
    · (intro w hSw; (try dsimp only at hSw); (first | (go_simp; done) | (go_simp; with_reducible rfl)))
    try simp only [Act.put, List.getElem_toArray, List.getElem_cons_zero, List.getElem_cons_succ, List.setIfInBounds_toArray, List.set_cons_zero, List.set_cons_succ]
    refine wpAnyH_take (i := 10) (oi := _) (v := ?_) rfl (by kernel_rfl) (by kernel_rfl) (by kernel_rfl) (fun _ _ _ h => h) (Or.inl ⟨by rfl, ?_⟩) (by assumption) ?_
    rotate_left 1
    · (intro w hSw; (try dsimp only at hSw); (first | (go_simp; done) | (go_simp; with_reducible rfl)))
    try simp only [Act.put, List.getElem_toArray, List.getElem_cons_zero, List.getElem_cons_succ, List.setIfInBounds_toArray, List.set_cons_zero, List.set_cons_succ]
    refine wpAnyH_take (i := 11) (oi := _) (v := ?_) rfl (by kernel_rfl) (by kernel_rfl) (by kernel_rfl) (fun _ _ _ h => h) (Or.inl ⟨by rfl, ?_⟩) (by assumption) ?_
    rotate_left 1
    · (intro w hSw; (try dsimp only at hSw); (first | (go_simp; done) | (go_simp; with_reducible rfl)))
    try simp only [Act.put, List.getElem_toArray, List.getElem_cons_zero, List.getElem_cons_succ, List.setIfInBounds_toArray, List.set_cons_zero, List.set_cons_succ]
    refine wpAnyH_take (i := 12) (oi := _) (v := ?_) rfl (by kernel_rfl) (by kernel_rfl) (by kernel_rfl) (fun _ _ _ h => h) (Or.inl ⟨by rfl, ?_⟩) (by assumption) ?_
    rotate_left 1
    · (intro w hSw; (try dsimp only at hSw); (first | (go_simp; done) | (go_simp; with_reducible rfl)))
    try simp only [Act.put, List.getElem_toArray, List.getElem_cons_zero, List.getElem_cons_succ, List.setIfInBounds_toArray, List.set_cons_zero, List.set_cons_succ]
    refine wpAnyH_take (i := 13) (oi := _) (v := ?_) rfl (by kernel_rfl) (by kernel_rfl) (by kernel_rfl) (fun _ _ _ h => h) (Or.inl ⟨by rfl, ?_⟩) (by assumption) ?_
    rotate_left 1
    · (intro w hSw; (try dsimp only at hSw); (first | (go_simp; done) | (go_simp; with_reducible rfl)))
    try simp only [Act.put, List.getElem_toArray, List.getElem_cons_zero, List.getElem_cons_succ, List.setIfInBounds_toArray, List.set_cons_zero, List.set_cons_succ]
    refine wpAnyH_take (i := 14) (oi := _) (v := ?_) rfl (by kernel_rfl) (by kernel_rfl) (by kernel_rfl) (fun _ _ _ h => h) (Or.inl ⟨by rfl, ?_⟩) (by assumption) ?_
    rotate_left 1
    · (intro w hSw; (try dsimp only at hSw); (first | (go_simp; done) | (go_simp; with_reducible rfl)))
    try simp only [Act.put, List.getElem_toArray, List.getElem_cons_zero, List.getElem_cons_succ, List.setIfInBounds_toArray, List.set_cons_zero, List.set_cons_succ]
    refine wpAnyH_take (i := 15) (oi := _) (v := ?_) rfl (by kernel_rfl) (by kernel_rfl) (by kernel_rfl) (fun _ _ _ h => h) (Or.inl ⟨by rfl, ?_⟩) (by assumption) ?_
    rotate_left 1
    · (intro w hSw; (try dsimp only at hSw); (first | (go_simp; done) | (go_simp; with_reducible rfl)))
    try simp only [Act.put, List.getElem_toArray, List.getElem_cons_zero, List.getElem_cons_succ, List.setIfInBounds_toArray, List.set_cons_zero, List.set_cons_succ]
    refine wpAnyH_take (i := 16) (oi := _) (v := ?_) rfl (by kernel_rfl) (by kernel_rfl) (by kernel_rfl) (fun _ _ _ h => h) (Or.inl ⟨by rfl, ?_⟩) (by assumption) ?_
    rotate_left 1
    · (intro w hSw; (try dsimp only at hSw); (first | (go_simp; done) | (go_simp; with_reducible rfl)))
    try simp only [Act.put, List.getElem_toArray, List.getElem_cons_zero, List.getElem_cons_succ, List.setIfInBounds_toArray, List.set_cons_zero, List.set_cons_succ]
    refine wpAnyH_take (i := 17) (oi := _) (v := ?_) rfl (by kernel_rfl) (by kernel_rfl) (by kernel_rfl) (fun _ _ _ h => h) (Or.inl ⟨by rfl, ?_⟩) (by assumption) ?_
    rotate_left 1
    · (intro w hSw; (try dsimp only at hSw); (first | (go_simp; done) | (go_simp; with_reducible rfl)))
    try simp only [Act.put, List.getElem_toArray, List.getElem_cons_zero, List.getElem_cons_succ, List.setIfInBounds_toArray, List.set_cons_zero, List.set_cons_succ]
    refine wpAnyH_take (i := 18) (oi := _) (v := ?_) rfl (by kernel_rfl) (by kernel_rfl) (by kernel_rfl) (fun _ _ _ h => h) (Or.inl ⟨by rfl, ?_⟩) (by assumption) ?_
    rotate_left 1
    · (intro w hSw; (try dsimp only at hSw); (first | (go_simp; done) | (go_simp; with_reducible rfl)))
    try simp only [Act.put, List.getElem_toArray, List.getElem_cons_zero, List.getElem_cons_succ, List.setIfInBounds_toArray, List.set_cons_zero, List.set_cons_succ]
    refine wpAnyH_done (by kernel_rfl) ?_ _
    refine NoPanic.normal ?_
    have hBB : Below w.heap.size w wa := HB0.out.trans (HBa.out.mono HB0.out.size)
    go_wp2_with fail
    go_ret
    exact ⟨ret_bool (by rw [HRES.out]; simp [hk1]), hBB⟩

set_option maxRecDepth 20000 in
set_option maxHeartbeats 4000000 in
theorem goodNow_any (ad : Option Addr) (c : Nat) (l : List Cc) (a : F) (d : Bool) (p e x : Int) (af av ab : Option Addr) (nf cf nv cv cb : Nat) (bs : List Bd) (ga ca ra NR cr : Nat) (fs : List Fm) (vs : List Vl) (w : World) (hCl : Cl l a) (hL : LkR w ad l a bs ga ra) (hb : bsOk nv bs = true) (hNR : NR = bs.length + 1) (hl : bs.length ≤ 1048576) (hv : nv ≤ 1048576) (hnv : vs.length = nv) :
    Calls Tryz.prog 57 #[.agg #[.bool d, .int .i64 p, .int .i64 e, .int .i64 x, .slice af nf cf, .slice av nv cv, .slice ab bs.length cb, .slice ad l.length c, .slice (some ⟨ga, 0, none⟩) l.length ca, .slice (some ⟨ra, 0, none⟩) NR cr]] w fun r w' => r = .returned (.bool (nOk a l ⟨d, p, e, x, fs, vs, bs⟩)) ∧ Below w.heap.size w w' := by
  have HD := hide (fun (w' : World) (hb' : Below w.heap.size w w') => canBeDone_any ad c l a d p e x af av ab nf cf nv cv cb bs ga ca ra NR cr p e w' hCl (hL.below hb') hb hNR hl hv)
  have HI := hide (isBelow_any x nv)
  cases d with
  | true =>
    have hno : nOk a l ⟨true, p, e, x, fs, vs, bs⟩ = (decide (p = -1) && decide (e = -1) && blw x nv) := by unfold nOk; simp [hnv]
    rw [hno]
    obtain ⟨BV, hBV⟩ : ∃ BV, BV = blw x nv := ⟨_, rfl⟩
    rw [← hBV] at HI ⊢
    clear hno hBV hL hb hNR hCl HD hnv
    by_cases h1 : p = -1
    · subst h1
      by_cases h2 : e = -1
      · subst h2
        go_enter Tryz.func57, Tryz.ntmps57
        go_upto_region 1 with fail
        have hB0 : Below w.heap.size w (w.alloc (.cells #[.bool true, .int .i64 (-1), .int .i64 (-1), .int .i64 x, .slice af nf cf, .slice av nv cv, .slice ab bs.length cb, .slice ad l.length c, .slice (some ⟨ga, 0, none⟩) l.length ca, .slice (some ⟨ra, 0, none⟩) NR cr] 108)) := (Below.refl _ _).alloc (Nat.le_refl _) _
        have hX := Bx.new w #[.bool true, .int .i64 (-1), .int .i64 (-1), .int .i64 x, .slice af nf cf, .slice av nv cv, .slice ab bs.length cb, .slice ad l.length c, .slice (some ⟨ga, 0, none⟩) l.length ca, .slice (some ⟨ra, 0, none⟩) NR cr] 108
        obtain ⟨w0, hw0⟩ : ∃ w0, w0 = (w.alloc (.cells #[.bool true, .int .i64 (-1), .int .i64 (-1), .int .i64 x, .slice af nf cf, .slice av nv cv, .slice ab bs.length cb, .slice ad l.length c, .slice (some ⟨ga, 0, none⟩) l.length ca, .slice (some ⟨ra, 0, none⟩) NR cr] 108)) := ⟨_, rfl⟩
        obtain ⟨XB, hXB⟩ : ∃ XB, XB = w.heap.size := ⟨_, rfl⟩
        rw [← hw0] at hX hB0 ⊢
        rw [← hXB] at hX ⊢
        have xl : XB < w0.heap.size := hX.lt
        have cx := hX.c
        clear hX hw0 hXB
        go_wp2_with fail
        refine (HI.out _).mono ?_
        rintro r w' ⟨rfl, hw'⟩
        subst hw'
        go_wp2_with fail
        go_ret
        exact ⟨ret_bool (by simp), hB0⟩
      · go_enter Tryz.func57, Tryz.ntmps57
        go_upto_region 1 with fail
        go_wp2_with fail
        go_ret
        exact ⟨ret_bool (by simp [h2]), (Below.refl _ _).alloc (Nat.le_refl _) _⟩
    · go_enter Tryz.func57, Tryz.ntmps57
      go_upto_region 1 with fail
      go_wp2_with fail
      go_ret
      exact ⟨ret_bool (by simp [h1]), (Below.refl _ _).alloc (Nat.le_refl _) _⟩
  | false =>
    have hno : nOk a l ⟨false, p, e, x, fs, vs, bs⟩ = (decide (x = -1) && pOk a l.length bs p e) := by unfold nOk; simp
    rw [hno]
    obtain ⟨BV, hBV⟩ : ∃ BV, BV = pOk a l.length bs p e := ⟨_, rfl⟩
    rw [← hBV] at HD ⊢
    clear hno hBV hL hb hNR hCl HI hnv
    by_cases h1 : x = -1
    · subst h1
      go_enter Tryz.func57, Tryz.ntmps57
      go_upto_region 1 with fail
      have hB0 : Below w.heap.size w (w.alloc (.cells #[.bool false, .int .i64 p, .int .i64 e, .int .i64 (-1), .slice af nf cf, .slice av nv cv, .slice ab bs.length cb, .slice ad l.length c, .slice (some ⟨ga, 0, none⟩) l.length ca, .slice (some ⟨ra, 0, none⟩) NR cr] 108)) := (Below.refl _ _).alloc (Nat.le_refl _) _
      have hX := Bx.new w #[.bool false, .int .i64 p, .int .i64 e, .int .i64 (-1), .slice af nf cf, .slice av nv cv, .slice ab bs.length cb, .slice ad l.length c, .slice (some ⟨ga, 0, none⟩) l.length ca, .slice (some ⟨ra, 0, none⟩) NR cr] 108
      obtain ⟨w0, hw0⟩ : ∃ w0, w0 = (w.alloc (.cells #[.bool false, .int .i64 p, .int .i64 e, .int .i64 (-1), .slice af nf cf, .slice av nv cv, .slice ab bs.length cb, .slice ad l.length c, .slice (some ⟨ga, 0, none⟩) l.length ca, .slice (some ⟨ra, 0, none⟩) NR cr] 108)) := ⟨_, rfl⟩
      obtain ⟨XB, hXB⟩ : ∃ XB, XB = w.heap.size := ⟨_, rfl⟩
      rw [← hw0] at hX hB0 ⊢
      rw [← hXB] at hX ⊢
      have xl : XB < w0.heap.size := hX.lt
      have cx := hX.c
      clear hX hw0 hXB
      go_wp2_with fail
      refine (HD.out _ hB0).mono ?_
      rintro r w1 ⟨rfl, hb1⟩
      clear cx
      go_wp2_with fail
      go_ret
      exact ⟨ret_bool (by simp), hB0.trans (hb1.mono hB0.size)⟩
    · go_enter Tryz.func57, Tryz.ntmps57
      go_upto_region 1 with fail
      go_wp2_with fail
      go_ret
      exact ⟨ret_bool (by simp [h1]), (Below.refl _ _).alloc (Nat.le_refl _) _⟩
theorem goodFrame_any (ad : Option Addr) (c : Nat) (l : List Cc) (a : F) (d : Bool) (p e x : Int) (af av ab : Option Addr) (nf cf nv cv cb : Nat) (bs : List Bd) (ga ca ra NR cr : Nat) (f : Fm) (w : World) (hCl : Cl l a) (hL : LkR w ad l a bs ga ra) (hb : bsOk nv bs = true) (hNR : NR = bs.length + 1) (hl : bs.length ≤ 1048576) (hv : nv ≤ 1048576) :
    Calls Tryz.prog 56 #[.agg #[.bool d, .int .i64 p, .int .i64 e, .int .i64 x, .slice af nf cf, .slice av nv cv, .slice ab bs.length cb, .slice ad l.length c, .slice (some ⟨ga, 0, none⟩) l.length ca, .slice (some ⟨ra, 0, none⟩) NR cr], f.v] w fun r w' => r = .returned (.bool (fOk a l bs nv f)) ∧ Below w.heap.size w w' := by
  obtain ⟨fk, pl, env, fv⟩ := f
  cases hp : pOk a l.length bs pl env with
  | true => exact goodFrame_is ad c l a d p e x af av ab nf cf nv cv cb bs ga ca ra NR cr fk pl env fv w hCl hL hb hNR hl hv hp
  | false =>
    rw [show fOk a l bs nv ⟨fk, pl, env, fv⟩ = false by unfold fOk; simp [hp]]
    exact goodFrame_not ad c l a d p e x af av ab nf cf nv cv cb bs ga ca ra NR cr fk pl env fv w hCl hL hb hNR hl hv hp
end Go.Proofs.YtdajalchdbgooaaGreat.W
