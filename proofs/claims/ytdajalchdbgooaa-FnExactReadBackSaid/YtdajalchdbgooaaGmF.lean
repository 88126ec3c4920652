/-
  Contracts of goodVal, goodFrame, goodNow. Conditions: closed terms, good bindings. Written by wip/build/mk_look.py.
-/
import Derived.Test.YtdajalchdbgooaaJ14
import Derived.Test.YtdajalchdbgooaaJ01
import Derived.Deep.RegionHeld3
import Derived.Deep.RegionLaw
import Derived.Deep.AppendLies
import Derived.Deep.CutRange
namespace Go.Proofs.Ytdajalchdbgooaa.W
open Go.ChangeShapes Go.WideShapes Go.ChangeAt Go.RowKit
set_option linter.unusedVariables false
set_option linter.unusedSimpArgs false

theorem kAt_nat (l : List Cc) (q : Nat) (h : q < l.length) : kAt l (q : Int) = l[q].k := by unfold kAt; rw [Int.toNat_natCast, List.getElem?_eq_getElem h]

set_option maxRecDepth 20000 in
set_option maxHeartbeats 4000000 in
theorem goodVal_num (ad : Option Addr) (c : Nat) (l : List Cc) (a : F) (d : Bool) (p e x : Int) (af av ab : Option Addr) (nf cf nv cv cb : Nat) (bs : List Bd) (ga ca ra NR cr : Nat) (num pl env : Int) (i : Nat) (w : World) (hCl : Cl l a) (hL : LkR w ad l a bs ga ra) (hb : bsOk nv bs = true) (hNR : NR = bs.length + 1) (hl : bs.length ≤ 1048576) (hv : nv ≤ 1048576) :
    Calls Try.prog 56 #[.agg #[.bool d, .int .i64 p, .int .i64 e, .int .i64 x, .slice af nf cf, .slice av nv cv, .slice ab bs.length cb, .slice ad l.length c, .slice (some ⟨ga, 0, none⟩) l.length ca, .slice (some ⟨ra, 0, none⟩) NR cr], .agg #[.bool false, .int .i64 num, .int .i64 pl, .int .i64 env], .int .i64 (i : Int)] w fun r w' => r = .returned (.bool (vOk a l bs i ⟨false, num, pl, env⟩)) ∧ Below w.heap.size w w' := by
  have hvo : vOk a l bs i ⟨false, num, pl, env⟩ = (goodC ⟨2, num⟩ && decide (pl = 0) && decide (env = 0)) := by
    unfold vOk goodC; simp
  rw [hvo]
  have HG := hide (goodCell_any ⟨2, num⟩)
  simp only at HG
  obtain ⟨G, hG⟩ : ∃ G, G = goodC ⟨2, num⟩ := ⟨_, rfl⟩
  rw [← hG] at HG ⊢
  clear hG hvo hL hb hNR hCl
  go_enter Try.func56, Try.ntmps56
  go_upto_region 1 with fail
  have hB0 : Below w.heap.size w ((w.alloc (.cells #[.bool d, .int .i64 p, .int .i64 e, .int .i64 x, .slice af nf cf, .slice av nv cv, .slice ab bs.length cb, .slice ad l.length c, .slice (some ⟨ga, 0, none⟩) l.length ca, .slice (some ⟨ra, 0, none⟩) NR cr] 93)).alloc (.cells #[.bool false, .int .i64 num, .int .i64 pl, .int .i64 env] 74)) := ((Below.refl _ _).alloc (Nat.le_refl _) _).alloc (by simp) _
  have hX := (Bx.new w #[.bool d, .int .i64 p, .int .i64 e, .int .i64 x, .slice af nf cf, .slice av nv cv, .slice ab bs.length cb, .slice ad l.length c, .slice (some ⟨ga, 0, none⟩) l.length ca, .slice (some ⟨ra, 0, none⟩) NR cr] 93).alloc (.cells #[.bool false, .int .i64 num, .int .i64 pl, .int .i64 env] 74)
  have hY := Bx.new (w.alloc (.cells #[.bool d, .int .i64 p, .int .i64 e, .int .i64 x, .slice af nf cf, .slice av nv cv, .slice ab bs.length cb, .slice ad l.length c, .slice (some ⟨ga, 0, none⟩) l.length ca, .slice (some ⟨ra, 0, none⟩) NR cr] 93)) #[.bool false, .int .i64 num, .int .i64 pl, .int .i64 env] 74
  simp only [World.size_alloc] at hY
  obtain ⟨w0, hw0⟩ : ∃ w0, w0 = ((w.alloc (.cells #[.bool d, .int .i64 p, .int .i64 e, .int .i64 x, .slice af nf cf, .slice av nv cv, .slice ab bs.length cb, .slice ad l.length c, .slice (some ⟨ga, 0, none⟩) l.length ca, .slice (some ⟨ra, 0, none⟩) NR cr] 93)).alloc (.cells #[.bool false, .int .i64 num, .int .i64 pl, .int .i64 env] 74)) := ⟨_, rfl⟩
  obtain ⟨XB, hXB⟩ : ∃ XB, XB = w.heap.size := ⟨_, rfl⟩
  rw [← hw0] at hX hY hB0 ⊢
  rw [← hXB] at hX hY ⊢
  have xl : XB < w0.heap.size := hX.lt
  have yl : XB + 1 < w0.heap.size := hY.lt
  have HX := hide hX
  have HY := hide hY
  have cx := hX.c
  have cy := hY.c
  clear hX hY hw0 hXB
  go_wp2_with fail
  refine (HG.out _).mono ?_
  rintro r w1 ⟨rfl, hb1⟩
  have hB1 : Below w.heap.size w w1 := hB0.trans (hb1.mono hB0.size)
  have cy1 := (HY.out.below hb1 yl).c
  clear cx cy hb1
  cases G with
  | false =>
    go_wp2_with fail
    go_ret
    exact ⟨rfl, hB1⟩
  | true =>
    by_cases h1 : pl = 0
    · by_cases h2 : env = 0
      · subst h1 h2
        go_wp2_with fail
        go_ret
        exact ⟨rfl, hB1⟩
      · subst h1
        go_wp2_with fail
        go_ret
        exact ⟨ret_bool (by simp [h2]), hB1⟩
    · go_wp2_with fail
      go_ret
      exact ⟨ret_bool (by simp [h1]), hB1⟩

set_option maxRecDepth 20000 in
set_option maxHeartbeats 4000000 in
theorem goodVal_fun (ad : Option Addr) (c : Nat) (l : List Cc) (a : F) (d : Bool) (p e x : Int) (af av ab : Option Addr) (nf cf nv cv cb : Nat) (bs : List Bd) (ga ca ra NR cr : Nat) (num pl env : Int) (i : Nat) (w : World) (hCl : Cl l a) (hL : LkR w ad l a bs ga ra) (hb : bsOk nv bs = true) (hNR : NR = bs.length + 1) (hl : bs.length ≤ 1048576) (hv : nv ≤ 1048576) (hi : i ≤ 1048576) :
    Calls Try.prog 56 #[.agg #[.bool d, .int .i64 p, .int .i64 e, .int .i64 x, .slice af nf cf, .slice av nv cv, .slice ab bs.length cb, .slice ad l.length c, .slice (some ⟨ga, 0, none⟩) l.length ca, .slice (some ⟨ra, 0, none⟩) NR cr], .agg #[.bool true, .int .i64 num, .int .i64 pl, .int .i64 env], .int .i64 (i : Int)] w fun r w' => r = .returned (.bool (vOk a l bs i ⟨true, num, pl, env⟩)) ∧ Below w.heap.size w w' := by
  have hll := hCl.le
  by_cases hn : num = 0
  · subst hn
    have HD := hide (fun (w' : World) (hb' : Below w.heap.size w w') => canBeDone_any ad c l a d p e x af av ab nf cf nv cv cb bs ga ca ra NR cr pl env w' hCl (hL.below hb') hb hNR hl hv)
    cases hp : pOk a l.length bs pl env with
    | false =>
      have hvo : vOk a l bs i ⟨true, 0, pl, env⟩ = false := by unfold vOk; simp [hp]
      rw [hvo]
      rw [hp] at HD
      clear hvo hp hL hb hNR hCl
      go_enter Try.func56, Try.ntmps56
      go_upto_region 1 with fail
      have hB0 : Below w.heap.size w ((w.alloc (.cells #[.bool d, .int .i64 p, .int .i64 e, .int .i64 x, .slice af nf cf, .slice av nv cv, .slice ab bs.length cb, .slice ad l.length c, .slice (some ⟨ga, 0, none⟩) l.length ca, .slice (some ⟨ra, 0, none⟩) NR cr] 93)).alloc (.cells #[.bool true, .int .i64 0, .int .i64 pl, .int .i64 env] 74)) := ((Below.refl _ _).alloc (Nat.le_refl _) _).alloc (by simp) _
      have hX := (Bx.new w #[.bool d, .int .i64 p, .int .i64 e, .int .i64 x, .slice af nf cf, .slice av nv cv, .slice ab bs.length cb, .slice ad l.length c, .slice (some ⟨ga, 0, none⟩) l.length ca, .slice (some ⟨ra, 0, none⟩) NR cr] 93).alloc (.cells #[.bool true, .int .i64 0, .int .i64 pl, .int .i64 env] 74)
      have hY := Bx.new (w.alloc (.cells #[.bool d, .int .i64 p, .int .i64 e, .int .i64 x, .slice af nf cf, .slice av nv cv, .slice ab bs.length cb, .slice ad l.length c, .slice (some ⟨ga, 0, none⟩) l.length ca, .slice (some ⟨ra, 0, none⟩) NR cr] 93)) #[.bool true, .int .i64 0, .int .i64 pl, .int .i64 env] 74
      simp only [World.size_alloc] at hY
      obtain ⟨w0, hw0⟩ : ∃ w0, w0 = ((w.alloc (.cells #[.bool d, .int .i64 p, .int .i64 e, .int .i64 x, .slice af nf cf, .slice av nv cv, .slice ab bs.length cb, .slice ad l.length c, .slice (some ⟨ga, 0, none⟩) l.length ca, .slice (some ⟨ra, 0, none⟩) NR cr] 93)).alloc (.cells #[.bool true, .int .i64 0, .int .i64 pl, .int .i64 env] 74)) := ⟨_, rfl⟩
      obtain ⟨XB, hXB⟩ : ∃ XB, XB = w.heap.size := ⟨_, rfl⟩
      rw [← hw0] at hX hY hB0 ⊢
      rw [← hXB] at hX hY ⊢
      have xl : XB < w0.heap.size := hX.lt
      have yl : XB + 1 < w0.heap.size := hY.lt
      have HX := hide hX
      have HY := hide hY
      have cx := hX.c
      have cy := hY.c
      clear hX hY hw0 hXB
      go_wp2_with fail
      refine (HD.out _ hB0).mono ?_
      rintro r w1 ⟨rfl, hb1⟩
      have hB1 : Below w.heap.size w w1 := hB0.trans (hb1.mono hB0.size)
      clear cx cy hb1
      go_wp2_with fail
      go_ret
      exact ⟨rfl, hB1⟩
    | true =>
      obtain ⟨p1, p2, p3⟩ := pOk_iff.1 hp
      obtain ⟨q, rfl⟩ := Int.eq_ofNat_of_zero_le p1.1
      obtain ⟨k, hk⟩ : ∃ k : Nat, env = (k : Int) - 1 := ⟨(env + 1).toNat, by omega⟩
      subst hk
      have hql : q < l.length := by omega
      have hkl : k ≤ bs.length := by omega
      have hq' : (q : Int) < (l.length : Int) := p1.2
      have hq0 : (0 : Int) ≤ (q : Int) := p1.1
      have hk' : (k : Int) < (NR : Int) := by omega
      have hk0 : (0 : Int) ≤ (k : Int) := by omega
      have hkw : IntKind.i64.wrap ((k : Int) - 1 + 1) = (k : Int) := by rw [show (k : Int) - 1 + 1 = (k : Int) by omega]; exact IntWalk.i64_in _ ⟨by omega, by omega⟩
      have hvo : vOk a l bs i ⟨true, 0, (q : Int), (k : Int) - 1⟩ = (decide (l[q].k = 3) && decide ((bw bs ((k : Int) - 1)).2 < (i : Int))) := by unfold vOk; simp [hp, kAt_nat l q hql]
      rw [hvo]
      rw [hp] at HD
      have HL := hide hL
      obtain ⟨KD, hKD⟩ : ∃ KD, KD = l[q].k := ⟨_, rfl⟩
      obtain ⟨GR, hGR⟩ : ∃ GR, GR = (bw bs ((k : Int) - 1)).2 := ⟨_, rfl⟩
      rw [← hKD, ← hGR]
      have HKD := hide hKD
      have HGR := hide hGR
      clear hvo hp hL hb hNR hCl hKD hGR p1 p2 p3
      go_enter Try.func56, Try.ntmps56
      go_upto_region 1 with fail
      have hB0 : Below w.heap.size w ((w.alloc (.cells #[.bool d, .int .i64 p, .int .i64 e, .int .i64 x, .slice af nf cf, .slice av nv cv, .slice ab bs.length cb, .slice ad l.length c, .slice (some ⟨ga, 0, none⟩) l.length ca, .slice (some ⟨ra, 0, none⟩) NR cr] 93)).alloc (.cells #[.bool true, .int .i64 0, .int .i64 (q : Int), .int .i64 ((k : Int) - 1)] 74)) := ((Below.refl _ _).alloc (Nat.le_refl _) _).alloc (by simp) _
      have hX := (Bx.new w #[.bool d, .int .i64 p, .int .i64 e, .int .i64 x, .slice af nf cf, .slice av nv cv, .slice ab bs.length cb, .slice ad l.length c, .slice (some ⟨ga, 0, none⟩) l.length ca, .slice (some ⟨ra, 0, none⟩) NR cr] 93).alloc (.cells #[.bool true, .int .i64 0, .int .i64 (q : Int), .int .i64 ((k : Int) - 1)] 74)
      have hY := Bx.new (w.alloc (.cells #[.bool d, .int .i64 p, .int .i64 e, .int .i64 x, .slice af nf cf, .slice av nv cv, .slice ab bs.length cb, .slice ad l.length c, .slice (some ⟨ga, 0, none⟩) l.length ca, .slice (some ⟨ra, 0, none⟩) NR cr] 93)) #[.bool true, .int .i64 0, .int .i64 (q : Int), .int .i64 ((k : Int) - 1)] 74
      simp only [World.size_alloc] at hY
      obtain ⟨w0, hw0⟩ : ∃ w0, w0 = ((w.alloc (.cells #[.bool d, .int .i64 p, .int .i64 e, .int .i64 x, .slice af nf cf, .slice av nv cv, .slice ab bs.length cb, .slice ad l.length c, .slice (some ⟨ga, 0, none⟩) l.length ca, .slice (some ⟨ra, 0, none⟩) NR cr] 93)).alloc (.cells #[.bool true, .int .i64 0, .int .i64 (q : Int), .int .i64 ((k : Int) - 1)] 74)) := ⟨_, rfl⟩
      obtain ⟨XB, hXB⟩ : ∃ XB, XB = w.heap.size := ⟨_, rfl⟩
      rw [← hw0] at hX hY hB0 ⊢
      rw [← hXB] at hX hY ⊢
      have xl : XB < w0.heap.size := hX.lt
      have yl : XB + 1 < w0.heap.size := hY.lt
      have HX := hide hX
      have HY := hide hY
      have cx := hX.c
      have cy := hY.c
      clear hX hY hw0 hXB
      go_wp2_with fail
      refine (HD.out _ hB0).mono ?_
      rintro r w1 ⟨rfl, hb1⟩
      have hB1 : Below w.heap.size w w1 := hB0.trans (hb1.mono hB0.size)
      have cx1 := (HX.out.below hb1 xl).c
      have cy1 := (HY.out.below hb1 yl).c
      obtain ⟨b, o, rfl, -, q0, -⟩ := CRow.tok HL.out.t hB1 hql
      rw [← HKD.out] at q0
      have r1 : w1.cell? ⟨ra, k * 2 + 1, none⟩ = some (.int .i64 GR) := by rw [HGR.out]; exact ((HL.out.below hB1).r k hkl).2
      clear cx cy hb1
      by_cases h3 : KD = 3
      · subst h3
        by_cases h4 : GR < (i : Int)
        · go_wp2_with fail
          go_ret
          exact ⟨ret_bool (by simp [h4]), hB1⟩
        · go_wp2_with fail
          go_ret
          exact ⟨ret_bool (by simp [h4]), hB1⟩
      · go_wp2_with fail
        go_ret
        exact ⟨ret_bool (by simp [h3]), hB1⟩
  · have hvo : vOk a l bs i ⟨true, num, pl, env⟩ = false := by unfold vOk; simp [hn]
    rw [hvo]
    clear hvo hL hb hNR hCl
    go_enter Try.func56, Try.ntmps56
    go_upto_region 1 with fail
    have hB0 : Below w.heap.size w ((w.alloc (.cells #[.bool d, .int .i64 p, .int .i64 e, .int .i64 x, .slice af nf cf, .slice av nv cv, .slice ab bs.length cb, .slice ad l.length c, .slice (some ⟨ga, 0, none⟩) l.length ca, .slice (some ⟨ra, 0, none⟩) NR cr] 93)).alloc (.cells #[.bool true, .int .i64 num, .int .i64 pl, .int .i64 env] 74)) := ((Below.refl _ _).alloc (Nat.le_refl _) _).alloc (by simp) _
    have hX := (Bx.new w #[.bool d, .int .i64 p, .int .i64 e, .int .i64 x, .slice af nf cf, .slice av nv cv, .slice ab bs.length cb, .slice ad l.length c, .slice (some ⟨ga, 0, none⟩) l.length ca, .slice (some ⟨ra, 0, none⟩) NR cr] 93).alloc (.cells #[.bool true, .int .i64 num, .int .i64 pl, .int .i64 env] 74)
    have hY := Bx.new (w.alloc (.cells #[.bool d, .int .i64 p, .int .i64 e, .int .i64 x, .slice af nf cf, .slice av nv cv, .slice ab bs.length cb, .slice ad l.length c, .slice (some ⟨ga, 0, none⟩) l.length ca, .slice (some ⟨ra, 0, none⟩) NR cr] 93)) #[.bool true, .int .i64 num, .int .i64 pl, .int .i64 env] 74
    simp only [World.size_alloc] at hY
    obtain ⟨w0, hw0⟩ : ∃ w0, w0 = ((w.alloc (.cells #[.bool d, .int .i64 p, .int .i64 e, .int .i64 x, .slice af nf cf, .slice av nv cv, .slice ab bs.length cb, .slice ad l.length c, .slice (some ⟨ga, 0, none⟩) l.length ca, .slice (some ⟨ra, 0, none⟩) NR cr] 93)).alloc (.cells #[.bool true, .int .i64 num, .int .i64 pl, .int .i64 env] 74)) := ⟨_, rfl⟩
    obtain ⟨XB, hXB⟩ : ∃ XB, XB = w.heap.size := ⟨_, rfl⟩
    rw [← hw0] at hX hY hB0 ⊢
    rw [← hXB] at hX hY ⊢
    have xl : XB < w0.heap.size := hX.lt
    have yl : XB + 1 < w0.heap.size := hY.lt
    have HX := hide hX
    have HY := hide hY
    have cx := hX.c
    have cy := hY.c
    clear hX hY hw0 hXB
    go_wp2_with fail
    go_ret
    exact ⟨rfl, hB0⟩
theorem goodVal_any (ad : Option Addr) (c : Nat) (l : List Cc) (a : F) (d : Bool) (p e x : Int) (af av ab : Option Addr) (nf cf nv cv cb : Nat) (bs : List Bd) (ga ca ra NR cr : Nat) (v : Vl) (i : Nat) (w : World) (hCl : Cl l a) (hL : LkR w ad l a bs ga ra) (hb : bsOk nv bs = true) (hNR : NR = bs.length + 1) (hl : bs.length ≤ 1048576) (hv : nv ≤ 1048576) (hi : i ≤ 1048576) :
    Calls Try.prog 56 #[.agg #[.bool d, .int .i64 p, .int .i64 e, .int .i64 x, .slice af nf cf, .slice av nv cv, .slice ab bs.length cb, .slice ad l.length c, .slice (some ⟨ga, 0, none⟩) l.length ca, .slice (some ⟨ra, 0, none⟩) NR cr], v.v, .int .i64 (i : Int)] w fun r w' => r = .returned (.bool (vOk a l bs i v)) ∧ Below w.heap.size w w' := by
  obtain ⟨fn, num, pl, env⟩ := v
  cases fn with
  | true => exact goodVal_fun ad c l a d p e x af av ab nf cf nv cv cb bs ga ca ra NR cr num pl env i w hCl hL hb hNR hl hv hi
  | false => exact goodVal_num ad c l a d p e x af av ab nf cf nv cv cb bs ga ca ra NR cr num pl env i w hCl hL hb hNR hl hv
end Go.Proofs.Ytdajalchdbgooaa.W
