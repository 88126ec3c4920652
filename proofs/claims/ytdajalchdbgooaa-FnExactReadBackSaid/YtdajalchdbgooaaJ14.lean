/-
  Some texts of this proof in one: GmB4, GmB, GmE.
-/
import Derived.Test.YtdajalchdbgooaaJ12
import Derived.Deep.RegionHeld3
import Derived.Deep.RegionLaw
import Derived.Deep.AppendLies
import Derived.Deep.CutRange
import Derived.Test.YtdajalchdbgooaaJ13
import Derived.Test.YtdajalchdbgooaaJ10
/-
  The contract of l6Part. Conditions: closed terms, good bindings. Written by wip/build/mk_gm.py.
-/
namespace Go.Proofs.Ytdajalchdbgooaa.W
open Go.ChangeShapes Go.WideShapes Go.ChangeAt Go.RowKit
set_option linter.unusedVariables false
set_option linter.unusedSimpArgs false

set_option maxRecDepth 20000 in
set_option maxHeartbeats 4000000 in
theorem l6Part_not (cb0 : Nat) (ad : Option Addr) (c : Nat) (l : List Cc) (a : F) (d : Bool) (p e x : Int) (sf sv : Value) (ab : Option Addr) (cb nv : Nat) (bs : List Bd) (pl env : Int) (w : World) (hCl : Cl l a) (hC : CD w cb0 (.slice ad l.length c) l.length a) (h : BdRow w ab bs) (hb : bsOk nv bs = true) (hl : bs.length ≤ 1048576) (h0 : 0 ≤ pl) (h1 : pl < (l.length : Int)) (h2 : -1 ≤ env ∧ env < (bs.length : Int)) (hN : ¬ (bw bs env).1 = tV (ndT a) pl.toNat) :
    Calls Try.prog 75 #[.pointer (some ⟨cb0, 0, none⟩), .agg #[.bool d, .int .i64 p, .int .i64 e, .int .i64 x, sf, sv, .slice ab bs.length cb], .int .i64 pl, .int .i64 env] w fun r w' => r = .returned (.bool false) ∧ Below w.heap.size w w' := by
  have HCd := hide hC
  have hll := hCl.le
  have HE := hide (fun (w' : World) => l6Env_any d p e x sf sv ab bs.length cb env w' hl)
  have hev : (decide (env = -1) || blw env bs.length) = true := by rw [Bool.or_eq_true, decide_eq_true_iff, blw_iff]; omega
  rw [hev] at HE
  have HBd := hide (fun (w' : World) (hb' : Below w.heap.size w w') => l6Bound_any d p e x sf sv ab cb nv bs env w' (h.below hb') hb h2 hl)
  obtain ⟨q, rfl⟩ := Int.eq_ofNat_of_zero_le h0
  have hql : q < l.length := by omega
  obtain ⟨TV, hTV⟩ : ∃ TV, TV = tV (ndT a) q := ⟨_, rfl⟩
  obtain ⟨NB, hNB⟩ : ∃ NB, NB = (bw bs env).1 := ⟨_, rfl⟩
  rw [Int.toNat_natCast, ← hNB, ← hTV] at hN
  rw [← hNB] at HBd
  have HTV := hide hTV
  clear h hb hC hCl hTV hNB hev h2
  go_enter Try.func75, Try.ntmps75
  go_upto_region 1 with fail
  have hB0 : Below w.heap.size w (w.alloc (.cells #[.bool d, .int .i64 p, .int .i64 e, .int .i64 x, sf, sv, .slice ab bs.length cb] 28)) := (Below.refl _ _).alloc (Nat.le_refl _) _
  have hX := Bx.new w #[.bool d, .int .i64 p, .int .i64 e, .int .i64 x, sf, sv, .slice ab bs.length cb] 28
  obtain ⟨w0, hw0⟩ : ∃ w0, w0 = w.alloc (.cells #[.bool d, .int .i64 p, .int .i64 e, .int .i64 x, sf, sv, .slice ab bs.length cb] 28) := ⟨_, rfl⟩
  obtain ⟨XB, hXB⟩ : ∃ XB, XB = w.heap.size := ⟨_, rfl⟩
  rw [← hw0] at hX hB0 ⊢
  rw [← hXB] at hX ⊢
  have xl : XB < w0.heap.size := hX.lt
  obtain ⟨kb, vb, hcx, -, hvl, hvv, -⟩ := HCd.out.ex
  have HCX := hide (hcx.below hB0 hcx.lt)
  have cl : cb0 < w0.heap.size := Nat.lt_of_lt_of_le hcx.lt hB0.size
  have hvc : w0.cell? ⟨vb, q, none⟩ = some (.int .i64 TV) := by rw [HTV.out]; exact (hB0.cell (p := ⟨vb, q, none⟩) hvl).trans (hvv q hql)
  have hvl0 : vb < w0.heap.size := Nat.lt_of_lt_of_le hvl hB0.size
  clear hcx hvv hvl
  have b0 : w0.cell? ⟨XB, 0, none⟩ = some (.bool d) := hX.c 0
  have b1 : w0.cell? ⟨XB, 1, none⟩ = some (.int .i64 p) := hX.c 1
  have b2 : w0.cell? ⟨XB, 2, none⟩ = some (.int .i64 e) := hX.c 2
  have b3 : w0.cell? ⟨XB, 3, none⟩ = some (.int .i64 x) := hX.c 3
  have b4 : w0.cell? ⟨XB, 4, none⟩ = some (sf) := hX.c 4
  have b5 : w0.cell? ⟨XB, 5, none⟩ = some (sv) := hX.c 5
  have b6 : w0.cell? ⟨XB, 6, none⟩ = some (.slice ab bs.length cb) := hX.c 6
  have b7 : w0.cell? ⟨cb0, 0, none⟩ = some (.slice ad l.length c) := HCX.out.c 0
  have b8 : w0.cell? ⟨cb0, 2, none⟩ = some (.slice (some ⟨vb, 0, none⟩) l.length l.length) := HCX.out.c 2
  have b9 : w0.cell? ⟨vb, q, none⟩ = some (.int .i64 TV) := hvc
  have HB0 : Hid (Below w.heap.size w w0.drew) := hide (belowDrew hB0)
  clear hX hw0 hXB
  go_region_held3 (fun w' => w'.cell? ⟨XB, 0, none⟩ = some (.bool d) ∧ w'.cell? ⟨XB, 1, none⟩ = some (.int .i64 p) ∧ w'.cell? ⟨XB, 2, none⟩ = some (.int .i64 e) ∧ w'.cell? ⟨XB, 3, none⟩ = some (.int .i64 x) ∧ w'.cell? ⟨XB, 4, none⟩ = some (sf) ∧ w'.cell? ⟨XB, 5, none⟩ = some (sv) ∧ w'.cell? ⟨XB, 6, none⟩ = some (.slice ab bs.length cb) ∧ w'.cell? ⟨cb0, 0, none⟩ = some (.slice ad l.length c) ∧ w'.cell? ⟨cb0, 2, none⟩ = some (.slice (some ⟨vb, 0, none⟩) l.length l.length) ∧ w'.cell? ⟨vb, q, none⟩ = some (.int .i64 TV)) (go_keep)
    (first | (go_at_call 111; (with_reducible refine Calls.mono (HE.out _) ?_); rintro r wa ⟨rfl, hba⟩; have HBa := hide hba; have hza : w0.heap.size ≤ wa.heap.size := hba.size; (have fa0 := (hba.cell (p := ⟨XB, 0, none⟩) (show XB < w0.heap.size by omega)).trans b0; have fa1 := (hba.cell (p := ⟨XB, 1, none⟩) (show XB < w0.heap.size by omega)).trans b1; have fa2 := (hba.cell (p := ⟨XB, 2, none⟩) (show XB < w0.heap.size by omega)).trans b2; have fa3 := (hba.cell (p := ⟨XB, 3, none⟩) (show XB < w0.heap.size by omega)).trans b3; have fa4 := (hba.cell (p := ⟨XB, 4, none⟩) (show XB < w0.heap.size by omega)).trans b4; have fa5 := (hba.cell (p := ⟨XB, 5, none⟩) (show XB < w0.heap.size by omega)).trans b5; have fa6 := (hba.cell (p := ⟨XB, 6, none⟩) (show XB < w0.heap.size by omega)).trans b6; have fa7 := (hba.cell (p := ⟨cb0, 0, none⟩) (show cb0 < w0.heap.size by omega)).trans b7; have fa8 := (hba.cell (p := ⟨cb0, 2, none⟩) (show cb0 < w0.heap.size by omega)).trans b8; have fa9 := (hba.cell (p := ⟨vb, q, none⟩) (show vb < w0.heap.size by omega)).trans b9); clear hba) | (go_at_call 112; (with_reducible refine Calls.mono (HBd.out _ (HB0.out.trans (HBa.out.mono HB0.out.size))) ?_); rintro r wb ⟨rfl, hbb⟩; have HBb := hide hbb; (have fb0 := (hbb.cell (p := ⟨XB, 0, none⟩) (show XB < wa.heap.size by omega)).trans fa0; have fb1 := (hbb.cell (p := ⟨XB, 1, none⟩) (show XB < wa.heap.size by omega)).trans fa1; have fb2 := (hbb.cell (p := ⟨XB, 2, none⟩) (show XB < wa.heap.size by omega)).trans fa2; have fb3 := (hbb.cell (p := ⟨XB, 3, none⟩) (show XB < wa.heap.size by omega)).trans fa3; have fb4 := (hbb.cell (p := ⟨XB, 4, none⟩) (show XB < wa.heap.size by omega)).trans fa4; have fb5 := (hbb.cell (p := ⟨XB, 5, none⟩) (show XB < wa.heap.size by omega)).trans fa5; have fb6 := (hbb.cell (p := ⟨XB, 6, none⟩) (show XB < wa.heap.size by omega)).trans fa6; have fb7 := (hbb.cell (p := ⟨cb0, 0, none⟩) (show cb0 < wa.heap.size by omega)).trans fa7; have fb8 := (hbb.cell (p := ⟨cb0, 2, none⟩) (show cb0 < wa.heap.size by omega)).trans fa8; have fb9 := (hbb.cell (p := ⟨vb, q, none⟩) (show vb < wa.heap.size by omega)).trans fa9); clear hbb))
  all_goals
    have hBB : Below w.heap.size w wb := (HB0.out.trans (HBa.out.mono HB0.out.size)).trans (HBb.out.mono (HB0.out.trans (HBa.out.mono HB0.out.size)).size)
    clear b0 b1 b2 b3 b4 b5 b6 b7 b8 b9
    go_wp2_with fail
    go_ret
    exact ⟨ret_bool (by simp [hN]), hBB⟩
end Go.Proofs.Ytdajalchdbgooaa.W

/-
  The contract of l6Part. Conditions: closed terms, good bindings. Written by wip/build/mk_gm.py.
-/
namespace Go.Proofs.Ytdajalchdbgooaa.W
open Go.ChangeShapes Go.WideShapes Go.ChangeAt Go.RowKit
set_option linter.unusedVariables false
set_option linter.unusedSimpArgs false

theorem l6Part_any (cb0 : Nat) (ad : Option Addr) (c : Nat) (l : List Cc) (a : F) (d : Bool) (p e x : Int) (sf sv : Value) (ab : Option Addr) (cb nv : Nat) (bs : List Bd) (pl env : Int) (w : World) (hCl : Cl l a) (hC : CD w cb0 (.slice ad l.length c) l.length a) (h : BdRow w ab bs) (hb : bsOk nv bs = true) (hl : bs.length ≤ 1048576) :
    Calls Try.prog 75 #[.pointer (some ⟨cb0, 0, none⟩), .agg #[.bool d, .int .i64 p, .int .i64 e, .int .i64 x, sf, sv, .slice ab bs.length cb], .int .i64 pl, .int .i64 env] w fun r w' => r = .returned (.bool (pOk a l.length bs pl env)) ∧ Below w.heap.size w w' := by
  by_cases h0 : 0 ≤ pl
  · by_cases h1 : pl < (l.length : Int)
    · by_cases h2 : -1 ≤ env ∧ env < (bs.length : Int)
      · by_cases hN : (bw bs env).1 = tV (ndT a) pl.toNat
        · rw [pOk_iff.2 ⟨⟨h0, h1⟩, h2, hN⟩]
          exact l6Part_ok cb0 ad c l a d p e x sf sv ab cb nv bs pl env w hCl hC h hb hl h0 h1 h2 hN
        · rw [show pOk a l.length bs pl env = false by rw [Bool.eq_false_iff]; intro hh; exact hN (pOk_iff.1 hh).2.2]
          exact l6Part_not cb0 ad c l a d p e x sf sv ab cb nv bs pl env w hCl hC h hb hl h0 h1 h2 hN
      · rw [show pOk a l.length bs pl env = false by rw [Bool.eq_false_iff]; intro hh; exact h2 (pOk_iff.1 hh).2.1]
        exact l6Part_env cb0 ad c l a d p e x sf sv ab cb nv bs pl env w hCl hC h hb hl h0 h1 h2
    · rw [show pOk a l.length bs pl env = false by rw [Bool.eq_false_iff]; intro hh; exact h1 (pOk_iff.1 hh).1.2]
      exact l6Part_far cb0 ad c l a d p e x sf sv ab cb nv bs pl env w hCl hC h hb hl h0 h1
  · rw [show pOk a l.length bs pl env = false by rw [Bool.eq_false_iff]; intro hh; exact h0 (pOk_iff.1 hh).1.1]
    exact l6Part_neg cb0 ad c l a d p e x sf sv ab cb nv bs pl env w hCl hC h hb hl h0
end Go.Proofs.Ytdajalchdbgooaa.W

/-
  Contracts of isBelow and canBeDone. Conditions: closed terms, good bindings. Written by wip/build/mk_look.py.
-/
namespace Go.Proofs.Ytdajalchdbgooaa.W
open Go.ChangeShapes Go.WideShapes Go.ChangeAt Go.RowKit
set_option linter.unusedVariables false
set_option linter.unusedSimpArgs false

theorem isBelow_any (n c : Int) (w : World) : Calls Try.prog 81 #[.int .i64 n, .int .i64 c] w fun r w' => r = .returned (.bool (blw n c)) ∧ w' = w := by
  by_cases h0 : 0 ≤ n
  · by_cases h1 : n < c
    · rw [blw_iff.2 ⟨h0, h1⟩]
      go_enter Try.func81, Try.ntmps81
      go_wp2_with fail
      go_ret
      exact ⟨rfl, rfl⟩
    · rw [blw_not.2 (.inr (Int.not_lt.1 h1))]
      go_enter Try.func81, Try.ntmps81
      go_wp2_with fail
      go_ret
      exact ⟨rfl, rfl⟩
  · rw [blw_not.2 (.inl (Int.not_le.1 h0))]
    go_enter Try.func81, Try.ntmps81
    go_wp2_with fail
    go_ret
    exact ⟨rfl, rfl⟩

/-- What a look reads: the term, what is bound around its places, the rows of bindings. -/
structure LkR (w : World) (ad : Option Addr) (l : List Cc) (a : F) (bs : List Bd) (ga ra : Nat) : Prop where
  t : CRow w ad l
  g : ∀ i, i < l.length → w.cell? ⟨ga, i, none⟩ = some (.int .i64 (tV (ndT a) i))
  gl : ga < w.heap.size
  r : ∀ i, i ≤ bs.length → w.cell? ⟨ra, i * 2, none⟩ = some (.int .i64 (bw bs ((i : Int) - 1)).1) ∧ w.cell? ⟨ra, i * 2 + 1, none⟩ = some (.int .i64 (bw bs ((i : Int) - 1)).2)
  rl : ra < w.heap.size
theorem LkR.below {w w' : World} {ad : Option Addr} {l : List Cc} {a : F} {bs : List Bd} {ga ra : Nat} (h : LkR w ad l a bs ga ra) (hb : Below w.heap.size w w') : LkR w' ad l a bs ga ra :=
  ⟨h.t.below hb, fun i hi => (hb.cell (p := ⟨ga, i, none⟩) h.gl).trans (h.g i hi), Nat.lt_of_lt_of_le h.gl hb.size,
    fun i hi => ⟨(hb.cell (p := ⟨ra, i * 2, none⟩) h.rl).trans (h.r i hi).1, (hb.cell (p := ⟨ra, i * 2 + 1, none⟩) h.rl).trans (h.r i hi).2⟩, Nat.lt_of_lt_of_le h.rl hb.size⟩

set_option maxRecDepth 20000 in
set_option maxHeartbeats 4000000 in
theorem canBeDone_any (ad : Option Addr) (c : Nat) (l : List Cc) (a : F) (d : Bool) (p e x : Int) (af av ab : Option Addr) (nf cf nv cv cb : Nat) (bs : List Bd) (ga ca ra NR cr : Nat) (pl env : Int) (w : World) (hCl : Cl l a) (hL : LkR w ad l a bs ga ra) (hb : bsOk nv bs = true) (hNR : NR = bs.length + 1) (hl : bs.length ≤ 1048576) (hv : nv ≤ 1048576) :
    Calls Try.prog 83 #[.agg #[.bool d, .int .i64 p, .int .i64 e, .int .i64 x, .slice af nf cf, .slice av nv cv, .slice ab bs.length cb, .slice ad l.length c, .slice (some ⟨ga, 0, none⟩) l.length ca, .slice (some ⟨ra, 0, none⟩) NR cr], .int .i64 pl, .int .i64 env] w fun r w' => r = .returned (.bool (pOk a l.length bs pl env)) ∧ Below w.heap.size w w' := by
  have hll := hCl.le
  have HA := hide (isBelow_any pl l.length)
  have HV := hide (isBelow_any env bs.length)
  have HL := hide hL
  by_cases h0 : 0 ≤ pl ∧ pl < (l.length : Int)
  · rw [blw_iff.2 h0] at HA
    by_cases h2 : -1 ≤ env ∧ env < (bs.length : Int)
    · obtain ⟨q, rfl⟩ := Int.eq_ofNat_of_zero_le h0.1
      obtain ⟨k, hk⟩ : ∃ k : Nat, env = (k : Int) - 1 := ⟨(env + 1).toNat, by omega⟩
      subst hk
      have hql : q < l.length := by omega
      have hkl : k ≤ bs.length := by omega
      have hq' : (q : Int) < (l.length : Int) := h0.2
      have hq0 : (0 : Int) ≤ (q : Int) := h0.1
      have hk' : (k : Int) < (NR : Int) := by omega
      have hk0 : (0 : Int) ≤ (k : Int) := by omega
      have hkw : IntKind.i64.wrap ((k : Int) - 1 + 1) = (k : Int) := by rw [show (k : Int) - 1 + 1 = (k : Int) by omega]; exact IntWalk.i64_in _ ⟨by omega, by omega⟩
      obtain ⟨TV, hTV⟩ : ∃ TV, TV = tV (ndT a) q := ⟨_, rfl⟩
      obtain ⟨NB, hNB⟩ : ∃ NB, NB = (bw bs ((k : Int) - 1)).1 := ⟨_, rfl⟩
      have hp : pOk a l.length bs (q : Int) ((k : Int) - 1) = decide (NB = TV) := by
        rw [hNB, hTV, Bool.eq_iff_iff, pOk_iff, decide_eq_true_iff]
        exact ⟨fun hh => hh.2.2, fun hh => ⟨h0, h2, hh⟩⟩
      rw [hp]
      have HTV := hide hTV
      have HNB := hide hNB
      clear hp hTV hNB h0 hNR
      by_cases h3 : (k : Int) - 1 = -1
      · clear HV h2
        obtain rfl : k = 0 := by omega
        have hz : (0 : Int) < (NR : Int) := by omega
        have hz1 : 1 ≤ NR := by omega
        rw [show ((0 : Nat) : Int) - 1 = -1 from rfl] at HNB ⊢
        clear hk' hk0 hkw h3
        go_enter Try.func83, Try.ntmps83
        go_upto_region 1 with fail
        have hB0 : Below w.heap.size w (w.alloc (.cells #[.bool d, .int .i64 p, .int .i64 e, .int .i64 x, .slice af nf cf, .slice av nv cv, .slice ab bs.length cb, .slice ad l.length c, .slice (some ⟨ga, 0, none⟩) l.length ca, .slice (some ⟨ra, 0, none⟩) NR cr] 93)) := (Below.refl _ _).alloc (Nat.le_refl _) _
        have hX := Bx.new w #[.bool d, .int .i64 p, .int .i64 e, .int .i64 x, .slice af nf cf, .slice av nv cv, .slice ab bs.length cb, .slice ad l.length c, .slice (some ⟨ga, 0, none⟩) l.length ca, .slice (some ⟨ra, 0, none⟩) NR cr] 93
        obtain ⟨w0, hw0⟩ : ∃ w0, w0 = (w.alloc (.cells #[.bool d, .int .i64 p, .int .i64 e, .int .i64 x, .slice af nf cf, .slice av nv cv, .slice ab bs.length cb, .slice ad l.length c, .slice (some ⟨ga, 0, none⟩) l.length ca, .slice (some ⟨ra, 0, none⟩) NR cr] 93)) := ⟨_, rfl⟩
        obtain ⟨XB, hXB⟩ : ∃ XB, XB = w.heap.size := ⟨_, rfl⟩
        rw [← hw0] at hX hB0 ⊢
        rw [← hXB] at hX ⊢
        have xl : XB < w0.heap.size := hX.lt
        have cx := hX.c
        have b0 : w0.cell? ⟨XB, 9, none⟩ = some (.slice (some ⟨ra, 0, none⟩) NR cr) := cx 9
        have b1 : w0.cell? ⟨XB, 8, none⟩ = some (.slice (some ⟨ga, 0, none⟩) l.length ca) := cx 8
        have b2 : w0.cell? ⟨ra, 0, none⟩ = some (.int .i64 NB) := by rw [HNB.out]; exact ((HL.out.below hB0).r 0 (Nat.zero_le _)).1
        have b3 : w0.cell? ⟨ga, q, none⟩ = some (.int .i64 TV) := by rw [HTV.out]; exact (HL.out.below hB0).g q hql
        clear hX hw0 hXB hL
        go_wp2_with fail
        refine (HA.out _).mono ?_
        rintro r w' ⟨rfl, hw'⟩
        subst hw'
        clear cx
        go_upto_region 3 with fail
        go_quiet (fail)
        go_wp2_with fail
        go_ret
        exact ⟨rfl, ⟨hB0.os, hB0.tape, hB0.output, hB0.size, hB0.block⟩⟩
      · have hev : blw ((k : Int) - 1) bs.length = true := blw_iff.2 ⟨by omega, h2.2⟩
        rw [hev] at HV
        clear hev h2
        go_enter Try.func83, Try.ntmps83
        go_upto_region 1 with fail
        have hB0 : Below w.heap.size w (w.alloc (.cells #[.bool d, .int .i64 p, .int .i64 e, .int .i64 x, .slice af nf cf, .slice av nv cv, .slice ab bs.length cb, .slice ad l.length c, .slice (some ⟨ga, 0, none⟩) l.length ca, .slice (some ⟨ra, 0, none⟩) NR cr] 93)) := (Below.refl _ _).alloc (Nat.le_refl _) _
        have hX := Bx.new w #[.bool d, .int .i64 p, .int .i64 e, .int .i64 x, .slice af nf cf, .slice av nv cv, .slice ab bs.length cb, .slice ad l.length c, .slice (some ⟨ga, 0, none⟩) l.length ca, .slice (some ⟨ra, 0, none⟩) NR cr] 93
        obtain ⟨w0, hw0⟩ : ∃ w0, w0 = (w.alloc (.cells #[.bool d, .int .i64 p, .int .i64 e, .int .i64 x, .slice af nf cf, .slice av nv cv, .slice ab bs.length cb, .slice ad l.length c, .slice (some ⟨ga, 0, none⟩) l.length ca, .slice (some ⟨ra, 0, none⟩) NR cr] 93)) := ⟨_, rfl⟩
        obtain ⟨XB, hXB⟩ : ∃ XB, XB = w.heap.size := ⟨_, rfl⟩
        rw [← hw0] at hX hB0 ⊢
        rw [← hXB] at hX ⊢
        have xl : XB < w0.heap.size := hX.lt
        have cx := hX.c
        have b0 : w0.cell? ⟨XB, 9, none⟩ = some (.slice (some ⟨ra, 0, none⟩) NR cr) := cx 9
        have b1 : w0.cell? ⟨XB, 8, none⟩ = some (.slice (some ⟨ga, 0, none⟩) l.length ca) := cx 8
        have b2 : w0.cell? ⟨ra, k * 2, none⟩ = some (.int .i64 NB) := by rw [HNB.out]; exact ((HL.out.below hB0).r k hkl).1
        have b3 : w0.cell? ⟨ga, q, none⟩ = some (.int .i64 TV) := by rw [HTV.out]; exact (HL.out.below hB0).g q hql
        clear hX hw0 hXB hL
        go_wp2_with fail
        refine (HA.out _).mono ?_
        rintro r w' ⟨rfl, hw'⟩
        subst hw'
        go_wp2_with fail
        refine (HV.out _).mono ?_
        rintro r w' ⟨rfl, hw'⟩
        subst hw'
        clear cx
        go_upto_region 3 with fail
        go_quiet (fail)
        go_wp2_with fail
        go_ret
        exact ⟨rfl, ⟨hB0.os, hB0.tape, hB0.output, hB0.size, hB0.block⟩⟩
    · have hp : pOk a l.length bs pl env = false := by
        rw [Bool.eq_false_iff]; intro hh; exact h2 (pOk_iff.1 hh).2.1
      have hev : blw env bs.length = false := by
        rw [Bool.eq_false_iff]; intro hh; rw [blw_iff] at hh; omega
      have hne : ¬ env = -1 := by omega
      rw [hp]
      rw [hev] at HV
      clear hp hev h2 hL HL h0 hNR
      go_enter Try.func83, Try.ntmps83
      go_upto_region 1 with fail
      have hB0 : Below w.heap.size w (w.alloc (.cells #[.bool d, .int .i64 p, .int .i64 e, .int .i64 x, .slice af nf cf, .slice av nv cv, .slice ab bs.length cb, .slice ad l.length c, .slice (some ⟨ga, 0, none⟩) l.length ca, .slice (some ⟨ra, 0, none⟩) NR cr] 93)) := (Below.refl _ _).alloc (Nat.le_refl _) _
      have hX := Bx.new w #[.bool d, .int .i64 p, .int .i64 e, .int .i64 x, .slice af nf cf, .slice av nv cv, .slice ab bs.length cb, .slice ad l.length c, .slice (some ⟨ga, 0, none⟩) l.length ca, .slice (some ⟨ra, 0, none⟩) NR cr] 93
      obtain ⟨w0, hw0⟩ : ∃ w0, w0 = (w.alloc (.cells #[.bool d, .int .i64 p, .int .i64 e, .int .i64 x, .slice af nf cf, .slice av nv cv, .slice ab bs.length cb, .slice ad l.length c, .slice (some ⟨ga, 0, none⟩) l.length ca, .slice (some ⟨ra, 0, none⟩) NR cr] 93)) := ⟨_, rfl⟩
      obtain ⟨XB, hXB⟩ : ∃ XB, XB = w.heap.size := ⟨_, rfl⟩
      rw [← hw0] at hX hB0 ⊢
      rw [← hXB] at hX ⊢
      have xl : XB < w0.heap.size := hX.lt
      have cx := hX.c
      clear hX hw0 hXB
      go_wp2_with fail
      refine (HA.out _).mono ?_
      rintro r w' ⟨rfl, hw'⟩
      subst hw'
      go_wp2_with fail
      refine (HV.out _).mono ?_
      rintro r w' ⟨rfl, hw'⟩
      subst hw'
      go_wp2_with fail
      go_ret
      exact ⟨rfl, hB0⟩
  · have hp : pOk a l.length bs pl env = false := by
      rw [Bool.eq_false_iff]; intro hh; exact h0 (pOk_iff.1 hh).1
    have hev : blw pl l.length = false := by
      rw [Bool.eq_false_iff]; intro hh; exact h0 (blw_iff.1 hh)
    rw [hp]
    rw [hev] at HA
    clear hp hev h0 hL HL HV hNR
    go_enter Try.func83, Try.ntmps83
    go_upto_region 1 with fail
    have hB0 : Below w.heap.size w (w.alloc (.cells #[.bool d, .int .i64 p, .int .i64 e, .int .i64 x, .slice af nf cf, .slice av nv cv, .slice ab bs.length cb, .slice ad l.length c, .slice (some ⟨ga, 0, none⟩) l.length ca, .slice (some ⟨ra, 0, none⟩) NR cr] 93)) := (Below.refl _ _).alloc (Nat.le_refl _) _
    have hX := Bx.new w #[.bool d, .int .i64 p, .int .i64 e, .int .i64 x, .slice af nf cf, .slice av nv cv, .slice ab bs.length cb, .slice ad l.length c, .slice (some ⟨ga, 0, none⟩) l.length ca, .slice (some ⟨ra, 0, none⟩) NR cr] 93
    obtain ⟨w0, hw0⟩ : ∃ w0, w0 = (w.alloc (.cells #[.bool d, .int .i64 p, .int .i64 e, .int .i64 x, .slice af nf cf, .slice av nv cv, .slice ab bs.length cb, .slice ad l.length c, .slice (some ⟨ga, 0, none⟩) l.length ca, .slice (some ⟨ra, 0, none⟩) NR cr] 93)) := ⟨_, rfl⟩
    obtain ⟨XB, hXB⟩ : ∃ XB, XB = w.heap.size := ⟨_, rfl⟩
    rw [← hw0] at hX hB0 ⊢
    rw [← hXB] at hX ⊢
    have xl : XB < w0.heap.size := hX.lt
    have cx := hX.c
    clear hX hw0 hXB
    go_wp2_with fail
    refine (HA.out _).mono ?_
    rintro r w' ⟨rfl, hw'⟩
    subst hw'
    go_wp2_with fail
    go_ret
    exact ⟨rfl, hB0⟩
end Go.Proofs.Ytdajalchdbgooaa.W
