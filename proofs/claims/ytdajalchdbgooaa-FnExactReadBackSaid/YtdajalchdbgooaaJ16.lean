/-
  Some texts of this proof in one: GmG, GmI.
-/
import Derived.Test.YtdajalchdbgooaaGmF
import Derived.Deep.RegionHeld3
import Derived.Deep.RegionLaw
import Derived.Deep.AppendLies
import Derived.Deep.CutRange
import Derived.Test.YtdajalchdbgooaaJ10
/-
  Contracts of goodFrame and goodNow. Conditions: closed terms, good bindings. Written by wip/build/mk_look.py.
-/
namespace Go.Proofs.Ytdajalchdbgooaa.W
open Go.ChangeShapes Go.WideShapes Go.ChangeAt Go.RowKit
set_option linter.unusedVariables false
set_option linter.unusedSimpArgs false

set_option maxRecDepth 20000 in
set_option maxHeartbeats 4000000 in
theorem goodFrame_not (ad : Option Addr) (c : Nat) (l : List Cc) (a : F) (d : Bool) (p e x : Int) (af av ab : Option Addr) (nf cf nv cv cb : Nat) (bs : List Bd) (ga ca ra NR cr : Nat) (fk pl env fv : Int) (w : World) (hCl : Cl l a) (hL : LkR w ad l a bs ga ra) (hb : bsOk nv bs = true) (hNR : NR = bs.length + 1) (hl : bs.length ≤ 1048576) (hv : nv ≤ 1048576) (hp : pOk a l.length bs pl env = false) :
    Calls Try.prog 57 #[.agg #[.bool d, .int .i64 p, .int .i64 e, .int .i64 x, .slice af nf cf, .slice av nv cv, .slice ab bs.length cb, .slice ad l.length c, .slice (some ⟨ga, 0, none⟩) l.length ca, .slice (some ⟨ra, 0, none⟩) NR cr], .agg #[.int .i64 fk, .int .i64 pl, .int .i64 env, .int .i64 fv]] w fun r w' => r = .returned (.bool false) ∧ Below w.heap.size w w' := by
  have HD := hide (fun (w' : World) (hb' : Below w.heap.size w w') => canBeDone_any ad c l a d p e x af av ab nf cf nv cv cb bs ga ca ra NR cr pl env w' hCl (hL.below hb') hb hNR hl hv)
  rw [hp] at HD
  clear hp hL hb hNR hCl
  go_enter Try.func57, Try.ntmps57
  go_upto_region 1 with fail
  have hB0 : Below w.heap.size w ((w.alloc (.cells #[.bool d, .int .i64 p, .int .i64 e, .int .i64 x, .slice af nf cf, .slice av nv cv, .slice ab bs.length cb, .slice ad l.length c, .slice (some ⟨ga, 0, none⟩) l.length ca, .slice (some ⟨ra, 0, none⟩) NR cr] 93)).alloc (.cells #[.int .i64 fk, .int .i64 pl, .int .i64 env, .int .i64 fv] 96)) := ((Below.refl _ _).alloc (Nat.le_refl _) _).alloc (by simp) _
  have hX := (Bx.new w #[.bool d, .int .i64 p, .int .i64 e, .int .i64 x, .slice af nf cf, .slice av nv cv, .slice ab bs.length cb, .slice ad l.length c, .slice (some ⟨ga, 0, none⟩) l.length ca, .slice (some ⟨ra, 0, none⟩) NR cr] 93).alloc (.cells #[.int .i64 fk, .int .i64 pl, .int .i64 env, .int .i64 fv] 96)
  have hY := Bx.new (w.alloc (.cells #[.bool d, .int .i64 p, .int .i64 e, .int .i64 x, .slice af nf cf, .slice av nv cv, .slice ab bs.length cb, .slice ad l.length c, .slice (some ⟨ga, 0, none⟩) l.length ca, .slice (some ⟨ra, 0, none⟩) NR cr] 93)) #[.int .i64 fk, .int .i64 pl, .int .i64 env, .int .i64 fv] 96
  simp only [World.size_alloc] at hY
  obtain ⟨w0, hw0⟩ : ∃ w0, w0 = ((w.alloc (.cells #[.bool d, .int .i64 p, .int .i64 e, .int .i64 x, .slice af nf cf, .slice av nv cv, .slice ab bs.length cb, .slice ad l.length c, .slice (some ⟨ga, 0, none⟩) l.length ca, .slice (some ⟨ra, 0, none⟩) NR cr] 93)).alloc (.cells #[.int .i64 fk, .int .i64 pl, .int .i64 env, .int .i64 fv] 96)) := ⟨_, rfl⟩
  obtain ⟨XB, hXB⟩ : ∃ XB, XB = w.heap.size := ⟨_, rfl⟩
  rw [← hw0] at hX hY hB0 ⊢
  rw [← hXB] at hX hY ⊢
  have xl : XB < w0.heap.size := hX.lt
  have yl : XB + 1 < w0.heap.size := hY.lt
  have HX := hide hX
  have HY := hide hY
  have cx := hX.c
  have cy := hY.c
  clear hX hY hw0 hXB
  have b0 : w0.cell? ⟨XB, 0, none⟩ = some (.bool d) := cx 0
  have b1 : w0.cell? ⟨XB, 1, none⟩ = some (.int .i64 p) := cx 1
  have b2 : w0.cell? ⟨XB, 2, none⟩ = some (.int .i64 e) := cx 2
  have b3 : w0.cell? ⟨XB, 3, none⟩ = some (.int .i64 x) := cx 3
  have b4 : w0.cell? ⟨XB, 4, none⟩ = some (.slice af nf cf) := cx 4
  have b5 : w0.cell? ⟨XB, 5, none⟩ = some (.slice av nv cv) := cx 5
  have b6 : w0.cell? ⟨XB, 6, none⟩ = some (.slice ab bs.length cb) := cx 6
  have b7 : w0.cell? ⟨XB, 7, none⟩ = some (.slice ad l.length c) := cx 7
  have b8 : w0.cell? ⟨XB, 8, none⟩ = some (.slice (some ⟨ga, 0, none⟩) l.length ca) := cx 8
  have b9 : w0.cell? ⟨XB, 9, none⟩ = some (.slice (some ⟨ra, 0, none⟩) NR cr) := cx 9
  have b10 : w0.cell? ⟨XB + 1, 0, none⟩ = some (.int .i64 fk) := cy 0
  have b11 : w0.cell? ⟨XB + 1, 1, none⟩ = some (.int .i64 pl) := cy 1
  have b12 : w0.cell? ⟨XB + 1, 2, none⟩ = some (.int .i64 env) := cy 2
  have HB0 : Hid (Below w.heap.size w w0.drew) := hide (belowDrew hB0)
  clear cx cy
  refine wp_region_noPanic ?_
  refine wp_region_held_drew (S := fun w' => w'.cell? ⟨XB, 0, none⟩ = some (.bool d) ∧ w'.cell? ⟨XB, 1, none⟩ = some (.int .i64 p) ∧ w'.cell? ⟨XB, 2, none⟩ = some (.int .i64 e) ∧ w'.cell? ⟨XB, 3, none⟩ = some (.int .i64 x) ∧ w'.cell? ⟨XB, 4, none⟩ = some (.slice af nf cf) ∧ w'.cell? ⟨XB, 5, none⟩ = some (.slice av nv cv) ∧ w'.cell? ⟨XB, 6, none⟩ = some (.slice ab bs.length cb) ∧ w'.cell? ⟨XB, 7, none⟩ = some (.slice ad l.length c) ∧ w'.cell? ⟨XB, 8, none⟩ = some (.slice (some ⟨ga, 0, none⟩) l.length ca) ∧ w'.cell? ⟨XB, 9, none⟩ = some (.slice (some ⟨ra, 0, none⟩) NR cr) ∧ w'.cell? ⟨XB + 1, 0, none⟩ = some (.int .i64 fk) ∧ w'.cell? ⟨XB + 1, 1, none⟩ = some (.int .i64 pl) ∧ w'.cell? ⟨XB + 1, 2, none⟩ = some (.int .i64 env)) (by kernel_rfl) ⟨b0, b1, b2, b3, b4, b5, b6, b7, b8, b9, b10, b11, b12⟩ (fun hHeld => ?_)
  refine wpAnyH_take (i := 0) (oi := _) (v := ?_) rfl (by kernel_rfl) (by kernel_rfl) (by kernel_rfl) (fun _ _ _ h => h) (Or.inl ⟨by rfl, ?_⟩) (by assumption) ?_
  rotate_left 1
  · (intro w hSw; (try dsimp only at hSw); (first | (go_simp; done) | (go_simp; with_reducible rfl)))
  try simp only [Act.put, List.getElem_toArray, List.getElem_cons_zero, List.getElem_cons_succ, List.setIfInBounds_toArray, List.set_cons_zero, List.set_cons_succ]
  refine wpAnyH_take (i := 1) (oi := _) (v := ?_) rfl (by kernel_rfl) (by kernel_rfl) (by kernel_rfl) (fun _ _ _ h => h) (Or.inl ⟨by rfl, ?_⟩) (by assumption) ?_
  rotate_left 1
  · (intro w hSw; (try dsimp only at hSw); (first | (go_simp; done) | (go_simp; with_reducible rfl)))
  try simp only [Act.put, List.getElem_toArray, List.getElem_cons_zero, List.getElem_cons_succ, List.setIfInBounds_toArray, List.set_cons_zero, List.set_cons_succ]
  refine wpAnyH_take (i := 2) (oi := _) (v := ?_) rfl (by kernel_rfl) (by kernel_rfl) (by kernel_rfl) (fun _ _ _ h => h) (Or.inl ⟨by rfl, ?_⟩) (by assumption) ?_
  rotate_left 1
  · (intro w hSw; (try dsimp only at hSw); (first | (go_simp; done) | (go_simp; with_reducible rfl)))
  try simp only [Act.put, List.getElem_toArray, List.getElem_cons_zero, List.getElem_cons_succ, List.setIfInBounds_toArray, List.set_cons_zero, List.set_cons_succ]
  refine wpAnyH_take (i := 3) (oi := _) (v := ?_) rfl (by kernel_rfl) (by kernel_rfl) (by kernel_rfl) (fun _ _ _ h => h) (Or.inl ⟨by rfl, ?_⟩) (by assumption) ?_
  rotate_left 1
  · (intro w hSw; (try dsimp only at hSw); (first | (go_simp; done) | (go_simp; with_reducible rfl)))
  try simp only [Act.put, List.getElem_toArray, List.getElem_cons_zero, List.getElem_cons_succ, List.setIfInBounds_toArray, List.set_cons_zero, List.set_cons_succ]
  refine wpAnyH_take (i := 4) (oi := _) (v := ?_) rfl (by kernel_rfl) (by kernel_rfl) (by kernel_rfl) (fun _ _ _ h => h) (Or.inl ⟨by rfl, ?_⟩) (by assumption) ?_
  rotate_left 1
  · (intro w hSw; (try dsimp only at hSw); (first | (go_simp; done) | (go_simp; with_reducible rfl)))
  try simp only [Act.put, List.getElem_toArray, List.getElem_cons_zero, List.getElem_cons_succ, List.setIfInBounds_toArray, List.set_cons_zero, List.set_cons_succ]
  refine wpAnyH_ready (rs := [5]) (by kernel_rfl) (by simp) ?_
  refine AllReadyH.cons (o := _) rfl (fun K hK => ?_) AllReadyH.nil
  go_simp
  (with_reducible refine Calls.mono (HD.out _ HB0.out) ?_)
  rintro r wa ⟨rfl, hba⟩
  have HBa := hide hba
  have fa0 := (hba.cell (p := ⟨XB, 0, none⟩) (show XB < w0.heap.size by omega)).trans b0
  have fa1 := (hba.cell (p := ⟨XB, 1, none⟩) (show XB < w0.heap.size by omega)).trans b1
  have fa2 := (hba.cell (p := ⟨XB, 2, none⟩) (show XB < w0.heap.size by omega)).trans b2
  have fa3 := (hba.cell (p := ⟨XB, 3, none⟩) (show XB < w0.heap.size by omega)).trans b3
  have fa4 := (hba.cell (p := ⟨XB, 4, none⟩) (show XB < w0.heap.size by omega)).trans b4
  have fa5 := (hba.cell (p := ⟨XB, 5, none⟩) (show XB < w0.heap.size by omega)).trans b5
  have fa6 := (hba.cell (p := ⟨XB, 6, none⟩) (show XB < w0.heap.size by omega)).trans b6
  have fa7 := (hba.cell (p := ⟨XB, 7, none⟩) (show XB < w0.heap.size by omega)).trans b7
  have fa8 := (hba.cell (p := ⟨XB, 8, none⟩) (show XB < w0.heap.size by omega)).trans b8
  have fa9 := (hba.cell (p := ⟨XB, 9, none⟩) (show XB < w0.heap.size by omega)).trans b9
  have fa10 := (hba.cell (p := ⟨XB + 1, 0, none⟩) (show XB + 1 < w0.heap.size by omega)).trans b10
  have fa11 := (hba.cell (p := ⟨XB + 1, 1, none⟩) (show XB + 1 < w0.heap.size by omega)).trans b11
  have fa12 := (hba.cell (p := ⟨XB + 1, 2, none⟩) (show XB + 1 < w0.heap.size by omega)).trans b12
  clear hba
  (try go_wp2_with fail)
  refine hK.out _ _ ⟨fa0, fa1, fa2, fa3, fa4, fa5, fa6, fa7, fa8, fa9, fa10, fa11, fa12⟩ (fun hHeld => ?_)
  clear hK K
  try simp only [Act.put, List.getElem_toArray, List.getElem_cons_zero, List.getElem_cons_succ, List.setIfInBounds_toArray, List.set_cons_zero, List.set_cons_succ]
  refine wpAnyH_take (i := 6) (oi := _) (v := ?_) rfl (by kernel_rfl) (by kernel_rfl) (by kernel_rfl) (fun _ _ _ h => h) (Or.inl ⟨by rfl, ?_⟩) (by assumption) ?_
  rotate_left 1
  · (intro w hSw; (try dsimp only at hSw); (first | (go_simp; done) | (go_simp; with_reducible rfl)))
  try simp only [Act.put, List.getElem_toArray, List.getElem_cons_zero, List.getElem_cons_succ, List.setIfInBounds_toArray, List.set_cons_zero, List.set_cons_succ]
  refine wpAnyH_take (i := 7) (oi := _) (v := ?_) rfl (by kernel_rfl) (by kernel_rfl) (by kernel_rfl) (fun _ _ _ h => h) (Or.inl ⟨by rfl, ?_⟩) (by assumption) ?_
  rotate_left 1
  · (intro w hSw; (try dsimp only at hSw); (first | (go_simp; done) | (go_simp; with_reducible rfl)))
  try simp only [Act.put, List.getElem_toArray, List.getElem_cons_zero, List.getElem_cons_succ, List.setIfInBounds_toArray, List.set_cons_zero, List.set_cons_succ]
  refine wpAnyH_take (i := 8) (oi := _) (v := undef) rfl (by kernel_rfl) (by kernel_rfl) (by kernel_rfl) (fun _ _ _ h => h) (Or.inr ⟨by rfl, rfl⟩) (by assumption) ?_
  try simp only [Act.put, List.getElem_toArray, List.getElem_cons_zero, List.getElem_cons_succ, List.setIfInBounds_toArray, List.set_cons_zero, List.set_cons_succ]
  refine wpAnyH_take (i := 9) (oi := _) (v := undef) rfl (by kernel_rfl) (by kernel_rfl) (by kernel_rfl) (fun _ _ _ h => h) (Or.inr ⟨by rfl, rfl⟩) (by assumption) ?_
  try simp only [Act.put, List.getElem_toArray, List.getElem_cons_zero, List.getElem_cons_succ, List.setIfInBounds_toArray, List.set_cons_zero, List.set_cons_succ]
  refine wpAnyH_take (i := 10) (oi := _) (v := undef) rfl (by kernel_rfl) (by kernel_rfl) (by kernel_rfl) (fun _ _ _ h => h) (Or.inr ⟨by rfl, rfl⟩) (by assumption) ?_
  try simp only [Act.put, List.getElem_toArray, List.getElem_cons_zero, List.getElem_cons_succ, List.setIfInBounds_toArray, List.set_cons_zero, List.set_cons_succ]
  refine wpAnyH_take (i := 11) (oi := _) (v := undef) rfl (by kernel_rfl) (by kernel_rfl) (by kernel_rfl) (fun _ _ _ h => h) (Or.inr ⟨by rfl, rfl⟩) (by assumption) ?_
  try simp only [Act.put, List.getElem_toArray, List.getElem_cons_zero, List.getElem_cons_succ, List.setIfInBounds_toArray, List.set_cons_zero, List.set_cons_succ]
  refine wpAnyH_take (i := 12) (oi := _) (v := undef) rfl (by kernel_rfl) (by kernel_rfl) (by kernel_rfl) (fun _ _ _ h => h) (Or.inr ⟨by rfl, rfl⟩) (by assumption) ?_
  try simp only [Act.put, List.getElem_toArray, List.getElem_cons_zero, List.getElem_cons_succ, List.setIfInBounds_toArray, List.set_cons_zero, List.set_cons_succ]
  refine wpAnyH_take (i := 13) (oi := _) (v := undef) rfl (by kernel_rfl) (by kernel_rfl) (by kernel_rfl) (fun _ _ _ h => h) (Or.inr ⟨by rfl, rfl⟩) (by assumption) ?_
  try simp only [Act.put, List.getElem_toArray, List.getElem_cons_zero, List.getElem_cons_succ, List.setIfInBounds_toArray, List.set_cons_zero, List.set_cons_succ]
  refine wpAnyH_take (i := 14) (oi := _) (v := undef) rfl (by kernel_rfl) (by kernel_rfl) (by kernel_rfl) (fun _ _ _ h => h) (Or.inr ⟨by rfl, rfl⟩) (by assumption) ?_
  try simp only [Act.put, List.getElem_toArray, List.getElem_cons_zero, List.getElem_cons_succ, List.setIfInBounds_toArray, List.set_cons_zero, List.set_cons_succ]
  refine wpAnyH_take (i := 15) (oi := _) (v := undef) rfl (by kernel_rfl) (by kernel_rfl) (by kernel_rfl) (fun _ _ _ h => h) (Or.inr ⟨by rfl, rfl⟩) (by assumption) ?_
  try simp only [Act.put, List.getElem_toArray, List.getElem_cons_zero, List.getElem_cons_succ, List.setIfInBounds_toArray, List.set_cons_zero, List.set_cons_succ]
  refine wpAnyH_take (i := 16) (oi := _) (v := undef) rfl (by kernel_rfl) (by kernel_rfl) (by kernel_rfl) (fun _ _ _ h => h) (Or.inr ⟨by rfl, rfl⟩) (by assumption) ?_
  try simp only [Act.put, List.getElem_toArray, List.getElem_cons_zero, List.getElem_cons_succ, List.setIfInBounds_toArray, List.set_cons_zero, List.set_cons_succ]
  refine wpAnyH_take (i := 17) (oi := _) (v := undef) rfl (by kernel_rfl) (by kernel_rfl) (by kernel_rfl) (fun _ _ _ h => h) (Or.inr ⟨by rfl, rfl⟩) (by assumption) ?_
  try simp only [Act.put, List.getElem_toArray, List.getElem_cons_zero, List.getElem_cons_succ, List.setIfInBounds_toArray, List.set_cons_zero, List.set_cons_succ]
  refine wpAnyH_take (i := 18) (oi := _) (v := ?_) rfl (by kernel_rfl) (by kernel_rfl) (by kernel_rfl) (fun _ _ _ h => h) (Or.inl ⟨by rfl, ?_⟩) (by assumption) ?_
  rotate_left 1
  · (intro w hSw; (try dsimp only at hSw); (first | (go_simp; done) | (go_simp; with_reducible rfl)))
  try simp only [Act.put, List.getElem_toArray, List.getElem_cons_zero, List.getElem_cons_succ, List.setIfInBounds_toArray, List.set_cons_zero, List.set_cons_succ]
  refine wpAnyH_done (by kernel_rfl) ?_ _
  refine NoPanic.normal ?_
  go_wp2_with fail
  go_ret
  exact ⟨rfl, HB0.out.trans (HBa.out.mono HB0.out.size)⟩

set_option maxRecDepth 20000 in
set_option maxHeartbeats 4000000 in
theorem goodFrame_is (ad : Option Addr) (c : Nat) (l : List Cc) (a : F) (d : Bool) (p e x : Int) (af av ab : Option Addr) (nf cf nv cv cb : Nat) (bs : List Bd) (ga ca ra NR cr : Nat) (fk pl env fv : Int) (w : World) (hCl : Cl l a) (hL : LkR w ad l a bs ga ra) (hb : bsOk nv bs = true) (hNR : NR = bs.length + 1) (hl : bs.length ≤ 1048576) (hv : nv ≤ 1048576) (hp : pOk a l.length bs pl env = true) :
    Calls Try.prog 57 #[.agg #[.bool d, .int .i64 p, .int .i64 e, .int .i64 x, .slice af nf cf, .slice av nv cv, .slice ab bs.length cb, .slice ad l.length c, .slice (some ⟨ga, 0, none⟩) l.length ca, .slice (some ⟨ra, 0, none⟩) NR cr], .agg #[.int .i64 fk, .int .i64 pl, .int .i64 env, .int .i64 fv]] w fun r w' => r = .returned (.bool (fOk a l bs nv ⟨fk, pl, env, fv⟩)) ∧ Below w.heap.size w w' := by
  have hll := hCl.le
  have HD := hide (fun (w' : World) (hb' : Below w.heap.size w w') => canBeDone_any ad c l a d p e x af av ab nf cf nv cv cb bs ga ca ra NR cr pl env w' hCl (hL.below hb') hb hNR hl hv)
  rw [hp] at HD
  obtain ⟨p1, p2, p3⟩ := pOk_iff.1 hp
  obtain ⟨q, rfl⟩ := Int.eq_ofNat_of_zero_le p1.1
  obtain ⟨k, hk⟩ : ∃ k : Nat, env = (k : Int) - 1 := ⟨(env + 1).toNat, by omega⟩
  subst hk
  have hql : q < l.length := by omega
  have hq' : (q : Int) < (l.length : Int) := p1.2
  have hq0 : (0 : Int) ≤ (q : Int) := p1.1
  obtain ⟨KD, hKD⟩ : ∃ KD, KD = l[q].k := ⟨_, rfl⟩
  have hfo : fOk a l bs nv ⟨fk, (q : Int), (k : Int) - 1, fv⟩ = (decide (KD = fk) && (if fk = 4 ∨ fk = 5 then decide (fv = -1) || blw fv nv else decide (fk = 6 ∨ fk = 7) && decide (fv = -1))) := by
    unfold fOk; simp only [hp, kAt_nat l q hql, Bool.true_and, hKD]
  rw [hfo]
  have HL := hide hL
  have HKD := hide hKD
  have HI := hide (isBelow_any fv nv)
  obtain ⟨BV, hBV⟩ : ∃ BV, BV = blw fv nv := ⟨_, rfl⟩
  rw [← hBV] at HI ⊢
  obtain ⟨RES, hRES⟩ : ∃ RES, RES = (decide (KD = fk) && (if fk = 4 ∨ fk = 5 then decide (fv = -1) || BV else decide (fk = 6 ∨ fk = 7) && decide (fv = -1))) := ⟨_, rfl⟩
  rw [← hRES]
  have HRES := hide hRES
  clear hRES hfo hp hL hb hNR hCl hKD p1 p2 p3 hBV
  go_enter Try.func57, Try.ntmps57
  go_upto_region 1 with fail
  have hB0 : Below w.heap.size w ((w.alloc (.cells #[.bool d, .int .i64 p, .int .i64 e, .int .i64 x, .slice af nf cf, .slice av nv cv, .slice ab bs.length cb, .slice ad l.length c, .slice (some ⟨ga, 0, none⟩) l.length ca, .slice (some ⟨ra, 0, none⟩) NR cr] 93)).alloc (.cells #[.int .i64 fk, .int .i64 (q : Int), .int .i64 ((k : Int) - 1), .int .i64 fv] 96)) := ((Below.refl _ _).alloc (Nat.le_refl _) _).alloc (by simp) _
  have hX := (Bx.new w #[.bool d, .int .i64 p, .int .i64 e, .int .i64 x, .slice af nf cf, .slice av nv cv, .slice ab bs.length cb, .slice ad l.length c, .slice (some ⟨ga, 0, none⟩) l.length ca, .slice (some ⟨ra, 0, none⟩) NR cr] 93).alloc (.cells #[.int .i64 fk, .int .i64 (q : Int), .int .i64 ((k : Int) - 1), .int .i64 fv] 96)
  have hY := Bx.new (w.alloc (.cells #[.bool d, .int .i64 p, .int .i64 e, .int .i64 x, .slice af nf cf, .slice av nv cv, .slice ab bs.length cb, .slice ad l.length c, .slice (some ⟨ga, 0, none⟩) l.length ca, .slice (some ⟨ra, 0, none⟩) NR cr] 93)) #[.int .i64 fk, .int .i64 (q : Int), .int .i64 ((k : Int) - 1), .int .i64 fv] 96
  simp only [World.size_alloc] at hY
  obtain ⟨w0, hw0⟩ : ∃ w0, w0 = ((w.alloc (.cells #[.bool d, .int .i64 p, .int .i64 e, .int .i64 x, .slice af nf cf, .slice av nv cv, .slice ab bs.length cb, .slice ad l.length c, .slice (some ⟨ga, 0, none⟩) l.length ca, .slice (some ⟨ra, 0, none⟩) NR cr] 93)).alloc (.cells #[.int .i64 fk, .int .i64 (q : Int), .int .i64 ((k : Int) - 1), .int .i64 fv] 96)) := ⟨_, rfl⟩
  obtain ⟨XB, hXB⟩ : ∃ XB, XB = w.heap.size := ⟨_, rfl⟩
  rw [← hw0] at hX hY hB0 ⊢
  rw [← hXB] at hX hY ⊢
  have xl : XB < w0.heap.size := hX.lt
  have yl : XB + 1 < w0.heap.size := hY.lt
  have HX := hide hX
  have HY := hide hY
  have cx := hX.c
  have cy := hY.c
  clear hX hY hw0 hXB
  obtain ⟨b, o, rfl, hbl, q0, -⟩ := CRow.tok HL.out.t hB0 hql
  rw [← HKD.out] at q0
  have hbl0 : b < w0.heap.size := Nat.lt_of_lt_of_le hbl hB0.size
  by_cases hk1 : KD = fk
  · subst hk1
    have b0 : w0.cell? ⟨XB, 0, none⟩ = some (.bool d) := cx 0
    have b1 : w0.cell? ⟨XB, 1, none⟩ = some (.int .i64 p) := cx 1
    have b2 : w0.cell? ⟨XB, 2, none⟩ = some (.int .i64 e) := cx 2
    have b3 : w0.cell? ⟨XB, 3, none⟩ = some (.int .i64 x) := cx 3
    have b4 : w0.cell? ⟨XB, 4, none⟩ = some (.slice af nf cf) := cx 4
    have b5 : w0.cell? ⟨XB, 5, none⟩ = some (.slice av nv cv) := cx 5
    have b6 : w0.cell? ⟨XB, 6, none⟩ = some (.slice ab bs.length cb) := cx 6
    have b7 : w0.cell? ⟨XB, 7, none⟩ = some (.slice (some ⟨b, o, none⟩) l.length c) := cx 7
    have b8 : w0.cell? ⟨XB, 8, none⟩ = some (.slice (some ⟨ga, 0, none⟩) l.length ca) := cx 8
    have b9 : w0.cell? ⟨XB, 9, none⟩ = some (.slice (some ⟨ra, 0, none⟩) NR cr) := cx 9
    have b10 : w0.cell? ⟨XB + 1, 0, none⟩ = some (.int .i64 KD) := cy 0
    have b11 : w0.cell? ⟨XB + 1, 1, none⟩ = some (.int .i64 (q : Int)) := cy 1
    have b12 : w0.cell? ⟨XB + 1, 2, none⟩ = some (.int .i64 ((k : Int) - 1)) := cy 2
    have b13 : w0.cell? ⟨b, o + q * 2, none⟩ = some (.int .i64 KD) := q0
    have HB0 : Hid (Below w.heap.size w w0.drew) := hide (belowDrew hB0)
    clear cx cy
    refine wp_region_noPanic ?_
    refine wp_region_held_drew (S := fun w' => w'.cell? ⟨XB, 0, none⟩ = some (.bool d) ∧ w'.cell? ⟨XB, 1, none⟩ = some (.int .i64 p) ∧ w'.cell? ⟨XB, 2, none⟩ = some (.int .i64 e) ∧ w'.cell? ⟨XB, 3, none⟩ = some (.int .i64 x) ∧ w'.cell? ⟨XB, 4, none⟩ = some (.slice af nf cf) ∧ w'.cell? ⟨XB, 5, none⟩ = some (.slice av nv cv) ∧ w'.cell? ⟨XB, 6, none⟩ = some (.slice ab bs.length cb) ∧ w'.cell? ⟨XB, 7, none⟩ = some (.slice (some ⟨b, o, none⟩) l.length c) ∧ w'.cell? ⟨XB, 8, none⟩ = some (.slice (some ⟨ga, 0, none⟩) l.length ca) ∧ w'.cell? ⟨XB, 9, none⟩ = some (.slice (some ⟨ra, 0, none⟩) NR cr) ∧ w'.cell? ⟨XB + 1, 0, none⟩ = some (.int .i64 KD) ∧ w'.cell? ⟨XB + 1, 1, none⟩ = some (.int .i64 (q : Int)) ∧ w'.cell? ⟨XB + 1, 2, none⟩ = some (.int .i64 ((k : Int) - 1)) ∧ w'.cell? ⟨b, o + q * 2, none⟩ = some (.int .i64 KD)) (by kernel_rfl) ⟨b0, b1, b2, b3, b4, b5, b6, b7, b8, b9, b10, b11, b12, b13⟩ (fun hHeld => ?_)
    refine wpAnyH_take (i := 0) (oi := _) (v := ?_) rfl (by kernel_rfl) (by kernel_rfl) (by kernel_rfl) (fun _ _ _ h => h) (Or.inl ⟨by rfl, ?_⟩) (by assumption) ?_
    rotate_left 1
    · (intro w hSw; (try dsimp only at hSw); (first | (go_simp; done) | (go_simp; with_reducible rfl)))
    try simp only [Act.put, List.getElem_toArray, List.getElem_cons_zero, List.getElem_cons_succ, List.setIfInBounds_toArray, List.set_cons_zero, List.set_cons_succ]
    refine wpAnyH_take (i := 1) (oi := _) (v := ?_) rfl (by kernel_rfl) (by kernel_rfl) (by kernel_rfl) (fun _ _ _ h => h) (Or.inl ⟨by rfl, ?_⟩) (by assumption) ?_
    rotate_left 1
    · (intro w hSw; (try dsimp only at hSw); (first | (go_simp; done) | (go_simp; with_reducible rfl)))
    try simp only [Act.put, List.getElem_toArray, List.getElem_cons_zero, List.getElem_cons_succ, List.setIfInBounds_toArray, List.set_cons_zero, List.set_cons_succ]
    refine wpAnyH_take (i := 2) (oi := _) (v := ?_) rfl (by kernel_rfl) (by kernel_rfl) (by kernel_rfl) (fun _ _ _ h => h) (Or.inl ⟨by rfl, ?_⟩) (by assumption) ?_
    rotate_left 1
    · (intro w hSw; (try dsimp only at hSw); (first | (go_simp; done) | (go_simp; with_reducible rfl)))
    try simp only [Act.put, List.getElem_toArray, List.getElem_cons_zero, List.getElem_cons_succ, List.setIfInBounds_toArray, List.set_cons_zero, List.set_cons_succ]
    refine wpAnyH_take (i := 3) (oi := _) (v := ?_) rfl (by kernel_rfl) (by kernel_rfl) (by kernel_rfl) (fun _ _ _ h => h) (Or.inl ⟨by rfl, ?_⟩) (by assumption) ?_
    rotate_left 1
    · (intro w hSw; (try dsimp only at hSw); (first | (go_simp; done) | (go_simp; with_reducible rfl)))
    try simp only [Act.put, List.getElem_toArray, List.getElem_cons_zero, List.getElem_cons_succ, List.setIfInBounds_toArray, List.set_cons_zero, List.set_cons_succ]
    refine wpAnyH_take (i := 4) (oi := _) (v := ?_) rfl (by kernel_rfl) (by kernel_rfl) (by kernel_rfl) (fun _ _ _ h => h) (Or.inl ⟨by rfl, ?_⟩) (by assumption) ?_
    rotate_left 1
    · (intro w hSw; (try dsimp only at hSw); (first | (go_simp; done) | (go_simp; with_reducible rfl)))
    try simp only [Act.put, List.getElem_toArray, List.getElem_cons_zero, List.getElem_cons_succ, List.setIfInBounds_toArray, List.set_cons_zero, List.set_cons_succ]
    refine wpAnyH_ready (rs := [5]) (by kernel_rfl) (by simp) ?_
    refine AllReadyH.cons (o := _) rfl (fun K hK => ?_) AllReadyH.nil
    go_simp
    (with_reducible refine Calls.mono (HD.out _ HB0.out) ?_)
    rintro r wa ⟨rfl, hba⟩
    have HBa := hide hba
    have fa0 := (hba.cell (p := ⟨XB, 0, none⟩) (show XB < w0.heap.size by omega)).trans b0
    have fa1 := (hba.cell (p := ⟨XB, 1, none⟩) (show XB < w0.heap.size by omega)).trans b1
    have fa2 := (hba.cell (p := ⟨XB, 2, none⟩) (show XB < w0.heap.size by omega)).trans b2
    have fa3 := (hba.cell (p := ⟨XB, 3, none⟩) (show XB < w0.heap.size by omega)).trans b3
    have fa4 := (hba.cell (p := ⟨XB, 4, none⟩) (show XB < w0.heap.size by omega)).trans b4
    have fa5 := (hba.cell (p := ⟨XB, 5, none⟩) (show XB < w0.heap.size by omega)).trans b5
    have fa6 := (hba.cell (p := ⟨XB, 6, none⟩) (show XB < w0.heap.size by omega)).trans b6
    have fa7 := (hba.cell (p := ⟨XB, 7, none⟩) (show XB < w0.heap.size by omega)).trans b7
    have fa8 := (hba.cell (p := ⟨XB, 8, none⟩) (show XB < w0.heap.size by omega)).trans b8
    have fa9 := (hba.cell (p := ⟨XB, 9, none⟩) (show XB < w0.heap.size by omega)).trans b9
    have fa10 := (hba.cell (p := ⟨XB + 1, 0, none⟩) (show XB + 1 < w0.heap.size by omega)).trans b10
    have fa11 := (hba.cell (p := ⟨XB + 1, 1, none⟩) (show XB + 1 < w0.heap.size by omega)).trans b11
    have fa12 := (hba.cell (p := ⟨XB + 1, 2, none⟩) (show XB + 1 < w0.heap.size by omega)).trans b12
    have fa13 := (hba.cell (p := ⟨b, o + q * 2, none⟩) (show b < w0.heap.size by omega)).trans b13
    clear hba
    (try go_wp2_with fail)
    refine hK.out _ _ ⟨fa0, fa1, fa2, fa3, fa4, fa5, fa6, fa7, fa8, fa9, fa10, fa11, fa12, fa13⟩ (fun hHeld => ?_)
    clear hK K
    try simp only [Act.put, List.getElem_toArray, List.getElem_cons_zero, List.getElem_cons_succ, List.setIfInBounds_toArray, List.set_cons_zero, List.set_cons_succ]
    refine wpAnyH_take (i := 6) (oi := _) (v := ?_) rfl (by kernel_rfl) (by kernel_rfl) (by kernel_rfl) (fun _ _ _ h => h) (Or.inl ⟨by rfl, ?_⟩) (by assumption) ?_
    rotate_left 1
    · (intro w hSw; (try dsimp only at hSw); (first | (go_simp; done) | (go_simp; with_reducible rfl)))
    try simp only [Act.put, List.getElem_toArray, List.getElem_cons_zero, List.getElem_cons_succ, List.setIfInBounds_toArray, List.set_cons_zero, List.set_cons_succ]
    refine wpAnyH_take (i := 7) (oi := _) (v := ?_) rfl (by kernel_rfl) (by kernel_rfl) (by kernel_rfl) (fun _ _ _ h => h) (Or.inl ⟨by rfl, ?_⟩) (by assumption) ?_
    rotate_left 1
    · (intro w hSw; (try dsimp only at hSw); (first | (go_simp; done) | (go_simp; with_reducible rfl)))
    try simp only [Act.put, List.getElem_toArray, List.getElem_cons_zero, List.getElem_cons_succ, List.setIfInBounds_toArray, List.set_cons_zero, List.set_cons_succ]
    refine wpAnyH_take (i := 8) (oi := _) (v := ?_) rfl (by kernel_rfl) (by kernel_rfl) (by kernel_rfl) (fun _ _ _ h => h) (Or.inl ⟨by rfl, ?_⟩) (by assumption) ?_
    rotate_left 1
    · (intro w hSw; (try dsimp only at hSw); (first | (go_simp; done) | (go_simp; with_reducible rfl)))
    try simp only [Act.put, List.getElem_toArray, List.getElem_cons_zero, List.getElem_cons_succ, List.setIfInBounds_toArray, List.set_cons_zero, List.set_cons_succ]
    refine wpAnyH_take (i := 9) (oi := _) (v := ?_) rfl (by kernel_rfl) (by kernel_rfl) (by kernel_rfl) (fun _ _ _ h => h) (Or.inl ⟨by rfl, ?_⟩) (by assumption) ?_
    rotate_left 1
    · (intro w hSw; (try dsimp only at hSw); (first | (go_simp; done) | (go_simp; with_reducible rfl)))
    try simp only [Act.put, List.getElem_toArray, List.getElem_cons_zero, List.getElem_cons_succ, List.setIfInBounds_toArray, List.set_cons_zero, List.set_cons_succ]
    refine wpAnyH_take (i := 10) (oi := _) (v := ?_) rfl (by kernel_rfl) (by kernel_rfl) (by kernel_rfl) (fun _ _ _ h => h) (Or.inl ⟨by rfl, ?_⟩) (by assumption) ?_
    rotate_left 1
    · (intro w hSw; (try dsimp only at hSw); (first | (go_simp; done) | (go_simp; with_reducible rfl)))
    try simp only [Act.put, List.getElem_toArray, List.getElem_cons_zero, List.getElem_cons_succ, List.setIfInBounds_toArray, List.set_cons_zero, List.set_cons_succ]
    refine wpAnyH_take (i := 11) (oi := _) (v := ?_) rfl (by kernel_rfl) (by kernel_rfl) (by kernel_rfl) (fun _ _ _ h => h) (Or.inl ⟨by rfl, ?_⟩) (by assumption) ?_
    rotate_left 1
    · (intro w hSw; (try dsimp only at hSw); (first | (go_simp; done) | (go_simp; with_reducible rfl)))
    try simp only [Act.put, List.getElem_toArray, List.getElem_cons_zero, List.getElem_cons_succ, List.setIfInBounds_toArray, List.set_cons_zero, List.set_cons_succ]
    refine wpAnyH_take (i := 12) (oi := _) (v := ?_) rfl (by kernel_rfl) (by kernel_rfl) (by kernel_rfl) (fun _ _ _ h => h) (Or.inl ⟨by rfl, ?_⟩) (by assumption) ?_
    rotate_left 1
    · (intro w hSw; (try dsimp only at hSw); (first | (go_simp; done) | (go_simp; with_reducible rfl)))
    try simp only [Act.put, List.getElem_toArray, List.getElem_cons_zero, List.getElem_cons_succ, List.setIfInBounds_toArray, List.set_cons_zero, List.set_cons_succ]
    refine wpAnyH_take (i := 13) (oi := _) (v := ?_) rfl (by kernel_rfl) (by kernel_rfl) (by kernel_rfl) (fun _ _ _ h => h) (Or.inl ⟨by rfl, ?_⟩) (by assumption) ?_
    rotate_left 1
    · (intro w hSw; (try dsimp only at hSw); (first | (go_simp; done) | (go_simp; with_reducible rfl)))
    try simp only [Act.put, List.getElem_toArray, List.getElem_cons_zero, List.getElem_cons_succ, List.setIfInBounds_toArray, List.set_cons_zero, List.set_cons_succ]
    refine wpAnyH_take (i := 14) (oi := _) (v := ?_) rfl (by kernel_rfl) (by kernel_rfl) (by kernel_rfl) (fun _ _ _ h => h) (Or.inl ⟨by rfl, ?_⟩) (by assumption) ?_
    rotate_left 1
    · (intro w hSw; (try dsimp only at hSw); (first | (go_simp; done) | (go_simp; with_reducible rfl)))
    try simp only [Act.put, List.getElem_toArray, List.getElem_cons_zero, List.getElem_cons_succ, List.setIfInBounds_toArray, List.set_cons_zero, List.set_cons_succ]
    refine wpAnyH_take (i := 15) (oi := _) (v := ?_) rfl (by kernel_rfl) (by kernel_rfl) (by kernel_rfl) (fun _ _ _ h => h) (Or.inl ⟨by rfl, ?_⟩) (by assumption) ?_
    rotate_left 1
    · (intro w hSw; (try dsimp only at hSw); (first | (go_simp; done) | (go_simp; with_reducible rfl)))
    try simp only [Act.put, List.getElem_toArray, List.getElem_cons_zero, List.getElem_cons_succ, List.setIfInBounds_toArray, List.set_cons_zero, List.set_cons_succ]
    refine wpAnyH_take (i := 16) (oi := _) (v := ?_) rfl (by kernel_rfl) (by kernel_rfl) (by kernel_rfl) (fun _ _ _ h => h) (Or.inl ⟨by rfl, ?_⟩) (by assumption) ?_
    rotate_left 1
    · (intro w hSw; (try dsimp only at hSw); (first | (go_simp; done) | (go_simp; with_reducible rfl)))
    try simp only [Act.put, List.getElem_toArray, List.getElem_cons_zero, List.getElem_cons_succ, List.setIfInBounds_toArray, List.set_cons_zero, List.set_cons_succ]
    refine wpAnyH_take (i := 17) (oi := _) (v := ?_) rfl (by kernel_rfl) (by kernel_rfl) (by kernel_rfl) (fun _ _ _ h => h) (Or.inl ⟨by rfl, ?_⟩) (by assumption) ?_
    rotate_left 1
    · (intro w hSw; (try dsimp only at hSw); (first | (go_simp; done) | (go_simp; with_reducible rfl)))
    try simp only [Act.put, List.getElem_toArray, List.getElem_cons_zero, List.getElem_cons_succ, List.setIfInBounds_toArray, List.set_cons_zero, List.set_cons_succ]
    refine wpAnyH_take (i := 18) (oi := _) (v := ?_) rfl (by kernel_rfl) (by kernel_rfl) (by kernel_rfl) (fun _ _ _ h => h) (Or.inl ⟨by rfl, ?_⟩) (by assumption) ?_
    rotate_left 1
    · (intro w hSw; (try dsimp only at hSw); (first | (go_simp; done) | (go_simp; with_reducible rfl)))
    try simp only [Act.put, List.getElem_toArray, List.getElem_cons_zero, List.getElem_cons_succ, List.setIfInBounds_toArray, List.set_cons_zero, List.set_cons_succ]
    refine wpAnyH_done (by kernel_rfl) ?_ _
    refine NoPanic.normal ?_
    have hBB : Below w.heap.size w wa := HB0.out.trans (HBa.out.mono HB0.out.size)
    have cx1 := ((HX.out.drew).below HBa.out xl).c
    have cy1 := ((HY.out.drew).below HBa.out yl).c
    clear b0 b1 b2 b3 b4 b5 b6 b7 b8 b9 b10 b11 b12 b13
    clear fa0 fa1 fa2 fa3 fa4 fa5 fa6 fa7 fa8 fa9 fa10 fa11 fa12 fa13
    by_cases h4 : KD = 4
    · subst h4
      by_cases hv1 : fv = -1
      · subst hv1
        go_wp2_with fail
        go_ret
        exact ⟨ret_bool (by rw [HRES.out]; simp), hBB⟩
      · go_wp2_with fail
        refine (HI.out _).mono ?_
        rintro r w' ⟨rfl, hw'⟩
        subst hw'
        go_wp2_with fail
        go_ret
        exact ⟨ret_bool (by rw [HRES.out]; simp [hv1]), hBB⟩
    · by_cases h5 : KD = 5
      · subst h5
        by_cases hv1 : fv = -1
        · subst hv1
          go_wp2_with fail
          go_ret
          exact ⟨ret_bool (by rw [HRES.out]; simp), hBB⟩
        · go_wp2_with fail
          refine (HI.out _).mono ?_
          rintro r w' ⟨rfl, hw'⟩
          subst hw'
          go_wp2_with fail
          go_ret
          exact ⟨ret_bool (by rw [HRES.out]; simp [hv1]), hBB⟩
      · by_cases h6 : KD = 6
        · subst h6
          by_cases hv1 : fv = -1
          · subst hv1
            go_wp2_with fail
            go_ret
            exact ⟨ret_bool (by rw [HRES.out]; simp), hBB⟩
          · go_wp2_with fail
            go_ret
            exact ⟨ret_bool (by rw [HRES.out]; simp [hv1]), hBB⟩
        · by_cases h7 : KD = 7
          · subst h7
            by_cases hv1 : fv = -1
            · subst hv1
              go_wp2_with fail
              go_ret
              exact ⟨ret_bool (by rw [HRES.out]; simp), hBB⟩
            · go_wp2_with fail
              go_ret
              exact ⟨ret_bool (by rw [HRES.out]; simp [hv1]), hBB⟩
          · go_wp2_with fail
            go_ret
            exact ⟨ret_bool (by rw [HRES.out]; simp [h4, h5, h6, h7]), hBB⟩
  · skip
    have b0 : w0.cell? ⟨XB, 0, none⟩ = some (.bool d) := cx 0
    have b1 : w0.cell? ⟨XB, 1, none⟩ = some (.int .i64 p) := cx 1
    have b2 : w0.cell? ⟨XB, 2, none⟩ = some (.int .i64 e) := cx 2
    have b3 : w0.cell? ⟨XB, 3, none⟩ = some (.int .i64 x) := cx 3
    have b4 : w0.cell? ⟨XB, 4, none⟩ = some (.slice af nf cf) := cx 4
    have b5 : w0.cell? ⟨XB, 5, none⟩ = some (.slice av nv cv) := cx 5
    have b6 : w0.cell? ⟨XB, 6, none⟩ = some (.slice ab bs.length cb) := cx 6
    have b7 : w0.cell? ⟨XB, 7, none⟩ = some (.slice (some ⟨b, o, none⟩) l.length c) := cx 7
    have b8 : w0.cell? ⟨XB, 8, none⟩ = some (.slice (some ⟨ga, 0, none⟩) l.length ca) := cx 8
    have b9 : w0.cell? ⟨XB, 9, none⟩ = some (.slice (some ⟨ra, 0, none⟩) NR cr) := cx 9
    have b10 : w0.cell? ⟨XB + 1, 0, none⟩ = some (.int .i64 fk) := cy 0
    have b11 : w0.cell? ⟨XB + 1, 1, none⟩ = some (.int .i64 (q : Int)) := cy 1
    have b12 : w0.cell? ⟨XB + 1, 2, none⟩ = some (.int .i64 ((k : Int) - 1)) := cy 2
    have b13 : w0.cell? ⟨b, o + q * 2, none⟩ = some (.int .i64 KD) := q0
    have HB0 : Hid (Below w.heap.size w w0.drew) := hide (belowDrew hB0)
    clear cx cy
    refine wp_region_noPanic ?_
    refine wp_region_held_drew (S := fun w' => w'.cell? ⟨XB, 0, none⟩ = some (.bool d) ∧ w'.cell? ⟨XB, 1, none⟩ = some (.int .i64 p) ∧ w'.cell? ⟨XB, 2, none⟩ = some (.int .i64 e) ∧ w'.cell? ⟨XB, 3, none⟩ = some (.int .i64 x) ∧ w'.cell? ⟨XB, 4, none⟩ = some (.slice af nf cf) ∧ w'.cell? ⟨XB, 5, none⟩ = some (.slice av nv cv) ∧ w'.cell? ⟨XB, 6, none⟩ = some (.slice ab bs.length cb) ∧ w'.cell? ⟨XB, 7, none⟩ = some (.slice (some ⟨b, o, none⟩) l.length c) ∧ w'.cell? ⟨XB, 8, none⟩ = some (.slice (some ⟨ga, 0, none⟩) l.length ca) ∧ w'.cell? ⟨XB, 9, none⟩ = some (.slice (some ⟨ra, 0, none⟩) NR cr) ∧ w'.cell? ⟨XB + 1, 0, none⟩ = some (.int .i64 fk) ∧ w'.cell? ⟨XB + 1, 1, none⟩ = some (.int .i64 (q : Int)) ∧ w'.cell? ⟨XB + 1, 2, none⟩ = some (.int .i64 ((k : Int) - 1)) ∧ w'.cell? ⟨b, o + q * 2, none⟩ = some (.int .i64 KD)) (by kernel_rfl) ⟨b0, b1, b2, b3, b4, b5, b6, b7, b8, b9, b10, b11, b12, b13⟩ (fun hHeld => ?_)
    refine wpAnyH_take (i := 0) (oi := _) (v := ?_) rfl (by kernel_rfl) (by kernel_rfl) (by kernel_rfl) (fun _ _ _ h => h) (Or.inl ⟨by rfl, ?_⟩) (by assumption) ?_
    rotate_left 1
    · (intro w hSw; (try dsimp only at hSw); (first | (go_simp; done) | (go_simp; with_reducible rfl)))
    try simp only [Act.put, List.getElem_toArray, List.getElem_cons_zero, List.getElem_cons_succ, List.setIfInBounds_toArray, List.set_cons_zero, List.set_cons_succ]
    refine wpAnyH_take (i := 1) (oi := _) (v := ?_) rfl (by kernel_rfl) (by kernel_rfl) (by kernel_rfl) (fun _ _ _ h => h) (Or.inl ⟨by rfl, ?_⟩) (by assumption) ?_
    rotate_left 1
    · (intro w hSw; (try dsimp only at hSw); (first | (go_simp; done) | (go_simp; with_reducible rfl)))
    try simp only [Act.put, List.getElem_toArray, List.getElem_cons_zero, List.getElem_cons_succ, List.setIfInBounds_toArray, List.set_cons_zero, List.set_cons_succ]
    refine wpAnyH_take (i := 2) (oi := _) (v := ?_) rfl (by kernel_rfl) (by kernel_rfl) (by kernel_rfl) (fun _ _ _ h => h) (Or.inl ⟨by rfl, ?_⟩) (by assumption) ?_
    rotate_left 1
    · (intro w hSw; (try dsimp only at hSw); (first | (go_simp; done) | (go_simp; with_reducible rfl)))
    try simp only [Act.put, List.getElem_toArray, List.getElem_cons_zero, List.getElem_cons_succ, List.setIfInBounds_toArray, List.set_cons_zero, List.set_cons_succ]
    refine wpAnyH_take (i := 3) (oi := _) (v := ?_) rfl (by kernel_rfl) (by kernel_rfl) (by kernel_rfl) (fun _ _ _ h => h) (Or.inl ⟨by rfl, ?_⟩) (by assumption) ?_
    rotate_left 1
    · (intro w hSw; (try dsimp only at hSw); (first | (go_simp; done) | (go_simp; with_reducible rfl)))
    try simp only [Act.put, List.getElem_toArray, List.getElem_cons_zero, List.getElem_cons_succ, List.setIfInBounds_toArray, List.set_cons_zero, List.set_cons_succ]
    refine wpAnyH_take (i := 4) (oi := _) (v := ?_) rfl (by kernel_rfl) (by kernel_rfl) (by kernel_rfl) (fun _ _ _ h => h) (Or.inl ⟨by rfl, ?_⟩) (by assumption) ?_
    rotate_left 1
    · (intro w hSw; (try dsimp only at hSw); (first | (go_simp; done) | (go_simp; with_reducible rfl)))
    try simp only [Act.put, List.getElem_toArray, List.getElem_cons_zero, List.getElem_cons_succ, List.setIfInBounds_toArray, List.set_cons_zero, List.set_cons_succ]
    refine wpAnyH_ready (rs := [5]) (by kernel_rfl) (by simp) ?_
    refine AllReadyH.cons (o := _) rfl (fun K hK => ?_) AllReadyH.nil
    go_simp
    (with_reducible refine Calls.mono (HD.out _ HB0.out) ?_)
    rintro r wa ⟨rfl, hba⟩
    have HBa := hide hba
    have fa0 := (hba.cell (p := ⟨XB, 0, none⟩) (show XB < w0.heap.size by omega)).trans b0
    have fa1 := (hba.cell (p := ⟨XB, 1, none⟩) (show XB < w0.heap.size by omega)).trans b1
    have fa2 := (hba.cell (p := ⟨XB, 2, none⟩) (show XB < w0.heap.size by omega)).trans b2
    have fa3 := (hba.cell (p := ⟨XB, 3, none⟩) (show XB < w0.heap.size by omega)).trans b3
    have fa4 := (hba.cell (p := ⟨XB, 4, none⟩) (show XB < w0.heap.size by omega)).trans b4
    have fa5 := (hba.cell (p := ⟨XB, 5, none⟩) (show XB < w0.heap.size by omega)).trans b5
    have fa6 := (hba.cell (p := ⟨XB, 6, none⟩) (show XB < w0.heap.size by omega)).trans b6
    have fa7 := (hba.cell (p := ⟨XB, 7, none⟩) (show XB < w0.heap.size by omega)).trans b7
    have fa8 := (hba.cell (p := ⟨XB, 8, none⟩) (show XB < w0.heap.size by omega)).trans b8
    have fa9 := (hba.cell (p := ⟨XB, 9, none⟩) (show XB < w0.heap.size by omega)).trans b9
    have fa10 := (hba.cell (p := ⟨XB + 1, 0, none⟩) (show XB + 1 < w0.heap.size by omega)).trans b10
    have fa11 := (hba.cell (p := ⟨XB + 1, 1, none⟩) (show XB + 1 < w0.heap.size by omega)).trans b11
    have fa12 := (hba.cell (p := ⟨XB + 1, 2, none⟩) (show XB + 1 < w0.heap.size by omega)).trans b12
    have fa13 := (hba.cell (p := ⟨b, o + q * 2, none⟩) (show b < w0.heap.size by omega)).trans b13
    clear hba
    (try go_wp2_with fail)
    refine hK.out _ _ ⟨fa0, fa1, fa2, fa3, fa4, fa5, fa6, fa7, fa8, fa9, fa10, fa11, fa12, fa13⟩ (fun hHeld => ?_)
    clear hK K
    try simp only [Act.put, List.getElem_toArray, List.getElem_cons_zero, List.getElem_cons_succ, List.setIfInBounds_toArray, List.set_cons_zero, List.set_cons_succ]
    refine wpAnyH_take (i := 6) (oi := _) (v := ?_) rfl (by kernel_rfl) (by kernel_rfl) (by kernel_rfl) (fun _ _ _ h => h) (Or.inl ⟨by rfl, ?_⟩) (by assumption) ?_
    rotate_left 1
    · (intro w hSw; (try dsimp only at hSw); (first | (go_simp; done) | (go_simp; with_reducible rfl)))
    try simp only [Act.put, List.getElem_toArray, List.getElem_cons_zero, List.getElem_cons_succ, List.setIfInBounds_toArray, List.set_cons_zero, List.set_cons_succ]
    refine wpAnyH_take (i := 7) (oi := _) (v := ?_) rfl (by kernel_rfl) (by kernel_rfl) (by kernel_rfl) (fun _ _ _ h => h) (Or.inl ⟨by rfl, ?_⟩) (by assumption) ?_
    rotate_left 1
    · (intro w hSw; (try dsimp only at hSw); (first | (go_simp; done) | (go_simp; with_reducible rfl)))
    try simp only [Act.put, List.getElem_toArray, List.getElem_cons_zero, List.getElem_cons_succ, List.setIfInBounds_toArray, List.set_cons_zero, List.set_cons_succ]
    refine wpAnyH_take (i := 8) (oi := _) (v := ?_) rfl (by kernel_rfl) (by kernel_rfl) (by kernel_rfl) (fun _ _ _ h => h) (Or.inl ⟨by rfl, ?_⟩) (by assumption) ?_
    rotate_left 1
    · (intro w hSw; (try dsimp only at hSw); (first | (go_simp; done) | (go_simp; with_reducible rfl)))
    try simp only [Act.put, List.getElem_toArray, List.getElem_cons_zero, List.getElem_cons_succ, List.setIfInBounds_toArray, List.set_cons_zero, List.set_cons_succ]
    refine wpAnyH_take (i := 9) (oi := _) (v := ?_) rfl (by kernel_rfl) (by kernel_rfl) (by kernel_rfl) (fun _ _ _ h => h) (Or.inl ⟨by rfl, ?_⟩) (by assumption) ?_
    rotate_left 1
    · (intro w hSw; (try dsimp only at hSw); (first | (go_simp; done) | (go_simp; with_reducible rfl)))
    try simp only [Act.put, List.getElem_toArray, List.getElem_cons_zero, List.getElem_cons_succ, List.setIfInBounds_toArray, List.set_cons_zero, List.set_cons_succ]
    refine wpAnyH_take (i := 10) (oi := _) (v := ?_) rfl (by kernel_rfl) (by kernel_rfl) (by kernel_rfl) (fun _ _ _ h => h) (Or.inl ⟨by rfl, ?_⟩) (by assumption) ?_
    rotate_left 1
    · (intro w hSw; (try dsimp only at hSw); (first | (go_simp; done) | (go_simp; with_reducible rfl)))
    try simp only [Act.put, List.getElem_toArray, List.getElem_cons_zero, List.getElem_cons_succ, List.setIfInBounds_toArray, List.set_cons_zero, List.set_cons_succ]
    refine wpAnyH_take (i := 11) (oi := _) (v := ?_) rfl (by kernel_rfl) (by kernel_rfl) (by kernel_rfl) (fun _ _ _ h => h) (Or.inl ⟨by rfl, ?_⟩) (by assumption) ?_
    rotate_left 1
    · (intro w hSw; (try dsimp only at hSw); (first | (go_simp; done) | (go_simp; with_reducible rfl)))
    try simp only [Act.put, List.getElem_toArray, List.getElem_cons_zero, List.getElem_cons_succ, List.setIfInBounds_toArray, List.set_cons_zero, List.set_cons_succ]
    refine wpAnyH_take (i := 12) (oi := _) (v := ?_) rfl (by kernel_rfl) (by kernel_rfl) (by kernel_rfl) (fun _ _ _ h => h) (Or.inl ⟨by rfl, ?_⟩) (by assumption) ?_
    rotate_left 1
    · (intro w hSw; (try dsimp only at hSw); (first | (go_simp; done) | (go_simp; with_reducible rfl)))
    try simp only [Act.put, List.getElem_toArray, List.getElem_cons_zero, List.getElem_cons_succ, List.setIfInBounds_toArray, List.set_cons_zero, List.set_cons_succ]
    refine wpAnyH_take (i := 13) (oi := _) (v := ?_) rfl (by kernel_rfl) (by kernel_rfl) (by kernel_rfl) (fun _ _ _ h => h) (Or.inl ⟨by rfl, ?_⟩) (by assumption) ?_
    rotate_left 1
    · (intro w hSw; (try dsimp only at hSw); (first | (go_simp; done) | (go_simp; with_reducible rfl)))
    try simp only [Act.put, List.getElem_toArray, List.getElem_cons_zero, List.getElem_cons_succ, List.setIfInBounds_toArray, List.set_cons_zero, List.set_cons_succ]
    refine wpAnyH_take (i := 14) (oi := _) (v := ?_) rfl (by kernel_rfl) (by kernel_rfl) (by kernel_rfl) (fun _ _ _ h => h) (Or.inl ⟨by rfl, ?_⟩) (by assumption) ?_
    rotate_left 1
    · (intro w hSw; (try dsimp only at hSw); (first | (go_simp; done) | (go_simp; with_reducible rfl)))
    try simp only [Act.put, List.getElem_toArray, List.getElem_cons_zero, List.getElem_cons_succ, List.setIfInBounds_toArray, List.set_cons_zero, List.set_cons_succ]
    refine wpAnyH_take (i := 15) (oi := _) (v := ?_) rfl (by kernel_rfl) (by kernel_rfl) (by kernel_rfl) (fun _ _ _ h => h) (Or.inl ⟨by rfl, ?_⟩) (by assumption) ?_
    rotate_left 1
    · (intro w hSw; (try dsimp only at hSw); (first | (go_simp; done) | (go_simp; with_reducible rfl)))
    try simp only [Act.put, List.getElem_toArray, List.getElem_cons_zero, List.getElem_cons_succ, List.setIfInBounds_toArray, List.set_cons_zero, List.set_cons_succ]
    refine wpAnyH_take (i := 16) (oi := _) (v := ?_) rfl (by kernel_rfl) (by kernel_rfl) (by kernel_rfl) (fun _ _ _ h => h) (Or.inl ⟨by rfl, ?_⟩) (by assumption) ?_
    rotate_left 1
    · (intro w hSw; (try dsimp only at hSw); (first | (go_simp; done) | (go_simp; with_reducible rfl)))
    try simp only [Act.put, List.getElem_toArray, List.getElem_cons_zero, List.getElem_cons_succ, List.setIfInBounds_toArray, List.set_cons_zero, List.set_cons_succ]
    refine wpAnyH_take (i := 17) (oi := _) (v := ?_) rfl (by kernel_rfl) (by kernel_rfl) (by kernel_rfl) (fun _ _ _ h => h) (Or.inl ⟨by rfl, ?_⟩) (by assumption) ?_
    rotate_left 1
    · (intro w hSw; (try dsimp only at hSw); (first | (go_simp; done) | (go_simp; with_reducible rfl)))
    try simp only [Act.put, List.getElem_toArray, List.getElem_cons_zero, List.getElem_cons_succ, List.setIfInBounds_toArray, List.set_cons_zero, List.set_cons_succ]
    refine wpAnyH_take (i := 18) (oi := _) (v := ?_) rfl (by kernel_rfl) (by kernel_rfl) (by kernel_rfl) (fun _ _ _ h => h) (Or.inl ⟨by rfl, ?_⟩) (by assumption) ?_
    rotate_left 1
    · (intro w hSw; (try dsimp only at hSw); (first | (go_simp; done) | (go_simp; with_reducible rfl)))
    try simp only [Act.put, List.getElem_toArray, List.getElem_cons_zero, List.getElem_cons_succ, List.setIfInBounds_toArray, List.set_cons_zero, List.set_cons_succ]
    refine wpAnyH_done (by kernel_rfl) ?_ _
    refine NoPanic.normal ?_
    have hBB : Below w.heap.size w wa := HB0.out.trans (HBa.out.mono HB0.out.size)
    go_wp2_with fail
    go_ret
    exact ⟨ret_bool (by rw [HRES.out]; simp [hk1]), hBB⟩

set_option maxRecDepth 20000 in
set_option maxHeartbeats 4000000 in
theorem goodNow_any (ad : Option Addr) (c : Nat) (l : List Cc) (a : F) (d : Bool) (p e x : Int) (af av ab : Option Addr) (nf cf nv cv cb : Nat) (bs : List Bd) (ga ca ra NR cr : Nat) (fs : List Fm) (vs : List Vl) (w : World) (hCl : Cl l a) (hL : LkR w ad l a bs ga ra) (hb : bsOk nv bs = true) (hNR : NR = bs.length + 1) (hl : bs.length ≤ 1048576) (hv : nv ≤ 1048576) (hnv : vs.length = nv) :
    Calls Try.prog 58 #[.agg #[.bool d, .int .i64 p, .int .i64 e, .int .i64 x, .slice af nf cf, .slice av nv cv, .slice ab bs.length cb, .slice ad l.length c, .slice (some ⟨ga, 0, none⟩) l.length ca, .slice (some ⟨ra, 0, none⟩) NR cr]] w fun r w' => r = .returned (.bool (nOk a l ⟨d, p, e, x, fs, vs, bs⟩)) ∧ Below w.heap.size w w' := by
  have HD := hide (fun (w' : World) (hb' : Below w.heap.size w w') => canBeDone_any ad c l a d p e x af av ab nf cf nv cv cb bs ga ca ra NR cr p e w' hCl (hL.below hb') hb hNR hl hv)
  have HI := hide (isBelow_any x nv)
  cases d with
  | true =>
    have hno : nOk a l ⟨true, p, e, x, fs, vs, bs⟩ = (decide (p = -1) && decide (e = -1) && blw x nv) := by unfold nOk; simp [hnv]
    rw [hno]
    obtain ⟨BV, hBV⟩ : ∃ BV, BV = blw x nv := ⟨_, rfl⟩
    rw [← hBV] at HI ⊢
    clear hno hBV hL hb hNR hCl HD hnv
    by_cases h1 : p = -1
    · subst h1
      by_cases h2 : e = -1
      · subst h2
        go_enter Try.func58, Try.ntmps58
        go_upto_region 1 with fail
        have hB0 : Below w.heap.size w (w.alloc (.cells #[.bool true, .int .i64 (-1), .int .i64 (-1), .int .i64 x, .slice af nf cf, .slice av nv cv, .slice ab bs.length cb, .slice ad l.length c, .slice (some ⟨ga, 0, none⟩) l.length ca, .slice (some ⟨ra, 0, none⟩) NR cr] 93)) := (Below.refl _ _).alloc (Nat.le_refl _) _
        have hX := Bx.new w #[.bool true, .int .i64 (-1), .int .i64 (-1), .int .i64 x, .slice af nf cf, .slice av nv cv, .slice ab bs.length cb, .slice ad l.length c, .slice (some ⟨ga, 0, none⟩) l.length ca, .slice (some ⟨ra, 0, none⟩) NR cr] 93
        obtain ⟨w0, hw0⟩ : ∃ w0, w0 = (w.alloc (.cells #[.bool true, .int .i64 (-1), .int .i64 (-1), .int .i64 x, .slice af nf cf, .slice av nv cv, .slice ab bs.length cb, .slice ad l.length c, .slice (some ⟨ga, 0, none⟩) l.length ca, .slice (some ⟨ra, 0, none⟩) NR cr] 93)) := ⟨_, rfl⟩
        obtain ⟨XB, hXB⟩ : ∃ XB, XB = w.heap.size := ⟨_, rfl⟩
        rw [← hw0] at hX hB0 ⊢
        rw [← hXB] at hX ⊢
        have xl : XB < w0.heap.size := hX.lt
        have cx := hX.c
        clear hX hw0 hXB
        go_wp2_with fail
        refine (HI.out _).mono ?_
        rintro r w' ⟨rfl, hw'⟩
        subst hw'
        go_wp2_with fail
        go_ret
        exact ⟨ret_bool (by simp), hB0⟩
      · go_enter Try.func58, Try.ntmps58
        go_upto_region 1 with fail
        go_wp2_with fail
        go_ret
        exact ⟨ret_bool (by simp [h2]), (Below.refl _ _).alloc (Nat.le_refl _) _⟩
    · go_enter Try.func58, Try.ntmps58
      go_upto_region 1 with fail
      go_wp2_with fail
      go_ret
      exact ⟨ret_bool (by simp [h1]), (Below.refl _ _).alloc (Nat.le_refl _) _⟩
  | false =>
    have hno : nOk a l ⟨false, p, e, x, fs, vs, bs⟩ = (decide (x = -1) && pOk a l.length bs p e) := by unfold nOk; simp
    rw [hno]
    obtain ⟨BV, hBV⟩ : ∃ BV, BV = pOk a l.length bs p e := ⟨_, rfl⟩
    rw [← hBV] at HD ⊢
    clear hno hBV hL hb hNR hCl HI hnv
    by_cases h1 : x = -1
    · subst h1
      go_enter Try.func58, Try.ntmps58
      go_upto_region 1 with fail
      have hB0 : Below w.heap.size w (w.alloc (.cells #[.bool false, .int .i64 p, .int .i64 e, .int .i64 (-1), .slice af nf cf, .slice av nv cv, .slice ab bs.length cb, .slice ad l.length c, .slice (some ⟨ga, 0, none⟩) l.length ca, .slice (some ⟨ra, 0, none⟩) NR cr] 93)) := (Below.refl _ _).alloc (Nat.le_refl _) _
      have hX := Bx.new w #[.bool false, .int .i64 p, .int .i64 e, .int .i64 (-1), .slice af nf cf, .slice av nv cv, .slice ab bs.length cb, .slice ad l.length c, .slice (some ⟨ga, 0, none⟩) l.length ca, .slice (some ⟨ra, 0, none⟩) NR cr] 93
      obtain ⟨w0, hw0⟩ : ∃ w0, w0 = (w.alloc (.cells #[.bool false, .int .i64 p, .int .i64 e, .int .i64 (-1), .slice af nf cf, .slice av nv cv, .slice ab bs.length cb, .slice ad l.length c, .slice (some ⟨ga, 0, none⟩) l.length ca, .slice (some ⟨ra, 0, none⟩) NR cr] 93)) := ⟨_, rfl⟩
      obtain ⟨XB, hXB⟩ : ∃ XB, XB = w.heap.size := ⟨_, rfl⟩
      rw [← hw0] at hX hB0 ⊢
      rw [← hXB] at hX ⊢
      have xl : XB < w0.heap.size := hX.lt
      have cx := hX.c
      clear hX hw0 hXB
      go_wp2_with fail
      refine (HD.out _ hB0).mono ?_
      rintro r w1 ⟨rfl, hb1⟩
      clear cx
      go_wp2_with fail
      go_ret
      exact ⟨ret_bool (by simp), hB0.trans (hb1.mono hB0.size)⟩
    · go_enter Try.func58, Try.ntmps58
      go_upto_region 1 with fail
      go_wp2_with fail
      go_ret
      exact ⟨ret_bool (by simp [h1]), (Below.refl _ _).alloc (Nat.le_refl _) _⟩
theorem goodFrame_any (ad : Option Addr) (c : Nat) (l : List Cc) (a : F) (d : Bool) (p e x : Int) (af av ab : Option Addr) (nf cf nv cv cb : Nat) (bs : List Bd) (ga ca ra NR cr : Nat) (f : Fm) (w : World) (hCl : Cl l a) (hL : LkR w ad l a bs ga ra) (hb : bsOk nv bs = true) (hNR : NR = bs.length + 1) (hl : bs.length ≤ 1048576) (hv : nv ≤ 1048576) :
    Calls Try.prog 57 #[.agg #[.bool d, .int .i64 p, .int .i64 e, .int .i64 x, .slice af nf cf, .slice av nv cv, .slice ab bs.length cb, .slice ad l.length c, .slice (some ⟨ga, 0, none⟩) l.length ca, .slice (some ⟨ra, 0, none⟩) NR cr], f.v] w fun r w' => r = .returned (.bool (fOk a l bs nv f)) ∧ Below w.heap.size w w' := by
  obtain ⟨fk, pl, env, fv⟩ := f
  cases hp : pOk a l.length bs pl env with
  | true => exact goodFrame_is ad c l a d p e x af av ab nf cf nv cv cb bs ga ca ra NR cr fk pl env fv w hCl hL hb hNR hl hv hp
  | false =>
    rw [show fOk a l bs nv ⟨fk, pl, env, fv⟩ = false by unfold fOk; simp [hp]]
    exact goodFrame_not ad c l a d p e x af av ab nf cf nv cv cb bs ga ca ra NR cr fk pl env fv w hCl hL hb hNR hl hv hp
end Go.Proofs.Ytdajalchdbgooaa.W

/-
  The model of boundAround: what is still to come, and two rows of numbers in memory. No program here.
-/
namespace Go.Proofs.Ytdajalchdbgooaa.W
open Go.ChangeShapes Go.WideShapes Go.ChangeAt Go.RowKit
set_option linter.unusedVariables false

/-- What a part has to come, the next one first. -/
def psh (k : Int) (b : Nat) : List Nat := (List.range (ar k)).map (fun j => b + binds k j)
/-- What is bound around the places of cells, with what is to come. -/
def pend : List Cc → List Nat → Option (List Nat)
  | [], _ => some []
  | _ :: _, [] => none
  | x :: l, b :: rs => (pend l (psh x.k b ++ rs)).map (b :: ·)
def esF (pk : Int) (d i : Nat) : F → List Nat
  | .nil => []
  | .cons _ _ r => (d + binds pk i) :: esF pk d (i + 1) r
theorem esF_eq (pk : Int) (d : Nat) : ∀ (a : F) (i : Nat), esF pk d i a = (List.range' i a.len).map (fun j => d + binds pk j)
  | .nil, i => rfl
  | .cons x k r, i => by simp only [esF, F.len, List.range'_succ, List.map_cons, esF_eq pk d r (i + 1)]
theorem pend_flat : ∀ (a : F) (pk : Int) (d i : Nat) (t : List Cc) (rest : List Nat), a.ok → pend (a.flat ++ t) (esF pk d i a ++ rest) = (pend t rest).map ((nd pk d i a).map (·.2.1) ++ ·)
  | .nil, pk, d, i, t, rest, _ => by simp [F.flat, esF, nd]
  | .cons x k r, pk, d, i, t, rest, h => by
    obtain ⟨h1, h2, h3, h4⟩ := ok_cons h
    have e1 : psh x.k (d + binds pk i) = esF x.k (d + binds pk i) 0 k := by
      rw [esF_eq, h2, psh, List.range_eq_range']
    simp only [F.flat, esF, List.cons_append, List.append_assoc, pend, e1]
    rw [pend_flat k x.k (d + binds pk i) 0 (r.flat ++ t) (esF pk d (i + 1) r ++ rest) h3, pend_flat r pk d (i + 1) t rest h4]
    cases pend t rest with
    | none => rfl
    | some s => simp [nd]
theorem Cl.pend {l : List Cc} {a : F} (h : Cl l a) : pend l [0] = some ((ndT a).map (·.2.1)) := by
  obtain ⟨x, k, rfl⟩ := F.len_1 h.one
  have := pend_flat (.cons x k .nil) 0 0 0 [] [] h.ok
  rw [List.append_nil, List.append_nil, ← h.flat] at this
  simp only [esF, binds_0', W.pend, Option.map_some] at this
  rw [this]
  simp [ndT]
theorem psh_le {k : Int} {b j : Nat} (hb : b ≤ j) : ∀ y ∈ psh k b, y ≤ j + 1 := by
  intro y hy
  unfold psh at hy
  obtain ⟨i, -, rfl⟩ := List.mem_map.1 hy
  have : binds k i ≤ 1 := by unfold binds; split <;> omega
  omega
theorem psh_len (k : Int) (b : Nat) : (psh k b).length ≤ 3 := by
  unfold psh; rw [List.length_map, List.length_range]; exact ar_le k

def Ic (n : Nat) (r : Nat) : Value := .int .i64 (n : Int)
/-- Two rows of numbers that lie apart: what was told, and what is to come (the next one last). -/
structure TwoR (w : World) (lo : Nat) (so st : Value) (out rs : List Nat) : Prop where
  o : w.ownsRow lo 3 1 so out.length (rcells 1 Ic out)
  s : w.ownsRow lo 3 1 st rs.length (rcells 1 Ic rs.reverse)
  apart : ∀ g, so.ownBlock = some g → st.ownBlock ≠ some g
theorem TwoR.alloc {w : World} {lo : Nat} {so st : Value} {out rs : List Nat} (h : TwoR w lo so st out rs) (ob : Obj) : TwoR (w.alloc ob) lo so st out rs := ⟨h.o.alloc _, h.s.alloc _, h.apart⟩
theorem TwoR.out' {w w' : World} {lo : Nat} {so so' st : Value} {out out' rs : List Nat} (h : TwoR w lo so st out rs) (ho : w'.ownsRow lo 3 1 so' out'.length (rcells 1 Ic out')) (hg : w.grownBy w' so.ownBlock) (ha : Apart w so so') : TwoR w' lo so' st out' rs :=
  ⟨ho, own_grown h.s hg (fun k hk e => h.apart k e hk), fun g hg1 hg2 => by
    rcases ha g hg1 with h1 | h1
    · exact h.apart g h1 hg2
    · have := (h.s.lt g hg2).2; omega⟩
theorem TwoR.stk {w w' : World} {lo : Nat} {so st st' : Value} {out rs rs' : List Nat} (h : TwoR w lo so st out rs) (hs : w'.ownsRow lo 3 1 st' rs'.length (rcells 1 Ic rs'.reverse)) (hg : w.grownBy w' st.ownBlock) (ha : Apart w st st') : TwoR w' lo so st' out rs' :=
  ⟨own_grown h.o hg (fun k hk e => h.apart k hk e), hs, fun g hg1 hg2 => by
    rcases ha g hg2 with h1 | h1
    · exact h.apart g hg1 h1
    · have := (h.o.lt g hg1).2; omega⟩
/-- The next one is taken. -/
theorem TwoR.cut {w : World} {lo : Nat} {so : Value} {sa : Option Addr} {sc b : Nat} {out rs : List Nat} (h : TwoR w lo so (.slice sa (rs.length + 1) sc) out (b :: rs)) : TwoR w lo so (.slice sa rs.length sc) out rs := by
  refine ⟨h.o, ?_, fun g hg => ?_⟩
  · have := own_cut h.s (by simp) (by simp)
    simpa using this
  · have := h.apart g hg
    cases sa with
    | none => simp [Value.ownBlock]
    | some a => simpa [Value.ownBlock] using this
end Go.Proofs.Ytdajalchdbgooaa.W
