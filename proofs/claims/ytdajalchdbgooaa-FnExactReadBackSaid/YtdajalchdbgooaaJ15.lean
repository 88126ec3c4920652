/-
  Some texts of this proof in one: GmC, MaR1.
-/
import Derived.Test.YtdajalchdbgooaaJ14
import Derived.Test.YtdajalchdbgooaaGmF
import Derived.Deep.RegionHeld3
import Derived.Deep.RegionLaw
import Derived.Deep.AppendLies
import Derived.Deep.CutRange
import Derived.Test.YtdajalchdbgooaaJ10
/-
  The contract of l6Frame. Conditions: closed terms, good bindings. Written by wip/build/mk_specgood.py.
-/
namespace Go.Proofs.Ytdajalchdbgooaa.W
open Go.ChangeShapes Go.WideShapes Go.ChangeAt Go.RowKit
set_option linter.unusedVariables false
set_option linter.unusedSimpArgs false

set_option maxRecDepth 20000 in
set_option maxHeartbeats 4000000 in
theorem l6Frame_not (cb0 : Nat) (ad : Option Addr) (c : Nat) (l : List Cc) (a : F) (d : Bool) (p e x : Int) (sf : Value) (av ab : Option Addr) (nv cv cb : Nat) (bs : List Bd) (fk pl env fv : Int) (w : World) (hCl : Cl l a) (hC : CD w cb0 (.slice ad l.length c) l.length a) (ht : CRow w ad l) (h : BdRow w ab bs) (hb : bsOk nv bs = true) (hl : bs.length ≤ 1048576) (hv : nv ≤ 1048576) (hp : pOk a l.length bs pl env = false) :
    Calls Try.prog 77 #[.pointer (some ⟨cb0, 0, none⟩), .agg #[.bool d, .int .i64 p, .int .i64 e, .int .i64 x, sf, .slice av nv cv, .slice ab bs.length cb], .agg #[.int .i64 fk, .int .i64 pl, .int .i64 env, .int .i64 fv]] w fun r w' => r = .returned (.bool false) ∧ Below w.heap.size w w' := by
  have HD := hide (fun (w' : World) (hb' : Below w.heap.size w w') => l6Part_any cb0 ad c l a d p e x sf (.slice av nv cv) ab cb nv bs pl env w' hCl (hC.below hb') (h.below hb') hb hl)
  rw [hp] at HD
  have HCd := hide hC
  clear hp hb hCl hC h ht
  go_enter Try.func77, Try.ntmps77
  go_upto_region 1 with fail
  have hB0 : Below w.heap.size w ((w.alloc (.cells #[.bool d, .int .i64 p, .int .i64 e, .int .i64 x, sf, .slice av nv cv, .slice ab bs.length cb] 28)).alloc (.cells #[.int .i64 fk, .int .i64 pl, .int .i64 env, .int .i64 fv] 96)) := ((Below.refl _ _).alloc (Nat.le_refl _) _).alloc (by simp) _
  have hX := (Bx.new w #[.bool d, .int .i64 p, .int .i64 e, .int .i64 x, sf, .slice av nv cv, .slice ab bs.length cb] 28).alloc (.cells #[.int .i64 fk, .int .i64 pl, .int .i64 env, .int .i64 fv] 96)
  have hY := Bx.new (w.alloc (.cells #[.bool d, .int .i64 p, .int .i64 e, .int .i64 x, sf, .slice av nv cv, .slice ab bs.length cb] 28)) #[.int .i64 fk, .int .i64 pl, .int .i64 env, .int .i64 fv] 96
  simp only [World.size_alloc] at hY
  obtain ⟨w0, hw0⟩ : ∃ w0, w0 = ((w.alloc (.cells #[.bool d, .int .i64 p, .int .i64 e, .int .i64 x, sf, .slice av nv cv, .slice ab bs.length cb] 28)).alloc (.cells #[.int .i64 fk, .int .i64 pl, .int .i64 env, .int .i64 fv] 96)) := ⟨_, rfl⟩
  obtain ⟨XB, hXB⟩ : ∃ XB, XB = w.heap.size := ⟨_, rfl⟩
  rw [← hw0] at hX hY hB0 ⊢
  rw [← hXB] at hX hY ⊢
  have xl : XB < w0.heap.size := hX.lt
  have yl : XB + 1 < w0.heap.size := hY.lt
  have HX := hide hX
  have HY := hide hY
  have cx := hX.c
  have cy := hY.c
  obtain ⟨kb, vb, hcx, -, -, -, -⟩ := HCd.out.ex
  have hcc := hcx.below hB0 hcx.lt
  have cl0 : cb0 < w0.heap.size := hcc.lt
  have cc := hcc.c
  clear hX hY hw0 hXB hcx hcc
  have b0 : w0.cell? ⟨XB, 0, none⟩ = some (.bool d) := cx 0
  have b1 : w0.cell? ⟨XB, 1, none⟩ = some (.int .i64 p) := cx 1
  have b2 : w0.cell? ⟨XB, 2, none⟩ = some (.int .i64 e) := cx 2
  have b3 : w0.cell? ⟨XB, 3, none⟩ = some (.int .i64 x) := cx 3
  have b4 : w0.cell? ⟨XB, 4, none⟩ = some (sf) := cx 4
  have b5 : w0.cell? ⟨XB, 5, none⟩ = some (.slice av nv cv) := cx 5
  have b6 : w0.cell? ⟨XB, 6, none⟩ = some (.slice ab bs.length cb) := cx 6
  have b7 : w0.cell? ⟨XB + 1, 0, none⟩ = some (.int .i64 fk) := cy 0
  have b8 : w0.cell? ⟨XB + 1, 1, none⟩ = some (.int .i64 pl) := cy 1
  have b9 : w0.cell? ⟨XB + 1, 2, none⟩ = some (.int .i64 env) := cy 2
  have HB0 : Hid (Below w.heap.size w w0.drew) := hide (belowDrew hB0)
  clear cx cy cc
  refine wp_region_noPanic ?_
  refine wp_region_held_drew (S := fun w' => w'.cell? ⟨XB, 0, none⟩ = some (.bool d) ∧ w'.cell? ⟨XB, 1, none⟩ = some (.int .i64 p) ∧ w'.cell? ⟨XB, 2, none⟩ = some (.int .i64 e) ∧ w'.cell? ⟨XB, 3, none⟩ = some (.int .i64 x) ∧ w'.cell? ⟨XB, 4, none⟩ = some (sf) ∧ w'.cell? ⟨XB, 5, none⟩ = some (.slice av nv cv) ∧ w'.cell? ⟨XB, 6, none⟩ = some (.slice ab bs.length cb) ∧ w'.cell? ⟨XB + 1, 0, none⟩ = some (.int .i64 fk) ∧ w'.cell? ⟨XB + 1, 1, none⟩ = some (.int .i64 pl) ∧ w'.cell? ⟨XB + 1, 2, none⟩ = some (.int .i64 env)) (by kernel_rfl) ⟨b0, b1, b2, b3, b4, b5, b6, b7, b8, b9⟩ (fun hHeld => ?_)
  refine wpAnyH_take (i := 0) (oi := _) (v := ?_) rfl (by kernel_rfl) (by kernel_rfl) (by kernel_rfl) (fun _ _ _ h => h) (Or.inl ⟨by rfl, ?_⟩) (by assumption) ?_
  rotate_left 1
  · (intro w hSw; (try dsimp only at hSw); (first | (go_simp; done) | (go_simp; with_reducible rfl)))
  try simp only [Act.put, List.getElem_toArray, List.getElem_cons_zero, List.getElem_cons_succ, List.setIfInBounds_toArray, List.set_cons_zero, List.set_cons_succ]
  refine wpAnyH_take (i := 1) (oi := _) (v := ?_) rfl (by kernel_rfl) (by kernel_rfl) (by kernel_rfl) (fun _ _ _ h => h) (Or.inl ⟨by rfl, ?_⟩) (by assumption) ?_
  rotate_left 1
  · (intro w hSw; (try dsimp only at hSw); (first | (go_simp; done) | (go_simp; with_reducible rfl)))
  try simp only [Act.put, List.getElem_toArray, List.getElem_cons_zero, List.getElem_cons_succ, List.setIfInBounds_toArray, List.set_cons_zero, List.set_cons_succ]
  refine wpAnyH_take (i := 2) (oi := _) (v := ?_) rfl (by kernel_rfl) (by kernel_rfl) (by kernel_rfl) (fun _ _ _ h => h) (Or.inl ⟨by rfl, ?_⟩) (by assumption) ?_
  rotate_left 1
  · (intro w hSw; (try dsimp only at hSw); (first | (go_simp; done) | (go_simp; with_reducible rfl)))
  try simp only [Act.put, List.getElem_toArray, List.getElem_cons_zero, List.getElem_cons_succ, List.setIfInBounds_toArray, List.set_cons_zero, List.set_cons_succ]
  refine wpAnyH_take (i := 3) (oi := _) (v := ?_) rfl (by kernel_rfl) (by kernel_rfl) (by kernel_rfl) (fun _ _ _ h => h) (Or.inl ⟨by rfl, ?_⟩) (by assumption) ?_
  rotate_left 1
  · (intro w hSw; (try dsimp only at hSw); (first | (go_simp; done) | (go_simp; with_reducible rfl)))
  try simp only [Act.put, List.getElem_toArray, List.getElem_cons_zero, List.getElem_cons_succ, List.setIfInBounds_toArray, List.set_cons_zero, List.set_cons_succ]
  refine wpAnyH_take (i := 4) (oi := _) (v := ?_) rfl (by kernel_rfl) (by kernel_rfl) (by kernel_rfl) (fun _ _ _ h => h) (Or.inl ⟨by rfl, ?_⟩) (by assumption) ?_
  rotate_left 1
  · (intro w hSw; (try dsimp only at hSw); (first | (go_simp; done) | (go_simp; with_reducible rfl)))
  try simp only [Act.put, List.getElem_toArray, List.getElem_cons_zero, List.getElem_cons_succ, List.setIfInBounds_toArray, List.set_cons_zero, List.set_cons_succ]
  refine wpAnyH_take (i := 5) (oi := _) (v := ?_) rfl (by kernel_rfl) (by kernel_rfl) (by kernel_rfl) (fun _ _ _ h => h) (Or.inl ⟨by rfl, ?_⟩) (by assumption) ?_
  rotate_left 1
  · (intro w hSw; (try dsimp only at hSw); (first | (go_simp; done) | (go_simp; with_reducible rfl)))
  try simp only [Act.put, List.getElem_toArray, List.getElem_cons_zero, List.getElem_cons_succ, List.setIfInBounds_toArray, List.set_cons_zero, List.set_cons_succ]
  refine wpAnyH_ready (rs := [6]) (by kernel_rfl) (by simp) ?_
  refine AllReadyH.cons (o := _) rfl (fun K hK => ?_) AllReadyH.nil
  go_simp
  (with_reducible refine Calls.mono (HD.out _ HB0.out) ?_)
  rintro r wa ⟨rfl, hba⟩
  have HBa := hide hba
  have fa0 := (hba.cell (p := ⟨XB, 0, none⟩) (show XB < w0.heap.size by omega)).trans b0
  have fa1 := (hba.cell (p := ⟨XB, 1, none⟩) (show XB < w0.heap.size by omega)).trans b1
  have fa2 := (hba.cell (p := ⟨XB, 2, none⟩) (show XB < w0.heap.size by omega)).trans b2
  have fa3 := (hba.cell (p := ⟨XB, 3, none⟩) (show XB < w0.heap.size by omega)).trans b3
  have fa4 := (hba.cell (p := ⟨XB, 4, none⟩) (show XB < w0.heap.size by omega)).trans b4
  have fa5 := (hba.cell (p := ⟨XB, 5, none⟩) (show XB < w0.heap.size by omega)).trans b5
  have fa6 := (hba.cell (p := ⟨XB, 6, none⟩) (show XB < w0.heap.size by omega)).trans b6
  have fa7 := (hba.cell (p := ⟨XB + 1, 0, none⟩) (show XB + 1 < w0.heap.size by omega)).trans b7
  have fa8 := (hba.cell (p := ⟨XB + 1, 1, none⟩) (show XB + 1 < w0.heap.size by omega)).trans b8
  have fa9 := (hba.cell (p := ⟨XB + 1, 2, none⟩) (show XB + 1 < w0.heap.size by omega)).trans b9
  clear hba
  (try go_wp2_with fail)
  refine hK.out _ _ ⟨fa0, fa1, fa2, fa3, fa4, fa5, fa6, fa7, fa8, fa9⟩ (fun hHeld => ?_)
  clear hK K
  try simp only [Act.put, List.getElem_toArray, List.getElem_cons_zero, List.getElem_cons_succ, List.setIfInBounds_toArray, List.set_cons_zero, List.set_cons_succ]
  refine wpAnyH_take (i := 7) (oi := _) (v := ?_) rfl (by kernel_rfl) (by kernel_rfl) (by kernel_rfl) (fun _ _ _ h => h) (Or.inl ⟨by rfl, ?_⟩) (by assumption) ?_
  rotate_left 1
  · (intro w hSw; (try dsimp only at hSw); (first | (go_simp; done) | (go_simp; with_reducible rfl)))
  try simp only [Act.put, List.getElem_toArray, List.getElem_cons_zero, List.getElem_cons_succ, List.setIfInBounds_toArray, List.set_cons_zero, List.set_cons_succ]
  refine wpAnyH_take (i := 8) (oi := _) (v := ?_) rfl (by kernel_rfl) (by kernel_rfl) (by kernel_rfl) (fun _ _ _ h => h) (Or.inl ⟨by rfl, ?_⟩) (by assumption) ?_
  rotate_left 1
  · (intro w hSw; (try dsimp only at hSw); (first | (go_simp; done) | (go_simp; with_reducible rfl)))
  try simp only [Act.put, List.getElem_toArray, List.getElem_cons_zero, List.getElem_cons_succ, List.setIfInBounds_toArray, List.set_cons_zero, List.set_cons_succ]
  refine wpAnyH_take (i := 9) (oi := _) (v := undef) rfl (by kernel_rfl) (by kernel_rfl) (by kernel_rfl) (fun _ _ _ h => h) (Or.inr ⟨by rfl, rfl⟩) (by assumption) ?_
  try simp only [Act.put, List.getElem_toArray, List.getElem_cons_zero, List.getElem_cons_succ, List.setIfInBounds_toArray, List.set_cons_zero, List.set_cons_succ]
  refine wpAnyH_take (i := 10) (oi := _) (v := undef) rfl (by kernel_rfl) (by kernel_rfl) (by kernel_rfl) (fun _ _ _ h => h) (Or.inr ⟨by rfl, rfl⟩) (by assumption) ?_
  try simp only [Act.put, List.getElem_toArray, List.getElem_cons_zero, List.getElem_cons_succ, List.setIfInBounds_toArray, List.set_cons_zero, List.set_cons_succ]
  refine wpAnyH_take (i := 11) (oi := _) (v := undef) rfl (by kernel_rfl) (by kernel_rfl) (by kernel_rfl) (fun _ _ _ h => h) (Or.inr ⟨by rfl, rfl⟩) (by assumption) ?_
  try simp only [Act.put, List.getElem_toArray, List.getElem_cons_zero, List.getElem_cons_succ, List.setIfInBounds_toArray, List.set_cons_zero, List.set_cons_succ]
  refine wpAnyH_take (i := 12) (oi := _) (v := undef) rfl (by kernel_rfl) (by kernel_rfl) (by kernel_rfl) (fun _ _ _ h => h) (Or.inr ⟨by rfl, rfl⟩) (by assumption) ?_
  try simp only [Act.put, List.getElem_toArray, List.getElem_cons_zero, List.getElem_cons_succ, List.setIfInBounds_toArray, List.set_cons_zero, List.set_cons_succ]
  refine wpAnyH_take (i := 13) (oi := _) (v := undef) rfl (by kernel_rfl) (by kernel_rfl) (by kernel_rfl) (fun _ _ _ h => h) (Or.inr ⟨by rfl, rfl⟩) (by assumption) ?_
  try simp only [Act.put, List.getElem_toArray, List.getElem_cons_zero, List.getElem_cons_succ, List.setIfInBounds_toArray, List.set_cons_zero, List.set_cons_succ]
  refine wpAnyH_take (i := 14) (oi := _) (v := undef) rfl (by kernel_rfl) (by kernel_rfl) (by kernel_rfl) (fun _ _ _ h => h) (Or.inr ⟨by rfl, rfl⟩) (by assumption) ?_
  try simp only [Act.put, List.getElem_toArray, List.getElem_cons_zero, List.getElem_cons_succ, List.setIfInBounds_toArray, List.set_cons_zero, List.set_cons_succ]
  refine wpAnyH_take (i := 15) (oi := _) (v := undef) rfl (by kernel_rfl) (by kernel_rfl) (by kernel_rfl) (fun _ _ _ h => h) (Or.inr ⟨by rfl, rfl⟩) (by assumption) ?_
  try simp only [Act.put, List.getElem_toArray, List.getElem_cons_zero, List.getElem_cons_succ, List.setIfInBounds_toArray, List.set_cons_zero, List.set_cons_succ]
  refine wpAnyH_take (i := 16) (oi := _) (v := undef) rfl (by kernel_rfl) (by kernel_rfl) (by kernel_rfl) (fun _ _ _ h => h) (Or.inr ⟨by rfl, rfl⟩) (by assumption) ?_
  try simp only [Act.put, List.getElem_toArray, List.getElem_cons_zero, List.getElem_cons_succ, List.setIfInBounds_toArray, List.set_cons_zero, List.set_cons_succ]
  refine wpAnyH_take (i := 17) (oi := _) (v := undef) rfl (by kernel_rfl) (by kernel_rfl) (by kernel_rfl) (fun _ _ _ h => h) (Or.inr ⟨by rfl, rfl⟩) (by assumption) ?_
  try simp only [Act.put, List.getElem_toArray, List.getElem_cons_zero, List.getElem_cons_succ, List.setIfInBounds_toArray, List.set_cons_zero, List.set_cons_succ]
  refine wpAnyH_take (i := 18) (oi := _) (v := undef) rfl (by kernel_rfl) (by kernel_rfl) (by kernel_rfl) (fun _ _ _ h => h) (Or.inr ⟨by rfl, rfl⟩) (by assumption) ?_
  try simp only [Act.put, List.getElem_toArray, List.getElem_cons_zero, List.getElem_cons_succ, List.setIfInBounds_toArray, List.set_cons_zero, List.set_cons_succ]
  refine wpAnyH_take (i := 19) (oi := _) (v := undef) rfl (by kernel_rfl) (by kernel_rfl) (by kernel_rfl) (fun _ _ _ h => h) (Or.inr ⟨by rfl, rfl⟩) (by assumption) ?_
  try simp only [Act.put, List.getElem_toArray, List.getElem_cons_zero, List.getElem_cons_succ, List.setIfInBounds_toArray, List.set_cons_zero, List.set_cons_succ]
  refine wpAnyH_take (i := 20) (oi := _) (v := undef) rfl (by kernel_rfl) (by kernel_rfl) (by kernel_rfl) (fun _ _ _ h => h) (Or.inr ⟨by rfl, rfl⟩) (by assumption) ?_
  try simp only [Act.put, List.getElem_toArray, List.getElem_cons_zero, List.getElem_cons_succ, List.setIfInBounds_toArray, List.set_cons_zero, List.set_cons_succ]
  refine wpAnyH_take (i := 21) (oi := _) (v := ?_) rfl (by kernel_rfl) (by kernel_rfl) (by kernel_rfl) (fun _ _ _ h => h) (Or.inl ⟨by rfl, ?_⟩) (by assumption) ?_
  rotate_left 1
  · (intro w hSw; (try dsimp only at hSw); (first | (go_simp; done) | (go_simp; with_reducible rfl)))
  try simp only [Act.put, List.getElem_toArray, List.getElem_cons_zero, List.getElem_cons_succ, List.setIfInBounds_toArray, List.set_cons_zero, List.set_cons_succ]
  refine wpAnyH_done (by kernel_rfl) ?_ _
  refine NoPanic.normal ?_
  go_wp2_with fail
  go_ret
  exact ⟨rfl, HB0.out.trans (HBa.out.mono HB0.out.size)⟩

set_option maxRecDepth 20000 in
set_option maxHeartbeats 4000000 in
theorem l6Frame_is (cb0 : Nat) (ad : Option Addr) (c : Nat) (l : List Cc) (a : F) (d : Bool) (p e x : Int) (sf : Value) (av ab : Option Addr) (nv cv cb : Nat) (bs : List Bd) (fk pl env fv : Int) (w : World) (hCl : Cl l a) (hC : CD w cb0 (.slice ad l.length c) l.length a) (ht : CRow w ad l) (h : BdRow w ab bs) (hb : bsOk nv bs = true) (hl : bs.length ≤ 1048576) (hv : nv ≤ 1048576) (hp : pOk a l.length bs pl env = true) :
    Calls Try.prog 77 #[.pointer (some ⟨cb0, 0, none⟩), .agg #[.bool d, .int .i64 p, .int .i64 e, .int .i64 x, sf, .slice av nv cv, .slice ab bs.length cb], .agg #[.int .i64 fk, .int .i64 pl, .int .i64 env, .int .i64 fv]] w fun r w' => r = .returned (.bool (fOk a l bs nv ⟨fk, pl, env, fv⟩)) ∧ Below w.heap.size w w' := by
  have hll := hCl.le
  have HD := hide (fun (w' : World) (hb' : Below w.heap.size w w') => l6Part_any cb0 ad c l a d p e x sf (.slice av nv cv) ab cb nv bs pl env w' hCl (hC.below hb') (h.below hb') hb hl)
  rw [hp] at HD
  obtain ⟨p1, p2, p3⟩ := pOk_iff.1 hp
  obtain ⟨q, rfl⟩ := Int.eq_ofNat_of_zero_le p1.1
  obtain ⟨k, hk⟩ : ∃ k : Nat, env = (k : Int) - 1 := ⟨(env + 1).toNat, by omega⟩
  subst hk
  have hql : q < l.length := by omega
  have hq' : (q : Int) < (l.length : Int) := p1.2
  have hq0 : (0 : Int) ≤ (q : Int) := p1.1
  obtain ⟨KD, hKD⟩ : ∃ KD, KD = l[q].k := ⟨_, rfl⟩
  have hfo : fOk a l bs nv ⟨fk, (q : Int), (k : Int) - 1, fv⟩ = (decide (KD = fk) && (if fk = 4 ∨ fk = 5 then decide (fv = -1) || blw fv nv else decide (fk = 6 ∨ fk = 7) && decide (fv = -1))) := by
    unfold fOk; simp only [hp, kAt_nat l q hql, Bool.true_and, hKD]
  rw [hfo]
  have HL := hide ht
  have HKD := hide hKD
  have HI := hide (fun (w' : World) => l6Val_any d p e x sf (.slice ab bs.length cb) av nv cv fv w' hv)
  obtain ⟨BV, hBV⟩ : ∃ BV, BV = blw fv nv := ⟨_, rfl⟩
  rw [← hBV] at HI ⊢
  obtain ⟨RES, hRES⟩ : ∃ RES, RES = (decide (KD = fk) && (if fk = 4 ∨ fk = 5 then decide (fv = -1) || BV else decide (fk = 6 ∨ fk = 7) && decide (fv = -1))) := ⟨_, rfl⟩
  rw [← hRES]
  have HRES := hide hRES
  have HCd := hide hC
  clear hRES hfo hp hb hCl hKD p1 p2 p3 hBV hC h ht
  go_enter Try.func77, Try.ntmps77
  go_upto_region 1 with fail
  have hB0 : Below w.heap.size w ((w.alloc (.cells #[.bool d, .int .i64 p, .int .i64 e, .int .i64 x, sf, .slice av nv cv, .slice ab bs.length cb] 28)).alloc (.cells #[.int .i64 fk, .int .i64 (q : Int), .int .i64 ((k : Int) - 1), .int .i64 fv] 96)) := ((Below.refl _ _).alloc (Nat.le_refl _) _).alloc (by simp) _
  have hX := (Bx.new w #[.bool d, .int .i64 p, .int .i64 e, .int .i64 x, sf, .slice av nv cv, .slice ab bs.length cb] 28).alloc (.cells #[.int .i64 fk, .int .i64 (q : Int), .int .i64 ((k : Int) - 1), .int .i64 fv] 96)
  have hY := Bx.new (w.alloc (.cells #[.bool d, .int .i64 p, .int .i64 e, .int .i64 x, sf, .slice av nv cv, .slice ab bs.length cb] 28)) #[.int .i64 fk, .int .i64 (q : Int), .int .i64 ((k : Int) - 1), .int .i64 fv] 96
  simp only [World.size_alloc] at hY
  obtain ⟨w0, hw0⟩ : ∃ w0, w0 = ((w.alloc (.cells #[.bool d, .int .i64 p, .int .i64 e, .int .i64 x, sf, .slice av nv cv, .slice ab bs.length cb] 28)).alloc (.cells #[.int .i64 fk, .int .i64 (q : Int), .int .i64 ((k : Int) - 1), .int .i64 fv] 96)) := ⟨_, rfl⟩
  obtain ⟨XB, hXB⟩ : ∃ XB, XB = w.heap.size := ⟨_, rfl⟩
  rw [← hw0] at hX hY hB0 ⊢
  rw [← hXB] at hX hY ⊢
  have xl : XB < w0.heap.size := hX.lt
  have yl : XB + 1 < w0.heap.size := hY.lt
  have HX := hide hX
  have HY := hide hY
  have cx := hX.c
  have cy := hY.c
  obtain ⟨kb, vb, hcx, -, -, -, -⟩ := HCd.out.ex
  have hcc := hcx.below hB0 hcx.lt
  have cl0 : cb0 < w0.heap.size := hcc.lt
  have cc := hcc.c
  clear hX hY hw0 hXB hcx hcc
  obtain ⟨b, o, rfl, hbl, q0, -⟩ := CRow.tok HL.out hB0 hql
  rw [← HKD.out] at q0
  have hbl0 : b < w0.heap.size := Nat.lt_of_lt_of_le hbl hB0.size
  by_cases hk1 : KD = fk
  · subst hk1
    have b0 : w0.cell? ⟨XB, 0, none⟩ = some (.bool d) := cx 0
    have b1 : w0.cell? ⟨XB, 1, none⟩ = some (.int .i64 p) := cx 1
    have b2 : w0.cell? ⟨XB, 2, none⟩ = some (.int .i64 e) := cx 2
    have b3 : w0.cell? ⟨XB, 3, none⟩ = some (.int .i64 x) := cx 3
    have b4 : w0.cell? ⟨XB, 4, none⟩ = some (sf) := cx 4
    have b5 : w0.cell? ⟨XB, 5, none⟩ = some (.slice av nv cv) := cx 5
    have b6 : w0.cell? ⟨XB, 6, none⟩ = some (.slice ab bs.length cb) := cx 6
    have b7 : w0.cell? ⟨XB + 1, 0, none⟩ = some (.int .i64 KD) := cy 0
    have b8 : w0.cell? ⟨XB + 1, 1, none⟩ = some (.int .i64 (q : Int)) := cy 1
    have b9 : w0.cell? ⟨XB + 1, 2, none⟩ = some (.int .i64 ((k : Int) - 1)) := cy 2
    have b10 : w0.cell? ⟨cb0, 0, none⟩ = some (.slice (some ⟨b, o, none⟩) l.length c) := cc 0
    have b11 : w0.cell? ⟨b, o + q * 2, none⟩ = some (.int .i64 KD) := q0
    have HB0 : Hid (Below w.heap.size w w0.drew) := hide (belowDrew hB0)
    clear cx cy cc
    refine wp_region_noPanic ?_
    refine wp_region_held_drew (S := fun w' => w'.cell? ⟨XB, 0, none⟩ = some (.bool d) ∧ w'.cell? ⟨XB, 1, none⟩ = some (.int .i64 p) ∧ w'.cell? ⟨XB, 2, none⟩ = some (.int .i64 e) ∧ w'.cell? ⟨XB, 3, none⟩ = some (.int .i64 x) ∧ w'.cell? ⟨XB, 4, none⟩ = some (sf) ∧ w'.cell? ⟨XB, 5, none⟩ = some (.slice av nv cv) ∧ w'.cell? ⟨XB, 6, none⟩ = some (.slice ab bs.length cb) ∧ w'.cell? ⟨XB + 1, 0, none⟩ = some (.int .i64 KD) ∧ w'.cell? ⟨XB + 1, 1, none⟩ = some (.int .i64 (q : Int)) ∧ w'.cell? ⟨XB + 1, 2, none⟩ = some (.int .i64 ((k : Int) - 1)) ∧ w'.cell? ⟨cb0, 0, none⟩ = some (.slice (some ⟨b, o, none⟩) l.length c) ∧ w'.cell? ⟨b, o + q * 2, none⟩ = some (.int .i64 KD)) (by kernel_rfl) ⟨b0, b1, b2, b3, b4, b5, b6, b7, b8, b9, b10, b11⟩ (fun hHeld => ?_)
    refine wpAnyH_take (i := 0) (oi := _) (v := ?_) rfl (by kernel_rfl) (by kernel_rfl) (by kernel_rfl) (fun _ _ _ h => h) (Or.inl ⟨by rfl, ?_⟩) (by assumption) ?_
    rotate_left 1
    · (intro w hSw; (try dsimp only at hSw); (first | (go_simp; done) | (go_simp; with_reducible rfl)))
    try simp only [Act.put, List.getElem_toArray, List.getElem_cons_zero, List.getElem_cons_succ, List.setIfInBounds_toArray, List.set_cons_zero, List.set_cons_succ]
    refine wpAnyH_take (i := 1) (oi := _) (v := ?_) rfl (by kernel_rfl) (by kernel_rfl) (by kernel_rfl) (fun _ _ _ h => h) (Or.inl ⟨by rfl, ?_⟩) (by assumption) ?_
    rotate_left 1
    · (intro w hSw; (try dsimp only at hSw); (first | (go_simp; done) | (go_simp; with_reducible rfl)))
    try simp only [Act.put, List.getElem_toArray, List.getElem_cons_zero, List.getElem_cons_succ, List.setIfInBounds_toArray, List.set_cons_zero, List.set_cons_succ]
    refine wpAnyH_take (i := 2) (oi := _) (v := ?_) rfl (by kernel_rfl) (by kernel_rfl) (by kernel_rfl) (fun _ _ _ h => h) (Or.inl ⟨by rfl, ?_⟩) (by assumption) ?_
    rotate_left 1
    · (intro w hSw; (try dsimp only at hSw); (first | (go_simp; done) | (go_simp; with_reducible rfl)))
    try simp only [Act.put, List.getElem_toArray, List.getElem_cons_zero, List.getElem_cons_succ, List.setIfInBounds_toArray, List.set_cons_zero, List.set_cons_succ]
    refine wpAnyH_take (i := 3) (oi := _) (v := ?_) rfl (by kernel_rfl) (by kernel_rfl) (by kernel_rfl) (fun _ _ _ h => h) (Or.inl ⟨by rfl, ?_⟩) (by assumption) ?_
    rotate_left 1
    · (intro w hSw; (try dsimp only at hSw); (first | (go_simp; done) | (go_simp; with_reducible rfl)))
    try simp only [Act.put, List.getElem_toArray, List.getElem_cons_zero, List.getElem_cons_succ, List.setIfInBounds_toArray, List.set_cons_zero, List.set_cons_succ]
    refine wpAnyH_take (i := 4) (oi := _) (v := ?_) rfl (by kernel_rfl) (by kernel_rfl) (by kernel_rfl) (fun _ _ _ h => h) (Or.inl ⟨by rfl, ?_⟩) (by assumption) ?_
    rotate_left 1
    · (intro w hSw; (try dsimp only at hSw); (first | (go_simp; done) | (go_simp; with_reducible rfl)))
    try simp only [Act.put, List.getElem_toArray, List.getElem_cons_zero, List.getElem_cons_succ, List.setIfInBounds_toArray, List.set_cons_zero, List.set_cons_succ]
    refine wpAnyH_take (i := 5) (oi := _) (v := ?_) rfl (by kernel_rfl) (by kernel_rfl) (by kernel_rfl) (fun _ _ _ h => h) (Or.inl ⟨by rfl, ?_⟩) (by assumption) ?_
    rotate_left 1
    · (intro w hSw; (try dsimp only at hSw); (first | (go_simp; done) | (go_simp; with_reducible rfl)))
    try simp only [Act.put, List.getElem_toArray, List.getElem_cons_zero, List.getElem_cons_succ, List.setIfInBounds_toArray, List.set_cons_zero, List.set_cons_succ]
    refine wpAnyH_ready (rs := [6]) (by kernel_rfl) (by simp) ?_
    refine AllReadyH.cons (o := _) rfl (fun K hK => ?_) AllReadyH.nil
    go_simp
    (with_reducible refine Calls.mono (HD.out _ HB0.out) ?_)
    rintro r wa ⟨rfl, hba⟩
    have HBa := hide hba
    have fa0 := (hba.cell (p := ⟨XB, 0, none⟩) (show XB < w0.heap.size by omega)).trans b0
    have fa1 := (hba.cell (p := ⟨XB, 1, none⟩) (show XB < w0.heap.size by omega)).trans b1
    have fa2 := (hba.cell (p := ⟨XB, 2, none⟩) (show XB < w0.heap.size by omega)).trans b2
    have fa3 := (hba.cell (p := ⟨XB, 3, none⟩) (show XB < w0.heap.size by omega)).trans b3
    have fa4 := (hba.cell (p := ⟨XB, 4, none⟩) (show XB < w0.heap.size by omega)).trans b4
    have fa5 := (hba.cell (p := ⟨XB, 5, none⟩) (show XB < w0.heap.size by omega)).trans b5
    have fa6 := (hba.cell (p := ⟨XB, 6, none⟩) (show XB < w0.heap.size by omega)).trans b6
    have fa7 := (hba.cell (p := ⟨XB + 1, 0, none⟩) (show XB + 1 < w0.heap.size by omega)).trans b7
    have fa8 := (hba.cell (p := ⟨XB + 1, 1, none⟩) (show XB + 1 < w0.heap.size by omega)).trans b8
    have fa9 := (hba.cell (p := ⟨XB + 1, 2, none⟩) (show XB + 1 < w0.heap.size by omega)).trans b9
    have fa10 := (hba.cell (p := ⟨cb0, 0, none⟩) (show cb0 < w0.heap.size by omega)).trans b10
    have fa11 := (hba.cell (p := ⟨b, o + q * 2, none⟩) (show b < w0.heap.size by omega)).trans b11
    clear hba
    (try go_wp2_with fail)
    refine hK.out _ _ ⟨fa0, fa1, fa2, fa3, fa4, fa5, fa6, fa7, fa8, fa9, fa10, fa11⟩ (fun hHeld => ?_)
    clear hK K
    try simp only [Act.put, List.getElem_toArray, List.getElem_cons_zero, List.getElem_cons_succ, List.setIfInBounds_toArray, List.set_cons_zero, List.set_cons_succ]
    refine wpAnyH_take (i := 7) (oi := _) (v := ?_) rfl (by kernel_rfl) (by kernel_rfl) (by kernel_rfl) (fun _ _ _ h => h) (Or.inl ⟨by rfl, ?_⟩) (by assumption) ?_
    rotate_left 1
    · (intro w hSw; (try dsimp only at hSw); (first | (go_simp; done) | (go_simp; with_reducible rfl)))
    try simp only [Act.put, List.getElem_toArray, List.getElem_cons_zero, List.getElem_cons_succ, List.setIfInBounds_toArray, List.set_cons_zero, List.set_cons_succ]
    refine wpAnyH_take (i := 8) (oi := _) (v := ?_) rfl (by kernel_rfl) (by kernel_rfl) (by kernel_rfl) (fun _ _ _ h => h) (Or.inl ⟨by rfl, ?_⟩) (by assumption) ?_
    rotate_left 1
    · (intro w hSw; (try dsimp only at hSw); (first | (go_simp; done) | (go_simp; with_reducible rfl)))
    try simp only [Act.put, List.getElem_toArray, List.getElem_cons_zero, List.getElem_cons_succ, List.setIfInBounds_toArray, List.set_cons_zero, List.set_cons_succ]
    refine wpAnyH_take (i := 9) (oi := _) (v := ?_) rfl (by kernel_rfl) (by kernel_rfl) (by kernel_rfl) (fun _ _ _ h => h) (Or.inl ⟨by rfl, ?_⟩) (by assumption) ?_
    rotate_left 1
    · (intro w hSw; (try dsimp only at hSw); (first | (go_simp; done) | (go_simp; with_reducible rfl)))
    try simp only [Act.put, List.getElem_toArray, List.getElem_cons_zero, List.getElem_cons_succ, List.setIfInBounds_toArray, List.set_cons_zero, List.set_cons_succ]
    refine wpAnyH_take (i := 10) (oi := _) (v := ?_) rfl (by kernel_rfl) (by kernel_rfl) (by kernel_rfl) (fun _ _ _ h => h) (Or.inl ⟨by rfl, ?_⟩) (by assumption) ?_
    rotate_left 1
    · (intro w hSw; (try dsimp only at hSw); (first | (go_simp; done) | (go_simp; with_reducible rfl)))
    try simp only [Act.put, List.getElem_toArray, List.getElem_cons_zero, List.getElem_cons_succ, List.setIfInBounds_toArray, List.set_cons_zero, List.set_cons_succ]
    refine wpAnyH_take (i := 11) (oi := _) (v := ?_) rfl (by kernel_rfl) (by kernel_rfl) (by kernel_rfl) (fun _ _ _ h => h) (Or.inl ⟨by rfl, ?_⟩) (by assumption) ?_
    rotate_left 1
    · (intro w hSw; (try dsimp only at hSw); (first | (go_simp; done) | (go_simp; with_reducible rfl)))
    try simp only [Act.put, List.getElem_toArray, List.getElem_cons_zero, List.getElem_cons_succ, List.setIfInBounds_toArray, List.set_cons_zero, List.set_cons_succ]
    refine wpAnyH_take (i := 12) (oi := _) (v := ?_) rfl (by kernel_rfl) (by kernel_rfl) (by kernel_rfl) (fun _ _ _ h => h) (Or.inl ⟨by rfl, ?_⟩) (by assumption) ?_
    rotate_left 1
    · (intro w hSw; (try dsimp only at hSw); (first | (go_simp; done) | (go_simp; with_reducible rfl)))
    try simp only [Act.put, List.getElem_toArray, List.getElem_cons_zero, List.getElem_cons_succ, List.setIfInBounds_toArray, List.set_cons_zero, List.set_cons_succ]
    refine wpAnyH_take (i := 13) (oi := _) (v := ?_) rfl (by kernel_rfl) (by kernel_rfl) (by kernel_rfl) (fun _ _ _ h => h) (Or.inl ⟨by rfl, ?_⟩) (by assumption) ?_
    rotate_left 1
    · (intro w hSw; (try dsimp only at hSw); (first | (go_simp; done) | (go_simp; with_reducible rfl)))
    try simp only [Act.put, List.getElem_toArray, List.getElem_cons_zero, List.getElem_cons_succ, List.setIfInBounds_toArray, List.set_cons_zero, List.set_cons_succ]
    refine wpAnyH_take (i := 14) (oi := _) (v := ?_) rfl (by kernel_rfl) (by kernel_rfl) (by kernel_rfl) (fun _ _ _ h => h) (Or.inl ⟨by rfl, ?_⟩) (by assumption) ?_
    rotate_left 1
    · (intro w hSw; (try dsimp only at hSw); (first | (go_simp; done) | (go_simp; with_reducible rfl)))
    try simp only [Act.put, List.getElem_toArray, List.getElem_cons_zero, List.getElem_cons_succ, List.setIfInBounds_toArray, List.set_cons_zero, List.set_cons_succ]
    refine wpAnyH_take (i := 15) (oi := _) (v := ?_) rfl (by kernel_rfl) (by kernel_rfl) (by kernel_rfl) (fun _ _ _ h => h) (Or.inl ⟨by rfl, ?_⟩) (by assumption) ?_
    rotate_left 1
    · (intro w hSw; (try dsimp only at hSw); (first | (go_simp; done) | (go_simp; with_reducible rfl)))
    try simp only [Act.put, List.getElem_toArray, List.getElem_cons_zero, List.getElem_cons_succ, List.setIfInBounds_toArray, List.set_cons_zero, List.set_cons_succ]
    refine wpAnyH_take (i := 16) (oi := _) (v := ?_) rfl (by kernel_rfl) (by kernel_rfl) (by kernel_rfl) (fun _ _ _ h => h) (Or.inl ⟨by rfl, ?_⟩) (by assumption) ?_
    rotate_left 1
    · (intro w hSw; (try dsimp only at hSw); (first | (go_simp; done) | (go_simp; with_reducible rfl)))
    try simp only [Act.put, List.getElem_toArray, List.getElem_cons_zero, List.getElem_cons_succ, List.setIfInBounds_toArray, List.set_cons_zero, List.set_cons_succ]
    refine wpAnyH_take (i := 17) (oi := _) (v := ?_) rfl (by kernel_rfl) (by kernel_rfl) (by kernel_rfl) (fun _ _ _ h => h) (Or.inl ⟨by rfl, ?_⟩) (by assumption) ?_
    rotate_left 1
    · (intro w hSw; (try dsimp only at hSw); (first | (go_simp; done) | (go_simp; with_reducible rfl)))
    try simp only [Act.put, List.getElem_toArray, List.getElem_cons_zero, List.getElem_cons_succ, List.setIfInBounds_toArray, List.set_cons_zero, List.set_cons_succ]
    refine wpAnyH_take (i := 18) (oi := _) (v := ?_) rfl (by kernel_rfl) (by kernel_rfl) (by kernel_rfl) (fun _ _ _ h => h) (Or.inl ⟨by rfl, ?_⟩) (by assumption) ?_
    rotate_left 1
    · (intro w hSw; (try dsimp only at hSw); (first | (go_simp; done) | (go_simp; with_reducible rfl)))
    try simp only [Act.put, List.getElem_toArray, List.getElem_cons_zero, List.getElem_cons_succ, List.setIfInBounds_toArray, List.set_cons_zero, List.set_cons_succ]
    refine wpAnyH_take (i := 19) (oi := _) (v := ?_) rfl (by kernel_rfl) (by kernel_rfl) (by kernel_rfl) (fun _ _ _ h => h) (Or.inl ⟨by rfl, ?_⟩) (by assumption) ?_
    rotate_left 1
    · (intro w hSw; (try dsimp only at hSw); (first | (go_simp; done) | (go_simp; with_reducible rfl)))
    try simp only [Act.put, List.getElem_toArray, List.getElem_cons_zero, List.getElem_cons_succ, List.setIfInBounds_toArray, List.set_cons_zero, List.set_cons_succ]
    refine wpAnyH_take (i := 20) (oi := _) (v := ?_) rfl (by kernel_rfl) (by kernel_rfl) (by kernel_rfl) (fun _ _ _ h => h) (Or.inl ⟨by rfl, ?_⟩) (by assumption) ?_
    rotate_left 1
    · (intro w hSw; (try dsimp only at hSw); (first | (go_simp; done) | (go_simp; with_reducible rfl)))
    try simp only [Act.put, List.getElem_toArray, List.getElem_cons_zero, List.getElem_cons_succ, List.setIfInBounds_toArray, List.set_cons_zero, List.set_cons_succ]
    refine wpAnyH_take (i := 21) (oi := _) (v := ?_) rfl (by kernel_rfl) (by kernel_rfl) (by kernel_rfl) (fun _ _ _ h => h) (Or.inl ⟨by rfl, ?_⟩) (by assumption) ?_
    rotate_left 1
    · (intro w hSw; (try dsimp only at hSw); (first | (go_simp; done) | (go_simp; with_reducible rfl)))
    try simp only [Act.put, List.getElem_toArray, List.getElem_cons_zero, List.getElem_cons_succ, List.setIfInBounds_toArray, List.set_cons_zero, List.set_cons_succ]
    refine wpAnyH_done (by kernel_rfl) ?_ _
    refine NoPanic.normal ?_
    have hBB : Below w.heap.size w wa := HB0.out.trans (HBa.out.mono HB0.out.size)
    have cx1 := ((HX.out.drew).below HBa.out xl).c
    have cy1 := ((HY.out.drew).below HBa.out yl).c
    clear b0 b1 b2 b3 b4 b5 b6 b7 b8 b9 b10 b11
    clear fa0 fa1 fa2 fa3 fa4 fa5 fa6 fa7 fa8 fa9 fa10 fa11
    by_cases h4 : KD = 4
    · subst h4
      by_cases hv1 : fv = -1
      · subst hv1
        go_wp2_with fail
        go_ret
        exact ⟨ret_bool (by rw [HRES.out]; simp), hBB⟩
      · go_wp2_with fail
        refine (HI.out _).mono ?_
        rintro r w2 ⟨rfl, hb2⟩
        have hB2 : Below w.heap.size w w2 := hBB.trans (hb2.mono hBB.size)
        clear hb2 cx1 cy1
        go_wp2_with fail
        go_ret
        exact ⟨ret_bool (by rw [HRES.out]; simp [hv1]), hB2⟩
    · by_cases h5 : KD = 5
      · subst h5
        by_cases hv1 : fv = -1
        · subst hv1
          go_wp2_with fail
          go_ret
          exact ⟨ret_bool (by rw [HRES.out]; simp), hBB⟩
        · go_wp2_with fail
          refine (HI.out _).mono ?_
          rintro r w2 ⟨rfl, hb2⟩
          have hB2 : Below w.heap.size w w2 := hBB.trans (hb2.mono hBB.size)
          clear hb2 cx1 cy1
          go_wp2_with fail
          go_ret
          exact ⟨ret_bool (by rw [HRES.out]; simp [hv1]), hB2⟩
      · by_cases h6 : KD = 6
        · subst h6
          by_cases hv1 : fv = -1
          · subst hv1
            go_wp2_with fail
            go_ret
            exact ⟨ret_bool (by rw [HRES.out]; simp), hBB⟩
          · go_wp2_with fail
            go_ret
            exact ⟨ret_bool (by rw [HRES.out]; simp [hv1]), hBB⟩
        · by_cases h7 : KD = 7
          · subst h7
            by_cases hv1 : fv = -1
            · subst hv1
              go_wp2_with fail
              go_ret
              exact ⟨ret_bool (by rw [HRES.out]; simp), hBB⟩
            · go_wp2_with fail
              go_ret
              exact ⟨ret_bool (by rw [HRES.out]; simp [hv1]), hBB⟩
          · go_wp2_with fail
            go_ret
            exact ⟨ret_bool (by rw [HRES.out]; simp [h4, h5, h6, h7]), hBB⟩
  · skip
    have b0 : w0.cell? ⟨XB, 0, none⟩ = some (.bool d) := cx 0
    have b1 : w0.cell? ⟨XB, 1, none⟩ = some (.int .i64 p) := cx 1
    have b2 : w0.cell? ⟨XB, 2, none⟩ = some (.int .i64 e) := cx 2
    have b3 : w0.cell? ⟨XB, 3, none⟩ = some (.int .i64 x) := cx 3
    have b4 : w0.cell? ⟨XB, 4, none⟩ = some (sf) := cx 4
    have b5 : w0.cell? ⟨XB, 5, none⟩ = some (.slice av nv cv) := cx 5
    have b6 : w0.cell? ⟨XB, 6, none⟩ = some (.slice ab bs.length cb) := cx 6
    have b7 : w0.cell? ⟨XB + 1, 0, none⟩ = some (.int .i64 fk) := cy 0
    have b8 : w0.cell? ⟨XB + 1, 1, none⟩ = some (.int .i64 (q : Int)) := cy 1
    have b9 : w0.cell? ⟨XB + 1, 2, none⟩ = some (.int .i64 ((k : Int) - 1)) := cy 2
    have b10 : w0.cell? ⟨cb0, 0, none⟩ = some (.slice (some ⟨b, o, none⟩) l.length c) := cc 0
    have b11 : w0.cell? ⟨b, o + q * 2, none⟩ = some (.int .i64 KD) := q0
    have HB0 : Hid (Below w.heap.size w w0.drew) := hide (belowDrew hB0)
    clear cx cy cc
    refine wp_region_noPanic ?_
    refine wp_region_held_drew (S := fun w' => w'.cell? ⟨XB, 0, none⟩ = some (.bool d) ∧ w'.cell? ⟨XB, 1, none⟩ = some (.int .i64 p) ∧ w'.cell? ⟨XB, 2, none⟩ = some (.int .i64 e) ∧ w'.cell? ⟨XB, 3, none⟩ = some (.int .i64 x) ∧ w'.cell? ⟨XB, 4, none⟩ = some (sf) ∧ w'.cell? ⟨XB, 5, none⟩ = some (.slice av nv cv) ∧ w'.cell? ⟨XB, 6, none⟩ = some (.slice ab bs.length cb) ∧ w'.cell? ⟨XB + 1, 0, none⟩ = some (.int .i64 fk) ∧ w'.cell? ⟨XB + 1, 1, none⟩ = some (.int .i64 (q : Int)) ∧ w'.cell? ⟨XB + 1, 2, none⟩ = some (.int .i64 ((k : Int) - 1)) ∧ w'.cell? ⟨cb0, 0, none⟩ = some (.slice (some ⟨b, o, none⟩) l.length c) ∧ w'.cell? ⟨b, o + q * 2, none⟩ = some (.int .i64 KD)) (by kernel_rfl) ⟨b0, b1, b2, b3, b4, b5, b6, b7, b8, b9, b10, b11⟩ (fun hHeld => ?_)
    refine wpAnyH_take (i := 0) (oi := _) (v := ?_) rfl (by kernel_rfl) (by kernel_rfl) (by kernel_rfl) (fun _ _ _ h => h) (Or.inl ⟨by rfl, ?_⟩) (by assumption) ?_
    rotate_left 1
    · (intro w hSw; (try dsimp only at hSw); (first | (go_simp; done) | (go_simp; with_reducible rfl)))
    try simp only [Act.put, List.getElem_toArray, List.getElem_cons_zero, List.getElem_cons_succ, List.setIfInBounds_toArray, List.set_cons_zero, List.set_cons_succ]
    refine wpAnyH_take (i := 1) (oi := _) (v := ?_) rfl (by kernel_rfl) (by kernel_rfl) (by kernel_rfl) (fun _ _ _ h => h) (Or.inl ⟨by rfl, ?_⟩) (by assumption) ?_
    rotate_left 1
    · (intro w hSw; (try dsimp only at hSw); (first | (go_simp; done) | (go_simp; with_reducible rfl)))
    try simp only [Act.put, List.getElem_toArray, List.getElem_cons_zero, List.getElem_cons_succ, List.setIfInBounds_toArray, List.set_cons_zero, List.set_cons_succ]
    refine wpAnyH_take (i := 2) (oi := _) (v := ?_) rfl (by kernel_rfl) (by kernel_rfl) (by kernel_rfl) (fun _ _ _ h => h) (Or.inl ⟨by rfl, ?_⟩) (by assumption) ?_
    rotate_left 1
    · (intro w hSw; (try dsimp only at hSw); (first | (go_simp; done) | (go_simp; with_reducible rfl)))
    try simp only [Act.put, List.getElem_toArray, List.getElem_cons_zero, List.getElem_cons_succ, List.setIfInBounds_toArray, List.set_cons_zero, List.set_cons_succ]
    refine wpAnyH_take (i := 3) (oi := _) (v := ?_) rfl (by kernel_rfl) (by kernel_rfl) (by kernel_rfl) (fun _ _ _ h => h) (Or.inl ⟨by rfl, ?_⟩) (by assumption) ?_
    rotate_left 1
    · (intro w hSw; (try dsimp only at hSw); (first | (go_simp; done) | (go_simp; with_reducible rfl)))
    try simp only [Act.put, List.getElem_toArray, List.getElem_cons_zero, List.getElem_cons_succ, List.setIfInBounds_toArray, List.set_cons_zero, List.set_cons_succ]
    refine wpAnyH_take (i := 4) (oi := _) (v := ?_) rfl (by kernel_rfl) (by kernel_rfl) (by kernel_rfl) (fun _ _ _ h => h) (Or.inl ⟨by rfl, ?_⟩) (by assumption) ?_
    rotate_left 1
    · (intro w hSw; (try dsimp only at hSw); (first | (go_simp; done) | (go_simp; with_reducible rfl)))
    try simp only [Act.put, List.getElem_toArray, List.getElem_cons_zero, List.getElem_cons_succ, List.setIfInBounds_toArray, List.set_cons_zero, List.set_cons_succ]
    refine wpAnyH_take (i := 5) (oi := _) (v := ?_) rfl (by kernel_rfl) (by kernel_rfl) (by kernel_rfl) (fun _ _ _ h => h) (Or.inl ⟨by rfl, ?_⟩) (by assumption) ?_
    rotate_left 1
    · (intro w hSw; (try dsimp only at hSw); (first | (go_simp; done) | (go_simp; with_reducible rfl)))
    try simp only [Act.put, List.getElem_toArray, List.getElem_cons_zero, List.getElem_cons_succ, List.setIfInBounds_toArray, List.set_cons_zero, List.set_cons_succ]
    refine wpAnyH_ready (rs := [6]) (by kernel_rfl) (by simp) ?_
    refine AllReadyH.cons (o := _) rfl (fun K hK => ?_) AllReadyH.nil
    go_simp
    (with_reducible refine Calls.mono (HD.out _ HB0.out) ?_)
    rintro r wa ⟨rfl, hba⟩
    have HBa := hide hba
    have fa0 := (hba.cell (p := ⟨XB, 0, none⟩) (show XB < w0.heap.size by omega)).trans b0
    have fa1 := (hba.cell (p := ⟨XB, 1, none⟩) (show XB < w0.heap.size by omega)).trans b1
    have fa2 := (hba.cell (p := ⟨XB, 2, none⟩) (show XB < w0.heap.size by omega)).trans b2
    have fa3 := (hba.cell (p := ⟨XB, 3, none⟩) (show XB < w0.heap.size by omega)).trans b3
    have fa4 := (hba.cell (p := ⟨XB, 4, none⟩) (show XB < w0.heap.size by omega)).trans b4
    have fa5 := (hba.cell (p := ⟨XB, 5, none⟩) (show XB < w0.heap.size by omega)).trans b5
    have fa6 := (hba.cell (p := ⟨XB, 6, none⟩) (show XB < w0.heap.size by omega)).trans b6
    have fa7 := (hba.cell (p := ⟨XB + 1, 0, none⟩) (show XB + 1 < w0.heap.size by omega)).trans b7
    have fa8 := (hba.cell (p := ⟨XB + 1, 1, none⟩) (show XB + 1 < w0.heap.size by omega)).trans b8
    have fa9 := (hba.cell (p := ⟨XB + 1, 2, none⟩) (show XB + 1 < w0.heap.size by omega)).trans b9
    have fa10 := (hba.cell (p := ⟨cb0, 0, none⟩) (show cb0 < w0.heap.size by omega)).trans b10
    have fa11 := (hba.cell (p := ⟨b, o + q * 2, none⟩) (show b < w0.heap.size by omega)).trans b11
    clear hba
    (try go_wp2_with fail)
    refine hK.out _ _ ⟨fa0, fa1, fa2, fa3, fa4, fa5, fa6, fa7, fa8, fa9, fa10, fa11⟩ (fun hHeld => ?_)
    clear hK K
    try simp only [Act.put, List.getElem_toArray, List.getElem_cons_zero, List.getElem_cons_succ, List.setIfInBounds_toArray, List.set_cons_zero, List.set_cons_succ]
    refine wpAnyH_take (i := 7) (oi := _) (v := ?_) rfl (by kernel_rfl) (by kernel_rfl) (by kernel_rfl) (fun _ _ _ h => h) (Or.inl ⟨by rfl, ?_⟩) (by assumption) ?_
    rotate_left 1
    · (intro w hSw; (try dsimp only at hSw); (first | (go_simp; done) | (go_simp; with_reducible rfl)))
    try simp only [Act.put, List.getElem_toArray, List.getElem_cons_zero, List.getElem_cons_succ, List.setIfInBounds_toArray, List.set_cons_zero, List.set_cons_succ]
    refine wpAnyH_take (i := 8) (oi := _) (v := ?_) rfl (by kernel_rfl) (by kernel_rfl) (by kernel_rfl) (fun _ _ _ h => h) (Or.inl ⟨by rfl, ?_⟩) (by assumption) ?_
    rotate_left 1
    · (intro w hSw; (try dsimp only at hSw); (first | (go_simp; done) | (go_simp; with_reducible rfl)))
    try simp only [Act.put, List.getElem_toArray, List.getElem_cons_zero, List.getElem_cons_succ, List.setIfInBounds_toArray, List.set_cons_zero, List.set_cons_succ]
    refine wpAnyH_take (i := 9) (oi := _) (v := ?_) rfl (by kernel_rfl) (by kernel_rfl) (by kernel_rfl) (fun _ _ _ h => h) (Or.inl ⟨by rfl, ?_⟩) (by assumption) ?_
    rotate_left 1
    · (intro w hSw; (try dsimp only at hSw); (first | (go_simp; done) | (go_simp; with_reducible rfl)))
    try simp only [Act.put, List.getElem_toArray, List.getElem_cons_zero, List.getElem_cons_succ, List.setIfInBounds_toArray, List.set_cons_zero, List.set_cons_succ]
    refine wpAnyH_take (i := 10) (oi := _) (v := ?_) rfl (by kernel_rfl) (by kernel_rfl) (by kernel_rfl) (fun _ _ _ h => h) (Or.inl ⟨by rfl, ?_⟩) (by assumption) ?_
    rotate_left 1
    · (intro w hSw; (try dsimp only at hSw); (first | (go_simp; done) | (go_simp; with_reducible rfl)))
    try simp only [Act.put, List.getElem_toArray, List.getElem_cons_zero, List.getElem_cons_succ, List.setIfInBounds_toArray, List.set_cons_zero, List.set_cons_succ]
    refine wpAnyH_take (i := 11) (oi := _) (v := ?_) rfl (by kernel_rfl) (by kernel_rfl) (by kernel_rfl) (fun _ _ _ h => h) (Or.inl ⟨by rfl, ?_⟩) (by assumption) ?_
    rotate_left 1
    · (intro w hSw; (try dsimp only at hSw); (first | (go_simp; done) | (go_simp; with_reducible rfl)))
    try simp only [Act.put, List.getElem_toArray, List.getElem_cons_zero, List.getElem_cons_succ, List.setIfInBounds_toArray, List.set_cons_zero, List.set_cons_succ]
    refine wpAnyH_take (i := 12) (oi := _) (v := ?_) rfl (by kernel_rfl) (by kernel_rfl) (by kernel_rfl) (fun _ _ _ h => h) (Or.inl ⟨by rfl, ?_⟩) (by assumption) ?_
    rotate_left 1
    · (intro w hSw; (try dsimp only at hSw); (first | (go_simp; done) | (go_simp; with_reducible rfl)))
    try simp only [Act.put, List.getElem_toArray, List.getElem_cons_zero, List.getElem_cons_succ, List.setIfInBounds_toArray, List.set_cons_zero, List.set_cons_succ]
    refine wpAnyH_take (i := 13) (oi := _) (v := ?_) rfl (by kernel_rfl) (by kernel_rfl) (by kernel_rfl) (fun _ _ _ h => h) (Or.inl ⟨by rfl, ?_⟩) (by assumption) ?_
    rotate_left 1
    · (intro w hSw; (try dsimp only at hSw); (first | (go_simp; done) | (go_simp; with_reducible rfl)))
    try simp only [Act.put, List.getElem_toArray, List.getElem_cons_zero, List.getElem_cons_succ, List.setIfInBounds_toArray, List.set_cons_zero, List.set_cons_succ]
    refine wpAnyH_take (i := 14) (oi := _) (v := ?_) rfl (by kernel_rfl) (by kernel_rfl) (by kernel_rfl) (fun _ _ _ h => h) (Or.inl ⟨by rfl, ?_⟩) (by assumption) ?_
    rotate_left 1
    · (intro w hSw; (try dsimp only at hSw); (first | (go_simp; done) | (go_simp; with_reducible rfl)))
    try simp only [Act.put, List.getElem_toArray, List.getElem_cons_zero, List.getElem_cons_succ, List.setIfInBounds_toArray, List.set_cons_zero, List.set_cons_succ]
    refine wpAnyH_take (i := 15) (oi := _) (v := ?_) rfl (by kernel_rfl) (by kernel_rfl) (by kernel_rfl) (fun _ _ _ h => h) (Or.inl ⟨by rfl, ?_⟩) (by assumption) ?_
    rotate_left 1
    · (intro w hSw; (try dsimp only at hSw); (first | (go_simp; done) | (go_simp; with_reducible rfl)))
    try simp only [Act.put, List.getElem_toArray, List.getElem_cons_zero, List.getElem_cons_succ, List.setIfInBounds_toArray, List.set_cons_zero, List.set_cons_succ]
    refine wpAnyH_take (i := 16) (oi := _) (v := ?_) rfl (by kernel_rfl) (by kernel_rfl) (by kernel_rfl) (fun _ _ _ h => h) (Or.inl ⟨by rfl, ?_⟩) (by assumption) ?_
    rotate_left 1
    · (intro w hSw; (try dsimp only at hSw); (first | (go_simp; done) | (go_simp; with_reducible rfl)))
    try simp only [Act.put, List.getElem_toArray, List.getElem_cons_zero, List.getElem_cons_succ, List.setIfInBounds_toArray, List.set_cons_zero, List.set_cons_succ]
    refine wpAnyH_take (i := 17) (oi := _) (v := ?_) rfl (by kernel_rfl) (by kernel_rfl) (by kernel_rfl) (fun _ _ _ h => h) (Or.inl ⟨by rfl, ?_⟩) (by assumption) ?_
    rotate_left 1
    · (intro w hSw; (try dsimp only at hSw); (first | (go_simp; done) | (go_simp; with_reducible rfl)))
    try simp only [Act.put, List.getElem_toArray, List.getElem_cons_zero, List.getElem_cons_succ, List.setIfInBounds_toArray, List.set_cons_zero, List.set_cons_succ]
    refine wpAnyH_take (i := 18) (oi := _) (v := ?_) rfl (by kernel_rfl) (by kernel_rfl) (by kernel_rfl) (fun _ _ _ h => h) (Or.inl ⟨by rfl, ?_⟩) (by assumption) ?_
    rotate_left 1
    · (intro w hSw; (try dsimp only at hSw); (first | (go_simp; done) | (go_simp; with_reducible rfl)))
    try simp only [Act.put, List.getElem_toArray, List.getElem_cons_zero, List.getElem_cons_succ, List.setIfInBounds_toArray, List.set_cons_zero, List.set_cons_succ]
    refine wpAnyH_take (i := 19) (oi := _) (v := ?_) rfl (by kernel_rfl) (by kernel_rfl) (by kernel_rfl) (fun _ _ _ h => h) (Or.inl ⟨by rfl, ?_⟩) (by assumption) ?_
    rotate_left 1
    · (intro w hSw; (try dsimp only at hSw); (first | (go_simp; done) | (go_simp; with_reducible rfl)))
    try simp only [Act.put, List.getElem_toArray, List.getElem_cons_zero, List.getElem_cons_succ, List.setIfInBounds_toArray, List.set_cons_zero, List.set_cons_succ]
    refine wpAnyH_take (i := 20) (oi := _) (v := ?_) rfl (by kernel_rfl) (by kernel_rfl) (by kernel_rfl) (fun _ _ _ h => h) (Or.inl ⟨by rfl, ?_⟩) (by assumption) ?_
    rotate_left 1
    · (intro w hSw; (try dsimp only at hSw); (first | (go_simp; done) | (go_simp; with_reducible rfl)))
    try simp only [Act.put, List.getElem_toArray, List.getElem_cons_zero, List.getElem_cons_succ, List.setIfInBounds_toArray, List.set_cons_zero, List.set_cons_succ]
    refine wpAnyH_take (i := 21) (oi := _) (v := ?_) rfl (by kernel_rfl) (by kernel_rfl) (by kernel_rfl) (fun _ _ _ h => h) (Or.inl ⟨by rfl, ?_⟩) (by assumption) ?_
    rotate_left 1
    · (intro w hSw; (try dsimp only at hSw); (first | (go_simp; done) | (go_simp; with_reducible rfl)))
    try simp only [Act.put, List.getElem_toArray, List.getElem_cons_zero, List.getElem_cons_succ, List.setIfInBounds_toArray, List.set_cons_zero, List.set_cons_succ]
    refine wpAnyH_done (by kernel_rfl) ?_ _
    refine NoPanic.normal ?_
    have hBB : Below w.heap.size w wa := HB0.out.trans (HBa.out.mono HB0.out.size)
    go_wp2_with fail
    go_ret
    exact ⟨ret_bool (by rw [HRES.out]; simp [hk1]), hBB⟩
theorem l6Frame_any (cb0 : Nat) (ad : Option Addr) (c : Nat) (l : List Cc) (a : F) (d : Bool) (p e x : Int) (sf : Value) (av ab : Option Addr) (nv cv cb : Nat) (bs : List Bd) (f : Fm) (w : World) (hCl : Cl l a) (hC : CD w cb0 (.slice ad l.length c) l.length a) (ht : CRow w ad l) (h : BdRow w ab bs) (hb : bsOk nv bs = true) (hl : bs.length ≤ 1048576) (hv : nv ≤ 1048576) :
    Calls Try.prog 77 #[.pointer (some ⟨cb0, 0, none⟩), .agg #[.bool d, .int .i64 p, .int .i64 e, .int .i64 x, sf, .slice av nv cv, .slice ab bs.length cb], f.v] w fun r w' => r = .returned (.bool (fOk a l bs nv f)) ∧ Below w.heap.size w w' := by
  obtain ⟨fk, pl, env, fv⟩ := f
  cases hp : pOk a l.length bs pl env with
  | true => exact l6Frame_is cb0 ad c l a d p e x sf av ab nv cv cb bs fk pl env fv w hCl hC ht h hb hl hv hp
  | false =>
    rw [show fOk a l bs nv ⟨fk, pl, env, fv⟩ = false by unfold fOk; simp [hp]]
    exact l6Frame_not cb0 ad c l a d p e x sf av ab nv cv cb bs fk pl env fv w hCl hC ht h hb hl hv hp
end Go.Proofs.Ytdajalchdbgooaa.W

/-
  Contracts of come and next of a running machine. No conditions.
-/
namespace Go.Proofs.Ytdajalchdbgooaa.W
open Go.ChangeShapes Go.WideShapes Go.ChangeAt Go.RowKit
set_option linter.unusedVariables false

set_option maxHeartbeats 1000000 in
theorem come_any (rb lo : Nat) (tv : Value) (m : Mc) (v : Int) (w : World) (h : RB w rb lo tv m) :
    Calls Try.prog 101 #[.pointer (some ⟨rb, 0, none⟩), .int .i64 v] w fun e w' => e = .returned (.tuple #[]) ∧ RB w' rb lo tv (comeM m v) ∧ Oth rb w w' := by
  have HR := hide h
  obtain ⟨sf, sv, sb, h1, -⟩ := h
  have hc := h1.c
  have hf := h1.f
  clear h1
  go_enter Try.func101, Try.ntmps101
  go_wp2_with fail
  refine bodyPost_end (results_none rfl _ _ _) rfl ?_
  refine ⟨rfl, RB.write HR.out ?_ (fun sf sv sb hx => ?_), ?_⟩
  · exact oth_set (oth_set (oth_set (oth_set (Oth.refl _ _) _ _) _ _) _ _) _ _
  · have := (((hx.set 1 (.bool true)).set 2 (.int .i64 (-1))).set 3 (.int .i64 (-1))).set 4 (.int .i64 v)
    simpa using this
  · exact oth_set (oth_set (oth_set (oth_set (Oth.refl _ _) _ _) _ _) _ _) _ _

set_option maxHeartbeats 2000000 in
theorem next_any (rb lo : Nat) (tv tv' : Value) (m : Mc) (p e : Int) (w : World) (h : RB w rb lo tv m) :
    Calls Try.prog 103 #[.pointer (some ⟨rb, 0, none⟩), .agg #[tv', .int .i64 p, .int .i64 e]] w fun r w' => r = .returned (.tuple #[]) ∧ RB w' rb lo tv (nextM m p e) ∧ Oth rb w w' := by
  have HR := hide h
  have hlt := h.lt.1
  obtain ⟨sf, sv, sb, h1, -⟩ := h
  clear h1
  go_enter Try.func103, Try.ntmps103
  go_wp2_with fail
  have hp := Bx.new w #[tv', .int .i64 p, .int .i64 e] 163
  have hB0 : Below w.heap.size w (w.alloc (.cells #[tv', .int .i64 p, .int .i64 e] 163)) := (Below.refl _ _).alloc (Nat.le_refl _) _
  obtain ⟨w0, hw0⟩ : ∃ w0, w0 = w.alloc (.cells #[tv', .int .i64 p, .int .i64 e] 163) := ⟨_, rfl⟩
  rw [← hw0] at hp hB0 ⊢
  clear hw0
  have HR0 := hide (HR.out.below hB0)
  obtain ⟨sf, sv, sb, h1, -⟩ := HR0.out
  have hc := h1.c
  have hf := h1.f
  have hp0 : w0.cell? ⟨w.heap.size, 1, none⟩ = some (.int .i64 p) := hp.c 1
  have hp1 : w0.cell? ⟨w.heap.size, 2, none⟩ = some (.int .i64 e) := hp.c 2
  have hne : ¬ w.heap.size = rb := by omega
  have hne' : ¬ rb = w.heap.size := by omega
  clear h1 hp
  go_region_held3 (fun w' => w'.cell? ⟨w.heap.size, 1, none⟩ = some (.int .i64 p) ∧ w'.cell? ⟨w.heap.size, 2, none⟩ = some (.int .i64 e)) (go_keep)
    (first | fail)
  go_wp2_with fail
  refine bodyPost_end (results_none rfl _ _ _) rfl ?_
  have hO : Oth rb w0 ((((w0.setCell ⟨rb, 1, none⟩ (.bool false)).setCell ⟨rb, 2, none⟩ (.int .i64 p)).setCell ⟨rb, 3, none⟩ (.int .i64 e)).setCell ⟨rb, 4, none⟩ (.int .i64 (-1))).drew := oth_drew (oth_set (oth_set (oth_set (oth_set (Oth.refl _ _) _ _) _ _) _ _) _ _)
  refine ⟨rfl, RB.write HR0.out hO (fun sf sv sb hx => ?_), (Oth.ofBelow hB0).trans hO⟩
  have := (((hx.set 1 (.bool false)).set 2 (.int .i64 p)).set 3 (.int .i64 e)).set 4 (.int .i64 (-1))
  simpa using this.drew

end Go.Proofs.Ytdajalchdbgooaa.W
