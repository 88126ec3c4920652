/-
  Some texts of this proof in one: GmB1, GmB2, GmB3.
-/
import Derived.Test.YtdajalchdbgooaaJ12
import Derived.Deep.RegionHeld3
import Derived.Deep.RegionLaw
import Derived.Deep.AppendLies
import Derived.Deep.CutRange
/-
  The contract of l6Part. Conditions: closed terms, good bindings. Written by wip/build/mk_gm.py.
-/
namespace Go.Proofs.Ytdajalchdbgooaa.W
open Go.ChangeShapes Go.WideShapes Go.ChangeAt Go.RowKit
set_option linter.unusedVariables false
set_option linter.unusedSimpArgs false

set_option maxRecDepth 20000 in
set_option maxHeartbeats 4000000 in
theorem l6Part_neg (cb0 : Nat) (ad : Option Addr) (c : Nat) (l : List Cc) (a : F) (d : Bool) (p e x : Int) (sf sv : Value) (ab : Option Addr) (cb nv : Nat) (bs : List Bd) (pl env : Int) (w : World) (hCl : Cl l a) (hC : CD w cb0 (.slice ad l.length c) l.length a) (h : BdRow w ab bs) (hb : bsOk nv bs = true) (hl : bs.length ≤ 1048576) (h0 : ¬ 0 ≤ pl) :
    Calls Try.prog 75 #[.pointer (some ⟨cb0, 0, none⟩), .agg #[.bool d, .int .i64 p, .int .i64 e, .int .i64 x, sf, sv, .slice ab bs.length cb], .int .i64 pl, .int .i64 env] w fun r w' => r = .returned (.bool false) ∧ Below w.heap.size w w' := by
  have HCd := hide hC
  have hll := hCl.le
  clear h hb hC hCl
  go_enter Try.func75, Try.ntmps75
  go_upto_region 1 with fail
  have hB0 : Below w.heap.size w (w.alloc (.cells #[.bool d, .int .i64 p, .int .i64 e, .int .i64 x, sf, sv, .slice ab bs.length cb] 28)) := (Below.refl _ _).alloc (Nat.le_refl _) _
  have hX := Bx.new w #[.bool d, .int .i64 p, .int .i64 e, .int .i64 x, sf, sv, .slice ab bs.length cb] 28
  obtain ⟨w0, hw0⟩ : ∃ w0, w0 = w.alloc (.cells #[.bool d, .int .i64 p, .int .i64 e, .int .i64 x, sf, sv, .slice ab bs.length cb] 28) := ⟨_, rfl⟩
  obtain ⟨XB, hXB⟩ : ∃ XB, XB = w.heap.size := ⟨_, rfl⟩
  rw [← hw0] at hX hB0 ⊢
  rw [← hXB] at hX ⊢
  have xl : XB < w0.heap.size := hX.lt

  clear hX hw0 hXB
  go_quiet (fail)
  go_wp2_with fail
  go_ret
  exact ⟨rfl, ⟨hB0.os, hB0.tape, hB0.output, hB0.size, hB0.block⟩⟩

set_option maxRecDepth 20000 in
set_option maxHeartbeats 4000000 in
theorem l6Part_far (cb0 : Nat) (ad : Option Addr) (c : Nat) (l : List Cc) (a : F) (d : Bool) (p e x : Int) (sf sv : Value) (ab : Option Addr) (cb nv : Nat) (bs : List Bd) (pl env : Int) (w : World) (hCl : Cl l a) (hC : CD w cb0 (.slice ad l.length c) l.length a) (h : BdRow w ab bs) (hb : bsOk nv bs = true) (hl : bs.length ≤ 1048576) (h0 : 0 ≤ pl) (h1 : ¬ pl < (l.length : Int)) :
    Calls Try.prog 75 #[.pointer (some ⟨cb0, 0, none⟩), .agg #[.bool d, .int .i64 p, .int .i64 e, .int .i64 x, sf, sv, .slice ab bs.length cb], .int .i64 pl, .int .i64 env] w fun r w' => r = .returned (.bool false) ∧ Below w.heap.size w w' := by
  have HCd := hide hC
  have hll := hCl.le
  clear h hb hC hCl
  go_enter Try.func75, Try.ntmps75
  go_upto_region 1 with fail
  have hB0 : Below w.heap.size w (w.alloc (.cells #[.bool d, .int .i64 p, .int .i64 e, .int .i64 x, sf, sv, .slice ab bs.length cb] 28)) := (Below.refl _ _).alloc (Nat.le_refl _) _
  have hX := Bx.new w #[.bool d, .int .i64 p, .int .i64 e, .int .i64 x, sf, sv, .slice ab bs.length cb] 28
  obtain ⟨w0, hw0⟩ : ∃ w0, w0 = w.alloc (.cells #[.bool d, .int .i64 p, .int .i64 e, .int .i64 x, sf, sv, .slice ab bs.length cb] 28) := ⟨_, rfl⟩
  obtain ⟨XB, hXB⟩ : ∃ XB, XB = w.heap.size := ⟨_, rfl⟩
  rw [← hw0] at hX hB0 ⊢
  rw [← hXB] at hX ⊢
  have xl : XB < w0.heap.size := hX.lt
  obtain ⟨kb, vb, hcx, -, hvl, hvv, -⟩ := HCd.out.ex
  have HCX := hide (hcx.below hB0 hcx.lt)
  have cl : cb0 < w0.heap.size := Nat.lt_of_lt_of_le hcx.lt hB0.size
  clear hcx hvv hvl
  have b0 : w0.cell? ⟨cb0, 0, none⟩ = some (.slice ad l.length c) := HCX.out.c 0
  clear hX hw0 hXB
  go_quiet (fail)
  go_wp2_with fail
  go_ret
  exact ⟨rfl, ⟨hB0.os, hB0.tape, hB0.output, hB0.size, hB0.block⟩⟩
end Go.Proofs.Ytdajalchdbgooaa.W

/-
  The contract of l6Part. Conditions: closed terms, good bindings. Written by wip/build/mk_gm.py.
-/
namespace Go.Proofs.Ytdajalchdbgooaa.W
open Go.ChangeShapes Go.WideShapes Go.ChangeAt Go.RowKit
set_option linter.unusedVariables false
set_option linter.unusedSimpArgs false

set_option maxRecDepth 20000 in
set_option maxHeartbeats 4000000 in
theorem l6Part_env (cb0 : Nat) (ad : Option Addr) (c : Nat) (l : List Cc) (a : F) (d : Bool) (p e x : Int) (sf sv : Value) (ab : Option Addr) (cb nv : Nat) (bs : List Bd) (pl env : Int) (w : World) (hCl : Cl l a) (hC : CD w cb0 (.slice ad l.length c) l.length a) (h : BdRow w ab bs) (hb : bsOk nv bs = true) (hl : bs.length ≤ 1048576) (h0 : 0 ≤ pl) (h1 : pl < (l.length : Int)) (h2 : ¬ (-1 ≤ env ∧ env < (bs.length : Int))) :
    Calls Try.prog 75 #[.pointer (some ⟨cb0, 0, none⟩), .agg #[.bool d, .int .i64 p, .int .i64 e, .int .i64 x, sf, sv, .slice ab bs.length cb], .int .i64 pl, .int .i64 env] w fun r w' => r = .returned (.bool false) ∧ Below w.heap.size w w' := by
  have HCd := hide hC
  have hll := hCl.le
  have HE := hide (fun (w' : World) => l6Env_any d p e x sf sv ab bs.length cb env w' hl)
  have hev : (decide (env = -1) || blw env bs.length) = false := by
    rw [Bool.eq_false_iff]; intro hh; rw [Bool.or_eq_true, decide_eq_true_iff, blw_iff] at hh; omega
  rw [hev] at HE
  clear h hb hC hCl hev h2
  go_enter Try.func75, Try.ntmps75
  go_upto_region 1 with fail
  have hB0 : Below w.heap.size w (w.alloc (.cells #[.bool d, .int .i64 p, .int .i64 e, .int .i64 x, sf, sv, .slice ab bs.length cb] 28)) := (Below.refl _ _).alloc (Nat.le_refl _) _
  have hX := Bx.new w #[.bool d, .int .i64 p, .int .i64 e, .int .i64 x, sf, sv, .slice ab bs.length cb] 28
  obtain ⟨w0, hw0⟩ : ∃ w0, w0 = w.alloc (.cells #[.bool d, .int .i64 p, .int .i64 e, .int .i64 x, sf, sv, .slice ab bs.length cb] 28) := ⟨_, rfl⟩
  obtain ⟨XB, hXB⟩ : ∃ XB, XB = w.heap.size := ⟨_, rfl⟩
  rw [← hw0] at hX hB0 ⊢
  rw [← hXB] at hX ⊢
  have xl : XB < w0.heap.size := hX.lt
  obtain ⟨kb, vb, hcx, -, hvl, hvv, -⟩ := HCd.out.ex
  have HCX := hide (hcx.below hB0 hcx.lt)
  have cl : cb0 < w0.heap.size := Nat.lt_of_lt_of_le hcx.lt hB0.size
  clear hcx hvv hvl
  have b0 : w0.cell? ⟨XB, 0, none⟩ = some (.bool d) := hX.c 0
  have b1 : w0.cell? ⟨XB, 1, none⟩ = some (.int .i64 p) := hX.c 1
  have b2 : w0.cell? ⟨XB, 2, none⟩ = some (.int .i64 e) := hX.c 2
  have b3 : w0.cell? ⟨XB, 3, none⟩ = some (.int .i64 x) := hX.c 3
  have b4 : w0.cell? ⟨XB, 4, none⟩ = some (sf) := hX.c 4
  have b5 : w0.cell? ⟨XB, 5, none⟩ = some (sv) := hX.c 5
  have b6 : w0.cell? ⟨XB, 6, none⟩ = some (.slice ab bs.length cb) := hX.c 6
  have b7 : w0.cell? ⟨cb0, 0, none⟩ = some (.slice ad l.length c) := HCX.out.c 0
  have HB0 : Hid (Below w.heap.size w w0.drew) := hide (belowDrew hB0)
  clear hX hw0 hXB
  refine wp_region_noPanic ?_
  refine wp_region_held_drew (S := fun w' => w'.cell? ⟨XB, 0, none⟩ = some (.bool d) ∧ w'.cell? ⟨XB, 1, none⟩ = some (.int .i64 p) ∧ w'.cell? ⟨XB, 2, none⟩ = some (.int .i64 e) ∧ w'.cell? ⟨XB, 3, none⟩ = some (.int .i64 x) ∧ w'.cell? ⟨XB, 4, none⟩ = some (sf) ∧ w'.cell? ⟨XB, 5, none⟩ = some (sv) ∧ w'.cell? ⟨XB, 6, none⟩ = some (.slice ab bs.length cb) ∧ w'.cell? ⟨cb0, 0, none⟩ = some (.slice ad l.length c)) (by kernel_rfl) ⟨b0, b1, b2, b3, b4, b5, b6, b7⟩ (fun hHeld => ?_)
  refine wpAnyH_take (i := 0) (oi := _) (v := ?_) rfl (by kernel_rfl) (by kernel_rfl) (by kernel_rfl) (fun _ _ _ h => h) (Or.inl ⟨by rfl, ?_⟩) (by assumption) ?_
  rotate_left 1
  · (intro w hSw; (try dsimp only at hSw); (first | (go_simp; done) | (go_simp; with_reducible rfl)))
  try simp only [Act.put, List.getElem_toArray, List.getElem_cons_zero, List.getElem_cons_succ, List.setIfInBounds_toArray, List.set_cons_zero, List.set_cons_succ]
  refine wpAnyH_take (i := 1) (oi := _) (v := ?_) rfl (by kernel_rfl) (by kernel_rfl) (by kernel_rfl) (fun _ _ _ h => h) (Or.inl ⟨by rfl, ?_⟩) (by assumption) ?_
  rotate_left 1
  · (intro w hSw; (try dsimp only at hSw); (first | (go_simp; done) | (go_simp; with_reducible rfl)))
  try simp only [Act.put, List.getElem_toArray, List.getElem_cons_zero, List.getElem_cons_succ, List.setIfInBounds_toArray, List.set_cons_zero, List.set_cons_succ]
  refine wpAnyH_take (i := 2) (oi := _) (v := ?_) rfl (by kernel_rfl) (by kernel_rfl) (by kernel_rfl) (fun _ _ _ h => h) (Or.inl ⟨by rfl, ?_⟩) (by assumption) ?_
  rotate_left 1
  · (intro w hSw; (try dsimp only at hSw); (first | (go_simp; done) | (go_simp; with_reducible rfl)))
  try simp only [Act.put, List.getElem_toArray, List.getElem_cons_zero, List.getElem_cons_succ, List.setIfInBounds_toArray, List.set_cons_zero, List.set_cons_succ]
  refine wpAnyH_take (i := 3) (oi := _) (v := ?_) rfl (by kernel_rfl) (by kernel_rfl) (by kernel_rfl) (fun _ _ _ h => h) (Or.inl ⟨by rfl, ?_⟩) (by assumption) ?_
  rotate_left 1
  · (intro w hSw; (try dsimp only at hSw); (first | (go_simp; done) | (go_simp; with_reducible rfl)))
  try simp only [Act.put, List.getElem_toArray, List.getElem_cons_zero, List.getElem_cons_succ, List.setIfInBounds_toArray, List.set_cons_zero, List.set_cons_succ]
  refine wpAnyH_take (i := 4) (oi := _) (v := ?_) rfl (by kernel_rfl) (by kernel_rfl) (by kernel_rfl) (fun _ _ _ h => h) (Or.inl ⟨by rfl, ?_⟩) (by assumption) ?_
  rotate_left 1
  · (intro w hSw; (try dsimp only at hSw); (first | (go_simp; done) | (go_simp; with_reducible rfl)))
  try simp only [Act.put, List.getElem_toArray, List.getElem_cons_zero, List.getElem_cons_succ, List.setIfInBounds_toArray, List.set_cons_zero, List.set_cons_succ]
  refine wpAnyH_take (i := 5) (oi := _) (v := ?_) rfl (by kernel_rfl) (by kernel_rfl) (by kernel_rfl) (fun _ _ _ h => h) (Or.inl ⟨by rfl, ?_⟩) (by assumption) ?_
  rotate_left 1
  · (intro w hSw; (try dsimp only at hSw); (first | (go_simp; done) | (go_simp; with_reducible rfl)))
  try simp only [Act.put, List.getElem_toArray, List.getElem_cons_zero, List.getElem_cons_succ, List.setIfInBounds_toArray, List.set_cons_zero, List.set_cons_succ]
  refine wpAnyH_take (i := 6) (oi := _) (v := ?_) rfl (by kernel_rfl) (by kernel_rfl) (by kernel_rfl) (fun _ _ _ h => h) (Or.inl ⟨by rfl, ?_⟩) (by assumption) ?_
  rotate_left 1
  · (intro w hSw; (try dsimp only at hSw); (first | (go_simp; done) | (go_simp; with_reducible rfl)))
  try simp only [Act.put, List.getElem_toArray, List.getElem_cons_zero, List.getElem_cons_succ, List.setIfInBounds_toArray, List.set_cons_zero, List.set_cons_succ]
  refine wpAnyH_take (i := 7) (oi := _) (v := ?_) rfl (by kernel_rfl) (by kernel_rfl) (by kernel_rfl) (fun _ _ _ h => h) (Or.inl ⟨by rfl, ?_⟩) (by assumption) ?_
  rotate_left 1
  · (intro w hSw; (try dsimp only at hSw); (first | (go_simp; done) | (go_simp; with_reducible rfl)))
  try simp only [Act.put, List.getElem_toArray, List.getElem_cons_zero, List.getElem_cons_succ, List.setIfInBounds_toArray, List.set_cons_zero, List.set_cons_succ]
  refine wpAnyH_take (i := 8) (oi := _) (v := ?_) rfl (by kernel_rfl) (by kernel_rfl) (by kernel_rfl) (fun _ _ _ h => h) (Or.inl ⟨by rfl, ?_⟩) (by assumption) ?_
  rotate_left 1
  · (intro w hSw; (try dsimp only at hSw); (first | (go_simp; done) | (go_simp; with_reducible rfl)))
  try simp only [Act.put, List.getElem_toArray, List.getElem_cons_zero, List.getElem_cons_succ, List.setIfInBounds_toArray, List.set_cons_zero, List.set_cons_succ]
  refine wpAnyH_take (i := 9) (oi := _) (v := ?_) rfl (by kernel_rfl) (by kernel_rfl) (by kernel_rfl) (fun _ _ _ h => h) (Or.inl ⟨by rfl, ?_⟩) (by assumption) ?_
  rotate_left 1
  · (intro w hSw; (try dsimp only at hSw); (first | (go_simp; done) | (go_simp; with_reducible rfl)))
  try simp only [Act.put, List.getElem_toArray, List.getElem_cons_zero, List.getElem_cons_succ, List.setIfInBounds_toArray, List.set_cons_zero, List.set_cons_succ]
  refine wpAnyH_take (i := 10) (oi := _) (v := ?_) rfl (by kernel_rfl) (by kernel_rfl) (by kernel_rfl) (fun _ _ _ h => h) (Or.inl ⟨by rfl, ?_⟩) (by assumption) ?_
  rotate_left 1
  · (intro w hSw; (try dsimp only at hSw); (first | (go_simp; done) | (go_simp; with_reducible rfl)))
  try simp only [Act.put, List.getElem_toArray, List.getElem_cons_zero, List.getElem_cons_succ, List.setIfInBounds_toArray, List.set_cons_zero, List.set_cons_succ]
  refine wpAnyH_take (i := 11) (oi := _) (v := ?_) rfl (by kernel_rfl) (by kernel_rfl) (by kernel_rfl) (fun _ _ _ h => h) (Or.inl ⟨by rfl, ?_⟩) (by assumption) ?_
  rotate_left 1
  · (intro w hSw; (try dsimp only at hSw); (first | (go_simp; done) | (go_simp; with_reducible rfl)))
  try simp only [Act.put, List.getElem_toArray, List.getElem_cons_zero, List.getElem_cons_succ, List.setIfInBounds_toArray, List.set_cons_zero, List.set_cons_succ]
  refine wpAnyH_take (i := 12) (oi := _) (v := ?_) rfl (by kernel_rfl) (by kernel_rfl) (by kernel_rfl) (fun _ _ _ h => h) (Or.inl ⟨by rfl, ?_⟩) (by assumption) ?_
  rotate_left 1
  · (intro w hSw; (try dsimp only at hSw); (first | (go_simp; done) | (go_simp; with_reducible rfl)))
  try simp only [Act.put, List.getElem_toArray, List.getElem_cons_zero, List.getElem_cons_succ, List.setIfInBounds_toArray, List.set_cons_zero, List.set_cons_succ]
  refine wpAnyH_take (i := 13) (oi := _) (v := ?_) rfl (by kernel_rfl) (by kernel_rfl) (by kernel_rfl) (fun _ _ _ h => h) (Or.inl ⟨by rfl, ?_⟩) (by assumption) ?_
  rotate_left 1
  · (intro w hSw; (try dsimp only at hSw); (first | (go_simp; done) | (go_simp; with_reducible rfl)))
  try simp only [Act.put, List.getElem_toArray, List.getElem_cons_zero, List.getElem_cons_succ, List.setIfInBounds_toArray, List.set_cons_zero, List.set_cons_succ]
  refine wpAnyH_ready (rs := [14]) (by kernel_rfl) (by simp) ?_
  refine AllReadyH.cons (o := _) rfl (fun K hK => ?_) AllReadyH.nil
  go_simp
  (with_reducible refine Calls.mono (HE.out _) ?_)
  rintro r wa ⟨rfl, hba⟩
  have HBa := hide hba
  have hza : w0.heap.size ≤ wa.heap.size := hba.size
  have fa0 := (hba.cell (p := ⟨XB, 0, none⟩) (show XB < w0.heap.size by omega)).trans b0
  have fa1 := (hba.cell (p := ⟨XB, 1, none⟩) (show XB < w0.heap.size by omega)).trans b1
  have fa2 := (hba.cell (p := ⟨XB, 2, none⟩) (show XB < w0.heap.size by omega)).trans b2
  have fa3 := (hba.cell (p := ⟨XB, 3, none⟩) (show XB < w0.heap.size by omega)).trans b3
  have fa4 := (hba.cell (p := ⟨XB, 4, none⟩) (show XB < w0.heap.size by omega)).trans b4
  have fa5 := (hba.cell (p := ⟨XB, 5, none⟩) (show XB < w0.heap.size by omega)).trans b5
  have fa6 := (hba.cell (p := ⟨XB, 6, none⟩) (show XB < w0.heap.size by omega)).trans b6
  have fa7 := (hba.cell (p := ⟨cb0, 0, none⟩) (show cb0 < w0.heap.size by omega)).trans b7
  clear hba
  (try go_wp2_with fail)
  refine hK.out _ _ ⟨fa0, fa1, fa2, fa3, fa4, fa5, fa6, fa7⟩ (fun hHeld => ?_)
  clear hK K
  try simp only [Act.put, List.getElem_toArray, List.getElem_cons_zero, List.getElem_cons_succ, List.setIfInBounds_toArray, List.set_cons_zero, List.set_cons_succ]
  refine wpAnyH_take (i := 15) (oi := _) (v := ?_) rfl (by kernel_rfl) (by kernel_rfl) (by kernel_rfl) (fun _ _ _ h => h) (Or.inl ⟨by rfl, ?_⟩) (by assumption) ?_
  rotate_left 1
  · (intro w hSw; (try dsimp only at hSw); (first | (go_simp; done) | (go_simp; with_reducible rfl)))
  try simp only [Act.put, List.getElem_toArray, List.getElem_cons_zero, List.getElem_cons_succ, List.setIfInBounds_toArray, List.set_cons_zero, List.set_cons_succ]
  refine wpAnyH_take (i := 16) (oi := _) (v := ?_) rfl (by kernel_rfl) (by kernel_rfl) (by kernel_rfl) (fun _ _ _ h => h) (Or.inl ⟨by rfl, ?_⟩) (by assumption) ?_
  rotate_left 1
  · (intro w hSw; (try dsimp only at hSw); (first | (go_simp; done) | (go_simp; with_reducible rfl)))
  try simp only [Act.put, List.getElem_toArray, List.getElem_cons_zero, List.getElem_cons_succ, List.setIfInBounds_toArray, List.set_cons_zero, List.set_cons_succ]
  refine wpAnyH_take (i := 17) (oi := _) (v := undef) rfl (by kernel_rfl) (by kernel_rfl) (by kernel_rfl) (fun _ _ _ h => h) (Or.inr ⟨by rfl, rfl⟩) (by assumption) ?_
  try simp only [Act.put, List.getElem_toArray, List.getElem_cons_zero, List.getElem_cons_succ, List.setIfInBounds_toArray, List.set_cons_zero, List.set_cons_succ]
  refine wpAnyH_take (i := 18) (oi := _) (v := undef) rfl (by kernel_rfl) (by kernel_rfl) (by kernel_rfl) (fun _ _ _ h => h) (Or.inr ⟨by rfl, rfl⟩) (by assumption) ?_
  try simp only [Act.put, List.getElem_toArray, List.getElem_cons_zero, List.getElem_cons_succ, List.setIfInBounds_toArray, List.set_cons_zero, List.set_cons_succ]
  refine wpAnyH_take (i := 19) (oi := _) (v := undef) rfl (by kernel_rfl) (by kernel_rfl) (by kernel_rfl) (fun _ _ _ h => h) (Or.inr ⟨by rfl, rfl⟩) (by assumption) ?_
  try simp only [Act.put, List.getElem_toArray, List.getElem_cons_zero, List.getElem_cons_succ, List.setIfInBounds_toArray, List.set_cons_zero, List.set_cons_succ]
  refine wpAnyH_take (i := 20) (oi := _) (v := undef) rfl (by kernel_rfl) (by kernel_rfl) (by kernel_rfl) (fun _ _ _ h => h) (Or.inr ⟨by rfl, rfl⟩) (by assumption) ?_
  try simp only [Act.put, List.getElem_toArray, List.getElem_cons_zero, List.getElem_cons_succ, List.setIfInBounds_toArray, List.set_cons_zero, List.set_cons_succ]
  refine wpAnyH_take (i := 21) (oi := _) (v := undef) rfl (by kernel_rfl) (by kernel_rfl) (by kernel_rfl) (fun _ _ _ h => h) (Or.inr ⟨by rfl, rfl⟩) (by assumption) ?_
  try simp only [Act.put, List.getElem_toArray, List.getElem_cons_zero, List.getElem_cons_succ, List.setIfInBounds_toArray, List.set_cons_zero, List.set_cons_succ]
  refine wpAnyH_take (i := 22) (oi := _) (v := undef) rfl (by kernel_rfl) (by kernel_rfl) (by kernel_rfl) (fun _ _ _ h => h) (Or.inr ⟨by rfl, rfl⟩) (by assumption) ?_
  try simp only [Act.put, List.getElem_toArray, List.getElem_cons_zero, List.getElem_cons_succ, List.setIfInBounds_toArray, List.set_cons_zero, List.set_cons_succ]
  refine wpAnyH_take (i := 23) (oi := _) (v := undef) rfl (by kernel_rfl) (by kernel_rfl) (by kernel_rfl) (fun _ _ _ h => h) (Or.inr ⟨by rfl, rfl⟩) (by assumption) ?_
  try simp only [Act.put, List.getElem_toArray, List.getElem_cons_zero, List.getElem_cons_succ, List.setIfInBounds_toArray, List.set_cons_zero, List.set_cons_succ]
  refine wpAnyH_take (i := 24) (oi := _) (v := undef) rfl (by kernel_rfl) (by kernel_rfl) (by kernel_rfl) (fun _ _ _ h => h) (Or.inr ⟨by rfl, rfl⟩) (by assumption) ?_
  try simp only [Act.put, List.getElem_toArray, List.getElem_cons_zero, List.getElem_cons_succ, List.setIfInBounds_toArray, List.set_cons_zero, List.set_cons_succ]
  refine wpAnyH_take (i := 25) (oi := _) (v := undef) rfl (by kernel_rfl) (by kernel_rfl) (by kernel_rfl) (fun _ _ _ h => h) (Or.inr ⟨by rfl, rfl⟩) (by assumption) ?_
  try simp only [Act.put, List.getElem_toArray, List.getElem_cons_zero, List.getElem_cons_succ, List.setIfInBounds_toArray, List.set_cons_zero, List.set_cons_succ]
  refine wpAnyH_take (i := 26) (oi := _) (v := undef) rfl (by kernel_rfl) (by kernel_rfl) (by kernel_rfl) (fun _ _ _ h => h) (Or.inr ⟨by rfl, rfl⟩) (by assumption) ?_
  try simp only [Act.put, List.getElem_toArray, List.getElem_cons_zero, List.getElem_cons_succ, List.setIfInBounds_toArray, List.set_cons_zero, List.set_cons_succ]
  refine wpAnyH_take (i := 27) (oi := _) (v := undef) rfl (by kernel_rfl) (by kernel_rfl) (by kernel_rfl) (fun _ _ _ h => h) (Or.inr ⟨by rfl, rfl⟩) (by assumption) ?_
  try simp only [Act.put, List.getElem_toArray, List.getElem_cons_zero, List.getElem_cons_succ, List.setIfInBounds_toArray, List.set_cons_zero, List.set_cons_succ]
  refine wpAnyH_take (i := 28) (oi := _) (v := ?_) rfl (by kernel_rfl) (by kernel_rfl) (by kernel_rfl) (fun _ _ _ h => h) (Or.inl ⟨by rfl, ?_⟩) (by assumption) ?_
  rotate_left 1
  · (intro w hSw; (try dsimp only at hSw); (first | (go_simp; done) | (go_simp; with_reducible rfl)))
  try simp only [Act.put, List.getElem_toArray, List.getElem_cons_zero, List.getElem_cons_succ, List.setIfInBounds_toArray, List.set_cons_zero, List.set_cons_succ]
  refine wpAnyH_take (i := 29) (oi := _) (v := ?_) rfl (by kernel_rfl) (by kernel_rfl) (by kernel_rfl) (fun _ _ _ h => h) (Or.inl ⟨by rfl, ?_⟩) (by assumption) ?_
  rotate_left 1
  · (intro w hSw; (try dsimp only at hSw); (first | (go_simp; done) | (go_simp; with_reducible rfl)))
  try simp only [Act.put, List.getElem_toArray, List.getElem_cons_zero, List.getElem_cons_succ, List.setIfInBounds_toArray, List.set_cons_zero, List.set_cons_succ]
  refine wpAnyH_done (by kernel_rfl) ?_ _
  refine NoPanic.normal ?_
  go_wp2_with fail
  go_ret
  exact ⟨rfl, HB0.out.trans (HBa.out.mono HB0.out.size)⟩
end Go.Proofs.Ytdajalchdbgooaa.W

/-
  The contract of l6Part. Conditions: closed terms, good bindings. Written by wip/build/mk_gm.py.
-/
namespace Go.Proofs.Ytdajalchdbgooaa.W
open Go.ChangeShapes Go.WideShapes Go.ChangeAt Go.RowKit
set_option linter.unusedVariables false
set_option linter.unusedSimpArgs false

set_option maxRecDepth 20000 in
set_option maxHeartbeats 4000000 in
theorem l6Part_ok (cb0 : Nat) (ad : Option Addr) (c : Nat) (l : List Cc) (a : F) (d : Bool) (p e x : Int) (sf sv : Value) (ab : Option Addr) (cb nv : Nat) (bs : List Bd) (pl env : Int) (w : World) (hCl : Cl l a) (hC : CD w cb0 (.slice ad l.length c) l.length a) (h : BdRow w ab bs) (hb : bsOk nv bs = true) (hl : bs.length ≤ 1048576) (h0 : 0 ≤ pl) (h1 : pl < (l.length : Int)) (h2 : -1 ≤ env ∧ env < (bs.length : Int)) (hN : (bw bs env).1 = tV (ndT a) pl.toNat) :
    Calls Try.prog 75 #[.pointer (some ⟨cb0, 0, none⟩), .agg #[.bool d, .int .i64 p, .int .i64 e, .int .i64 x, sf, sv, .slice ab bs.length cb], .int .i64 pl, .int .i64 env] w fun r w' => r = .returned (.bool true) ∧ Below w.heap.size w w' := by
  have HCd := hide hC
  have hll := hCl.le
  have HE := hide (fun (w' : World) => l6Env_any d p e x sf sv ab bs.length cb env w' hl)
  have hev : (decide (env = -1) || blw env bs.length) = true := by rw [Bool.or_eq_true, decide_eq_true_iff, blw_iff]; omega
  rw [hev] at HE
  have HBd := hide (fun (w' : World) (hb' : Below w.heap.size w w') => l6Bound_any d p e x sf sv ab cb nv bs env w' (h.below hb') hb h2 hl)
  obtain ⟨q, rfl⟩ := Int.eq_ofNat_of_zero_le h0
  have hql : q < l.length := by omega
  obtain ⟨TV, hTV⟩ : ∃ TV, TV = tV (ndT a) q := ⟨_, rfl⟩
  obtain ⟨NB, hNB⟩ : ∃ NB, NB = (bw bs env).1 := ⟨_, rfl⟩
  rw [Int.toNat_natCast, ← hNB, ← hTV] at hN
  rw [← hNB] at HBd
  have HTV := hide hTV
  clear h hb hC hCl hTV hNB hev h2
  subst hN
  go_enter Try.func75, Try.ntmps75
  go_upto_region 1 with fail
  have hB0 : Below w.heap.size w (w.alloc (.cells #[.bool d, .int .i64 p, .int .i64 e, .int .i64 x, sf, sv, .slice ab bs.length cb] 28)) := (Below.refl _ _).alloc (Nat.le_refl _) _
  have hX := Bx.new w #[.bool d, .int .i64 p, .int .i64 e, .int .i64 x, sf, sv, .slice ab bs.length cb] 28
  obtain ⟨w0, hw0⟩ : ∃ w0, w0 = w.alloc (.cells #[.bool d, .int .i64 p, .int .i64 e, .int .i64 x, sf, sv, .slice ab bs.length cb] 28) := ⟨_, rfl⟩
  obtain ⟨XB, hXB⟩ : ∃ XB, XB = w.heap.size := ⟨_, rfl⟩
  rw [← hw0] at hX hB0 ⊢
  rw [← hXB] at hX ⊢
  have xl : XB < w0.heap.size := hX.lt
  obtain ⟨kb, vb, hcx, -, hvl, hvv, -⟩ := HCd.out.ex
  have HCX := hide (hcx.below hB0 hcx.lt)
  have cl : cb0 < w0.heap.size := Nat.lt_of_lt_of_le hcx.lt hB0.size
  have hvc : w0.cell? ⟨vb, q, none⟩ = some (.int .i64 NB) := by rw [HTV.out]; exact (hB0.cell (p := ⟨vb, q, none⟩) hvl).trans (hvv q hql)
  have hvl0 : vb < w0.heap.size := Nat.lt_of_lt_of_le hvl hB0.size
  clear hcx hvv hvl
  have b0 : w0.cell? ⟨XB, 0, none⟩ = some (.bool d) := hX.c 0
  have b1 : w0.cell? ⟨XB, 1, none⟩ = some (.int .i64 p) := hX.c 1
  have b2 : w0.cell? ⟨XB, 2, none⟩ = some (.int .i64 e) := hX.c 2
  have b3 : w0.cell? ⟨XB, 3, none⟩ = some (.int .i64 x) := hX.c 3
  have b4 : w0.cell? ⟨XB, 4, none⟩ = some (sf) := hX.c 4
  have b5 : w0.cell? ⟨XB, 5, none⟩ = some (sv) := hX.c 5
  have b6 : w0.cell? ⟨XB, 6, none⟩ = some (.slice ab bs.length cb) := hX.c 6
  have b7 : w0.cell? ⟨cb0, 0, none⟩ = some (.slice ad l.length c) := HCX.out.c 0
  have b8 : w0.cell? ⟨cb0, 2, none⟩ = some (.slice (some ⟨vb, 0, none⟩) l.length l.length) := HCX.out.c 2
  have b9 : w0.cell? ⟨vb, q, none⟩ = some (.int .i64 NB) := hvc
  have HB0 : Hid (Below w.heap.size w w0.drew) := hide (belowDrew hB0)
  clear hX hw0 hXB
  go_region_held3 (fun w' => w'.cell? ⟨XB, 0, none⟩ = some (.bool d) ∧ w'.cell? ⟨XB, 1, none⟩ = some (.int .i64 p) ∧ w'.cell? ⟨XB, 2, none⟩ = some (.int .i64 e) ∧ w'.cell? ⟨XB, 3, none⟩ = some (.int .i64 x) ∧ w'.cell? ⟨XB, 4, none⟩ = some (sf) ∧ w'.cell? ⟨XB, 5, none⟩ = some (sv) ∧ w'.cell? ⟨XB, 6, none⟩ = some (.slice ab bs.length cb) ∧ w'.cell? ⟨cb0, 0, none⟩ = some (.slice ad l.length c) ∧ w'.cell? ⟨cb0, 2, none⟩ = some (.slice (some ⟨vb, 0, none⟩) l.length l.length) ∧ w'.cell? ⟨vb, q, none⟩ = some (.int .i64 NB)) (go_keep)
    (first | (go_at_call 111; (with_reducible refine Calls.mono (HE.out _) ?_); rintro r wa ⟨rfl, hba⟩; have HBa := hide hba; have hza : w0.heap.size ≤ wa.heap.size := hba.size; (have fa0 := (hba.cell (p := ⟨XB, 0, none⟩) (show XB < w0.heap.size by omega)).trans b0; have fa1 := (hba.cell (p := ⟨XB, 1, none⟩) (show XB < w0.heap.size by omega)).trans b1; have fa2 := (hba.cell (p := ⟨XB, 2, none⟩) (show XB < w0.heap.size by omega)).trans b2; have fa3 := (hba.cell (p := ⟨XB, 3, none⟩) (show XB < w0.heap.size by omega)).trans b3; have fa4 := (hba.cell (p := ⟨XB, 4, none⟩) (show XB < w0.heap.size by omega)).trans b4; have fa5 := (hba.cell (p := ⟨XB, 5, none⟩) (show XB < w0.heap.size by omega)).trans b5; have fa6 := (hba.cell (p := ⟨XB, 6, none⟩) (show XB < w0.heap.size by omega)).trans b6; have fa7 := (hba.cell (p := ⟨cb0, 0, none⟩) (show cb0 < w0.heap.size by omega)).trans b7; have fa8 := (hba.cell (p := ⟨cb0, 2, none⟩) (show cb0 < w0.heap.size by omega)).trans b8; have fa9 := (hba.cell (p := ⟨vb, q, none⟩) (show vb < w0.heap.size by omega)).trans b9); clear hba) | (go_at_call 112; (with_reducible refine Calls.mono (HBd.out _ (HB0.out.trans (HBa.out.mono HB0.out.size))) ?_); rintro r wb ⟨rfl, hbb⟩; have HBb := hide hbb; (have fb0 := (hbb.cell (p := ⟨XB, 0, none⟩) (show XB < wa.heap.size by omega)).trans fa0; have fb1 := (hbb.cell (p := ⟨XB, 1, none⟩) (show XB < wa.heap.size by omega)).trans fa1; have fb2 := (hbb.cell (p := ⟨XB, 2, none⟩) (show XB < wa.heap.size by omega)).trans fa2; have fb3 := (hbb.cell (p := ⟨XB, 3, none⟩) (show XB < wa.heap.size by omega)).trans fa3; have fb4 := (hbb.cell (p := ⟨XB, 4, none⟩) (show XB < wa.heap.size by omega)).trans fa4; have fb5 := (hbb.cell (p := ⟨XB, 5, none⟩) (show XB < wa.heap.size by omega)).trans fa5; have fb6 := (hbb.cell (p := ⟨XB, 6, none⟩) (show XB < wa.heap.size by omega)).trans fa6; have fb7 := (hbb.cell (p := ⟨cb0, 0, none⟩) (show cb0 < wa.heap.size by omega)).trans fa7; have fb8 := (hbb.cell (p := ⟨cb0, 2, none⟩) (show cb0 < wa.heap.size by omega)).trans fa8; have fb9 := (hbb.cell (p := ⟨vb, q, none⟩) (show vb < wa.heap.size by omega)).trans fa9); clear hbb))
  all_goals
    have hBB : Below w.heap.size w wb := (HB0.out.trans (HBa.out.mono HB0.out.size)).trans (HBb.out.mono (HB0.out.trans (HBa.out.mono HB0.out.size)).size)
    clear b0 b1 b2 b3 b4 b5 b6 b7 b8 b9
    go_wp2_with fail
    go_ret
    exact ⟨rfl, hBB⟩
end Go.Proofs.Ytdajalchdbgooaa.W
