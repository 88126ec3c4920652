/-
  Some texts of this proof in one: TeSh, TeA.
-/
import Derived.Test.YtjmgnljjeogdlaaJag
/-
  Both sides' ShiftTerm. Conditions: at most 1048576 cells.
-/
namespace Go.Proofs.Ytjmgnljjeogdlaa.W
open Go.ChangeShapes Go.WideShapes Go.ChangeAt Go.RowKit
set_option linter.unusedVariables false

theorem Bd_take {by_ : Int} {f : Nat} {l : List Int} (h : Bd by_ f l = false) (j : Nat) (hj : j < l.length) : ¬ ((f : Int) ≤ l[j] ∧ l[j] + by_ < (f : Int)) := by
  unfold Bd at h
  intro hc
  have := List.any_eq_false.1 h l[j] (List.getElem_mem hj)
  simp [hc.1, hc.2] at this
theorem Bd_yes {by_ : Int} {f : Nat} {l : List Int} (j : Nat) (hj : j < l.length) (hc : (f : Int) ≤ l[j] ∧ l[j] + by_ < (f : Int)) : Bd by_ f l = true := by
  unfold Bd
  rw [List.any_eq_true]
  exact ⟨l[j], List.getElem_mem hj, by simp [hc.1, hc.2]⟩
theorem Bd_all {by_ : Int} {f : Nat} {l : List Int} (h : ∀ j (hj : j < l.length), ¬ ((f : Int) ≤ l[j] ∧ l[j] + by_ < (f : Int))) : Bd by_ f l = false := by
  unfold Bd
  rw [List.any_eq_false]
  intro x hx
  obtain ⟨j, hj, rfl⟩ := List.getElem_of_mem hx
  have := h j hj
  simp only [Bool.and_eq_true, decide_eq_true_eq]
  exact this

theorem fre_bd : ∀ (a : F) (pk : Int) (d i : Nat) (o : List Int), a.ok → (∀ m ∈ o, 0 ≤ m ∧ m ≤ 99) → ∀ m ∈ fre pk d i a o, 0 ≤ m ∧ m ≤ 99
  | .nil, _, _, _, _, _, h => h
  | .cons x k r, pk, d, i, o, h, ho => by
    obtain ⟨g1, l1, o1, r1⟩ := ok_cons h
    rw [fre_cons]
    refine fre_bd r pk d (i + 1) _ r1 ?_
    unfold fr1
    split
    · rename_i hc
      have hn : 0 ≤ x.n ∧ x.n ≤ 99 := by
        unfold goodC at g1
        rw [if_pos hc.1] at g1
        simpa [inB] using g1
      intro m hm
      rcases (mem_put _ _ _).1 hm with hm | rfl
      · exact ho m hm
      · omega
    · exact fre_bd k x.k _ 0 o o1 ho
end Go.Proofs.Ytjmgnljjeogdlaa.W

/-
  The specification's l3Put and SubstTerm, where l3Subst's contract is given. Conditions: as the theorems state.
-/
namespace Go.Proofs.Ytjmgnljjeogdlaa.W
open Go.ChangeShapes Go.WideShapes Go.ChangeAt Go.RowKit
set_option linter.unusedVariables false

set_option maxRecDepth 20000 in
set_option maxHeartbeats 2000000 in
theorem l3Put_any (HPG : ∀ k, L3PGoal k) (x sx : Cc) (k sk : F) (s ss : Value) (K : Nat) (P Q : Nat → Prop) (w : World) (hn1 : -1000000 ≤ x.n) (hn2 : x.n ≤ 1000000) (hm1 : -1000000 ≤ sx.n) (hm2 : sx.n ≤ 1000000) (hK : K ≤ 99) (hka : k.len = ar x.k) (hko : k.ok) (hska : sk.len = ar sx.k) (hsko : sk.ok) (hkl : k.flat.length + 1 ≤ 600) (hskl : sk.flat.length + 1 ≤ 600) (hT : KidT w P k s) (hQ : KidT w Q sk ss) :
    Calls Try.prog 28 #[.agg #[.int .i64 x.k, .int .i64 x.n, s], .int .i64 (K : Int), .agg #[.int .i64 sx.k, .int .i64 sx.n, ss]] w fun e w' =>
      (if k.flat.length + 1 + us1 K x k * sk.flat.length ≤ 600 then ∃ s', e = .returned (.tuple #[.agg #[.int .i64 (sbr K sx 0 x).k, .int .i64 (sbr K sx 0 x).n, s'], .bool true]) ∧ KidT w' (fun g => w.heap.size ≤ g) (sbk K sx sk 0 x k) s' else e = .returned (.tuple #[.agg #[.int .i64 0, .int .i64 0, .slice none 0 0], .bool false])) ∧ Below w.heap.size w w' := by
  have HT := hide hT
  have HQ := hide hQ
  have HZ := hide (fun (w' : World) (hb : Below w.heap.size w w') => l3Size_any k x s P w' (by omega) (HT.out.below hb))
  have HZS := hide (fun (w' : World) (hb : Below w.heap.size w w') => l3Size_any sk sx ss Q w' (by omega) (HQ.out.below hb))
  have HU := hide (fun (w' : World) (hb : Below w.heap.size w w') => l3Uses_any k x s K P w' hn1 hn2 hka hko (by omega) (HT.out.below hb))
  have HP := hide (fun (w' : World) (hb : Below w.heap.size w w') => HPG k x sx sk s ss K 0 P Q w' hn1 hn2 hm1 hm2 hK hka hko hska hsko (by omega) (by omega) (HT.out.below hb) (HQ.out.below hb))
  rw [show ((0 : Nat) : Int) = 0 from rfl] at HP
  have hul := us1_le K x k
  obtain ⟨sad, sc, rfl⟩ := hT.form
  obtain ⟨qad, qc, rfl⟩ := hQ.form
  obtain ⟨KL, hKL⟩ : ∃ KL, KL = k.len := ⟨_, rfl⟩
  obtain ⟨QL, hQL⟩ : ∃ QL, QL = sk.len := ⟨_, rfl⟩
  obtain ⟨U, hU⟩ : ∃ U, U = us1 K x k := ⟨_, rfl⟩
  obtain ⟨zz, hzz⟩ : ∃ zz, zz = sbr K sx 0 x := ⟨_, rfl⟩
  obtain ⟨kk, hkk⟩ : ∃ kk, kk = sbk K sx sk 0 x k := ⟨_, rfl⟩
  obtain ⟨A, hA⟩ : ∃ A, A = k.flat.length := ⟨_, rfl⟩
  obtain ⟨B, hB⟩ : ∃ B, B = sk.flat.length := ⟨_, rfl⟩
  rw [← hKL, ← hQL, ← hU, ← hzz, ← hkk, ← hA, ← hB]
  rw [← hKL, ← hA] at HZ
  rw [← hQL, ← hB] at HZS
  rw [← hKL, ← hU] at HU
  rw [← hKL, ← hQL, ← hzz, ← hkk] at HP
  rw [← hA] at hkl
  rw [← hB] at hskl
  rw [← hU, ← hA] at hul
  have hm : U * B ≤ 600 * 600 := Nat.mul_le_mul (by omega) (by omega)
  obtain ⟨M, hM⟩ : ∃ M, M = U * B := ⟨_, rfl⟩
  have hv1 : IntKind.i64.wrap (B : Int) = (B : Int) := IntWalk.i64_in _ ⟨by omega, by omega⟩
  have hmi : (U : Int) * (B : Int) = (M : Int) := by rw [hM]; exact (Int.natCast_mul U B).symm
  have hw2 : IntKind.i64.wrap ((U : Int) * (B : Int)) = (M : Int) := by rw [hmi, IntWalk.i64_in _ ⟨by omega, by omega⟩]
  rw [← hM] at hm ⊢
  have hv3 : IntKind.i64.wrap ((A : Int) + 1 + (M : Int)) = (A : Int) + 1 + (M : Int) := IntWalk.i64_in _ ⟨by omega, by omega⟩
  have HV1 := hide hv1
  have HW2 := hide hw2
  have HV3 := hide hv3
  clear hv1 hw2 hv3
  clear hmi hT hQ hKL hQL hU hzz hkk hA hB hM hka hko hska hsko HT HQ
  obtain ⟨xk, xn⟩ := x
  obtain ⟨sxk, sxn⟩ := sx
  simp only at *
  go_enter Try.func28, Try.ntmps28
  go_wp2_with fail
  obtain ⟨w0, hw0⟩ : ∃ w0, w0 = (((w.alloc (.cells #[.int .i64 xk, .int .i64 xn, .slice sad KL sc] 55)).alloc (.cells #[.int .i64 sxk, .int .i64 sxn, .slice qad QL qc] 55)).alloc (.cells #[.int .i64 0, .int .i64 0, .slice none 0 0] 55)) := ⟨_, rfl⟩
  have hB0 : Below w.heap.size w w0 := by rw [hw0]; exact (((Below.refl _ _).alloc (Nat.le_refl _) _).alloc (by simp) _).alloc (by simp; omega) _
  have hbT : w0.heap[w.heap.size]? = some (.cells #[.int .i64 xk, .int .i64 xn, .slice sad KL sc] 55) := by rw [hw0, heap_alloc_old _ _ (by simp; omega), heap_alloc_old _ _ (by simp)]; exact heap_alloc_new _ _
  have hbS : w0.heap[w.heap.size + 1]? = some (.cells #[.int .i64 sxk, .int .i64 sxn, .slice qad QL qc] 55) := by rw [hw0, heap_alloc_old _ _ (by simp)]; have := heap_alloc_new (w.alloc (.cells #[.int .i64 xk, .int .i64 xn, .slice sad KL sc] 55)) (.cells #[.int .i64 sxk, .int .i64 sxn, .slice qad QL qc] 55); simpa using this
  have hbR : w0.heap[w.heap.size + 1 + 1]? = some (.cells #[.int .i64 0, .int .i64 0, .slice none 0 0] 55) := by rw [hw0]; have := heap_alloc_new ((w.alloc (.cells #[.int .i64 xk, .int .i64 xn, .slice sad KL sc] 55)).alloc (.cells #[.int .i64 sxk, .int .i64 sxn, .slice qad QL qc] 55)) (.cells #[.int .i64 0, .int .i64 0, .slice none 0 0] 55); simpa using this
  have hsz0 : w0.heap.size = w.heap.size + 1 + 1 + 1 := by rw [hw0]; simp
  rw [← hw0]
  have e0 : w0.cell? ⟨w.heap.size, 0, none⟩ = some (.int .i64 xk) := (cell_of_blk hbT 0).trans rfl
  have e1 : w0.cell? ⟨w.heap.size, 1, none⟩ = some (.int .i64 xn) := (cell_of_blk hbT 1).trans rfl
  have e2 : w0.cell? ⟨w.heap.size, 2, none⟩ = some (.slice sad KL sc) := (cell_of_blk hbT 2).trans rfl
  have e3 : w0.cell? ⟨w.heap.size + 1, 0, none⟩ = some (.int .i64 sxk) := (cell_of_blk hbS 0).trans rfl
  have e4 : w0.cell? ⟨w.heap.size + 1, 1, none⟩ = some (.int .i64 sxn) := (cell_of_blk hbS 1).trans rfl
  have e5 : w0.cell? ⟨w.heap.size + 1, 2, none⟩ = some (.slice qad QL qc) := (cell_of_blk hbS 2).trans rfl
  have HB0 : Hid (Below w.heap.size w w0.drew) := hide (belowDrew hB0)
  have HbR := hide hbR
  clear hw0 hbT hbS hbR hB0
  go_region_held3 (fun w' => w'.cell? ⟨w.heap.size, 0, none⟩ = some (.int .i64 xk) ∧ w'.cell? ⟨w.heap.size, 1, none⟩ = some (.int .i64 xn) ∧ w'.cell? ⟨w.heap.size, 2, none⟩ = some (.slice sad KL sc) ∧ w'.cell? ⟨w.heap.size + 1, 0, none⟩ = some (.int .i64 sxk) ∧ w'.cell? ⟨w.heap.size + 1, 1, none⟩ = some (.int .i64 sxn) ∧ w'.cell? ⟨w.heap.size + 1, 2, none⟩ = some (.slice qad QL qc)) (go_keep)
    (first
      | (have hqb := HBb.out; go_at_call 56; (with_reducible refine Calls.mono (HZS.out _ hqb) ?_); clear hqb; rintro e wc ⟨rfl, hbc⟩; have HBc' := hide hbc; clear hbc; have hszc : wb.heap.size ≤ wc.heap.size := HBc'.out.size; have HBc := hide (HBb.out.trans (HBc'.out.mono HBb.out.size)); have fc0 : wc.cell? ⟨w.heap.size, 0, none⟩ = some (.int .i64 xk) := (HBc'.out.cell (p := ⟨w.heap.size, 0, none⟩) (show w.heap.size < wb.heap.size by omega)).trans fb0; have fc1 : wc.cell? ⟨w.heap.size, 1, none⟩ = some (.int .i64 xn) := (HBc'.out.cell (p := ⟨w.heap.size, 1, none⟩) (show w.heap.size < wb.heap.size by omega)).trans fb1; have fc2 : wc.cell? ⟨w.heap.size, 2, none⟩ = some (.slice sad KL sc) := (HBc'.out.cell (p := ⟨w.heap.size, 2, none⟩) (show w.heap.size < wb.heap.size by omega)).trans fb2; have fc3 : wc.cell? ⟨w.heap.size + 1, 0, none⟩ = some (.int .i64 sxk) := (HBc'.out.cell (p := ⟨w.heap.size + 1, 0, none⟩) (show w.heap.size + 1 < wb.heap.size by omega)).trans fb3; have fc4 : wc.cell? ⟨w.heap.size + 1, 1, none⟩ = some (.int .i64 sxn) := (HBc'.out.cell (p := ⟨w.heap.size + 1, 1, none⟩) (show w.heap.size + 1 < wb.heap.size by omega)).trans fb4; have fc5 : wc.cell? ⟨w.heap.size + 1, 2, none⟩ = some (.slice qad QL qc) := (HBc'.out.cell (p := ⟨w.heap.size + 1, 2, none⟩) (show w.heap.size + 1 < wb.heap.size by omega)).trans fb5)
      | (go_at_call 57; (with_reducible refine Calls.mono (HU.out _ HBa.out) ?_); rintro e wb ⟨rfl, hbb⟩; have HBb' := hide hbb; clear hbb; have hszb : wa.heap.size ≤ wb.heap.size := HBb'.out.size; have HBb := hide (HBa.out.trans (HBb'.out.mono HBa.out.size)); have fb0 : wb.cell? ⟨w.heap.size, 0, none⟩ = some (.int .i64 xk) := (HBb'.out.cell (p := ⟨w.heap.size, 0, none⟩) (show w.heap.size < wa.heap.size by omega)).trans fa0; have fb1 : wb.cell? ⟨w.heap.size, 1, none⟩ = some (.int .i64 xn) := (HBb'.out.cell (p := ⟨w.heap.size, 1, none⟩) (show w.heap.size < wa.heap.size by omega)).trans fa1; have fb2 : wb.cell? ⟨w.heap.size, 2, none⟩ = some (.slice sad KL sc) := (HBb'.out.cell (p := ⟨w.heap.size, 2, none⟩) (show w.heap.size < wa.heap.size by omega)).trans fa2; have fb3 : wb.cell? ⟨w.heap.size + 1, 0, none⟩ = some (.int .i64 sxk) := (HBb'.out.cell (p := ⟨w.heap.size + 1, 0, none⟩) (show w.heap.size + 1 < wa.heap.size by omega)).trans fa3; have fb4 : wb.cell? ⟨w.heap.size + 1, 1, none⟩ = some (.int .i64 sxn) := (HBb'.out.cell (p := ⟨w.heap.size + 1, 1, none⟩) (show w.heap.size + 1 < wa.heap.size by omega)).trans fa4; have fb5 : wb.cell? ⟨w.heap.size + 1, 2, none⟩ = some (.slice qad QL qc) := (HBb'.out.cell (p := ⟨w.heap.size + 1, 2, none⟩) (show w.heap.size + 1 < wa.heap.size by omega)).trans fa5)
      | (go_at_call 56; (with_reducible refine Calls.mono (HZ.out _ HB0.out) ?_); rintro e wa ⟨rfl, hba⟩; have HBa' := hide hba; clear hba; have hsza : w0.heap.size ≤ wa.heap.size := HBa'.out.size; have HBa := hide (HB0.out.trans (HBa'.out.mono HB0.out.size)); have fa0 : wa.cell? ⟨w.heap.size, 0, none⟩ = some (.int .i64 xk) := (HBa'.out.cell (p := ⟨w.heap.size, 0, none⟩) (show w.heap.size < w0.heap.size by omega)).trans e0; have fa1 : wa.cell? ⟨w.heap.size, 1, none⟩ = some (.int .i64 xn) := (HBa'.out.cell (p := ⟨w.heap.size, 1, none⟩) (show w.heap.size < w0.heap.size by omega)).trans e1; have fa2 : wa.cell? ⟨w.heap.size, 2, none⟩ = some (.slice sad KL sc) := (HBa'.out.cell (p := ⟨w.heap.size, 2, none⟩) (show w.heap.size < w0.heap.size by omega)).trans e2; have fa3 : wa.cell? ⟨w.heap.size + 1, 0, none⟩ = some (.int .i64 sxk) := (HBa'.out.cell (p := ⟨w.heap.size + 1, 0, none⟩) (show w.heap.size + 1 < w0.heap.size by omega)).trans e3; have fa4 : wa.cell? ⟨w.heap.size + 1, 1, none⟩ = some (.int .i64 sxn) := (HBa'.out.cell (p := ⟨w.heap.size + 1, 1, none⟩) (show w.heap.size + 1 < w0.heap.size by omega)).trans e4; have fa5 : wa.cell? ⟨w.heap.size + 1, 2, none⟩ = some (.slice qad QL qc) := (HBa'.out.cell (p := ⟨w.heap.size + 1, 2, none⟩) (show w.heap.size + 1 < w0.heap.size by omega)).trans e5))
  clear e0 e1 e2 e3 e4 e5 fa0 fa1 fa2 fa3 fa4 fa5 fb0 fb1 fb2 fb3 fb4 fb5
  have hR0 : wc.heap[w.heap.size + 1 + 1]? = some (.cells #[.int .i64 0, .int .i64 0, .slice none 0 0] 55) := by
    rw [HBc'.out.block _ (by omega), HBb'.out.block _ (by omega), HBa'.out.block _ (show w.heap.size + 1 + 1 < w0.heap.size by omega)]
    exact HbR.out
  have HR0 := hide hR0
  have z0 := cell_of_blk hR0 0
  have z1 := cell_of_blk hR0 1
  have z2 := cell_of_blk hR0 2
  have fz := unfrozen_of_blk hR0
  simp only [List.getElem?_toArray, List.getElem?_cons_zero, List.getElem?_cons_succ] at z0 z1 z2
  clear hR0 HbR HBa' HBb' HBc' HBa HBb HZ HZS HU
  rw [HV1.out, HW2.out, HV3.out]
  by_cases hyes : A + 1 + M ≤ 600
  · have hyi : ¬ (600 : Int) < (A : Int) + 1 + (M : Int) := by omega
    go_wp2_with fail
    refine Calls.mono (HP.out _ HBc.out) ?_
    rintro e w5 ⟨s5, rfl, hs5, hb5⟩
    obtain ⟨pad, pc, rfl⟩ := hs5.form
    have HS5 := hide hs5
    have hB5 : Below w.heap.size w w5 := HBc.out.trans (hb5.mono HBc.out.size)
    have hbR5 := (hb5.block _ (show w.heap.size + 1 + 1 < wc.heap.size by omega)).trans HR0.out
    have y0 := cell_of_blk hbR5 0
    have y1 := cell_of_blk hbR5 1
    have y2 := cell_of_blk hbR5 2
    have fy := unfrozen_of_blk hbR5
    simp only [List.getElem?_toArray, List.getElem?_cons_zero, List.getElem?_cons_succ] at y0 y1 y2
    have hsz5 := hb5.size
    obtain ⟨ZL, hZL⟩ : ∃ ZL, ZL = kk.len := ⟨_, rfl⟩
    rw [← hZL] at HS5 ⊢
    clear hs5 hb5 hbR5 hZL z0 z1 z2 fz HR0 HP
    go_wp2_with fail
    refine bodyPost_ret (v := .tuple #[.agg #[.int .i64 zz.k, .int .i64 zz.n, .slice pad ZL pc], .bool true]) (by simp [results, Try.results28, go_sem, *]) rfl ⟨?_, ((hB5.setCell (p := ⟨w.heap.size + 1 + 1, 0, none⟩) (by simp; omega) _).setCell (p := ⟨w.heap.size + 1 + 1, 1, none⟩) (by simp; omega) _).setCell (p := ⟨w.heap.size + 1 + 1, 2, none⟩) (by simp; omega) _⟩
    refine ⟨_, rfl, HS5.out.keep (by simp [World.setCell]) (fun g h1 h2 => ⟨?_, by omega⟩)⟩
    have hkn : g ≠ w.heap.size + 1 + 1 := by omega
    rw [Below.heap_setCell _ _ _ _ hkn, Below.heap_setCell _ _ _ _ hkn, Below.heap_setCell _ _ _ _ hkn]
  · have hyi : (600 : Int) < (A : Int) + 1 + (M : Int) := by omega
    go_wp2_with fail
    refine bodyPost_ret (v := .tuple #[.agg #[.int .i64 0, .int .i64 0, .slice none 0 0], .bool false]) (by simp [results, Try.results28, go_sem, *]) rfl ⟨?_, ?_⟩
    · rfl
    · first | exact HBc.out | exact ((HBc.out.setCell (p := ⟨w.heap.size + 1 + 1, 0, none⟩) (by simp; omega) _).setCell (p := ⟨w.heap.size + 1 + 1, 1, none⟩) (by simp; omega) _).setCell (p := ⟨w.heap.size + 1 + 1, 2, none⟩) (by simp; omega) _
end Go.Proofs.Ytjmgnljjeogdlaa.W
