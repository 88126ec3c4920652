/-
  The first redex contracted, by the specification: a contract of l4First. Conditions: good terms.
-/
import Derived.Test.YtbimfnnbfbfdoabTeNm
import Derived.Test.YtbimfnnbfbfdoabTeKt
import Derived.Test.YtbimfnnbfbfdoabTeKw
import Derived.Test.YtbimfnnbfbfdoabTeKx
namespace Go.Proofs.Ytbimfnnbfbfdoab.W
open Go.ChangeShapes Go.WideShapes Go.ChangeAt Go.RowKit
set_option linter.unusedVariables false

/-- A tree with its first redex contracted, whether there is one, and room. -/
def FO (w' : World) (P : Nat → Prop) (r : Option (Option (Cc × F))) (e : Ending) : Prop :=
  match r with
  | none => e = .returned (.tuple #[.agg #[.int .i64 0, .int .i64 0, .slice none 0 0], .bool false, .bool true])
  | some c => ∃ (p : Cc × F) (s' : Value), e = .returned (.tuple #[.agg #[.int .i64 p.1.k, .int .i64 p.1.n, s'], .bool true, .bool c.isSome]) ∧ KidT w' P p.2 s' ∧ (∀ q, c = some q → p = q)

theorem fk_cons (y : Cc) (ky r : F) : fk (.cons y ky r) = match fh y ky with | some c => some (c.map fun p : Cc × F => F.cons p.1 p.2 r) | none => (fk r).map fun c => c.map fun r' => F.cons y ky r' := by
  rw [fk]
  unfold fh
  by_cases hr : redx y ky = true
  · rw [if_pos hr, if_pos hr]
  · rw [if_neg hr, if_neg hr]
    cases fk ky with
    | none => rfl
    | some c => cases c <;> rfl

def FGoal (k : F) : Prop := ∀ (x : Cc) (s : Value) (P : Nat → Prop) (w : World), okT x k → k.flat.length + 1 ≤ 600 → KidT w P k s →
    Calls Try.prog 40 #[.agg #[.int .i64 x.k, .int .i64 x.n, s]] w fun e w' => FO w' (fun g => P g ∨ w.heap.size ≤ g) (fh x k) e ∧ Below w.heap.size w w'

set_option maxRecDepth 20000 in
set_option maxHeartbeats 4000000 in
theorem l4First_any : ∀ k, FGoal k := by
  apply F.rec_kids
  intro k ih x s P w hok hl hT0
  have IH := hide ih
  have HOk := hide hok
  have HT := hide hT0.old
  have hkl3 : k.len ≤ 3 := by rw [hok.2.1]; exact ar_le _
  have HIs := hide (fun (w' : World) (hb : Below w.heap.size w w') => l4Is_any x k s _ w' hok.2.1 hok.2.2 (HT.out.below hb))
  have HC := hide (fun (w' : World) (hb : Below w.heap.size w w') => l4Contract_any x k s _ w' hok hl (HT.out.below hb))
  obtain ⟨sad, sc, rfl⟩ := hT0.form
  obtain ⟨KL, hKL⟩ : ∃ KL, KL = k.len := ⟨_, rfl⟩
  obtain ⟨R, hR⟩ : ∃ R, R = fh x k := ⟨_, rfl⟩
  rw [← hR]
  rw [← hKL] at HT HC HIs hkl3 ⊢
  have HKL := hide hKL
  have HR := hide hR
  obtain ⟨xk, xn⟩ := x
  simp only at HC HIs ⊢
  clear ih hok hT0 hR hKL
  cases hrd : redx ⟨xk, xn⟩ k with
  | true =>
    rw [hrd] at HIs
    have hRe : R = some (ctrO ⟨xk, xn⟩ k) := by rw [HR.out]; unfold fh; rw [if_pos hrd]
    have hCe : ctrR ⟨xk, xn⟩ k = ctrO ⟨xk, xn⟩ k := by unfold ctrR; rw [if_pos hrd]
    rw [hCe] at HC
    subst hRe
    obtain ⟨C, hC⟩ : ∃ C, C = ctrO ⟨xk, xn⟩ k := ⟨_, rfl⟩
    rw [← hC] at HC ⊢
    clear hCe hC hrd HR
    go_enter Try.func40, Try.ntmps40
    go_wp2_with fail
    obtain ⟨w0, hw0⟩ : ∃ w0, w0 = (w.alloc (.cells #[.int .i64 xk, .int .i64 xn, .slice sad KL sc] 40)).alloc (.cells #[.int .i64 0, .int .i64 0, .slice none 0 0] 40) := ⟨_, rfl⟩
    rw [← hw0]
    have hB0 : Below w.heap.size w w0 := by rw [hw0]; exact ((Below.refl _ _).alloc (Nat.le_refl _) _).alloc (by simp) _
    have hbT : w0.heap[w.heap.size]? = some (.cells #[.int .i64 xk, .int .i64 xn, .slice sad KL sc] 40) := by rw [hw0, heap_alloc_old _ _ (by simp)]; exact heap_alloc_new _ _
    have hbR : w0.heap[w.heap.size + 1]? = some (.cells #[.int .i64 0, .int .i64 0, .slice none 0 0] 40) := by rw [hw0]; have := heap_alloc_new (w.alloc (.cells #[.int .i64 xk, .int .i64 xn, .slice sad KL sc] 40)) (.cells #[.int .i64 0, .int .i64 0, .slice none 0 0] 40); simpa using this
    have hsz0 : w0.heap.size = w.heap.size + 1 + 1 := by rw [hw0]; simp
    clear hw0
    refine Calls.mono (HIs.out _ hB0) ?_
    rintro e w1 ⟨rfl, hb1⟩
    have hsz1 := hb1.size
    have hBw1 : Below w.heap.size w w1 := hB0.trans (hb1.mono hB0.size)
    have hT1 := (hb1.block w.heap.size (by omega)).trans hbT
    have hR1 := (hb1.block (w.heap.size + 1) (by omega)).trans hbR
    have t0 : w1.cell? ⟨w.heap.size, 0, none⟩ = some (.int .i64 xk) := (cell_of_blk hT1 0).trans rfl
    have t1 : w1.cell? ⟨w.heap.size, 1, none⟩ = some (.int .i64 xn) := (cell_of_blk hT1 1).trans rfl
    have t2 : w1.cell? ⟨w.heap.size, 2, none⟩ = some (.slice sad KL sc) := (cell_of_blk hT1 2).trans rfl
    have HT1 := hide hT1
    have HR1 := hide hR1
    clear HIs hbT hbR hT1 hR1
    go_wp2_with fail
    refine Calls.mono (HC.out _ hBw1) ?_
    rintro e w2 ⟨hto, hb2⟩
    have hBw2 : Below w.heap.size w w2 := hBw1.trans (hb2.mono hBw1.size)
    have hR2 := (hb2.block (w.heap.size + 1) (by omega)).trans HR1.out
    have hsz2 := hb2.size
    have HRB : Hid (∀ o : Obj, (w2.alloc o).heap[w.heap.size + 1]? = some (.cells #[.int .i64 0, .int .i64 0, .slice none 0 0] 40 (0, 0))) := hide (fun o => (heap_alloc_old _ _ (by omega)).trans hR2)
    have A0 : ∀ o : Obj, (w2.alloc o).cell? ⟨w.heap.size + 1, 0, none⟩ = some (.int .i64 0) := fun o => (cell_of_blk (HRB.out o) 0).trans rfl
    have A1 : ∀ o : Obj, (w2.alloc o).cell? ⟨w.heap.size + 1, 1, none⟩ = some (.int .i64 0) := fun o => (cell_of_blk (HRB.out o) 1).trans rfl
    have A2 : ∀ o : Obj, (w2.alloc o).cell? ⟨w.heap.size + 1, 2, none⟩ = some (.slice none 0 0) := fun o => (cell_of_blk (HRB.out o) 2).trans rfl
    have FA : ∀ (o : Obj) (i : Nat), (w2.alloc o).frozen? ⟨w.heap.size + 1, i, none⟩ = false := fun o i => unfrozen_of_blk (HRB.out o) i
    clear t0 t1 t2 HT1 HR1 HC hb2 hR2
    cases C with
    | none =>
      obtain rfl : e = .returned (.tuple #[.agg #[.int .i64 0, .int .i64 0, .slice none 0 0], .bool false]) := hto
      go_wp2_with fail
      have hr9 := blk_setCell (i := 2) (blk_setCell (i := 1) (blk_setCell (i := 0) (HRB.out (.cells #[.int .i64 0, .int .i64 0, .slice none 0 0] 40)) (.int .i64 0)) (.int .i64 0)) (.slice none 0 0)
      have b0 := (cell_of_blk hr9 0).trans rfl
      have b1 := (cell_of_blk hr9 1).trans rfl
      have b2 := (cell_of_blk hr9 2).trans rfl
      have hB9 := (((hBw2.alloc hBw2.size (.cells #[.int .i64 0, .int .i64 0, .slice none 0 0] 40)).setCell (p := ⟨w.heap.size + 1, 0, none⟩) (by show w.heap.size ≤ w.heap.size + 1; omega) (.int .i64 0)).setCell (p := ⟨w.heap.size + 1, 1, none⟩) (by show w.heap.size ≤ w.heap.size + 1; omega) (.int .i64 0)).setCell (p := ⟨w.heap.size + 1, 2, none⟩) (by show w.heap.size ≤ w.heap.size + 1; omega) (.slice none 0 0)
      refine bodyPost_ret (v := .tuple #[.agg #[.int .i64 0, .int .i64 0, .slice none 0 0], .bool true, .bool false]) (by simp [results, Try.results40, go_sem, b0, b1, b2]) rfl ⟨?_, hB9⟩
      exact ⟨(⟨0, 0⟩, .nil), .slice none 0 0, rfl, KidT.nil, fun q h => by cases h⟩
    | some p =>
      obtain ⟨s2, rfl, hK2⟩ : ∃ s', e = .returned (.tuple #[.agg #[.int .i64 p.1.k, .int .i64 p.1.n, s'], .bool true]) ∧ KidT w2 _ p.2 s' := hto
      obtain ⟨pad, pc2, hpf⟩ := hK2.form
      subst hpf
      obtain ⟨PN, hPN⟩ : ∃ PN, PN = p.2.len := ⟨_, rfl⟩
      have HK2 := hide hK2
      rw [← hPN] at HK2 ⊢
      clear hK2 hPN
      go_wp2_with fail
      have hr9 := blk_setCell (i := 2) (blk_setCell (i := 1) (blk_setCell (i := 0) (HRB.out (.cells #[.int .i64 p.1.k, .int .i64 p.1.n, .slice pad PN pc2] 40)) (.int .i64 p.1.k)) (.int .i64 p.1.n)) (.slice pad PN pc2)
      have b0 := (cell_of_blk hr9 0).trans rfl
      have b1 := (cell_of_blk hr9 1).trans rfl
      have b2 := (cell_of_blk hr9 2).trans rfl
      have hB9 := (((hBw2.alloc hBw2.size (.cells #[.int .i64 p.1.k, .int .i64 p.1.n, .slice pad PN pc2] 40)).setCell (p := ⟨w.heap.size + 1, 0, none⟩) (by show w.heap.size ≤ w.heap.size + 1; omega) (.int .i64 p.1.k)).setCell (p := ⟨w.heap.size + 1, 1, none⟩) (by show w.heap.size ≤ w.heap.size + 1; omega) (.int .i64 p.1.n)).setCell (p := ⟨w.heap.size + 1, 2, none⟩) (by show w.heap.size ≤ w.heap.size + 1; omega) (.slice pad PN pc2)
      refine bodyPost_ret (v := .tuple #[.agg #[.int .i64 p.1.k, .int .i64 p.1.n, .slice pad PN pc2], .bool true, .bool true]) (by simp [results, Try.results40, go_sem, b0, b1, b2]) rfl ⟨?_, hB9⟩
      refine ⟨p, _, rfl, HK2.out.keep (by simp [World.setCell]) (fun q h1 h2 => ?_), fun q h => by cases h; rfl⟩
      have hqq : q ≠ w.heap.size + 1 ∧ (P q ∨ w.heap.size ≤ q) := by
        rcases h1 with h | h
        · exact ⟨by have := h.2; omega, .inl h.1⟩
        · exact ⟨by omega, .inr (by omega)⟩
      exact ⟨by rw [Below.heap_setCell _ _ _ _ hqq.1, Below.heap_setCell _ _ _ _ hqq.1, Below.heap_setCell _ _ _ _ hqq.1, heap_alloc_old _ _ h2], hqq.2⟩
  | false =>
    rw [hrd] at HIs
    have hRe : R = (fk k).map fun c => c.map fun k' => ((⟨xk, xn⟩ : Cc), k') := by rw [HR.out]; unfold fh; rw [if_neg (by rw [hrd]; simp)]
    have HRe := hide hRe
    clear HC hRe hrd HR
    go_enter Try.func40, Try.ntmps40
    go_wp2_with fail
    obtain ⟨w0, hw0⟩ : ∃ w0, w0 = (w.alloc (.cells #[.int .i64 xk, .int .i64 xn, .slice sad KL sc] 40)).alloc (.cells #[.int .i64 0, .int .i64 0, .slice none 0 0] 40) := ⟨_, rfl⟩
    rw [← hw0]
    have hB0 : Below w.heap.size w w0 := by rw [hw0]; exact ((Below.refl _ _).alloc (Nat.le_refl _) _).alloc (by simp) _
    have hbT : w0.heap[w.heap.size]? = some (.cells #[.int .i64 xk, .int .i64 xn, .slice sad KL sc] 40) := by rw [hw0, heap_alloc_old _ _ (by simp)]; exact heap_alloc_new _ _
    have hbR : w0.heap[w.heap.size + 1]? = some (.cells #[.int .i64 0, .int .i64 0, .slice none 0 0] 40) := by rw [hw0]; have := heap_alloc_new (w.alloc (.cells #[.int .i64 xk, .int .i64 xn, .slice sad KL sc] 40)) (.cells #[.int .i64 0, .int .i64 0, .slice none 0 0] 40); simpa using this
    have hsz0 : w0.heap.size = w.heap.size + 1 + 1 := by rw [hw0]; simp
    clear hw0
    refine Calls.mono (HIs.out _ hB0) ?_
    rintro e w1 ⟨rfl, hb1⟩
    have hsz1 := hb1.size
    have hBw1 : Below w.heap.size w w1 := hB0.trans (hb1.mono hB0.size)
    have hT1 := (hb1.block w.heap.size (by omega)).trans hbT
    have hR1 := (hb1.block (w.heap.size + 1) (by omega)).trans hbR
    have t0 : w1.cell? ⟨w.heap.size, 0, none⟩ = some (.int .i64 xk) := (cell_of_blk hT1 0).trans rfl
    have t1 : w1.cell? ⟨w.heap.size, 1, none⟩ = some (.int .i64 xn) := (cell_of_blk hT1 1).trans rfl
    have t2 : w1.cell? ⟨w.heap.size, 2, none⟩ = some (.slice sad KL sc) := (cell_of_blk hT1 2).trans rfl
    have HT1 := hide hT1
    have HR1 := hide hR1
    clear HIs hbT hbR hT1 hR1
    go_wp2_with fail
    go_loopw [24] (fun i w' => ∃ d r : F, k = d.app r ∧ i = .int .i64 (d.len : Int) ∧ fk k = (fk r).map (fun c => c.map (fun r' => d.app r')) ∧ Below w1.heap.size w1 w') (fun i _ => KL - (intOf i).toNat)
    case atStart => exact ⟨.nil, k, rfl, rfl, by show fk k = (fk k).map _; cases fk k with | none => rfl | some c => cases c <;> rfl, Below.refl _ _⟩
    case round =>
      obtain ⟨d, r, hk, rfl, hcl, hBr⟩ := hrel
      have HCk := hide hcl
      have hszr := hBr.size
      have hBw : Below w.heap.size w wr := hBw1.trans (hBr.mono hBw1.size)
      have HTr := hide ((hBr.block w.heap.size (by omega)).trans HT1.out)
      have HRr := hide ((hBr.block (w.heap.size + 1) (by omega)).trans HR1.out)
      clear hcl t0 t1 t2
      cases r with
      | nil =>
        have hRn : R = none := by rw [HRe.out, HCk.out]; rfl
        subst hRn
        rw [F.app_nil] at hk
        subst hk
        have hKL := HKL.out
        rw [← hKL]
        clear hKL HCk HRe
        have a0 : wr.cell? ⟨w.heap.size + 1, 0, none⟩ = some (.int .i64 0) := (cell_of_blk HRr.out 0).trans rfl
        have a1 : wr.cell? ⟨w.heap.size + 1, 1, none⟩ = some (.int .i64 0) := (cell_of_blk HRr.out 1).trans rfl
        have a2 : wr.cell? ⟨w.heap.size + 1, 2, none⟩ = some (.slice none 0 0) := (cell_of_blk HRr.out 2).trans rfl
        have fa := unfrozen_of_blk HRr.out
        go_wp2_with fail
        have hr9 := blk_setCell (i := 2) (blk_setCell (i := 1) (blk_setCell (i := 0) (HRr.out) (.int .i64 0)) (.int .i64 0)) (.slice none 0 0)
        have b0 := (cell_of_blk hr9 0).trans rfl
        have b1 := (cell_of_blk hr9 1).trans rfl
        have b2 := (cell_of_blk hr9 2).trans rfl
        have hB9 := (((hBw).setCell (p := ⟨w.heap.size + 1, 0, none⟩) (by show w.heap.size ≤ w.heap.size + 1; omega) (.int .i64 0)).setCell (p := ⟨w.heap.size + 1, 1, none⟩) (by show w.heap.size ≤ w.heap.size + 1; omega) (.int .i64 0)).setCell (p := ⟨w.heap.size + 1, 2, none⟩) (by show w.heap.size ≤ w.heap.size + 1; omega) (.slice none 0 0)
        refine bodyPost_ret (v := .tuple #[.agg #[.int .i64 0, .int .i64 0, .slice none 0 0], .bool false, .bool true]) (by simp [results, Try.results40, go_sem, b0, b1, b2]) rfl ⟨?_, hB9⟩
        rfl
      | cons y ky r =>
        have hO := HOk.out.2.2
        rw [hk] at hO
        obtain ⟨gy, ly, oy, orr⟩ := ((F.app_ok _ _).1 hO).2
        have hfk : k.flat.length = d.flat.length + (1 + ky.flat.length + r.flat.length) := by rw [hk, F.app_flat]; simp [F.flat]; omega
        have hI := IH.out
        rw [hk] at hI
        have hkl2 : KL = d.len + (r.len + 1) := by rw [HKL.out, hk, F.app_len]; rfl
        have hlt' : (d.len : Int) < (KL : Int) := by omega
        have hd0 : (0 : Int) ≤ (d.len : Int) := by omega
        obtain ⟨g, cap, sy, he, hP, hg, hTy, p0, p1, p2⟩ := KidT.kid (a := d) (k := ky) (r := r) (x := y) (s := .slice sad KL sc) (by rw [← hk]; exact HT.out)
        simp only [Value.slice.injEq] at he
        obtain ⟨rfl, -, rfl⟩ := he
        have q0 := (hBw.cell (p := ⟨g, d.len * 3, none⟩) hg).trans p0
        have q1 := (hBw.cell (p := ⟨g, d.len * 3 + 1, none⟩) hg).trans p1
        have q2 := (hBw.cell (p := ⟨g, d.len * 3 + 2, none⟩) hg).trans p2
        have HCl := hide (fun (w' : World) (hw' : Below w.heap.size w w') => F.all_at hI y sy _ w' ⟨gy, ly, oy⟩ (by omega) (hTy.below hw'))
        have HWi := hide (fun (z : Cc) (kz : F) (sz : Value) (Q : Nat → Prop) (w' : World) (hw' : Below w.heap.size w w') (hZ : KidT w' Q kz sz) => l4With_any ⟨xk, xn⟩ y z d ky r kz (.slice (some ⟨g, 0, none⟩) KL sc) sz _ Q w' (by rw [← hk]; have := HKL.out; omega) (by rw [← hk]; exact HT.out.below hw') hZ)
        obtain ⟨yad, yc, rfl⟩ := hTy.form
        have HSn := hide (hk.trans (F.app_snoc d ky r y))
        have HDl : Hid ((d.app (.cons y ky .nil)).len = d.len + 1) := hide (by rw [F.app_len]; rfl)
        have HNone : Hid (fh y ky = none → fk k = (fk r).map (fun c => c.map (fun r' => (d.app (.cons y ky .nil)).app r'))) := hide (fun hv => by
          rw [HCk.out, fk_cons, hv]
          cases fk r with
          | none => rfl
          | some c =>
            cases c with
            | none => rfl
            | some r' => simp [F.app_assoc, F.app])
        have HSome : Hid (∀ c, fh y ky = some c → R = some (c.map (fun p : Cc × F => ((⟨xk, xn⟩ : Cc), d.app (.cons p.1 p.2 r))))) := hide (fun c hv => by
          rw [HRe.out, HCk.out, fk_cons, hv]
          cases c <;> rfl)
        obtain ⟨DL, hDL⟩ : ∃ DL, DL = d.len := ⟨_, rfl⟩
        obtain ⟨kn, hkn⟩ : ∃ kn, kn = ky.len := ⟨_, rfl⟩
        obtain ⟨CL, hCL⟩ : ∃ CL, CL = fh y ky := ⟨_, rfl⟩
        rw [← hDL] at hlt' hd0 q0 q1 q2 HDl HWi ⊢
        rw [← hkn] at q2 HCl
        rw [← hCL] at HCl HNone HSome
        have HDL := hide hDL
        have hDL3 : DL ≤ 3 := by omega
        have hBa : ∀ o : Obj, Below w.heap.size w (wr.alloc o) := fun o => hBw.alloc hBw.size o
        clear p0 p1 p2 hTy hI hO gy ly oy orr hfk hk hkl2 hDL hkn hCL
        go_wp2_with fail
        refine Calls.mono (HCl.out _ (hBa _)) ?_
        rintro e w2 ⟨hto, hb2⟩
        have hB12 : Below w1.heap.size w1 w2 := (hBr.alloc hBr.size _).trans (hb2.mono (by have := hBr.size; simp; omega))
        have hBw2 : Below w.heap.size w w2 := hBw1.trans (hB12.mono hBw1.size)
        have hT2 := (hB12.block w.heap.size (by omega)).trans HT1.out
        have hR2 := (hB12.block (w.heap.size + 1) (by omega)).trans HR1.out
        have hsz2 := hB12.size
        have hsz2' : wr.heap.size ≤ w2.heap.size := by have := hb2.size; simp at this; omega
        have hal : ∀ o : Obj, Below w2.heap.size w2 (w2.alloc o) := fun o => (Below.refl _ _).alloc (Nat.le_refl _) _
        have T0 : ∀ o : Obj, (w2.alloc o).cell? ⟨w.heap.size, 0, none⟩ = some (.int .i64 xk) := fun o => ((hal o).cell (p := ⟨w.heap.size, 0, none⟩) (show w.heap.size < w2.heap.size by omega)).trans ((cell_of_blk hT2 0).trans rfl)
        have T1 : ∀ o : Obj, (w2.alloc o).cell? ⟨w.heap.size, 1, none⟩ = some (.int .i64 xn) := fun o => ((hal o).cell (p := ⟨w.heap.size, 1, none⟩) (show w.heap.size < w2.heap.size by omega)).trans ((cell_of_blk hT2 1).trans rfl)
        have T2 : ∀ o : Obj, (w2.alloc o).cell? ⟨w.heap.size, 2, none⟩ = some (.slice (some ⟨g, 0, none⟩) KL sc) := fun o => ((hal o).cell (p := ⟨w.heap.size, 2, none⟩) (show w.heap.size < w2.heap.size by omega)).trans ((cell_of_blk hT2 2).trans rfl)
        have HRB : Hid (∀ o : Obj, (w2.alloc o).heap[w.heap.size + 1]? = some (.cells #[.int .i64 0, .int .i64 0, .slice none 0 0] 40 (0, 0))) := hide (fun o => (heap_alloc_old _ _ (by omega)).trans hR2)
        clear q0 q1 q2 HCl hb2 hT2 hR2
        cases CL with
        | none =>
          obtain rfl : e = .returned (.tuple #[.agg #[.int .i64 0, .int .i64 0, .slice none 0 0], .bool false, .bool true]) := hto
          have HV := hide (HNone.out rfl)
          clear HNone HSome HWi T0 T1 T2 HRB hal
          go_wp2_with fail
          exact ⟨⟨d.app (.cons y ky .nil), r, HSn.out, by rw [HDl.out]; go_num, HV.out, hB12.alloc hB12.size _⟩, by simp [intOf]; omega⟩
        | some cc =>
          obtain ⟨p, s2, rfl, hK2, hpe⟩ : ∃ (p : Cc × F) (s' : Value), e = .returned (.tuple #[.agg #[.int .i64 p.1.k, .int .i64 p.1.n, s'], .bool true, .bool cc.isSome]) ∧ KidT w2 _ p.2 s' ∧ (∀ q, cc = some q → p = q) := hto
          have hRs := HSome.out cc rfl
          subst hRs
          obtain ⟨pad, pc2, hpf⟩ := hK2.form
          subst hpf
          obtain ⟨w3, hw3⟩ : ∃ w3, w3 = w2.alloc (.cells #[.int .i64 p.1.k, .int .i64 p.1.n, .slice pad p.2.len pc2] 40) := ⟨_, rfl⟩
          have hb3 : Below w2.heap.size w2 w3 := by rw [hw3]; exact hal _
          have hBw3 : Below w.heap.size w w3 := hBw2.trans (hb3.mono hBw2.size)
          have hR3 : w3.heap[w.heap.size + 1]? = some (.cells #[.int .i64 0, .int .i64 0, .slice none 0 0] 40 (0, 0)) := by rw [hw3]; exact HRB.out _
          have hsz3 := hb3.size
          have HW3 := hide hw3
          have HWW := hide (HWi.out p.1 p.2 _ _ w3 hBw3 (hK2.below hb3))
          obtain ⟨PN, hPN⟩ : ∃ PN, PN = p.2.len := ⟨_, rfl⟩
          rw [← hPN] at HW3 HWW ⊢
          have HR3 := hide hR3
          have HPe := hide hpe
          obtain ⟨OK, hOK⟩ : ∃ OK, OK = cc.isSome := ⟨_, rfl⟩
          rw [← hOK]
          have HOK := hide hOK
          clear hw3 hK2 hR3 hb3 HWi hPN HRB hpe hOK HNone HSome
          go_wp2_with fail
          rw [← HW3.out]
          refine Calls.mono HWW.out ?_
          rintro e w4 ⟨s4, rfl, hK4, hb4⟩
          have hBw4 : Below w.heap.size w w4 := hBw3.trans (hb4.mono hBw3.size)
          have hR4 := (hb4.block (w.heap.size + 1) (by omega)).trans HR3.out
          have hsz4 := hb4.size
          have a0 : w4.cell? ⟨w.heap.size + 1, 0, none⟩ = some (.int .i64 0) := (cell_of_blk hR4 0).trans rfl
          have a1 : w4.cell? ⟨w.heap.size + 1, 1, none⟩ = some (.int .i64 0) := (cell_of_blk hR4 1).trans rfl
          have a2 : w4.cell? ⟨w.heap.size + 1, 2, none⟩ = some (.slice none 0 0) := (cell_of_blk hR4 2).trans rfl
          have fa := unfrozen_of_blk hR4
          obtain ⟨qad, qc, hqf⟩ := hK4.form
          subst hqf
          have HK4 := hide hK4
          have HR4 := hide hR4
          obtain ⟨QN, hQN⟩ : ∃ QN, QN = (d.app (.cons p.1 p.2 r)).len := ⟨_, rfl⟩
          rw [← hQN] at HK4 ⊢
          clear hK4 hR4 hb4 HWW HR3 T0 T1 T2 hQN
          go_wp2_with fail
          have hr9 := blk_setCell (i := 2) (blk_setCell (i := 1) (blk_setCell (i := 0) (HR4.out) (.int .i64 xk)) (.int .i64 xn)) (.slice qad QN qc)
          have b0 := (cell_of_blk hr9 0).trans rfl
          have b1 := (cell_of_blk hr9 1).trans rfl
          have b2 := (cell_of_blk hr9 2).trans rfl
          have hB9 := (((hBw4).setCell (p := ⟨w.heap.size + 1, 0, none⟩) (by show w.heap.size ≤ w.heap.size + 1; omega) (.int .i64 xk)).setCell (p := ⟨w.heap.size + 1, 1, none⟩) (by show w.heap.size ≤ w.heap.size + 1; omega) (.int .i64 xn)).setCell (p := ⟨w.heap.size + 1, 2, none⟩) (by show w.heap.size ≤ w.heap.size + 1; omega) (.slice qad QN qc)
          refine bodyPost_ret (v := .tuple #[.agg #[.int .i64 xk, .int .i64 xn, .slice qad QN qc], .bool true, .bool OK]) (by simp [results, Try.results40, go_sem, b0, b1, b2]) rfl ⟨?_, hB9⟩
          refine ⟨(⟨xk, xn⟩, d.app (.cons p.1 p.2 r)), _, by rw [HOK.out]; cases cc <;> rfl, HK4.out.keep (by simp [World.setCell]) (fun q h1 h2 => ?_), fun q h => ?_⟩
          rotate_left
          · cases cc with
            | none => cases h
            | some q' =>
              have := HPe.out q' rfl
              subst this
              simpa using h
          have hqq : q ≠ w.heap.size + 1 ∧ (P q ∨ w.heap.size ≤ q) := by
            rcases h1 with (h | h | h) | h
            · exact ⟨by have := h.2; omega, .inl h.1⟩
            · exact ⟨by have := h.2; omega, .inl h.1⟩
            · have h' : wr.heap.size ≤ q := Nat.le_trans (by simp) h
              exact ⟨by omega, .inr (by omega)⟩
            · exact ⟨by omega, .inr (by omega)⟩
          exact ⟨by rw [Below.heap_setCell _ _ _ _ hqq.1, Below.heap_setCell _ _ _ _ hqq.1, Below.heap_setCell _ _ _ _ hqq.1], hqq.2⟩
end Go.Proofs.Ytbimfnnbfbfdoab.W
