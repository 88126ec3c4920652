/-
  The step by value, by the specification: contracts of l4Call and CallStep. Conditions: good terms.
-/
import Derived.Test.YtbimfnnbfbfdoabTeKt
import Derived.Test.YtbimfnnbfbfdoabTeKw
namespace Go.Proofs.Ytbimfnnbfbfdoab.W
open Go.ChangeShapes Go.WideShapes Go.ChangeAt Go.RowKit
set_option linter.unusedVariables false

theorem cl_hd (x : Cc) (k : F) (c : Option (Option F)) (h : clk k (pc x.k) = c) : cl x k = hdO c x k := by unfold cl; rw [h]
theorem pc_arx (k : Int) : pc k ≤ ar k := by
  unfold pc ar
  by_cases h3 : k = 3
  · subst h3; decide
  · rw [if_neg h3]
    by_cases h4 : k = 4 ∨ k = 5
    · rw [if_pos h4, if_pos (by omega)]; decide
    · rw [if_neg h4]
      by_cases h7 : k = 7 ∨ k = 6
      · rw [if_pos h7]
        rcases h7 with h | h
        · subst h; decide
        · subst h; decide
      · rw [if_neg h7]; omega
/-- A tree's kids that lay before. -/
theorem KidT.old {w : World} {P : Nat → Prop} {a : F} {s : Value} (h : KidT w P a s) : KidT w (fun g => P g ∧ g < w.heap.size) a s := h.weak (fun k h1 h2 => ⟨h1, h2⟩)

def CLGoal (k : F) : Prop := ∀ (x : Cc) (s : Value) (P : Nat → Prop) (w : World), okT x k → k.flat.length + 1 ≤ 600 → KidT w P k s →
    Calls Try.prog 44 #[.agg #[.int .i64 x.k, .int .i64 x.n, s]] w fun e w' => TO w' (fun g => P g ∨ w.heap.size ≤ g) (cl x k) e ∧ Below w.heap.size w w'

set_option maxRecDepth 20000 in
set_option maxHeartbeats 4000000 in
theorem l4Call_any : ∀ k, CLGoal k := by
  apply F.rec_kids
  intro k ih x s P w hok hl hT0
  have IH := hide ih
  have HOk := hide hok
  have HT := hide hT0.old
  have hpc : pc x.k ≤ k.len := by rw [hok.2.1]; exact pc_arx _
  have hp3 : pc x.k ≤ 3 := Nat.le_trans (pc_arx _) (ar_le _)
  have hkl3 : k.len ≤ 3 := by rw [hok.2.1]; exact ar_le _
  have HC := hide (fun (w' : World) (hb : Below w.heap.size w w') => l4Contract_any x k s _ w' hok hl (HT.out.below hb))
  obtain ⟨sad, sc, rfl⟩ := hT0.form
  obtain ⟨KL, hKL⟩ : ∃ KL, KL = k.len := ⟨_, rfl⟩
  obtain ⟨PC, hPC⟩ : ∃ PC, PC = pc x.k := ⟨_, rfl⟩
  obtain ⟨R, hR⟩ : ∃ R, R = cl x k := ⟨_, rfl⟩
  have HR : Hid (∀ c, clk k PC = c → R = hdO c x k) := hide (fun c hc => by rw [hR]; exact cl_hd x k c (by rw [← hPC]; exact hc))
  rw [← hR]
  rw [← hKL] at HT HC hpc hkl3 ⊢
  rw [← hPC] at hpc hp3
  have HKL := hide hKL
  clear ih hok hT0 hR hKL
  obtain ⟨xk, xn⟩ := x
  simp only at *
  by_cases h4 : xk = 4
  · subst h4
    obtain rfl : PC = 2 := hPC
    go_enter Try.func44, Try.ntmps44
    go_wp2_with fail
    obtain ⟨w0, hw0⟩ : ∃ w0, w0 = (w.alloc (.cells #[.int .i64 4, .int .i64 xn, .slice sad KL sc] 40)).alloc (.cells #[.int .i64 0, .int .i64 0, .slice none 0 0] 40) := ⟨_, rfl⟩
    rw [← hw0]
    have hB0 : Below w.heap.size w w0 := by rw [hw0]; exact ((Below.refl _ _).alloc (Nat.le_refl _) _).alloc (by simp) _
    have hbT : w0.heap[w.heap.size]? = some (.cells #[.int .i64 4, .int .i64 xn, .slice sad KL sc] 40) := by rw [hw0, heap_alloc_old _ _ (by simp)]; exact heap_alloc_new _ _
    have hbR : w0.heap[w.heap.size + 1]? = some (.cells #[.int .i64 0, .int .i64 0, .slice none 0 0] 40) := by rw [hw0]; have := heap_alloc_new (w.alloc (.cells #[.int .i64 4, .int .i64 xn, .slice sad KL sc] 40)) (.cells #[.int .i64 0, .int .i64 0, .slice none 0 0] 40); simpa using this
    have hsz0 : w0.heap.size = w.heap.size + 1 + 1 := by rw [hw0]; simp
    have HbT := hide hbT
    have HbR := hide hbR
    have HSz := hide hsz0
    clear hw0 hbT hbR hsz0
    go_loopw [5] (fun i w' => ∃ d r : F, k = d.app r ∧ i = .int .i64 (d.len : Int) ∧ d.len ≤ 2 ∧ clk k 2 = (clk r (2 - d.len)).map (fun c => c.map (fun r' => d.app r')) ∧ Below w0.heap.size w0 w') (fun i _ => 2 - (intOf i).toNat)
    case atStart => exact ⟨.nil, k, rfl, rfl, Nat.zero_le _, by show clk k 2 = (clk k 2).map _; cases clk k 2 with | none => rfl | some c => cases c <;> rfl, Below.refl _ _⟩
    case round =>
      obtain ⟨d, r, hk, rfl, hdl, hcl, hBr⟩ := hrel
      have HCk := hide hcl
      have hszr := hBr.size
      have hsz0 := HSz.out
      have hBw : Below w.heap.size w wr := hB0.trans (hBr.mono hB0.size)
      have hbTr := (hBr.block w.heap.size (by omega)).trans HbT.out
      have hbRr := (hBr.block (w.heap.size + 1) (by omega)).trans HbR.out
      have HTr := hide hbTr
      have HRr := hide hbRr
      clear hcl hbTr hbRr
      by_cases hlt : d.len < 2
      · cases r with
        | nil => rw [hk, F.app_nil] at HKL; have := HKL.out; omega
        | cons y ky r =>
          have hlt' : (d.len : Int) < 2 := by omega
          have hd0 : (0 : Int) ≤ (d.len : Int) := by omega
          have hO := HOk.out.2.2
          rw [hk] at hO
          obtain ⟨gy, ly, oy, orr⟩ := ((F.app_ok _ _).1 hO).2
          have hfk : k.flat.length = d.flat.length + (1 + ky.flat.length + r.flat.length) := by rw [hk, F.app_flat]; simp [F.flat]; omega
          have hI := IH.out
          rw [hk] at hI
          have hkl2 : KL = d.len + (r.len + 1) := by rw [HKL.out, hk, F.app_len]; rfl
          have hltK : (d.len : Int) < (KL : Int) := by omega
          obtain ⟨g, cap, sy, he, hP, hg, hTy, p0, p1, p2⟩ := KidT.kid (a := d) (k := ky) (r := r) (x := y) (s := .slice sad KL sc) (by rw [← hk]; exact HT.out)
          simp only [Value.slice.injEq] at he
          obtain ⟨rfl, -, rfl⟩ := he
          have q0 := (hBw.cell (p := ⟨g, d.len * 3, none⟩) hg).trans p0
          have q1 := (hBw.cell (p := ⟨g, d.len * 3 + 1, none⟩) hg).trans p1
          have q2 := (hBw.cell (p := ⟨g, d.len * 3 + 2, none⟩) hg).trans p2
          have c2 : wr.cell? ⟨w.heap.size, 2, none⟩ = some (.slice (some ⟨g, 0, none⟩) KL sc) := (cell_of_blk HTr.out 2).trans rfl
          have HCl := hide (fun (w' : World) (hw' : Below w.heap.size w w') => F.all_at hI y sy _ w' ⟨gy, ly, oy⟩ (by omega) (hTy.below hw'))
          have HWi := hide (fun (z : Cc) (kz : F) (sz : Value) (Q : Nat → Prop) (w' : World) (hw' : Below w.heap.size w w') (hZ : KidT w' Q kz sz) => l4With_any ⟨4, xn⟩ y z d ky r kz (.slice (some ⟨g, 0, none⟩) KL sc) sz _ Q w' (by rw [← hk]; have := HKL.out; omega) (by rw [← hk]; exact HT.out.below hw') hZ)
          obtain ⟨yad, yc, rfl⟩ := hTy.form
          have HSn := hide (hk.trans (F.app_snoc d ky r y))
          have HDl : Hid ((d.app (.cons y ky .nil)).len = d.len + 1) := hide (by rw [F.app_len]; rfl)
          have HVal : Hid (isVal y.k = true → clk k 2 = (clk r (2 - (d.len + 1))).map (fun c => c.map (fun r' => (d.app (.cons y ky .nil)).app r'))) := hide (fun hv => by
            rw [HCk.out, clk, if_neg (by omega), if_pos hv, show 2 - d.len - 1 = 2 - (d.len + 1) by omega]
            cases clk r (2 - (d.len + 1)) with
            | none => rfl
            | some c =>
              cases c with
              | none => rfl
              | some r' => simp [F.app_assoc, F.app])
          have HNo : Hid (isVal y.k = false → R = (cl y ky).map (fun p => ((⟨4, xn⟩ : Cc), d.app (.cons p.1 p.2 r)))) := hide (fun hv => by
            have h1 : clk k 2 = some (((cl y ky).map fun p : Cc × F => F.cons p.1 p.2 r).map (fun r' => d.app r')) := by
              rw [HCk.out, clk, if_neg (by omega), if_neg (by rw [hv]; simp)]
              rfl
            rw [HR.out _ h1]
            cases cl y ky with
            | none => rfl
            | some p => rfl)
          obtain ⟨DL, hDL⟩ : ∃ DL, DL = d.len := ⟨_, rfl⟩
          obtain ⟨kn, hkn⟩ : ∃ kn, kn = ky.len := ⟨_, rfl⟩
          obtain ⟨CL, hCL⟩ : ∃ CL, CL = cl y ky := ⟨_, rfl⟩
          rw [← hDL] at hlt' hd0 hltK q0 q1 q2 HDl HWi ⊢
          rw [← hkn] at q2 HCl
          rw [← hCL] at HCl HNo
          have HDL := hide hDL
          have hDL3 : DL ≤ 3 := by omega
          clear p0 p1 p2 hTy hI hO gy ly oy orr hfk hk hkl2 hDL hkn hCL
          go_wp2_with fail
          refine Calls.mono (l4Value_any y.k y.n yad kn yc _) ?_
          rintro e w1 ⟨rfl, hb1⟩
          have hBr1 : Below w0.heap.size w0 w1 := hBr.trans (hb1.mono hBr.size)
          have hBw1 : Below w.heap.size w w1 := hBw.trans (hb1.mono hBw.size)
          cases hv : isVal y.k with
          | true =>
            have HV := hide (HVal.out hv)
            clear hv HVal HNo HCl HWi q0 q1 q2 c2 hb1
            go_wp2_with fail
            have e3 := HDL.out
            exact ⟨⟨d.app (.cons y ky .nil), r, HSn.out, by rw [HDl.out]; go_num, by rw [HDl.out]; omega, by rw [HDl.out, e3]; exact HV.out, hBr1⟩, by simp [intOf]; omega⟩
          | false =>
            have HV := hide (HNo.out hv)
            clear hv HVal HNo
            have r0 := (hb1.cell (p := ⟨g, DL * 3, none⟩) (show g < wr.heap.size by omega)).trans q0
            have r1 := (hb1.cell (p := ⟨g, DL * 3 + 1, none⟩) (show g < wr.heap.size by omega)).trans q1
            have r2 := (hb1.cell (p := ⟨g, DL * 3 + 2, none⟩) (show g < wr.heap.size by omega)).trans q2
            have d2 := (hb1.cell (p := ⟨w.heap.size, 2, none⟩) (show w.heap.size < wr.heap.size by omega)).trans c2
            have hT1 := (hb1.block w.heap.size (by omega)).trans HTr.out
            have hR1 := (hb1.block (w.heap.size + 1) (by omega)).trans HRr.out
            have hsz1 := hb1.size
            have HT1 := hide hT1
            have HR1 := hide hR1
            clear q0 q1 q2 c2 hb1 hT1 hR1 HTr HRr
            go_wp2_with fail
            refine Calls.mono (HCl.out _ hBw1) ?_
            rintro e w2 ⟨hto, hb2⟩
            have hBw2 : Below w.heap.size w w2 := hBw1.trans (hb2.mono hBw1.size)
            have hT2 := (hb2.block w.heap.size (by omega)).trans HT1.out
            have hR2 := (hb2.block (w.heap.size + 1) (by omega)).trans HR1.out
            have hsz2 := hb2.size
            clear r0 r1 r2 d2 HT1 HR1 HCl hb2
            have hal : ∀ o : Obj, Below w2.heap.size w2 (w2.alloc o) := fun o => (Below.refl _ _).alloc (Nat.le_refl _) _
            have T0 : ∀ o : Obj, (w2.alloc o).cell? ⟨w.heap.size, 0, none⟩ = some (.int .i64 4) := fun o => ((hal o).cell (p := ⟨w.heap.size, 0, none⟩) (show w.heap.size < w2.heap.size by omega)).trans ((cell_of_blk hT2 0).trans rfl)
            have T1 : ∀ o : Obj, (w2.alloc o).cell? ⟨w.heap.size, 1, none⟩ = some (.int .i64 xn) := fun o => ((hal o).cell (p := ⟨w.heap.size, 1, none⟩) (show w.heap.size < w2.heap.size by omega)).trans ((cell_of_blk hT2 1).trans rfl)
            have T2 : ∀ o : Obj, (w2.alloc o).cell? ⟨w.heap.size, 2, none⟩ = some (.slice (some ⟨g, 0, none⟩) KL sc) := fun o => ((hal o).cell (p := ⟨w.heap.size, 2, none⟩) (show w.heap.size < w2.heap.size by omega)).trans ((cell_of_blk hT2 2).trans rfl)
            have RB : ∀ o : Obj, (w2.alloc o).heap[w.heap.size + 1]? = some (.cells #[.int .i64 0, .int .i64 0, .slice none 0 0] 40 (0, 0)) := fun o => ((hal o).block (w.heap.size + 1) (by omega)).trans hR2
            have HRB := hide RB
            clear RB hT2 hR2
            cases CL with
            | none =>
              obtain rfl : e = .returned (.tuple #[.agg #[.int .i64 0, .int .i64 0, .slice none 0 0], .bool false]) := hto
              obtain rfl : R = none := HV.out
              have A0 : ∀ o : Obj, (w2.alloc o).cell? ⟨w.heap.size + 1, 0, none⟩ = some (.int .i64 0) := fun o => (cell_of_blk (HRB.out o) 0).trans rfl
              have A1 : ∀ o : Obj, (w2.alloc o).cell? ⟨w.heap.size + 1, 1, none⟩ = some (.int .i64 0) := fun o => (cell_of_blk (HRB.out o) 1).trans rfl
              have A2 : ∀ o : Obj, (w2.alloc o).cell? ⟨w.heap.size + 1, 2, none⟩ = some (.slice none 0 0) := fun o => (cell_of_blk (HRB.out o) 2).trans rfl
              have FA : ∀ (o : Obj) (i : Nat), (w2.alloc o).frozen? ⟨w.heap.size + 1, i, none⟩ = false := fun o i => unfrozen_of_blk (HRB.out o) i
              clear T0 T1 T2
              go_wp2_with fail
              have hr9 := blk_setCell (i := 2) (blk_setCell (i := 1) (blk_setCell (i := 0) (HRB.out (.cells #[.int .i64 0, .int .i64 0, .slice none 0 0] 40)) (.int .i64 0)) (.int .i64 0)) (.slice none 0 0)
              have b0 := (cell_of_blk hr9 0).trans rfl
              have b1 := (cell_of_blk hr9 1).trans rfl
              have b2 := (cell_of_blk hr9 2).trans rfl
              have hB9 := (((hBw2.alloc hBw2.size (.cells #[.int .i64 0, .int .i64 0, .slice none 0 0] 40)).setCell (p := ⟨w.heap.size + 1, 0, none⟩) (by show w.heap.size ≤ w.heap.size + 1; omega) (.int .i64 0)).setCell (p := ⟨w.heap.size + 1, 1, none⟩) (by show w.heap.size ≤ w.heap.size + 1; omega) (.int .i64 0)).setCell (p := ⟨w.heap.size + 1, 2, none⟩) (by show w.heap.size ≤ w.heap.size + 1; omega) (.slice none 0 0)
              exact bodyPost_ret (v := .tuple #[.agg #[.int .i64 0, .int .i64 0, .slice none 0 0], .bool false]) (by simp [results, Try.results44, go_sem, b0, b1, b2]) rfl ⟨rfl, hB9⟩
            | some p2 =>
              obtain ⟨s2, rfl, hK2⟩ : ∃ s', e = .returned (.tuple #[.agg #[.int .i64 p2.1.k, .int .i64 p2.1.n, s'], .bool true]) ∧ KidT w2 _ p2.2 s' := hto
              obtain ⟨pad, pc2, hpf⟩ := hK2.form
              subst hpf
              obtain ⟨w3, hw3⟩ : ∃ w3, w3 = w2.alloc (.cells #[.int .i64 p2.1.k, .int .i64 p2.1.n, .slice pad p2.2.len pc2] 40) := ⟨_, rfl⟩
              have hb3 : Below w2.heap.size w2 w3 := by rw [hw3]; exact hal _
              have hBw3 : Below w.heap.size w w3 := hBw2.trans (hb3.mono hBw2.size)
              have hR3 : w3.heap[w.heap.size + 1]? = some (.cells #[.int .i64 0, .int .i64 0, .slice none 0 0] 40 (0, 0)) := by rw [hw3]; exact HRB.out _
              have hsz3 := hb3.size
              have HW3 := hide hw3
              have HWW := hide (HWi.out p2.1 p2.2 _ _ w3 hBw3 (hK2.below hb3))
              obtain ⟨PN, hPN⟩ : ∃ PN, PN = p2.2.len := ⟨_, rfl⟩
              rw [← hPN] at HW3 HWW ⊢
              have HR3 := hide hR3
              clear hw3 hK2 hR3 hb3 HWi hPN HRB
              go_wp2_with fail
              rw [← HW3.out]
              refine Calls.mono HWW.out ?_
              rintro e w4 ⟨s4, rfl, hK4, hb4⟩
              have hBw4 : Below w.heap.size w w4 := hBw3.trans (hb4.mono hBw3.size)
              have hR4 := (hb4.block (w.heap.size + 1) (by omega)).trans HR3.out
              have hsz4 := hb4.size
              have a0 : w4.cell? ⟨w.heap.size + 1, 0, none⟩ = some (.int .i64 0) := (cell_of_blk hR4 0).trans rfl
              have a1 : w4.cell? ⟨w.heap.size + 1, 1, none⟩ = some (.int .i64 0) := (cell_of_blk hR4 1).trans rfl
              have a2 : w4.cell? ⟨w.heap.size + 1, 2, none⟩ = some (.slice none 0 0) := (cell_of_blk hR4 2).trans rfl
              have fa := unfrozen_of_blk hR4
              obtain ⟨qad, qc, hqf⟩ := hK4.form
              subst hqf
              have HK4 := hide hK4
              have HR4 := hide hR4
              have hRs : R = some (⟨4, xn⟩, d.app (.cons p2.1 p2.2 r)) := HV.out
              subst hRs
              obtain ⟨QN, hQN⟩ : ∃ QN, QN = (d.app (.cons p2.1 p2.2 r)).len := ⟨_, rfl⟩
              rw [← hQN] at HK4 ⊢
              clear hK4 hR4 hb4 HWW HR3 T0 T1 T2 hQN
              go_wp2_with fail
              have hr9 := blk_setCell (i := 2) (blk_setCell (i := 1) (blk_setCell (i := 0) HR4.out (.int .i64 4)) (.int .i64 xn)) (.slice qad QN qc)
              have b0 := (cell_of_blk hr9 0).trans rfl
              have b1 := (cell_of_blk hr9 1).trans rfl
              have b2 := (cell_of_blk hr9 2).trans rfl
              have hB9 := ((hBw4.setCell (p := ⟨w.heap.size + 1, 0, none⟩) (by show w.heap.size ≤ w.heap.size + 1; omega) (.int .i64 4)).setCell (p := ⟨w.heap.size + 1, 1, none⟩) (by show w.heap.size ≤ w.heap.size + 1; omega) (.int .i64 xn)).setCell (p := ⟨w.heap.size + 1, 2, none⟩) (by show w.heap.size ≤ w.heap.size + 1; omega) (.slice qad QN qc)
              refine bodyPost_ret (v := .tuple #[.agg #[.int .i64 4, .int .i64 xn, .slice qad QN qc], .bool true]) (by simp [results, Try.results44, go_sem, b0, b1, b2]) rfl ⟨⟨_, rfl, HK4.out.keep (by simp [World.setCell]) (fun q h1 h2 => ?_)⟩, hB9⟩
              have hqq : q ≠ w.heap.size + 1 ∧ (P q ∨ w.heap.size ≤ q) := by
                rcases h1 with (h | h | h) | h
                · exact ⟨by have := h.2; omega, .inl h.1⟩
                · exact ⟨by have := h.2; omega, .inl h.1⟩
                · exact ⟨by omega, .inr (by omega)⟩
                · exact ⟨by omega, .inr (by omega)⟩
              exact ⟨by rw [Below.heap_setCell _ _ _ _ hqq.1, Below.heap_setCell _ _ _ _ hqq.1, Below.heap_setCell _ _ _ _ hqq.1], hqq.2⟩
      · obtain hdp : d.len = 2 := by omega
        have hz : clk k 2 = none := by
          rw [HCk.out, hdp, Nat.sub_self]
          cases r with
          | nil => rfl
          | cons y ky r => rw [clk, if_pos rfl]; rfl
        have hRe : R = ctrR ⟨4, xn⟩ k := HR.out _ hz
        have t0 : wr.cell? ⟨w.heap.size, 0, none⟩ = some (.int .i64 4) := (cell_of_blk HTr.out 0).trans rfl
        have t1 : wr.cell? ⟨w.heap.size, 1, none⟩ = some (.int .i64 xn) := (cell_of_blk HTr.out 1).trans rfl
        have t2 : wr.cell? ⟨w.heap.size, 2, none⟩ = some (.slice sad KL sc) := (cell_of_blk HTr.out 2).trans rfl
        rw [← hRe] at HC
        rw [hdp]
        clear hz hRe hdp hdl hlt HCk HR
        go_wp2_with fail
        refine Calls.mono (HC.out _ hBw) ?_
        rintro e w2 ⟨hto, hb2⟩
        have hBw2 : Below w.heap.size w w2 := hBw.trans (hb2.mono hBw.size)
        have hR2 := (hb2.block (w.heap.size + 1) (by omega)).trans HRr.out
        have hsz2 := hb2.size
        clear t0 t1 t2 HTr HRr HC hb2
        have a0 := (cell_of_blk hR2 0).trans rfl
        have a1 := (cell_of_blk hR2 1).trans rfl
        have a2 := (cell_of_blk hR2 2).trans rfl
        have fa := unfrozen_of_blk hR2
        have HR2 := hide hR2
        clear hR2
        cases R with
        | none =>
          obtain rfl : e = .returned (.tuple #[.agg #[.int .i64 0, .int .i64 0, .slice none 0 0], .bool false]) := hto
          go_wp2_with fail
          have hr9 := blk_setCell (i := 2) (blk_setCell (i := 1) (blk_setCell (i := 0) HR2.out (.int .i64 0)) (.int .i64 0)) (.slice none 0 0)
          have b0 := (cell_of_blk hr9 0).trans rfl
          have b1 := (cell_of_blk hr9 1).trans rfl
          have b2 := (cell_of_blk hr9 2).trans rfl
          have hB9 := ((hBw2.setCell (p := ⟨w.heap.size + 1, 0, none⟩) (by show w.heap.size ≤ w.heap.size + 1; omega) (.int .i64 0)).setCell (p := ⟨w.heap.size + 1, 1, none⟩) (by show w.heap.size ≤ w.heap.size + 1; omega) (.int .i64 0)).setCell (p := ⟨w.heap.size + 1, 2, none⟩) (by show w.heap.size ≤ w.heap.size + 1; omega) (.slice none 0 0)
          exact bodyPost_ret (v := .tuple #[.agg #[.int .i64 0, .int .i64 0, .slice none 0 0], .bool false]) (by simp [results, Try.results44, go_sem, b0, b1, b2]) rfl ⟨rfl, hB9⟩
        | some p2 =>
          obtain ⟨s2, rfl, hK2⟩ : ∃ s', e = .returned (.tuple #[.agg #[.int .i64 p2.1.k, .int .i64 p2.1.n, s'], .bool true]) ∧ KidT w2 _ p2.2 s' := hto
          obtain ⟨pad, pc2, hpf⟩ := hK2.form
          subst hpf
          have HK2 := hide hK2
          obtain ⟨PN, hPN⟩ : ∃ PN, PN = p2.2.len := ⟨_, rfl⟩
          rw [← hPN] at HK2 ⊢
          clear hK2 hPN
          go_wp2_with fail
          have hr9 := blk_setCell (i := 2) (blk_setCell (i := 1) (blk_setCell (i := 0) HR2.out (.int .i64 p2.1.k)) (.int .i64 p2.1.n)) (.slice pad PN pc2)
          have b0 := (cell_of_blk hr9 0).trans rfl
          have b1 := (cell_of_blk hr9 1).trans rfl
          have b2 := (cell_of_blk hr9 2).trans rfl
          have hB9 := ((hBw2.setCell (p := ⟨w.heap.size + 1, 0, none⟩) (by show w.heap.size ≤ w.heap.size + 1; omega) (.int .i64 p2.1.k)).setCell (p := ⟨w.heap.size + 1, 1, none⟩) (by show w.heap.size ≤ w.heap.size + 1; omega) (.int .i64 p2.1.n)).setCell (p := ⟨w.heap.size + 1, 2, none⟩) (by show w.heap.size ≤ w.heap.size + 1; omega) (.slice pad PN pc2)
          refine bodyPost_ret (v := .tuple #[.agg #[.int .i64 p2.1.k, .int .i64 p2.1.n, .slice pad PN pc2], .bool true]) (by simp [results, Try.results44, go_sem, b0, b1, b2]) rfl ⟨⟨_, rfl, HK2.out.keep (by simp [World.setCell]) (fun q h1 h2 => ?_)⟩, hB9⟩
          have hqq : q ≠ w.heap.size + 1 ∧ (P q ∨ w.heap.size ≤ q) := by
            rcases h1 with h | h
            · exact ⟨by have := h.2; omega, .inl h.1⟩
            · exact ⟨by omega, .inr (by omega)⟩
          exact ⟨by rw [Below.heap_setCell _ _ _ _ hqq.1, Below.heap_setCell _ _ _ _ hqq.1, Below.heap_setCell _ _ _ _ hqq.1], hqq.2⟩
  · by_cases h5 : xk = 5
    · subst h5
      obtain rfl : PC = 2 := hPC
      clear h4
      go_enter Try.func44, Try.ntmps44
      go_wp2_with fail
      obtain ⟨w0, hw0⟩ : ∃ w0, w0 = (w.alloc (.cells #[.int .i64 5, .int .i64 xn, .slice sad KL sc] 40)).alloc (.cells #[.int .i64 0, .int .i64 0, .slice none 0 0] 40) := ⟨_, rfl⟩
      rw [← hw0]
      have hB0 : Below w.heap.size w w0 := by rw [hw0]; exact ((Below.refl _ _).alloc (Nat.le_refl _) _).alloc (by simp) _
      have hbT : w0.heap[w.heap.size]? = some (.cells #[.int .i64 5, .int .i64 xn, .slice sad KL sc] 40) := by rw [hw0, heap_alloc_old _ _ (by simp)]; exact heap_alloc_new _ _
      have hbR : w0.heap[w.heap.size + 1]? = some (.cells #[.int .i64 0, .int .i64 0, .slice none 0 0] 40) := by rw [hw0]; have := heap_alloc_new (w.alloc (.cells #[.int .i64 5, .int .i64 xn, .slice sad KL sc] 40)) (.cells #[.int .i64 0, .int .i64 0, .slice none 0 0] 40); simpa using this
      have hsz0 : w0.heap.size = w.heap.size + 1 + 1 := by rw [hw0]; simp
      have HbT := hide hbT
      have HbR := hide hbR
      have HSz := hide hsz0
      clear hw0 hbT hbR hsz0
      go_loopw [5] (fun i w' => ∃ d r : F, k = d.app r ∧ i = .int .i64 (d.len : Int) ∧ d.len ≤ 2 ∧ clk k 2 = (clk r (2 - d.len)).map (fun c => c.map (fun r' => d.app r')) ∧ Below w0.heap.size w0 w') (fun i _ => 2 - (intOf i).toNat)
      case atStart => exact ⟨.nil, k, rfl, rfl, Nat.zero_le _, by show clk k 2 = (clk k 2).map _; cases clk k 2 with | none => rfl | some c => cases c <;> rfl, Below.refl _ _⟩
      case round =>
        obtain ⟨d, r, hk, rfl, hdl, hcl, hBr⟩ := hrel
        have HCk := hide hcl
        have hszr := hBr.size
        have hsz0 := HSz.out
        have hBw : Below w.heap.size w wr := hB0.trans (hBr.mono hB0.size)
        have hbTr := (hBr.block w.heap.size (by omega)).trans HbT.out
        have hbRr := (hBr.block (w.heap.size + 1) (by omega)).trans HbR.out
        have HTr := hide hbTr
        have HRr := hide hbRr
        clear hcl hbTr hbRr
        by_cases hlt : d.len < 2
        · cases r with
          | nil => rw [hk, F.app_nil] at HKL; have := HKL.out; omega
          | cons y ky r =>
            have hlt' : (d.len : Int) < 2 := by omega
            have hd0 : (0 : Int) ≤ (d.len : Int) := by omega
            have hO := HOk.out.2.2
            rw [hk] at hO
            obtain ⟨gy, ly, oy, orr⟩ := ((F.app_ok _ _).1 hO).2
            have hfk : k.flat.length = d.flat.length + (1 + ky.flat.length + r.flat.length) := by rw [hk, F.app_flat]; simp [F.flat]; omega
            have hI := IH.out
            rw [hk] at hI
            have hkl2 : KL = d.len + (r.len + 1) := by rw [HKL.out, hk, F.app_len]; rfl
            have hltK : (d.len : Int) < (KL : Int) := by omega
            obtain ⟨g, cap, sy, he, hP, hg, hTy, p0, p1, p2⟩ := KidT.kid (a := d) (k := ky) (r := r) (x := y) (s := .slice sad KL sc) (by rw [← hk]; exact HT.out)
            simp only [Value.slice.injEq] at he
            obtain ⟨rfl, -, rfl⟩ := he
            have q0 := (hBw.cell (p := ⟨g, d.len * 3, none⟩) hg).trans p0
            have q1 := (hBw.cell (p := ⟨g, d.len * 3 + 1, none⟩) hg).trans p1
            have q2 := (hBw.cell (p := ⟨g, d.len * 3 + 2, none⟩) hg).trans p2
            have c2 : wr.cell? ⟨w.heap.size, 2, none⟩ = some (.slice (some ⟨g, 0, none⟩) KL sc) := (cell_of_blk HTr.out 2).trans rfl
            have HCl := hide (fun (w' : World) (hw' : Below w.heap.size w w') => F.all_at hI y sy _ w' ⟨gy, ly, oy⟩ (by omega) (hTy.below hw'))
            have HWi := hide (fun (z : Cc) (kz : F) (sz : Value) (Q : Nat → Prop) (w' : World) (hw' : Below w.heap.size w w') (hZ : KidT w' Q kz sz) => l4With_any ⟨5, xn⟩ y z d ky r kz (.slice (some ⟨g, 0, none⟩) KL sc) sz _ Q w' (by rw [← hk]; have := HKL.out; omega) (by rw [← hk]; exact HT.out.below hw') hZ)
            obtain ⟨yad, yc, rfl⟩ := hTy.form
            have HSn := hide (hk.trans (F.app_snoc d ky r y))
            have HDl : Hid ((d.app (.cons y ky .nil)).len = d.len + 1) := hide (by rw [F.app_len]; rfl)
            have HVal : Hid (isVal y.k = true → clk k 2 = (clk r (2 - (d.len + 1))).map (fun c => c.map (fun r' => (d.app (.cons y ky .nil)).app r'))) := hide (fun hv => by
              rw [HCk.out, clk, if_neg (by omega), if_pos hv, show 2 - d.len - 1 = 2 - (d.len + 1) by omega]
              cases clk r (2 - (d.len + 1)) with
              | none => rfl
              | some c =>
                cases c with
                | none => rfl
                | some r' => simp [F.app_assoc, F.app])
            have HNo : Hid (isVal y.k = false → R = (cl y ky).map (fun p => ((⟨5, xn⟩ : Cc), d.app (.cons p.1 p.2 r)))) := hide (fun hv => by
              have h1 : clk k 2 = some (((cl y ky).map fun p : Cc × F => F.cons p.1 p.2 r).map (fun r' => d.app r')) := by
                rw [HCk.out, clk, if_neg (by omega), if_neg (by rw [hv]; simp)]
                rfl
              rw [HR.out _ h1]
              cases cl y ky with
              | none => rfl
              | some p => rfl)
            obtain ⟨DL, hDL⟩ : ∃ DL, DL = d.len := ⟨_, rfl⟩
            obtain ⟨kn, hkn⟩ : ∃ kn, kn = ky.len := ⟨_, rfl⟩
            obtain ⟨CL, hCL⟩ : ∃ CL, CL = cl y ky := ⟨_, rfl⟩
            rw [← hDL] at hlt' hd0 hltK q0 q1 q2 HDl HWi ⊢
            rw [← hkn] at q2 HCl
            rw [← hCL] at HCl HNo
            have HDL := hide hDL
            have hDL3 : DL ≤ 3 := by omega
            clear p0 p1 p2 hTy hI hO gy ly oy orr hfk hk hkl2 hDL hkn hCL
            go_wp2_with fail
            refine Calls.mono (l4Value_any y.k y.n yad kn yc _) ?_
            rintro e w1 ⟨rfl, hb1⟩
            have hBr1 : Below w0.heap.size w0 w1 := hBr.trans (hb1.mono hBr.size)
            have hBw1 : Below w.heap.size w w1 := hBw.trans (hb1.mono hBw.size)
            cases hv : isVal y.k with
            | true =>
              have HV := hide (HVal.out hv)
              clear hv HVal HNo HCl HWi q0 q1 q2 c2 hb1
              go_wp2_with fail
              have e3 := HDL.out
              exact ⟨⟨d.app (.cons y ky .nil), r, HSn.out, by rw [HDl.out]; go_num, by rw [HDl.out]; omega, by rw [HDl.out, e3]; exact HV.out, hBr1⟩, by simp [intOf]; omega⟩
            | false =>
              have HV := hide (HNo.out hv)
              clear hv HVal HNo
              have r0 := (hb1.cell (p := ⟨g, DL * 3, none⟩) (show g < wr.heap.size by omega)).trans q0
              have r1 := (hb1.cell (p := ⟨g, DL * 3 + 1, none⟩) (show g < wr.heap.size by omega)).trans q1
              have r2 := (hb1.cell (p := ⟨g, DL * 3 + 2, none⟩) (show g < wr.heap.size by omega)).trans q2
              have d2 := (hb1.cell (p := ⟨w.heap.size, 2, none⟩) (show w.heap.size < wr.heap.size by omega)).trans c2
              have hT1 := (hb1.block w.heap.size (by omega)).trans HTr.out
              have hR1 := (hb1.block (w.heap.size + 1) (by omega)).trans HRr.out
              have hsz1 := hb1.size
              have HT1 := hide hT1
              have HR1 := hide hR1
              clear q0 q1 q2 c2 hb1 hT1 hR1 HTr HRr
              go_wp2_with fail
              refine Calls.mono (HCl.out _ hBw1) ?_
              rintro e w2 ⟨hto, hb2⟩
              have hBw2 : Below w.heap.size w w2 := hBw1.trans (hb2.mono hBw1.size)
              have hT2 := (hb2.block w.heap.size (by omega)).trans HT1.out
              have hR2 := (hb2.block (w.heap.size + 1) (by omega)).trans HR1.out
              have hsz2 := hb2.size
              clear r0 r1 r2 d2 HT1 HR1 HCl hb2
              have hal : ∀ o : Obj, Below w2.heap.size w2 (w2.alloc o) := fun o => (Below.refl _ _).alloc (Nat.le_refl _) _
              have T0 : ∀ o : Obj, (w2.alloc o).cell? ⟨w.heap.size, 0, none⟩ = some (.int .i64 5) := fun o => ((hal o).cell (p := ⟨w.heap.size, 0, none⟩) (show w.heap.size < w2.heap.size by omega)).trans ((cell_of_blk hT2 0).trans rfl)
              have T1 : ∀ o : Obj, (w2.alloc o).cell? ⟨w.heap.size, 1, none⟩ = some (.int .i64 xn) := fun o => ((hal o).cell (p := ⟨w.heap.size, 1, none⟩) (show w.heap.size < w2.heap.size by omega)).trans ((cell_of_blk hT2 1).trans rfl)
              have T2 : ∀ o : Obj, (w2.alloc o).cell? ⟨w.heap.size, 2, none⟩ = some (.slice (some ⟨g, 0, none⟩) KL sc) := fun o => ((hal o).cell (p := ⟨w.heap.size, 2, none⟩) (show w.heap.size < w2.heap.size by omega)).trans ((cell_of_blk hT2 2).trans rfl)
              have RB : ∀ o : Obj, (w2.alloc o).heap[w.heap.size + 1]? = some (.cells #[.int .i64 0, .int .i64 0, .slice none 0 0] 40 (0, 0)) := fun o => ((hal o).block (w.heap.size + 1) (by omega)).trans hR2
              have HRB := hide RB
              clear RB hT2 hR2
              cases CL with
              | none =>
                obtain rfl : e = .returned (.tuple #[.agg #[.int .i64 0, .int .i64 0, .slice none 0 0], .bool false]) := hto
                obtain rfl : R = none := HV.out
                have A0 : ∀ o : Obj, (w2.alloc o).cell? ⟨w.heap.size + 1, 0, none⟩ = some (.int .i64 0) := fun o => (cell_of_blk (HRB.out o) 0).trans rfl
                have A1 : ∀ o : Obj, (w2.alloc o).cell? ⟨w.heap.size + 1, 1, none⟩ = some (.int .i64 0) := fun o => (cell_of_blk (HRB.out o) 1).trans rfl
                have A2 : ∀ o : Obj, (w2.alloc o).cell? ⟨w.heap.size + 1, 2, none⟩ = some (.slice none 0 0) := fun o => (cell_of_blk (HRB.out o) 2).trans rfl
                have FA : ∀ (o : Obj) (i : Nat), (w2.alloc o).frozen? ⟨w.heap.size + 1, i, none⟩ = false := fun o i => unfrozen_of_blk (HRB.out o) i
                clear T0 T1 T2
                go_wp2_with fail
                have hr9 := blk_setCell (i := 2) (blk_setCell (i := 1) (blk_setCell (i := 0) (HRB.out (.cells #[.int .i64 0, .int .i64 0, .slice none 0 0] 40)) (.int .i64 0)) (.int .i64 0)) (.slice none 0 0)
                have b0 := (cell_of_blk hr9 0).trans rfl
                have b1 := (cell_of_blk hr9 1).trans rfl
                have b2 := (cell_of_blk hr9 2).trans rfl
                have hB9 := (((hBw2.alloc hBw2.size (.cells #[.int .i64 0, .int .i64 0, .slice none 0 0] 40)).setCell (p := ⟨w.heap.size + 1, 0, none⟩) (by show w.heap.size ≤ w.heap.size + 1; omega) (.int .i64 0)).setCell (p := ⟨w.heap.size + 1, 1, none⟩) (by show w.heap.size ≤ w.heap.size + 1; omega) (.int .i64 0)).setCell (p := ⟨w.heap.size + 1, 2, none⟩) (by show w.heap.size ≤ w.heap.size + 1; omega) (.slice none 0 0)
                exact bodyPost_ret (v := .tuple #[.agg #[.int .i64 0, .int .i64 0, .slice none 0 0], .bool false]) (by simp [results, Try.results44, go_sem, b0, b1, b2]) rfl ⟨rfl, hB9⟩
              | some p2 =>
                obtain ⟨s2, rfl, hK2⟩ : ∃ s', e = .returned (.tuple #[.agg #[.int .i64 p2.1.k, .int .i64 p2.1.n, s'], .bool true]) ∧ KidT w2 _ p2.2 s' := hto
                obtain ⟨pad, pc2, hpf⟩ := hK2.form
                subst hpf
                obtain ⟨w3, hw3⟩ : ∃ w3, w3 = w2.alloc (.cells #[.int .i64 p2.1.k, .int .i64 p2.1.n, .slice pad p2.2.len pc2] 40) := ⟨_, rfl⟩
                have hb3 : Below w2.heap.size w2 w3 := by rw [hw3]; exact hal _
                have hBw3 : Below w.heap.size w w3 := hBw2.trans (hb3.mono hBw2.size)
                have hR3 : w3.heap[w.heap.size + 1]? = some (.cells #[.int .i64 0, .int .i64 0, .slice none 0 0] 40 (0, 0)) := by rw [hw3]; exact HRB.out _
                have hsz3 := hb3.size
                have HW3 := hide hw3
                have HWW := hide (HWi.out p2.1 p2.2 _ _ w3 hBw3 (hK2.below hb3))
                obtain ⟨PN, hPN⟩ : ∃ PN, PN = p2.2.len := ⟨_, rfl⟩
                rw [← hPN] at HW3 HWW ⊢
                have HR3 := hide hR3
                clear hw3 hK2 hR3 hb3 HWi hPN HRB
                go_wp2_with fail
                rw [← HW3.out]
                refine Calls.mono HWW.out ?_
                rintro e w4 ⟨s4, rfl, hK4, hb4⟩
                have hBw4 : Below w.heap.size w w4 := hBw3.trans (hb4.mono hBw3.size)
                have hR4 := (hb4.block (w.heap.size + 1) (by omega)).trans HR3.out
                have hsz4 := hb4.size
                have a0 : w4.cell? ⟨w.heap.size + 1, 0, none⟩ = some (.int .i64 0) := (cell_of_blk hR4 0).trans rfl
                have a1 : w4.cell? ⟨w.heap.size + 1, 1, none⟩ = some (.int .i64 0) := (cell_of_blk hR4 1).trans rfl
                have a2 : w4.cell? ⟨w.heap.size + 1, 2, none⟩ = some (.slice none 0 0) := (cell_of_blk hR4 2).trans rfl
                have fa := unfrozen_of_blk hR4
                obtain ⟨qad, qc, hqf⟩ := hK4.form
                subst hqf
                have HK4 := hide hK4
                have HR4 := hide hR4
                have hRs : R = some (⟨5, xn⟩, d.app (.cons p2.1 p2.2 r)) := HV.out
                subst hRs
                obtain ⟨QN, hQN⟩ : ∃ QN, QN = (d.app (.cons p2.1 p2.2 r)).len := ⟨_, rfl⟩
                rw [← hQN] at HK4 ⊢
                clear hK4 hR4 hb4 HWW HR3 T0 T1 T2 hQN
                go_wp2_with fail
                have hr9 := blk_setCell (i := 2) (blk_setCell (i := 1) (blk_setCell (i := 0) HR4.out (.int .i64 5)) (.int .i64 xn)) (.slice qad QN qc)
                have b0 := (cell_of_blk hr9 0).trans rfl
                have b1 := (cell_of_blk hr9 1).trans rfl
                have b2 := (cell_of_blk hr9 2).trans rfl
                have hB9 := ((hBw4.setCell (p := ⟨w.heap.size + 1, 0, none⟩) (by show w.heap.size ≤ w.heap.size + 1; omega) (.int .i64 5)).setCell (p := ⟨w.heap.size + 1, 1, none⟩) (by show w.heap.size ≤ w.heap.size + 1; omega) (.int .i64 xn)).setCell (p := ⟨w.heap.size + 1, 2, none⟩) (by show w.heap.size ≤ w.heap.size + 1; omega) (.slice qad QN qc)
                refine bodyPost_ret (v := .tuple #[.agg #[.int .i64 5, .int .i64 xn, .slice qad QN qc], .bool true]) (by simp [results, Try.results44, go_sem, b0, b1, b2]) rfl ⟨⟨_, rfl, HK4.out.keep (by simp [World.setCell]) (fun q h1 h2 => ?_)⟩, hB9⟩
                have hqq : q ≠ w.heap.size + 1 ∧ (P q ∨ w.heap.size ≤ q) := by
                  rcases h1 with (h | h | h) | h
                  · exact ⟨by have := h.2; omega, .inl h.1⟩
                  · exact ⟨by have := h.2; omega, .inl h.1⟩
                  · exact ⟨by omega, .inr (by omega)⟩
                  · exact ⟨by omega, .inr (by omega)⟩
                exact ⟨by rw [Below.heap_setCell _ _ _ _ hqq.1, Below.heap_setCell _ _ _ _ hqq.1, Below.heap_setCell _ _ _ _ hqq.1], hqq.2⟩
        · obtain hdp : d.len = 2 := by omega
          have hz : clk k 2 = none := by
            rw [HCk.out, hdp, Nat.sub_self]
            cases r with
            | nil => rfl
            | cons y ky r => rw [clk, if_pos rfl]; rfl
          have hRe : R = ctrR ⟨5, xn⟩ k := HR.out _ hz
          have t0 : wr.cell? ⟨w.heap.size, 0, none⟩ = some (.int .i64 5) := (cell_of_blk HTr.out 0).trans rfl
          have t1 : wr.cell? ⟨w.heap.size, 1, none⟩ = some (.int .i64 xn) := (cell_of_blk HTr.out 1).trans rfl
          have t2 : wr.cell? ⟨w.heap.size, 2, none⟩ = some (.slice sad KL sc) := (cell_of_blk HTr.out 2).trans rfl
          rw [← hRe] at HC
          rw [hdp]
          clear hz hRe hdp hdl hlt HCk HR
          go_wp2_with fail
          refine Calls.mono (HC.out _ hBw) ?_
          rintro e w2 ⟨hto, hb2⟩
          have hBw2 : Below w.heap.size w w2 := hBw.trans (hb2.mono hBw.size)
          have hR2 := (hb2.block (w.heap.size + 1) (by omega)).trans HRr.out
          have hsz2 := hb2.size
          clear t0 t1 t2 HTr HRr HC hb2
          have a0 := (cell_of_blk hR2 0).trans rfl
          have a1 := (cell_of_blk hR2 1).trans rfl
          have a2 := (cell_of_blk hR2 2).trans rfl
          have fa := unfrozen_of_blk hR2
          have HR2 := hide hR2
          clear hR2
          cases R with
          | none =>
            obtain rfl : e = .returned (.tuple #[.agg #[.int .i64 0, .int .i64 0, .slice none 0 0], .bool false]) := hto
            go_wp2_with fail
            have hr9 := blk_setCell (i := 2) (blk_setCell (i := 1) (blk_setCell (i := 0) HR2.out (.int .i64 0)) (.int .i64 0)) (.slice none 0 0)
            have b0 := (cell_of_blk hr9 0).trans rfl
            have b1 := (cell_of_blk hr9 1).trans rfl
            have b2 := (cell_of_blk hr9 2).trans rfl
            have hB9 := ((hBw2.setCell (p := ⟨w.heap.size + 1, 0, none⟩) (by show w.heap.size ≤ w.heap.size + 1; omega) (.int .i64 0)).setCell (p := ⟨w.heap.size + 1, 1, none⟩) (by show w.heap.size ≤ w.heap.size + 1; omega) (.int .i64 0)).setCell (p := ⟨w.heap.size + 1, 2, none⟩) (by show w.heap.size ≤ w.heap.size + 1; omega) (.slice none 0 0)
            exact bodyPost_ret (v := .tuple #[.agg #[.int .i64 0, .int .i64 0, .slice none 0 0], .bool false]) (by simp [results, Try.results44, go_sem, b0, b1, b2]) rfl ⟨rfl, hB9⟩
          | some p2 =>
            obtain ⟨s2, rfl, hK2⟩ : ∃ s', e = .returned (.tuple #[.agg #[.int .i64 p2.1.k, .int .i64 p2.1.n, s'], .bool true]) ∧ KidT w2 _ p2.2 s' := hto
            obtain ⟨pad, pc2, hpf⟩ := hK2.form
            subst hpf
            have HK2 := hide hK2
            obtain ⟨PN, hPN⟩ : ∃ PN, PN = p2.2.len := ⟨_, rfl⟩
            rw [← hPN] at HK2 ⊢
            clear hK2 hPN
            go_wp2_with fail
            have hr9 := blk_setCell (i := 2) (blk_setCell (i := 1) (blk_setCell (i := 0) HR2.out (.int .i64 p2.1.k)) (.int .i64 p2.1.n)) (.slice pad PN pc2)
            have b0 := (cell_of_blk hr9 0).trans rfl
            have b1 := (cell_of_blk hr9 1).trans rfl
            have b2 := (cell_of_blk hr9 2).trans rfl
            have hB9 := ((hBw2.setCell (p := ⟨w.heap.size + 1, 0, none⟩) (by show w.heap.size ≤ w.heap.size + 1; omega) (.int .i64 p2.1.k)).setCell (p := ⟨w.heap.size + 1, 1, none⟩) (by show w.heap.size ≤ w.heap.size + 1; omega) (.int .i64 p2.1.n)).setCell (p := ⟨w.heap.size + 1, 2, none⟩) (by show w.heap.size ≤ w.heap.size + 1; omega) (.slice pad PN pc2)
            refine bodyPost_ret (v := .tuple #[.agg #[.int .i64 p2.1.k, .int .i64 p2.1.n, .slice pad PN pc2], .bool true]) (by simp [results, Try.results44, go_sem, b0, b1, b2]) rfl ⟨⟨_, rfl, HK2.out.keep (by simp [World.setCell]) (fun q h1 h2 => ?_)⟩, hB9⟩
            have hqq : q ≠ w.heap.size + 1 ∧ (P q ∨ w.heap.size ≤ q) := by
              rcases h1 with h | h
              · exact ⟨by have := h.2; omega, .inl h.1⟩
              · exact ⟨by omega, .inr (by omega)⟩
            exact ⟨by rw [Below.heap_setCell _ _ _ _ hqq.1, Below.heap_setCell _ _ _ _ hqq.1, Below.heap_setCell _ _ _ _ hqq.1], hqq.2⟩
    · by_cases h7 : xk = 7
      · subst h7
        obtain rfl : PC = 1 := hPC
        clear h4 h5
        go_enter Try.func44, Try.ntmps44
        go_wp2_with fail
        obtain ⟨w0, hw0⟩ : ∃ w0, w0 = (w.alloc (.cells #[.int .i64 7, .int .i64 xn, .slice sad KL sc] 40)).alloc (.cells #[.int .i64 0, .int .i64 0, .slice none 0 0] 40) := ⟨_, rfl⟩
        rw [← hw0]
        have hB0 : Below w.heap.size w w0 := by rw [hw0]; exact ((Below.refl _ _).alloc (Nat.le_refl _) _).alloc (by simp) _
        have hbT : w0.heap[w.heap.size]? = some (.cells #[.int .i64 7, .int .i64 xn, .slice sad KL sc] 40) := by rw [hw0, heap_alloc_old _ _ (by simp)]; exact heap_alloc_new _ _
        have hbR : w0.heap[w.heap.size + 1]? = some (.cells #[.int .i64 0, .int .i64 0, .slice none 0 0] 40) := by rw [hw0]; have := heap_alloc_new (w.alloc (.cells #[.int .i64 7, .int .i64 xn, .slice sad KL sc] 40)) (.cells #[.int .i64 0, .int .i64 0, .slice none 0 0] 40); simpa using this
        have hsz0 : w0.heap.size = w.heap.size + 1 + 1 := by rw [hw0]; simp
        have HbT := hide hbT
        have HbR := hide hbR
        have HSz := hide hsz0
        clear hw0 hbT hbR hsz0
        go_loopw [5] (fun i w' => ∃ d r : F, k = d.app r ∧ i = .int .i64 (d.len : Int) ∧ d.len ≤ 1 ∧ clk k 1 = (clk r (1 - d.len)).map (fun c => c.map (fun r' => d.app r')) ∧ Below w0.heap.size w0 w') (fun i _ => 1 - (intOf i).toNat)
        case atStart => exact ⟨.nil, k, rfl, rfl, Nat.zero_le _, by show clk k 1 = (clk k 1).map _; cases clk k 1 with | none => rfl | some c => cases c <;> rfl, Below.refl _ _⟩
        case round =>
          obtain ⟨d, r, hk, rfl, hdl, hcl, hBr⟩ := hrel
          have HCk := hide hcl
          have hszr := hBr.size
          have hsz0 := HSz.out
          have hBw : Below w.heap.size w wr := hB0.trans (hBr.mono hB0.size)
          have hbTr := (hBr.block w.heap.size (by omega)).trans HbT.out
          have hbRr := (hBr.block (w.heap.size + 1) (by omega)).trans HbR.out
          have HTr := hide hbTr
          have HRr := hide hbRr
          clear hcl hbTr hbRr
          by_cases hlt : d.len < 1
          · cases r with
            | nil => rw [hk, F.app_nil] at HKL; have := HKL.out; omega
            | cons y ky r =>
              have hlt' : (d.len : Int) < 1 := by omega
              have hd0 : (0 : Int) ≤ (d.len : Int) := by omega
              have hO := HOk.out.2.2
              rw [hk] at hO
              obtain ⟨gy, ly, oy, orr⟩ := ((F.app_ok _ _).1 hO).2
              have hfk : k.flat.length = d.flat.length + (1 + ky.flat.length + r.flat.length) := by rw [hk, F.app_flat]; simp [F.flat]; omega
              have hI := IH.out
              rw [hk] at hI
              have hkl2 : KL = d.len + (r.len + 1) := by rw [HKL.out, hk, F.app_len]; rfl
              have hltK : (d.len : Int) < (KL : Int) := by omega
              obtain ⟨g, cap, sy, he, hP, hg, hTy, p0, p1, p2⟩ := KidT.kid (a := d) (k := ky) (r := r) (x := y) (s := .slice sad KL sc) (by rw [← hk]; exact HT.out)
              simp only [Value.slice.injEq] at he
              obtain ⟨rfl, -, rfl⟩ := he
              have q0 := (hBw.cell (p := ⟨g, d.len * 3, none⟩) hg).trans p0
              have q1 := (hBw.cell (p := ⟨g, d.len * 3 + 1, none⟩) hg).trans p1
              have q2 := (hBw.cell (p := ⟨g, d.len * 3 + 2, none⟩) hg).trans p2
              have c2 : wr.cell? ⟨w.heap.size, 2, none⟩ = some (.slice (some ⟨g, 0, none⟩) KL sc) := (cell_of_blk HTr.out 2).trans rfl
              have HCl := hide (fun (w' : World) (hw' : Below w.heap.size w w') => F.all_at hI y sy _ w' ⟨gy, ly, oy⟩ (by omega) (hTy.below hw'))
              have HWi := hide (fun (z : Cc) (kz : F) (sz : Value) (Q : Nat → Prop) (w' : World) (hw' : Below w.heap.size w w') (hZ : KidT w' Q kz sz) => l4With_any ⟨7, xn⟩ y z d ky r kz (.slice (some ⟨g, 0, none⟩) KL sc) sz _ Q w' (by rw [← hk]; have := HKL.out; omega) (by rw [← hk]; exact HT.out.below hw') hZ)
              obtain ⟨yad, yc, rfl⟩ := hTy.form
              have HSn := hide (hk.trans (F.app_snoc d ky r y))
              have HDl : Hid ((d.app (.cons y ky .nil)).len = d.len + 1) := hide (by rw [F.app_len]; rfl)
              have HVal : Hid (isVal y.k = true → clk k 1 = (clk r (1 - (d.len + 1))).map (fun c => c.map (fun r' => (d.app (.cons y ky .nil)).app r'))) := hide (fun hv => by
                rw [HCk.out, clk, if_neg (by omega), if_pos hv, show 1 - d.len - 1 = 1 - (d.len + 1) by omega]
                cases clk r (1 - (d.len + 1)) with
                | none => rfl
                | some c =>
                  cases c with
                  | none => rfl
                  | some r' => simp [F.app_assoc, F.app])
              have HNo : Hid (isVal y.k = false → R = (cl y ky).map (fun p => ((⟨7, xn⟩ : Cc), d.app (.cons p.1 p.2 r)))) := hide (fun hv => by
                have h1 : clk k 1 = some (((cl y ky).map fun p : Cc × F => F.cons p.1 p.2 r).map (fun r' => d.app r')) := by
                  rw [HCk.out, clk, if_neg (by omega), if_neg (by rw [hv]; simp)]
                  rfl
                rw [HR.out _ h1]
                cases cl y ky with
                | none => rfl
                | some p => rfl)
              obtain ⟨DL, hDL⟩ : ∃ DL, DL = d.len := ⟨_, rfl⟩
              obtain ⟨kn, hkn⟩ : ∃ kn, kn = ky.len := ⟨_, rfl⟩
              obtain ⟨CL, hCL⟩ : ∃ CL, CL = cl y ky := ⟨_, rfl⟩
              rw [← hDL] at hlt' hd0 hltK q0 q1 q2 HDl HWi ⊢
              rw [← hkn] at q2 HCl
              rw [← hCL] at HCl HNo
              have HDL := hide hDL
              have hDL3 : DL ≤ 3 := by omega
              clear p0 p1 p2 hTy hI hO gy ly oy orr hfk hk hkl2 hDL hkn hCL
              go_wp2_with fail
              refine Calls.mono (l4Value_any y.k y.n yad kn yc _) ?_
              rintro e w1 ⟨rfl, hb1⟩
              have hBr1 : Below w0.heap.size w0 w1 := hBr.trans (hb1.mono hBr.size)
              have hBw1 : Below w.heap.size w w1 := hBw.trans (hb1.mono hBw.size)
              cases hv : isVal y.k with
              | true =>
                have HV := hide (HVal.out hv)
                clear hv HVal HNo HCl HWi q0 q1 q2 c2 hb1
                go_wp2_with fail
                have e3 := HDL.out
                exact ⟨⟨d.app (.cons y ky .nil), r, HSn.out, by rw [HDl.out]; go_num, by rw [HDl.out]; omega, by rw [HDl.out, e3]; exact HV.out, hBr1⟩, by simp [intOf]; omega⟩
              | false =>
                have HV := hide (HNo.out hv)
                clear hv HVal HNo
                have r0 := (hb1.cell (p := ⟨g, DL * 3, none⟩) (show g < wr.heap.size by omega)).trans q0
                have r1 := (hb1.cell (p := ⟨g, DL * 3 + 1, none⟩) (show g < wr.heap.size by omega)).trans q1
                have r2 := (hb1.cell (p := ⟨g, DL * 3 + 2, none⟩) (show g < wr.heap.size by omega)).trans q2
                have d2 := (hb1.cell (p := ⟨w.heap.size, 2, none⟩) (show w.heap.size < wr.heap.size by omega)).trans c2
                have hT1 := (hb1.block w.heap.size (by omega)).trans HTr.out
                have hR1 := (hb1.block (w.heap.size + 1) (by omega)).trans HRr.out
                have hsz1 := hb1.size
                have HT1 := hide hT1
                have HR1 := hide hR1
                clear q0 q1 q2 c2 hb1 hT1 hR1 HTr HRr
                go_wp2_with fail
                refine Calls.mono (HCl.out _ hBw1) ?_
                rintro e w2 ⟨hto, hb2⟩
                have hBw2 : Below w.heap.size w w2 := hBw1.trans (hb2.mono hBw1.size)
                have hT2 := (hb2.block w.heap.size (by omega)).trans HT1.out
                have hR2 := (hb2.block (w.heap.size + 1) (by omega)).trans HR1.out
                have hsz2 := hb2.size
                clear r0 r1 r2 d2 HT1 HR1 HCl hb2
                have hal : ∀ o : Obj, Below w2.heap.size w2 (w2.alloc o) := fun o => (Below.refl _ _).alloc (Nat.le_refl _) _
                have T0 : ∀ o : Obj, (w2.alloc o).cell? ⟨w.heap.size, 0, none⟩ = some (.int .i64 7) := fun o => ((hal o).cell (p := ⟨w.heap.size, 0, none⟩) (show w.heap.size < w2.heap.size by omega)).trans ((cell_of_blk hT2 0).trans rfl)
                have T1 : ∀ o : Obj, (w2.alloc o).cell? ⟨w.heap.size, 1, none⟩ = some (.int .i64 xn) := fun o => ((hal o).cell (p := ⟨w.heap.size, 1, none⟩) (show w.heap.size < w2.heap.size by omega)).trans ((cell_of_blk hT2 1).trans rfl)
                have T2 : ∀ o : Obj, (w2.alloc o).cell? ⟨w.heap.size, 2, none⟩ = some (.slice (some ⟨g, 0, none⟩) KL sc) := fun o => ((hal o).cell (p := ⟨w.heap.size, 2, none⟩) (show w.heap.size < w2.heap.size by omega)).trans ((cell_of_blk hT2 2).trans rfl)
                have RB : ∀ o : Obj, (w2.alloc o).heap[w.heap.size + 1]? = some (.cells #[.int .i64 0, .int .i64 0, .slice none 0 0] 40 (0, 0)) := fun o => ((hal o).block (w.heap.size + 1) (by omega)).trans hR2
                have HRB := hide RB
                clear RB hT2 hR2
                cases CL with
                | none =>
                  obtain rfl : e = .returned (.tuple #[.agg #[.int .i64 0, .int .i64 0, .slice none 0 0], .bool false]) := hto
                  obtain rfl : R = none := HV.out
                  have A0 : ∀ o : Obj, (w2.alloc o).cell? ⟨w.heap.size + 1, 0, none⟩ = some (.int .i64 0) := fun o => (cell_of_blk (HRB.out o) 0).trans rfl
                  have A1 : ∀ o : Obj, (w2.alloc o).cell? ⟨w.heap.size + 1, 1, none⟩ = some (.int .i64 0) := fun o => (cell_of_blk (HRB.out o) 1).trans rfl
                  have A2 : ∀ o : Obj, (w2.alloc o).cell? ⟨w.heap.size + 1, 2, none⟩ = some (.slice none 0 0) := fun o => (cell_of_blk (HRB.out o) 2).trans rfl
                  have FA : ∀ (o : Obj) (i : Nat), (w2.alloc o).frozen? ⟨w.heap.size + 1, i, none⟩ = false := fun o i => unfrozen_of_blk (HRB.out o) i
                  clear T0 T1 T2
                  go_wp2_with fail
                  have hr9 := blk_setCell (i := 2) (blk_setCell (i := 1) (blk_setCell (i := 0) (HRB.out (.cells #[.int .i64 0, .int .i64 0, .slice none 0 0] 40)) (.int .i64 0)) (.int .i64 0)) (.slice none 0 0)
                  have b0 := (cell_of_blk hr9 0).trans rfl
                  have b1 := (cell_of_blk hr9 1).trans rfl
                  have b2 := (cell_of_blk hr9 2).trans rfl
                  have hB9 := (((hBw2.alloc hBw2.size (.cells #[.int .i64 0, .int .i64 0, .slice none 0 0] 40)).setCell (p := ⟨w.heap.size + 1, 0, none⟩) (by show w.heap.size ≤ w.heap.size + 1; omega) (.int .i64 0)).setCell (p := ⟨w.heap.size + 1, 1, none⟩) (by show w.heap.size ≤ w.heap.size + 1; omega) (.int .i64 0)).setCell (p := ⟨w.heap.size + 1, 2, none⟩) (by show w.heap.size ≤ w.heap.size + 1; omega) (.slice none 0 0)
                  exact bodyPost_ret (v := .tuple #[.agg #[.int .i64 0, .int .i64 0, .slice none 0 0], .bool false]) (by simp [results, Try.results44, go_sem, b0, b1, b2]) rfl ⟨rfl, hB9⟩
                | some p2 =>
                  obtain ⟨s2, rfl, hK2⟩ : ∃ s', e = .returned (.tuple #[.agg #[.int .i64 p2.1.k, .int .i64 p2.1.n, s'], .bool true]) ∧ KidT w2 _ p2.2 s' := hto
                  obtain ⟨pad, pc2, hpf⟩ := hK2.form
                  subst hpf
                  obtain ⟨w3, hw3⟩ : ∃ w3, w3 = w2.alloc (.cells #[.int .i64 p2.1.k, .int .i64 p2.1.n, .slice pad p2.2.len pc2] 40) := ⟨_, rfl⟩
                  have hb3 : Below w2.heap.size w2 w3 := by rw [hw3]; exact hal _
                  have hBw3 : Below w.heap.size w w3 := hBw2.trans (hb3.mono hBw2.size)
                  have hR3 : w3.heap[w.heap.size + 1]? = some (.cells #[.int .i64 0, .int .i64 0, .slice none 0 0] 40 (0, 0)) := by rw [hw3]; exact HRB.out _
                  have hsz3 := hb3.size
                  have HW3 := hide hw3
                  have HWW := hide (HWi.out p2.1 p2.2 _ _ w3 hBw3 (hK2.below hb3))
                  obtain ⟨PN, hPN⟩ : ∃ PN, PN = p2.2.len := ⟨_, rfl⟩
                  rw [← hPN] at HW3 HWW ⊢
                  have HR3 := hide hR3
                  clear hw3 hK2 hR3 hb3 HWi hPN HRB
                  go_wp2_with fail
                  rw [← HW3.out]
                  refine Calls.mono HWW.out ?_
                  rintro e w4 ⟨s4, rfl, hK4, hb4⟩
                  have hBw4 : Below w.heap.size w w4 := hBw3.trans (hb4.mono hBw3.size)
                  have hR4 := (hb4.block (w.heap.size + 1) (by omega)).trans HR3.out
                  have hsz4 := hb4.size
                  have a0 : w4.cell? ⟨w.heap.size + 1, 0, none⟩ = some (.int .i64 0) := (cell_of_blk hR4 0).trans rfl
                  have a1 : w4.cell? ⟨w.heap.size + 1, 1, none⟩ = some (.int .i64 0) := (cell_of_blk hR4 1).trans rfl
                  have a2 : w4.cell? ⟨w.heap.size + 1, 2, none⟩ = some (.slice none 0 0) := (cell_of_blk hR4 2).trans rfl
                  have fa := unfrozen_of_blk hR4
                  obtain ⟨qad, qc, hqf⟩ := hK4.form
                  subst hqf
                  have HK4 := hide hK4
                  have HR4 := hide hR4
                  have hRs : R = some (⟨7, xn⟩, d.app (.cons p2.1 p2.2 r)) := HV.out
                  subst hRs
                  obtain ⟨QN, hQN⟩ : ∃ QN, QN = (d.app (.cons p2.1 p2.2 r)).len := ⟨_, rfl⟩
                  rw [← hQN] at HK4 ⊢
                  clear hK4 hR4 hb4 HWW HR3 T0 T1 T2 hQN
                  go_wp2_with fail
                  have hr9 := blk_setCell (i := 2) (blk_setCell (i := 1) (blk_setCell (i := 0) HR4.out (.int .i64 7)) (.int .i64 xn)) (.slice qad QN qc)
                  have b0 := (cell_of_blk hr9 0).trans rfl
                  have b1 := (cell_of_blk hr9 1).trans rfl
                  have b2 := (cell_of_blk hr9 2).trans rfl
                  have hB9 := ((hBw4.setCell (p := ⟨w.heap.size + 1, 0, none⟩) (by show w.heap.size ≤ w.heap.size + 1; omega) (.int .i64 7)).setCell (p := ⟨w.heap.size + 1, 1, none⟩) (by show w.heap.size ≤ w.heap.size + 1; omega) (.int .i64 xn)).setCell (p := ⟨w.heap.size + 1, 2, none⟩) (by show w.heap.size ≤ w.heap.size + 1; omega) (.slice qad QN qc)
                  refine bodyPost_ret (v := .tuple #[.agg #[.int .i64 7, .int .i64 xn, .slice qad QN qc], .bool true]) (by simp [results, Try.results44, go_sem, b0, b1, b2]) rfl ⟨⟨_, rfl, HK4.out.keep (by simp [World.setCell]) (fun q h1 h2 => ?_)⟩, hB9⟩
                  have hqq : q ≠ w.heap.size + 1 ∧ (P q ∨ w.heap.size ≤ q) := by
                    rcases h1 with (h | h | h) | h
                    · exact ⟨by have := h.2; omega, .inl h.1⟩
                    · exact ⟨by have := h.2; omega, .inl h.1⟩
                    · exact ⟨by omega, .inr (by omega)⟩
                    · exact ⟨by omega, .inr (by omega)⟩
                  exact ⟨by rw [Below.heap_setCell _ _ _ _ hqq.1, Below.heap_setCell _ _ _ _ hqq.1, Below.heap_setCell _ _ _ _ hqq.1], hqq.2⟩
          · obtain hdp : d.len = 1 := by omega
            have hz : clk k 1 = none := by
              rw [HCk.out, hdp, Nat.sub_self]
              cases r with
              | nil => rfl
              | cons y ky r => rw [clk, if_pos rfl]; rfl
            have hRe : R = ctrR ⟨7, xn⟩ k := HR.out _ hz
            have t0 : wr.cell? ⟨w.heap.size, 0, none⟩ = some (.int .i64 7) := (cell_of_blk HTr.out 0).trans rfl
            have t1 : wr.cell? ⟨w.heap.size, 1, none⟩ = some (.int .i64 xn) := (cell_of_blk HTr.out 1).trans rfl
            have t2 : wr.cell? ⟨w.heap.size, 2, none⟩ = some (.slice sad KL sc) := (cell_of_blk HTr.out 2).trans rfl
            rw [← hRe] at HC
            rw [hdp]
            clear hz hRe hdp hdl hlt HCk HR
            go_wp2_with fail
            refine Calls.mono (HC.out _ hBw) ?_
            rintro e w2 ⟨hto, hb2⟩
            have hBw2 : Below w.heap.size w w2 := hBw.trans (hb2.mono hBw.size)
            have hR2 := (hb2.block (w.heap.size + 1) (by omega)).trans HRr.out
            have hsz2 := hb2.size
            clear t0 t1 t2 HTr HRr HC hb2
            have a0 := (cell_of_blk hR2 0).trans rfl
            have a1 := (cell_of_blk hR2 1).trans rfl
            have a2 := (cell_of_blk hR2 2).trans rfl
            have fa := unfrozen_of_blk hR2
            have HR2 := hide hR2
            clear hR2
            cases R with
            | none =>
              obtain rfl : e = .returned (.tuple #[.agg #[.int .i64 0, .int .i64 0, .slice none 0 0], .bool false]) := hto
              go_wp2_with fail
              have hr9 := blk_setCell (i := 2) (blk_setCell (i := 1) (blk_setCell (i := 0) HR2.out (.int .i64 0)) (.int .i64 0)) (.slice none 0 0)
              have b0 := (cell_of_blk hr9 0).trans rfl
              have b1 := (cell_of_blk hr9 1).trans rfl
              have b2 := (cell_of_blk hr9 2).trans rfl
              have hB9 := ((hBw2.setCell (p := ⟨w.heap.size + 1, 0, none⟩) (by show w.heap.size ≤ w.heap.size + 1; omega) (.int .i64 0)).setCell (p := ⟨w.heap.size + 1, 1, none⟩) (by show w.heap.size ≤ w.heap.size + 1; omega) (.int .i64 0)).setCell (p := ⟨w.heap.size + 1, 2, none⟩) (by show w.heap.size ≤ w.heap.size + 1; omega) (.slice none 0 0)
              exact bodyPost_ret (v := .tuple #[.agg #[.int .i64 0, .int .i64 0, .slice none 0 0], .bool false]) (by simp [results, Try.results44, go_sem, b0, b1, b2]) rfl ⟨rfl, hB9⟩
            | some p2 =>
              obtain ⟨s2, rfl, hK2⟩ : ∃ s', e = .returned (.tuple #[.agg #[.int .i64 p2.1.k, .int .i64 p2.1.n, s'], .bool true]) ∧ KidT w2 _ p2.2 s' := hto
              obtain ⟨pad, pc2, hpf⟩ := hK2.form
              subst hpf
              have HK2 := hide hK2
              obtain ⟨PN, hPN⟩ : ∃ PN, PN = p2.2.len := ⟨_, rfl⟩
              rw [← hPN] at HK2 ⊢
              clear hK2 hPN
              go_wp2_with fail
              have hr9 := blk_setCell (i := 2) (blk_setCell (i := 1) (blk_setCell (i := 0) HR2.out (.int .i64 p2.1.k)) (.int .i64 p2.1.n)) (.slice pad PN pc2)
              have b0 := (cell_of_blk hr9 0).trans rfl
              have b1 := (cell_of_blk hr9 1).trans rfl
              have b2 := (cell_of_blk hr9 2).trans rfl
              have hB9 := ((hBw2.setCell (p := ⟨w.heap.size + 1, 0, none⟩) (by show w.heap.size ≤ w.heap.size + 1; omega) (.int .i64 p2.1.k)).setCell (p := ⟨w.heap.size + 1, 1, none⟩) (by show w.heap.size ≤ w.heap.size + 1; omega) (.int .i64 p2.1.n)).setCell (p := ⟨w.heap.size + 1, 2, none⟩) (by show w.heap.size ≤ w.heap.size + 1; omega) (.slice pad PN pc2)
              refine bodyPost_ret (v := .tuple #[.agg #[.int .i64 p2.1.k, .int .i64 p2.1.n, .slice pad PN pc2], .bool true]) (by simp [results, Try.results44, go_sem, b0, b1, b2]) rfl ⟨⟨_, rfl, HK2.out.keep (by simp [World.setCell]) (fun q h1 h2 => ?_)⟩, hB9⟩
              have hqq : q ≠ w.heap.size + 1 ∧ (P q ∨ w.heap.size ≤ q) := by
                rcases h1 with h | h
                · exact ⟨by have := h.2; omega, .inl h.1⟩
                · exact ⟨by omega, .inr (by omega)⟩
              exact ⟨by rw [Below.heap_setCell _ _ _ _ hqq.1, Below.heap_setCell _ _ _ _ hqq.1, Below.heap_setCell _ _ _ _ hqq.1], hqq.2⟩
      · by_cases h6 : xk = 6
        · subst h6
          obtain rfl : PC = 1 := hPC
          clear h4 h5 h7
          go_enter Try.func44, Try.ntmps44
          go_wp2_with fail
          obtain ⟨w0, hw0⟩ : ∃ w0, w0 = (w.alloc (.cells #[.int .i64 6, .int .i64 xn, .slice sad KL sc] 40)).alloc (.cells #[.int .i64 0, .int .i64 0, .slice none 0 0] 40) := ⟨_, rfl⟩
          rw [← hw0]
          have hB0 : Below w.heap.size w w0 := by rw [hw0]; exact ((Below.refl _ _).alloc (Nat.le_refl _) _).alloc (by simp) _
          have hbT : w0.heap[w.heap.size]? = some (.cells #[.int .i64 6, .int .i64 xn, .slice sad KL sc] 40) := by rw [hw0, heap_alloc_old _ _ (by simp)]; exact heap_alloc_new _ _
          have hbR : w0.heap[w.heap.size + 1]? = some (.cells #[.int .i64 0, .int .i64 0, .slice none 0 0] 40) := by rw [hw0]; have := heap_alloc_new (w.alloc (.cells #[.int .i64 6, .int .i64 xn, .slice sad KL sc] 40)) (.cells #[.int .i64 0, .int .i64 0, .slice none 0 0] 40); simpa using this
          have hsz0 : w0.heap.size = w.heap.size + 1 + 1 := by rw [hw0]; simp
          have HbT := hide hbT
          have HbR := hide hbR
          have HSz := hide hsz0
          clear hw0 hbT hbR hsz0
          go_loopw [5] (fun i w' => ∃ d r : F, k = d.app r ∧ i = .int .i64 (d.len : Int) ∧ d.len ≤ 1 ∧ clk k 1 = (clk r (1 - d.len)).map (fun c => c.map (fun r' => d.app r')) ∧ Below w0.heap.size w0 w') (fun i _ => 1 - (intOf i).toNat)
          case atStart => exact ⟨.nil, k, rfl, rfl, Nat.zero_le _, by show clk k 1 = (clk k 1).map _; cases clk k 1 with | none => rfl | some c => cases c <;> rfl, Below.refl _ _⟩
          case round =>
            obtain ⟨d, r, hk, rfl, hdl, hcl, hBr⟩ := hrel
            have HCk := hide hcl
            have hszr := hBr.size
            have hsz0 := HSz.out
            have hBw : Below w.heap.size w wr := hB0.trans (hBr.mono hB0.size)
            have hbTr := (hBr.block w.heap.size (by omega)).trans HbT.out
            have hbRr := (hBr.block (w.heap.size + 1) (by omega)).trans HbR.out
            have HTr := hide hbTr
            have HRr := hide hbRr
            clear hcl hbTr hbRr
            by_cases hlt : d.len < 1
            · cases r with
              | nil => rw [hk, F.app_nil] at HKL; have := HKL.out; omega
              | cons y ky r =>
                have hlt' : (d.len : Int) < 1 := by omega
                have hd0 : (0 : Int) ≤ (d.len : Int) := by omega
                have hO := HOk.out.2.2
                rw [hk] at hO
                obtain ⟨gy, ly, oy, orr⟩ := ((F.app_ok _ _).1 hO).2
                have hfk : k.flat.length = d.flat.length + (1 + ky.flat.length + r.flat.length) := by rw [hk, F.app_flat]; simp [F.flat]; omega
                have hI := IH.out
                rw [hk] at hI
                have hkl2 : KL = d.len + (r.len + 1) := by rw [HKL.out, hk, F.app_len]; rfl
                have hltK : (d.len : Int) < (KL : Int) := by omega
                obtain ⟨g, cap, sy, he, hP, hg, hTy, p0, p1, p2⟩ := KidT.kid (a := d) (k := ky) (r := r) (x := y) (s := .slice sad KL sc) (by rw [← hk]; exact HT.out)
                simp only [Value.slice.injEq] at he
                obtain ⟨rfl, -, rfl⟩ := he
                have q0 := (hBw.cell (p := ⟨g, d.len * 3, none⟩) hg).trans p0
                have q1 := (hBw.cell (p := ⟨g, d.len * 3 + 1, none⟩) hg).trans p1
                have q2 := (hBw.cell (p := ⟨g, d.len * 3 + 2, none⟩) hg).trans p2
                have c2 : wr.cell? ⟨w.heap.size, 2, none⟩ = some (.slice (some ⟨g, 0, none⟩) KL sc) := (cell_of_blk HTr.out 2).trans rfl
                have HCl := hide (fun (w' : World) (hw' : Below w.heap.size w w') => F.all_at hI y sy _ w' ⟨gy, ly, oy⟩ (by omega) (hTy.below hw'))
                have HWi := hide (fun (z : Cc) (kz : F) (sz : Value) (Q : Nat → Prop) (w' : World) (hw' : Below w.heap.size w w') (hZ : KidT w' Q kz sz) => l4With_any ⟨6, xn⟩ y z d ky r kz (.slice (some ⟨g, 0, none⟩) KL sc) sz _ Q w' (by rw [← hk]; have := HKL.out; omega) (by rw [← hk]; exact HT.out.below hw') hZ)
                obtain ⟨yad, yc, rfl⟩ := hTy.form
                have HSn := hide (hk.trans (F.app_snoc d ky r y))
                have HDl : Hid ((d.app (.cons y ky .nil)).len = d.len + 1) := hide (by rw [F.app_len]; rfl)
                have HVal : Hid (isVal y.k = true → clk k 1 = (clk r (1 - (d.len + 1))).map (fun c => c.map (fun r' => (d.app (.cons y ky .nil)).app r'))) := hide (fun hv => by
                  rw [HCk.out, clk, if_neg (by omega), if_pos hv, show 1 - d.len - 1 = 1 - (d.len + 1) by omega]
                  cases clk r (1 - (d.len + 1)) with
                  | none => rfl
                  | some c =>
                    cases c with
                    | none => rfl
                    | some r' => simp [F.app_assoc, F.app])
                have HNo : Hid (isVal y.k = false → R = (cl y ky).map (fun p => ((⟨6, xn⟩ : Cc), d.app (.cons p.1 p.2 r)))) := hide (fun hv => by
                  have h1 : clk k 1 = some (((cl y ky).map fun p : Cc × F => F.cons p.1 p.2 r).map (fun r' => d.app r')) := by
                    rw [HCk.out, clk, if_neg (by omega), if_neg (by rw [hv]; simp)]
                    rfl
                  rw [HR.out _ h1]
                  cases cl y ky with
                  | none => rfl
                  | some p => rfl)
                obtain ⟨DL, hDL⟩ : ∃ DL, DL = d.len := ⟨_, rfl⟩
                obtain ⟨kn, hkn⟩ : ∃ kn, kn = ky.len := ⟨_, rfl⟩
                obtain ⟨CL, hCL⟩ : ∃ CL, CL = cl y ky := ⟨_, rfl⟩
                rw [← hDL] at hlt' hd0 hltK q0 q1 q2 HDl HWi ⊢
                rw [← hkn] at q2 HCl
                rw [← hCL] at HCl HNo
                have HDL := hide hDL
                have hDL3 : DL ≤ 3 := by omega
                clear p0 p1 p2 hTy hI hO gy ly oy orr hfk hk hkl2 hDL hkn hCL
                go_wp2_with fail
                refine Calls.mono (l4Value_any y.k y.n yad kn yc _) ?_
                rintro e w1 ⟨rfl, hb1⟩
                have hBr1 : Below w0.heap.size w0 w1 := hBr.trans (hb1.mono hBr.size)
                have hBw1 : Below w.heap.size w w1 := hBw.trans (hb1.mono hBw.size)
                cases hv : isVal y.k with
                | true =>
                  have HV := hide (HVal.out hv)
                  clear hv HVal HNo HCl HWi q0 q1 q2 c2 hb1
                  go_wp2_with fail
                  have e3 := HDL.out
                  exact ⟨⟨d.app (.cons y ky .nil), r, HSn.out, by rw [HDl.out]; go_num, by rw [HDl.out]; omega, by rw [HDl.out, e3]; exact HV.out, hBr1⟩, by simp [intOf]; omega⟩
                | false =>
                  have HV := hide (HNo.out hv)
                  clear hv HVal HNo
                  have r0 := (hb1.cell (p := ⟨g, DL * 3, none⟩) (show g < wr.heap.size by omega)).trans q0
                  have r1 := (hb1.cell (p := ⟨g, DL * 3 + 1, none⟩) (show g < wr.heap.size by omega)).trans q1
                  have r2 := (hb1.cell (p := ⟨g, DL * 3 + 2, none⟩) (show g < wr.heap.size by omega)).trans q2
                  have d2 := (hb1.cell (p := ⟨w.heap.size, 2, none⟩) (show w.heap.size < wr.heap.size by omega)).trans c2
                  have hT1 := (hb1.block w.heap.size (by omega)).trans HTr.out
                  have hR1 := (hb1.block (w.heap.size + 1) (by omega)).trans HRr.out
                  have hsz1 := hb1.size
                  have HT1 := hide hT1
                  have HR1 := hide hR1
                  clear q0 q1 q2 c2 hb1 hT1 hR1 HTr HRr
                  go_wp2_with fail
                  refine Calls.mono (HCl.out _ hBw1) ?_
                  rintro e w2 ⟨hto, hb2⟩
                  have hBw2 : Below w.heap.size w w2 := hBw1.trans (hb2.mono hBw1.size)
                  have hT2 := (hb2.block w.heap.size (by omega)).trans HT1.out
                  have hR2 := (hb2.block (w.heap.size + 1) (by omega)).trans HR1.out
                  have hsz2 := hb2.size
                  clear r0 r1 r2 d2 HT1 HR1 HCl hb2
                  have hal : ∀ o : Obj, Below w2.heap.size w2 (w2.alloc o) := fun o => (Below.refl _ _).alloc (Nat.le_refl _) _
                  have T0 : ∀ o : Obj, (w2.alloc o).cell? ⟨w.heap.size, 0, none⟩ = some (.int .i64 6) := fun o => ((hal o).cell (p := ⟨w.heap.size, 0, none⟩) (show w.heap.size < w2.heap.size by omega)).trans ((cell_of_blk hT2 0).trans rfl)
                  have T1 : ∀ o : Obj, (w2.alloc o).cell? ⟨w.heap.size, 1, none⟩ = some (.int .i64 xn) := fun o => ((hal o).cell (p := ⟨w.heap.size, 1, none⟩) (show w.heap.size < w2.heap.size by omega)).trans ((cell_of_blk hT2 1).trans rfl)
                  have T2 : ∀ o : Obj, (w2.alloc o).cell? ⟨w.heap.size, 2, none⟩ = some (.slice (some ⟨g, 0, none⟩) KL sc) := fun o => ((hal o).cell (p := ⟨w.heap.size, 2, none⟩) (show w.heap.size < w2.heap.size by omega)).trans ((cell_of_blk hT2 2).trans rfl)
                  have RB : ∀ o : Obj, (w2.alloc o).heap[w.heap.size + 1]? = some (.cells #[.int .i64 0, .int .i64 0, .slice none 0 0] 40 (0, 0)) := fun o => ((hal o).block (w.heap.size + 1) (by omega)).trans hR2
                  have HRB := hide RB
                  clear RB hT2 hR2
                  cases CL with
                  | none =>
                    obtain rfl : e = .returned (.tuple #[.agg #[.int .i64 0, .int .i64 0, .slice none 0 0], .bool false]) := hto
                    obtain rfl : R = none := HV.out
                    have A0 : ∀ o : Obj, (w2.alloc o).cell? ⟨w.heap.size + 1, 0, none⟩ = some (.int .i64 0) := fun o => (cell_of_blk (HRB.out o) 0).trans rfl
                    have A1 : ∀ o : Obj, (w2.alloc o).cell? ⟨w.heap.size + 1, 1, none⟩ = some (.int .i64 0) := fun o => (cell_of_blk (HRB.out o) 1).trans rfl
                    have A2 : ∀ o : Obj, (w2.alloc o).cell? ⟨w.heap.size + 1, 2, none⟩ = some (.slice none 0 0) := fun o => (cell_of_blk (HRB.out o) 2).trans rfl
                    have FA : ∀ (o : Obj) (i : Nat), (w2.alloc o).frozen? ⟨w.heap.size + 1, i, none⟩ = false := fun o i => unfrozen_of_blk (HRB.out o) i
                    clear T0 T1 T2
                    go_wp2_with fail
                    have hr9 := blk_setCell (i := 2) (blk_setCell (i := 1) (blk_setCell (i := 0) (HRB.out (.cells #[.int .i64 0, .int .i64 0, .slice none 0 0] 40)) (.int .i64 0)) (.int .i64 0)) (.slice none 0 0)
                    have b0 := (cell_of_blk hr9 0).trans rfl
                    have b1 := (cell_of_blk hr9 1).trans rfl
                    have b2 := (cell_of_blk hr9 2).trans rfl
                    have hB9 := (((hBw2.alloc hBw2.size (.cells #[.int .i64 0, .int .i64 0, .slice none 0 0] 40)).setCell (p := ⟨w.heap.size + 1, 0, none⟩) (by show w.heap.size ≤ w.heap.size + 1; omega) (.int .i64 0)).setCell (p := ⟨w.heap.size + 1, 1, none⟩) (by show w.heap.size ≤ w.heap.size + 1; omega) (.int .i64 0)).setCell (p := ⟨w.heap.size + 1, 2, none⟩) (by show w.heap.size ≤ w.heap.size + 1; omega) (.slice none 0 0)
                    exact bodyPost_ret (v := .tuple #[.agg #[.int .i64 0, .int .i64 0, .slice none 0 0], .bool false]) (by simp [results, Try.results44, go_sem, b0, b1, b2]) rfl ⟨rfl, hB9⟩
                  | some p2 =>
                    obtain ⟨s2, rfl, hK2⟩ : ∃ s', e = .returned (.tuple #[.agg #[.int .i64 p2.1.k, .int .i64 p2.1.n, s'], .bool true]) ∧ KidT w2 _ p2.2 s' := hto
                    obtain ⟨pad, pc2, hpf⟩ := hK2.form
                    subst hpf
                    obtain ⟨w3, hw3⟩ : ∃ w3, w3 = w2.alloc (.cells #[.int .i64 p2.1.k, .int .i64 p2.1.n, .slice pad p2.2.len pc2] 40) := ⟨_, rfl⟩
                    have hb3 : Below w2.heap.size w2 w3 := by rw [hw3]; exact hal _
                    have hBw3 : Below w.heap.size w w3 := hBw2.trans (hb3.mono hBw2.size)
                    have hR3 : w3.heap[w.heap.size + 1]? = some (.cells #[.int .i64 0, .int .i64 0, .slice none 0 0] 40 (0, 0)) := by rw [hw3]; exact HRB.out _
                    have hsz3 := hb3.size
                    have HW3 := hide hw3
                    have HWW := hide (HWi.out p2.1 p2.2 _ _ w3 hBw3 (hK2.below hb3))
                    obtain ⟨PN, hPN⟩ : ∃ PN, PN = p2.2.len := ⟨_, rfl⟩
                    rw [← hPN] at HW3 HWW ⊢
                    have HR3 := hide hR3
                    clear hw3 hK2 hR3 hb3 HWi hPN HRB
                    go_wp2_with fail
                    rw [← HW3.out]
                    refine Calls.mono HWW.out ?_
                    rintro e w4 ⟨s4, rfl, hK4, hb4⟩
                    have hBw4 : Below w.heap.size w w4 := hBw3.trans (hb4.mono hBw3.size)
                    have hR4 := (hb4.block (w.heap.size + 1) (by omega)).trans HR3.out
                    have hsz4 := hb4.size
                    have a0 : w4.cell? ⟨w.heap.size + 1, 0, none⟩ = some (.int .i64 0) := (cell_of_blk hR4 0).trans rfl
                    have a1 : w4.cell? ⟨w.heap.size + 1, 1, none⟩ = some (.int .i64 0) := (cell_of_blk hR4 1).trans rfl
                    have a2 : w4.cell? ⟨w.heap.size + 1, 2, none⟩ = some (.slice none 0 0) := (cell_of_blk hR4 2).trans rfl
                    have fa := unfrozen_of_blk hR4
                    obtain ⟨qad, qc, hqf⟩ := hK4.form
                    subst hqf
                    have HK4 := hide hK4
                    have HR4 := hide hR4
                    have hRs : R = some (⟨6, xn⟩, d.app (.cons p2.1 p2.2 r)) := HV.out
                    subst hRs
                    obtain ⟨QN, hQN⟩ : ∃ QN, QN = (d.app (.cons p2.1 p2.2 r)).len := ⟨_, rfl⟩
                    rw [← hQN] at HK4 ⊢
                    clear hK4 hR4 hb4 HWW HR3 T0 T1 T2 hQN
                    go_wp2_with fail
                    have hr9 := blk_setCell (i := 2) (blk_setCell (i := 1) (blk_setCell (i := 0) HR4.out (.int .i64 6)) (.int .i64 xn)) (.slice qad QN qc)
                    have b0 := (cell_of_blk hr9 0).trans rfl
                    have b1 := (cell_of_blk hr9 1).trans rfl
                    have b2 := (cell_of_blk hr9 2).trans rfl
                    have hB9 := ((hBw4.setCell (p := ⟨w.heap.size + 1, 0, none⟩) (by show w.heap.size ≤ w.heap.size + 1; omega) (.int .i64 6)).setCell (p := ⟨w.heap.size + 1, 1, none⟩) (by show w.heap.size ≤ w.heap.size + 1; omega) (.int .i64 xn)).setCell (p := ⟨w.heap.size + 1, 2, none⟩) (by show w.heap.size ≤ w.heap.size + 1; omega) (.slice qad QN qc)
                    refine bodyPost_ret (v := .tuple #[.agg #[.int .i64 6, .int .i64 xn, .slice qad QN qc], .bool true]) (by simp [results, Try.results44, go_sem, b0, b1, b2]) rfl ⟨⟨_, rfl, HK4.out.keep (by simp [World.setCell]) (fun q h1 h2 => ?_)⟩, hB9⟩
                    have hqq : q ≠ w.heap.size + 1 ∧ (P q ∨ w.heap.size ≤ q) := by
                      rcases h1 with (h | h | h) | h
                      · exact ⟨by have := h.2; omega, .inl h.1⟩
                      · exact ⟨by have := h.2; omega, .inl h.1⟩
                      · exact ⟨by omega, .inr (by omega)⟩
                      · exact ⟨by omega, .inr (by omega)⟩
                    exact ⟨by rw [Below.heap_setCell _ _ _ _ hqq.1, Below.heap_setCell _ _ _ _ hqq.1, Below.heap_setCell _ _ _ _ hqq.1], hqq.2⟩
            · obtain hdp : d.len = 1 := by omega
              have hz : clk k 1 = none := by
                rw [HCk.out, hdp, Nat.sub_self]
                cases r with
                | nil => rfl
                | cons y ky r => rw [clk, if_pos rfl]; rfl
              have hRe : R = ctrR ⟨6, xn⟩ k := HR.out _ hz
              have t0 : wr.cell? ⟨w.heap.size, 0, none⟩ = some (.int .i64 6) := (cell_of_blk HTr.out 0).trans rfl
              have t1 : wr.cell? ⟨w.heap.size, 1, none⟩ = some (.int .i64 xn) := (cell_of_blk HTr.out 1).trans rfl
              have t2 : wr.cell? ⟨w.heap.size, 2, none⟩ = some (.slice sad KL sc) := (cell_of_blk HTr.out 2).trans rfl
              rw [← hRe] at HC
              rw [hdp]
              clear hz hRe hdp hdl hlt HCk HR
              go_wp2_with fail
              refine Calls.mono (HC.out _ hBw) ?_
              rintro e w2 ⟨hto, hb2⟩
              have hBw2 : Below w.heap.size w w2 := hBw.trans (hb2.mono hBw.size)
              have hR2 := (hb2.block (w.heap.size + 1) (by omega)).trans HRr.out
              have hsz2 := hb2.size
              clear t0 t1 t2 HTr HRr HC hb2
              have a0 := (cell_of_blk hR2 0).trans rfl
              have a1 := (cell_of_blk hR2 1).trans rfl
              have a2 := (cell_of_blk hR2 2).trans rfl
              have fa := unfrozen_of_blk hR2
              have HR2 := hide hR2
              clear hR2
              cases R with
              | none =>
                obtain rfl : e = .returned (.tuple #[.agg #[.int .i64 0, .int .i64 0, .slice none 0 0], .bool false]) := hto
                go_wp2_with fail
                have hr9 := blk_setCell (i := 2) (blk_setCell (i := 1) (blk_setCell (i := 0) HR2.out (.int .i64 0)) (.int .i64 0)) (.slice none 0 0)
                have b0 := (cell_of_blk hr9 0).trans rfl
                have b1 := (cell_of_blk hr9 1).trans rfl
                have b2 := (cell_of_blk hr9 2).trans rfl
                have hB9 := ((hBw2.setCell (p := ⟨w.heap.size + 1, 0, none⟩) (by show w.heap.size ≤ w.heap.size + 1; omega) (.int .i64 0)).setCell (p := ⟨w.heap.size + 1, 1, none⟩) (by show w.heap.size ≤ w.heap.size + 1; omega) (.int .i64 0)).setCell (p := ⟨w.heap.size + 1, 2, none⟩) (by show w.heap.size ≤ w.heap.size + 1; omega) (.slice none 0 0)
                exact bodyPost_ret (v := .tuple #[.agg #[.int .i64 0, .int .i64 0, .slice none 0 0], .bool false]) (by simp [results, Try.results44, go_sem, b0, b1, b2]) rfl ⟨rfl, hB9⟩
              | some p2 =>
                obtain ⟨s2, rfl, hK2⟩ : ∃ s', e = .returned (.tuple #[.agg #[.int .i64 p2.1.k, .int .i64 p2.1.n, s'], .bool true]) ∧ KidT w2 _ p2.2 s' := hto
                obtain ⟨pad, pc2, hpf⟩ := hK2.form
                subst hpf
                have HK2 := hide hK2
                obtain ⟨PN, hPN⟩ : ∃ PN, PN = p2.2.len := ⟨_, rfl⟩
                rw [← hPN] at HK2 ⊢
                clear hK2 hPN
                go_wp2_with fail
                have hr9 := blk_setCell (i := 2) (blk_setCell (i := 1) (blk_setCell (i := 0) HR2.out (.int .i64 p2.1.k)) (.int .i64 p2.1.n)) (.slice pad PN pc2)
                have b0 := (cell_of_blk hr9 0).trans rfl
                have b1 := (cell_of_blk hr9 1).trans rfl
                have b2 := (cell_of_blk hr9 2).trans rfl
                have hB9 := ((hBw2.setCell (p := ⟨w.heap.size + 1, 0, none⟩) (by show w.heap.size ≤ w.heap.size + 1; omega) (.int .i64 p2.1.k)).setCell (p := ⟨w.heap.size + 1, 1, none⟩) (by show w.heap.size ≤ w.heap.size + 1; omega) (.int .i64 p2.1.n)).setCell (p := ⟨w.heap.size + 1, 2, none⟩) (by show w.heap.size ≤ w.heap.size + 1; omega) (.slice pad PN pc2)
                refine bodyPost_ret (v := .tuple #[.agg #[.int .i64 p2.1.k, .int .i64 p2.1.n, .slice pad PN pc2], .bool true]) (by simp [results, Try.results44, go_sem, b0, b1, b2]) rfl ⟨⟨_, rfl, HK2.out.keep (by simp [World.setCell]) (fun q h1 h2 => ?_)⟩, hB9⟩
                have hqq : q ≠ w.heap.size + 1 ∧ (P q ∨ w.heap.size ≤ q) := by
                  rcases h1 with h | h
                  · exact ⟨by have := h.2; omega, .inl h.1⟩
                  · exact ⟨by omega, .inr (by omega)⟩
                exact ⟨by rw [Below.heap_setCell _ _ _ _ hqq.1, Below.heap_setCell _ _ _ _ hqq.1, Below.heap_setCell _ _ _ _ hqq.1], hqq.2⟩
        · have hP0 : PC = 0 := by rw [hPC]; unfold pc; rw [if_neg (by omega), if_neg (by omega)]
          clear hPC
          subst hP0
          have n4 : (xk == 4) = false := by simp [h4]
          have n5 : (xk == 5) = false := by simp [h5]
          have n6 : (xk == 6) = false := by simp [h6]
          have n7 : (xk == 7) = false := by simp [h7]
          go_enter Try.func44, Try.ntmps44
          go_wp2_with fail
          obtain ⟨w0, hw0⟩ : ∃ w0, w0 = (w.alloc (.cells #[.int .i64 xk, .int .i64 xn, .slice sad KL sc] 40)).alloc (.cells #[.int .i64 0, .int .i64 0, .slice none 0 0] 40) := ⟨_, rfl⟩
          rw [← hw0]
          have hB0 : Below w.heap.size w w0 := by rw [hw0]; exact ((Below.refl _ _).alloc (Nat.le_refl _) _).alloc (by simp) _
          have hbT : w0.heap[w.heap.size]? = some (.cells #[.int .i64 xk, .int .i64 xn, .slice sad KL sc] 40) := by rw [hw0, heap_alloc_old _ _ (by simp)]; exact heap_alloc_new _ _
          have hbR : w0.heap[w.heap.size + 1]? = some (.cells #[.int .i64 0, .int .i64 0, .slice none 0 0] 40) := by rw [hw0]; have := heap_alloc_new (w.alloc (.cells #[.int .i64 xk, .int .i64 xn, .slice sad KL sc] 40)) (.cells #[.int .i64 0, .int .i64 0, .slice none 0 0] 40); simpa using this
          have hsz0 : w0.heap.size = w.heap.size + 1 + 1 := by rw [hw0]; simp
          have HbT := hide hbT
          have HbR := hide hbR
          have HSz := hide hsz0
          clear hw0 hbT hbR hsz0
          go_loopw [5] (fun i w' => ∃ d r : F, k = d.app r ∧ i = .int .i64 (d.len : Int) ∧ d.len ≤ 0 ∧ clk k 0 = (clk r (0 - d.len)).map (fun c => c.map (fun r' => d.app r')) ∧ Below w0.heap.size w0 w') (fun i _ => 0 - (intOf i).toNat)
          case atStart => exact ⟨.nil, k, rfl, rfl, Nat.zero_le _, by show clk k 0 = (clk k 0).map _; cases clk k 0 with | none => rfl | some c => cases c <;> rfl, Below.refl _ _⟩
          case round =>
            obtain ⟨d, r, hk, rfl, hdl, hcl, hBr⟩ := hrel
            have HCk := hide hcl
            have hszr := hBr.size
            have hsz0 := HSz.out
            have hBw : Below w.heap.size w wr := hB0.trans (hBr.mono hB0.size)
            have hbTr := (hBr.block w.heap.size (by omega)).trans HbT.out
            have hbRr := (hBr.block (w.heap.size + 1) (by omega)).trans HbR.out
            have HTr := hide hbTr
            have HRr := hide hbRr
            clear hcl hbTr hbRr
            by_cases hlt : d.len < 0
            · exact absurd hlt (by omega)
            · obtain hdp : d.len = 0 := by omega
              have hz : clk k 0 = none := by
                rw [HCk.out, hdp, Nat.sub_self]
                cases r with
                | nil => rfl
                | cons y ky r => rw [clk, if_pos rfl]; rfl
              have hRe : R = ctrR ⟨xk, xn⟩ k := HR.out _ hz
              have t0 : wr.cell? ⟨w.heap.size, 0, none⟩ = some (.int .i64 xk) := (cell_of_blk HTr.out 0).trans rfl
              have t1 : wr.cell? ⟨w.heap.size, 1, none⟩ = some (.int .i64 xn) := (cell_of_blk HTr.out 1).trans rfl
              have t2 : wr.cell? ⟨w.heap.size, 2, none⟩ = some (.slice sad KL sc) := (cell_of_blk HTr.out 2).trans rfl
              rw [← hRe] at HC
              rw [hdp]
              clear hz hRe hdp hdl hlt HCk HR
              go_wp2_with fail
              refine Calls.mono (HC.out _ hBw) ?_
              rintro e w2 ⟨hto, hb2⟩
              have hBw2 : Below w.heap.size w w2 := hBw.trans (hb2.mono hBw.size)
              have hR2 := (hb2.block (w.heap.size + 1) (by omega)).trans HRr.out
              have hsz2 := hb2.size
              clear t0 t1 t2 HTr HRr HC hb2
              have a0 := (cell_of_blk hR2 0).trans rfl
              have a1 := (cell_of_blk hR2 1).trans rfl
              have a2 := (cell_of_blk hR2 2).trans rfl
              have fa := unfrozen_of_blk hR2
              have HR2 := hide hR2
              clear hR2
              cases R with
              | none =>
                obtain rfl : e = .returned (.tuple #[.agg #[.int .i64 0, .int .i64 0, .slice none 0 0], .bool false]) := hto
                go_wp2_with fail
                have hr9 := blk_setCell (i := 2) (blk_setCell (i := 1) (blk_setCell (i := 0) HR2.out (.int .i64 0)) (.int .i64 0)) (.slice none 0 0)
                have b0 := (cell_of_blk hr9 0).trans rfl
                have b1 := (cell_of_blk hr9 1).trans rfl
                have b2 := (cell_of_blk hr9 2).trans rfl
                have hB9 := ((hBw2.setCell (p := ⟨w.heap.size + 1, 0, none⟩) (by show w.heap.size ≤ w.heap.size + 1; omega) (.int .i64 0)).setCell (p := ⟨w.heap.size + 1, 1, none⟩) (by show w.heap.size ≤ w.heap.size + 1; omega) (.int .i64 0)).setCell (p := ⟨w.heap.size + 1, 2, none⟩) (by show w.heap.size ≤ w.heap.size + 1; omega) (.slice none 0 0)
                exact bodyPost_ret (v := .tuple #[.agg #[.int .i64 0, .int .i64 0, .slice none 0 0], .bool false]) (by simp [results, Try.results44, go_sem, b0, b1, b2]) rfl ⟨rfl, hB9⟩
              | some p2 =>
                obtain ⟨s2, rfl, hK2⟩ : ∃ s', e = .returned (.tuple #[.agg #[.int .i64 p2.1.k, .int .i64 p2.1.n, s'], .bool true]) ∧ KidT w2 _ p2.2 s' := hto
                obtain ⟨pad, pc2, hpf⟩ := hK2.form
                subst hpf
                have HK2 := hide hK2
                obtain ⟨PN, hPN⟩ : ∃ PN, PN = p2.2.len := ⟨_, rfl⟩
                rw [← hPN] at HK2 ⊢
                clear hK2 hPN
                go_wp2_with fail
                have hr9 := blk_setCell (i := 2) (blk_setCell (i := 1) (blk_setCell (i := 0) HR2.out (.int .i64 p2.1.k)) (.int .i64 p2.1.n)) (.slice pad PN pc2)
                have b0 := (cell_of_blk hr9 0).trans rfl
                have b1 := (cell_of_blk hr9 1).trans rfl
                have b2 := (cell_of_blk hr9 2).trans rfl
                have hB9 := ((hBw2.setCell (p := ⟨w.heap.size + 1, 0, none⟩) (by show w.heap.size ≤ w.heap.size + 1; omega) (.int .i64 p2.1.k)).setCell (p := ⟨w.heap.size + 1, 1, none⟩) (by show w.heap.size ≤ w.heap.size + 1; omega) (.int .i64 p2.1.n)).setCell (p := ⟨w.heap.size + 1, 2, none⟩) (by show w.heap.size ≤ w.heap.size + 1; omega) (.slice pad PN pc2)
                refine bodyPost_ret (v := .tuple #[.agg #[.int .i64 p2.1.k, .int .i64 p2.1.n, .slice pad PN pc2], .bool true]) (by simp [results, Try.results44, go_sem, b0, b1, b2]) rfl ⟨⟨_, rfl, HK2.out.keep (by simp [World.setCell]) (fun q h1 h2 => ?_)⟩, hB9⟩
                have hqq : q ≠ w.heap.size + 1 ∧ (P q ∨ w.heap.size ≤ q) := by
                  rcases h1 with h | h
                  · exact ⟨by have := h.2; omega, .inl h.1⟩
                  · exact ⟨by omega, .inr (by omega)⟩
                exact ⟨by rw [Below.heap_setCell _ _ _ _ hqq.1, Below.heap_setCell _ _ _ _ hqq.1, Below.heap_setCell _ _ _ _ hqq.1], hqq.2⟩

end Go.Proofs.Ytbimfnnbfbfdoab.W
