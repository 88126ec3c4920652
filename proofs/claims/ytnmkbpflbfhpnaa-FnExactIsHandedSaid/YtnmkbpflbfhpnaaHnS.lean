/-
  Which terms hand on, as the specification tells it: contracts of l7Simple, l7Is, IsHanded. Conditions: good terms of at most 1048576 cells.
-/
import Derived.Test.YtnmkbpflbfhpnaaHnM
import Derived.Test.YtnmkbpflbfhpnaaTeRs
import Derived.Deep.RegionHeld3
namespace Go.Proofs.Ytnmkbpflbfhpnaa.W
open Go.ChangeShapes Go.WideShapes Go.ChangeAt Go.RowKit
set_option linter.unusedVariables false

def L7SGoal (k : F) : Prop := ∀ (x : Cc) (s : Value) (P : Nat → Prop) (w : World), k.len = ar x.k → k.ok → KidT w P k s →
    Calls Try.prog 50 #[.agg #[.int .i64 x.k, .int .i64 x.n, s]] w fun e w' => e = .returned (.bool (smp1 x k)) ∧ Below w.heap.size w w'

set_option maxRecDepth 20000 in
set_option maxHeartbeats 2000000 in
theorem l7Simple_any : ∀ k, L7SGoal k := by
  apply F.rec_kids
  intro k ih x s P w hka hko hT
  obtain ⟨sad, sc, rfl⟩ := hT.form
  obtain ⟨xk, xn⟩ := x
  simp only at *
  by_cases h5 : xk = 5
  · subst h5
    obtain ⟨y, ky, z, kz, rfl⟩ := two_of (k := k) (by rw [hka]; decide)
    obtain ⟨g, rfl, hg, -, p0, p1, sy, p2, hTy⟩ := hT.first
    obtain ⟨q0, q1, sz, q2, hTz⟩ := hT.second
    obtain ⟨gy, ly, oy, gz, lz, oz, -⟩ := hko
    have HCy := hide (fun (w' : World) (hw' : Below w.heap.size w w') => ih.1 y sy P w' ly oy (hTy.below hw'))
    have HCz := hide (fun (w' : World) (hw' : Below w.heap.size w w') => ih.2.1 z sz P w' lz oz (hTz.below hw'))
    obtain ⟨yad, yc, rfl⟩ := hTy.form
    obtain ⟨zad, zc, rfl⟩ := hTz.form
    have hr : smp1 ⟨5, xn⟩ (.cons y ky (.cons z kz .nil)) = (smp1 y ky && smp1 z kz) := by simp [smp1, smp]
    rw [hr]
    have hKL : (F.cons y ky (.cons z kz .nil)).len = 2 := rfl
    rw [hKL]
    obtain ⟨yn, hyn2⟩ : ∃ yn, yn = ky.len := ⟨_, rfl⟩
    obtain ⟨zn, hzn2⟩ : ∃ zn, zn = kz.len := ⟨_, rfl⟩
    rw [← hyn2] at p2 HCy
    rw [← hzn2] at q2 HCz
    obtain ⟨Ry, hRy⟩ : ∃ Ry, Ry = smp1 y ky := ⟨_, rfl⟩
    obtain ⟨Rz, hRz⟩ : ∃ Rz, Rz = smp1 z kz := ⟨_, rfl⟩
    rw [← hRy] at HCy ⊢
    rw [← hRz] at HCz ⊢
    clear hyn2 hzn2 hKL hT hTy hTz hr gy ly oy gz lz oz ih hka hRy hRz
    cases Ry with
    | false =>
      go_enter Try.func50, Try.ntmps50
      go_wp2_with fail
      refine Calls.mono (HCy.out _ ((Below.refl _ _).alloc (Nat.le_refl _) _)) ?_
      rintro e w1 ⟨rfl, hb1⟩
      have hB1 : Below w.heap.size w w1 := ((Below.refl _ _).alloc (Nat.le_refl _) _).trans (hb1.mono (by simp))
      clear hb1
      go_wp2_with fail
      go_ret
      exact ⟨rfl, hB1⟩
    | true =>
      go_enter Try.func50, Try.ntmps50
      go_wp2_with fail
      refine Calls.mono (HCy.out _ ((Below.refl _ _).alloc (Nat.le_refl _) _)) ?_
      rintro e w1 ⟨rfl, hb1⟩
      have hB1 : Below w.heap.size w w1 := ((Below.refl _ _).alloc (Nat.le_refl _) _).trans (hb1.mono (by simp))
      have z2 : w1.cell? ⟨w.heap.size, 2, none⟩ = some (.slice (some ⟨g, 0, none⟩) 2 sc) := by rw [hb1.cell (by simp)]; simp
      have r0 := (hB1.cell (p := ⟨g, 3, none⟩) hg).trans q0
      have r1 := (hB1.cell (p := ⟨g, 4, none⟩) hg).trans q1
      have r2 := (hB1.cell (p := ⟨g, 5, none⟩) hg).trans q2
      clear hb1 p0 p1 p2 q0 q1 q2 HCy
      go_wp2_with fail
      refine Calls.mono (HCz.out _ hB1) ?_
      rintro e w2 ⟨rfl, hb2⟩
      go_wp2_with fail
      go_ret
      exact ⟨rfl, hB1.trans (hb2.mono hB1.size)⟩
  · have hr : smp1 ⟨xk, xn⟩ k = rdy xk := by simp [smp1, h5]
    rw [hr]
    have h5b : (xk == 5) = false := by simp [h5]
    obtain ⟨KL, hKL⟩ : ∃ KL, KL = k.len := ⟨_, rfl⟩
    rw [← hKL]
    clear hKL hT hko hka ih hr
    go_enter Try.func50, Try.ntmps50
    go_wp2
    all_goals
      go_ret
      refine ⟨ret_bool ?_, (Below.refl _ _).alloc (Nat.le_refl _) _⟩
      rw [Bool.eq_iff_iff]; simp_all [rdy, isVal]

def L7IGoal (k : F) : Prop := ∀ (x : Cc) (s : Value) (P : Nat → Prop) (w : World), k.len = ar x.k → k.ok → KidT w P k s →
    Calls Try.prog 26 #[.agg #[.int .i64 x.k, .int .i64 x.n, s]] w fun e w' => e = .returned (.bool (sloc x.k k && hs k)) ∧ Below w.heap.size w w'

set_option maxRecDepth 20000 in
set_option maxHeartbeats 4000000 in
theorem l7Is_any : ∀ k, L7IGoal k := by
  apply F.rec_kids
  intro k ih x s P w hka hko hT
  have IH := hide ih
  have HT := hide hT
  have HKO := hide hko
  obtain ⟨sad, sc, rfl⟩ := hT.form
  obtain ⟨xk, xn⟩ := x
  simp only at *
  clear ih
  have HKo := hide hko
  have HKa := hide hka
  clear hko hka
  obtain ⟨KL, hKL⟩ : ∃ KL, KL = k.len := ⟨_, rfl⟩
  rw [← hKL] at HT hT ⊢
  have HKL := hide hKL
  have hKL3 : KL ≤ 3 := by have := ar_le xk; have h := HKa.out; omega
  clear hKL
  obtain ⟨R, hR⟩ : ∃ R, R = sloc xk k := ⟨_, rfl⟩
  rw [← hR]
  have HR := hide hR
  clear hR
  by_cases h4 : xk = 4
  · · subst h4
      obtain ⟨y0, ky0, r0, hk0⟩ := len_pos (k := k) (by rw [HKa.out]; decide)
      obtain ⟨y, ky, r1, hk1⟩ := len_pos (k := r0) (by have h := HKa.out; rw [hk0] at h; simp only [F.len] at h; have h2 : ar 4 = 2 := rfl; omega)
      rw [hk1] at hk0
      have ho := HKo.out
      rw [hk0] at ho hT
      obtain ⟨-, -, -, gy, ly, oy, -⟩ := ho
      obtain ⟨g, rfl, hg, -, -, -, -, -, -⟩ := hT.first
      obtain ⟨p0, p1, sy, p2, hTy⟩ := hT.second
      have hRv : R = smp1 y ky := by rw [HR.out, hk0]; rfl
      have hKi : (1 : Int) < (KL : Int) := by have h := HKL.out; rw [HKa.out] at h; have h2 : ar 4 = 2 := rfl; omega
      have HCy := hide (fun (w' : World) (hw' : Below w.heap.size w w') => l7Simple_any ky y sy P w' ly oy (hTy.below hw'))
      obtain ⟨yad, yc, rfl⟩ := hTy.form
      obtain ⟨yn, hyn⟩ : ∃ yn, yn = ky.len := ⟨_, rfl⟩
      rw [← hyn] at p2 HCy
      rw [← hRv] at HCy
      clear hyn hT hTy gy ly oy hRv hk0
      go_enter Try.func26, Try.ntmps26
      go_wp2_with fail
      refine Calls.mono (HCy.out _ ((Below.refl _ _).alloc (Nat.le_refl _) _)) ?_
      rintro e w1 ⟨rfl, hb1⟩
      have HB1 : Hid (Below w.heap.size w w1) := hide (((Below.refl _ _).alloc (Nat.le_refl _) _).trans (hb1.mono (by simp)))
      have z2 : w1.cell? ⟨w.heap.size, 2, none⟩ = some (.slice (some ⟨g, 0, none⟩) KL sc) := by rw [hb1.cell (by simp)]; simp
      clear hb1 p0 p1 p2 HCy
      go_wp2_with fail
      go_loopw [3, 41] (fun o i w' => ∃ d r : F, k = d.app r ∧ i = .int .i64 (d.len : Int) ∧ o = .bool (R && hs d) ∧ Below w.heap.size w w') (fun _ i _ => KL - (intOf i).toNat)
      case atStart => exact ⟨.nil, k, rfl, rfl, by simp [hs], HB1.out⟩
      case round =>
        obtain ⟨d, r, hk, rfl, rfl, hB⟩ := hrel
        cases r with
        | nil =>
          rw [F.app_nil] at hk
          subst hk
          have hKL := HKL.out
          rw [← hKL]
          clear hKL
          obtain ⟨V, hV⟩ : ∃ V, V = (R && hs k) := ⟨_, rfl⟩
          rw [← hV]
          have HV := hide hV
          clear hV
          go_wp2_with fail
          go_ret
          exact ⟨ret_bool HV.out, hB⟩
        | cons y ky r =>
          have hkl2 : KL = d.len + (r.len + 1) := by rw [HKL.out, hk, F.app_len]; rfl
          have hlt' : (d.len : Int) < (KL : Int) := by omega
          have hK := HT.out
          have hI := IH.out
          have hO := HKO.out
          rw [hk] at hK hI hO
          obtain ⟨g, cap, sy, he, hP, hg, hTy, p0, p1, p2⟩ := hK.kid
          simp only [Value.slice.injEq] at he
          obtain ⟨he1, -, he3⟩ := he
          have he2 := he1.symm
          (try simp only [Option.some.injEq, Addr.mk.injEq, and_true] at he2)
          subst he2 he3
          clear he1
          obtain ⟨gy, ly, oy, -⟩ := ((F.app_ok _ _).1 hO).2
          have q0 := (hB.cell (p := ⟨g, d.len * 3, none⟩) hg).trans p0
          have q1 := (hB.cell (p := ⟨g, d.len * 3 + 1, none⟩) hg).trans p1
          have q2 := (hB.cell (p := ⟨g, d.len * 3 + 2, none⟩) hg).trans p2
          have HC := hide (fun (w' : World) (hw' : Below w.heap.size w w') => F.all_at hI y sy P w' ly oy (hTy.below hw'))
          obtain ⟨yad, yc, rfl⟩ := hTy.form
          have HSn := hide (hk.trans (F.app_snoc d ky r y))
          have HDl : Hid ((d.app (.cons y ky .nil)).len = d.len + 1) := hide (by rw [F.app_len]; rfl)
          have HA1 : Hid ((R && hs (d.app (.cons y ky .nil))) = ((R && hs d) && (sloc y.k ky && hs ky))) := hide (by rw [hs_app]; simp [hs, Bool.and_assoc])
          clear p0 p1 p2 hTy hK hI hk gy ly oy hO
          obtain ⟨dl, hdl⟩ : ∃ dl, dl = d.len := ⟨_, rfl⟩
          obtain ⟨kn, hkn⟩ : ∃ kn, kn = ky.len := ⟨_, rfl⟩
          rw [← hdl] at hlt' q0 q1 q2 HDl hkl2 ⊢
          rw [← hkn] at HC q2
          have HKl2 := hide hkl2
          obtain ⟨V, hV⟩ : ∃ V, V = (sloc y.k ky && hs ky) := ⟨_, rfl⟩
          obtain ⟨Q, hQ⟩ : ∃ Q, Q = (R && hs d) := ⟨_, rfl⟩
          rw [← hV] at HC HA1
          rw [← hQ] at HA1 ⊢
          clear hdl hkn hkl2 hV hQ
          cases Q with
          | false =>
            rw [Bool.false_and] at HA1
            go_wp2_with fail
            have hkl2 := HKl2.out
            exact ⟨⟨d.app (.cons y ky .nil), r, HSn.out, by rw [HDl.out]; go_num, by rw [HA1.out], hB.alloc hB.size _⟩, by simp [intOf]; omega⟩
          | true =>
            rw [Bool.true_and] at HA1
            go_wp2_with fail
            refine Calls.mono (HC.out _ (hB.alloc hB.size _)) ?_
            rintro e w2 ⟨rfl, hb2⟩
            have hB2 : Below w.heap.size w w2 := (hB.alloc hB.size _).trans (hb2.mono (by have := hB.size; simp; omega))
            clear hb2 HC q0 q1 q2
            go_wp2_with fail
            have hkl2 := HKl2.out
            exact ⟨⟨d.app (.cons y ky .nil), r, HSn.out, by rw [HDl.out]; go_num, by rw [HA1.out], hB2⟩, by simp [intOf]; omega⟩
  · by_cases h5 : xk = 5
    · subst h5
      obtain ⟨y, ky, z, kz, hk0⟩ := two_of (k := k) (by rw [HKa.out]; decide)
      have hKL2 : KL = 2 := by rw [HKL.out, hk0]; rfl
      have ho := HKo.out
      rw [hk0] at ho hT
      obtain ⟨gy, ly, oy, gz, lz, oz, -⟩ := ho
      obtain ⟨g, rfl, hg, -, p0, p1, sy, p2, hTy⟩ := hT.first
      obtain ⟨q0, q1, sz, q2, hTz⟩ := hT.second
      have hRv : R = (smp1 y ky && smp1 z kz) := by rw [HR.out, hk0]; rfl
      have HCy := hide (fun (w' : World) (hw' : Below w.heap.size w w') => l7Simple_any ky y sy P w' ly oy (hTy.below hw'))
      have HCz := hide (fun (w' : World) (hw' : Below w.heap.size w w') => l7Simple_any kz z sz P w' lz oz (hTz.below hw'))
      obtain ⟨yad, yc, rfl⟩ := hTy.form
      obtain ⟨zad, zc, rfl⟩ := hTz.form
      obtain ⟨yn, hyn⟩ : ∃ yn, yn = ky.len := ⟨_, rfl⟩
      obtain ⟨zn, hzn⟩ : ∃ zn, zn = kz.len := ⟨_, rfl⟩
      rw [← hyn] at p2 HCy
      rw [← hzn] at q2 HCz
      have hK0 : (0 : Int) < (KL : Int) := by omega
      have hK1 : (1 : Int) < (KL : Int) := by omega
      obtain ⟨Ry, hRy⟩ : ∃ Ry, Ry = smp1 y ky := ⟨_, rfl⟩
      obtain ⟨Rz, hRz⟩ : ∃ Rz, Rz = smp1 z kz := ⟨_, rfl⟩
      rw [← hRy] at HCy hRv
      rw [← hRz] at HCz hRv
      clear hyn hzn hT hTy hTz gy ly oy gz lz oz hk0 hKL2 hRy hRz HR
      cases Ry with
      | false =>
        rw [Bool.false_and] at hRv
        have HRv := hide hRv
        clear hRv
        go_enter Try.func26, Try.ntmps26
        go_wp2_with fail
        refine Calls.mono (HCy.out _ ((Below.refl _ _).alloc (Nat.le_refl _) _)) ?_
        rintro e w1 ⟨rfl, hb1⟩
        have HB1 : Hid (Below w.heap.size w w1) := hide (((Below.refl _ _).alloc (Nat.le_refl _) _).trans (hb1.mono (by simp)))
        have z2 : w1.cell? ⟨w.heap.size, 2, none⟩ = some (.slice (some ⟨g, 0, none⟩) KL sc) := by rw [hb1.cell (by simp)]; simp
        clear hb1 p0 p1 p2 HCy
        go_wp2_with fail
        go_loopw [3, 41] (fun o i w' => ∃ d r : F, k = d.app r ∧ i = .int .i64 (d.len : Int) ∧ o = .bool (R && hs d) ∧ Below w.heap.size w w') (fun _ i _ => KL - (intOf i).toNat)
        case atStart => exact ⟨.nil, k, rfl, rfl, by rw [HRv.out]; simp [hs], HB1.out⟩
        case round =>
          obtain ⟨d, r, hk, rfl, rfl, hB⟩ := hrel
          cases r with
          | nil =>
            rw [F.app_nil] at hk
            subst hk
            have hKL := HKL.out
            rw [← hKL]
            clear hKL
            obtain ⟨V, hV⟩ : ∃ V, V = (R && hs k) := ⟨_, rfl⟩
            rw [← hV]
            have HV := hide hV
            clear hV
            go_wp2_with fail
            go_ret
            exact ⟨ret_bool HV.out, hB⟩
          | cons y ky r =>
            have hkl2 : KL = d.len + (r.len + 1) := by rw [HKL.out, hk, F.app_len]; rfl
            have hlt' : (d.len : Int) < (KL : Int) := by omega
            have hK := HT.out
            have hI := IH.out
            have hO := HKO.out
            rw [hk] at hK hI hO
            obtain ⟨g, cap, sy, he, hP, hg, hTy, p0, p1, p2⟩ := hK.kid
            simp only [Value.slice.injEq] at he
            obtain ⟨he1, -, he3⟩ := he
            have he2 := he1.symm
            (try simp only [Option.some.injEq, Addr.mk.injEq, and_true] at he2)
            subst he2 he3
            clear he1
            obtain ⟨gy, ly, oy, -⟩ := ((F.app_ok _ _).1 hO).2
            have q0 := (hB.cell (p := ⟨g, d.len * 3, none⟩) hg).trans p0
            have q1 := (hB.cell (p := ⟨g, d.len * 3 + 1, none⟩) hg).trans p1
            have q2 := (hB.cell (p := ⟨g, d.len * 3 + 2, none⟩) hg).trans p2
            have HC := hide (fun (w' : World) (hw' : Below w.heap.size w w') => F.all_at hI y sy P w' ly oy (hTy.below hw'))
            obtain ⟨yad, yc, rfl⟩ := hTy.form
            have HSn := hide (hk.trans (F.app_snoc d ky r y))
            have HDl : Hid ((d.app (.cons y ky .nil)).len = d.len + 1) := hide (by rw [F.app_len]; rfl)
            have HA1 : Hid ((R && hs (d.app (.cons y ky .nil))) = ((R && hs d) && (sloc y.k ky && hs ky))) := hide (by rw [hs_app]; simp [hs, Bool.and_assoc])
            clear p0 p1 p2 hTy hK hI hk gy ly oy hO
            obtain ⟨dl, hdl⟩ : ∃ dl, dl = d.len := ⟨_, rfl⟩
            obtain ⟨kn, hkn⟩ : ∃ kn, kn = ky.len := ⟨_, rfl⟩
            rw [← hdl] at hlt' q0 q1 q2 HDl hkl2 ⊢
            rw [← hkn] at HC q2
            have HKl2 := hide hkl2
            obtain ⟨V, hV⟩ : ∃ V, V = (sloc y.k ky && hs ky) := ⟨_, rfl⟩
            obtain ⟨Q, hQ⟩ : ∃ Q, Q = (R && hs d) := ⟨_, rfl⟩
            rw [← hV] at HC HA1
            rw [← hQ] at HA1 ⊢
            clear hdl hkn hkl2 hV hQ
            cases Q with
            | false =>
              rw [Bool.false_and] at HA1
              go_wp2_with fail
              have hkl2 := HKl2.out
              exact ⟨⟨d.app (.cons y ky .nil), r, HSn.out, by rw [HDl.out]; go_num, by rw [HA1.out], hB.alloc hB.size _⟩, by simp [intOf]; omega⟩
            | true =>
              rw [Bool.true_and] at HA1
              go_wp2_with fail
              refine Calls.mono (HC.out _ (hB.alloc hB.size _)) ?_
              rintro e w2 ⟨rfl, hb2⟩
              have hB2 : Below w.heap.size w w2 := (hB.alloc hB.size _).trans (hb2.mono (by have := hB.size; simp; omega))
              clear hb2 HC q0 q1 q2
              go_wp2_with fail
              have hkl2 := HKl2.out
              exact ⟨⟨d.app (.cons y ky .nil), r, HSn.out, by rw [HDl.out]; go_num, by rw [HA1.out], hB2⟩, by simp [intOf]; omega⟩
      | true =>
        rw [Bool.true_and] at hRv
        have HRv := hide hRv
        clear hRv
        go_enter Try.func26, Try.ntmps26
        go_wp2_with fail
        refine Calls.mono (HCy.out _ ((Below.refl _ _).alloc (Nat.le_refl _) _)) ?_
        rintro e w1 ⟨rfl, hb1⟩
        have hB1 : Below w.heap.size w w1 := ((Below.refl _ _).alloc (Nat.le_refl _) _).trans (hb1.mono (by simp))
        have z2 : w1.cell? ⟨w.heap.size, 2, none⟩ = some (.slice (some ⟨g, 0, none⟩) KL sc) := by rw [hb1.cell (by simp)]; simp
        have r0 := (hB1.cell (p := ⟨g, 3, none⟩) hg).trans q0
        have r1 := (hB1.cell (p := ⟨g, 4, none⟩) hg).trans q1
        have r2 := (hB1.cell (p := ⟨g, 5, none⟩) hg).trans q2
        clear hb1 p0 p1 p2 q0 q1 q2 HCy
        go_wp2_with fail
        refine Calls.mono (HCz.out _ hB1) ?_
        rintro e w2 ⟨rfl, hb2⟩
        have HB1 := hide (hB1.trans (hb2.mono hB1.size))
        have z3 : w2.cell? ⟨w.heap.size, 2, none⟩ = some (.slice (some ⟨g, 0, none⟩) KL sc) := by rw [hb2.cell (by have := (World.block_lt_of_cell? w1 _ z2); exact this)]; exact z2
        clear hb2 r0 r1 r2 HCz z2 hB1
        go_wp2_with fail
        go_loopw [3, 41] (fun o i w' => ∃ d r : F, k = d.app r ∧ i = .int .i64 (d.len : Int) ∧ o = .bool (R && hs d) ∧ Below w.heap.size w w') (fun _ i _ => KL - (intOf i).toNat)
        case atStart => exact ⟨.nil, k, rfl, rfl, by rw [HRv.out]; simp [hs], HB1.out⟩
        case round =>
          obtain ⟨d, r, hk, rfl, rfl, hB⟩ := hrel
          cases r with
          | nil =>
            rw [F.app_nil] at hk
            subst hk
            have hKL := HKL.out
            rw [← hKL]
            clear hKL
            obtain ⟨V, hV⟩ : ∃ V, V = (R && hs k) := ⟨_, rfl⟩
            rw [← hV]
            have HV := hide hV
            clear hV
            go_wp2_with fail
            go_ret
            exact ⟨ret_bool HV.out, hB⟩
          | cons y ky r =>
            have hkl2 : KL = d.len + (r.len + 1) := by rw [HKL.out, hk, F.app_len]; rfl
            have hlt' : (d.len : Int) < (KL : Int) := by omega
            have hK := HT.out
            have hI := IH.out
            have hO := HKO.out
            rw [hk] at hK hI hO
            obtain ⟨g, cap, sy, he, hP, hg, hTy, p0, p1, p2⟩ := hK.kid
            simp only [Value.slice.injEq] at he
            obtain ⟨he1, -, he3⟩ := he
            have he2 := he1.symm
            (try simp only [Option.some.injEq, Addr.mk.injEq, and_true] at he2)
            subst he2 he3
            clear he1
            obtain ⟨gy, ly, oy, -⟩ := ((F.app_ok _ _).1 hO).2
            have q0 := (hB.cell (p := ⟨g, d.len * 3, none⟩) hg).trans p0
            have q1 := (hB.cell (p := ⟨g, d.len * 3 + 1, none⟩) hg).trans p1
            have q2 := (hB.cell (p := ⟨g, d.len * 3 + 2, none⟩) hg).trans p2
            have HC := hide (fun (w' : World) (hw' : Below w.heap.size w w') => F.all_at hI y sy P w' ly oy (hTy.below hw'))
            obtain ⟨yad, yc, rfl⟩ := hTy.form
            have HSn := hide (hk.trans (F.app_snoc d ky r y))
            have HDl : Hid ((d.app (.cons y ky .nil)).len = d.len + 1) := hide (by rw [F.app_len]; rfl)
            have HA1 : Hid ((R && hs (d.app (.cons y ky .nil))) = ((R && hs d) && (sloc y.k ky && hs ky))) := hide (by rw [hs_app]; simp [hs, Bool.and_assoc])
            clear p0 p1 p2 hTy hK hI hk gy ly oy hO
            obtain ⟨dl, hdl⟩ : ∃ dl, dl = d.len := ⟨_, rfl⟩
            obtain ⟨kn, hkn⟩ : ∃ kn, kn = ky.len := ⟨_, rfl⟩
            rw [← hdl] at hlt' q0 q1 q2 HDl hkl2 ⊢
            rw [← hkn] at HC q2
            have HKl2 := hide hkl2
            obtain ⟨V, hV⟩ : ∃ V, V = (sloc y.k ky && hs ky) := ⟨_, rfl⟩
            obtain ⟨Q, hQ⟩ : ∃ Q, Q = (R && hs d) := ⟨_, rfl⟩
            rw [← hV] at HC HA1
            rw [← hQ] at HA1 ⊢
            clear hdl hkn hkl2 hV hQ
            cases Q with
            | false =>
              rw [Bool.false_and] at HA1
              go_wp2_with fail
              have hkl2 := HKl2.out
              exact ⟨⟨d.app (.cons y ky .nil), r, HSn.out, by rw [HDl.out]; go_num, by rw [HA1.out], hB.alloc hB.size _⟩, by simp [intOf]; omega⟩
            | true =>
              rw [Bool.true_and] at HA1
              go_wp2_with fail
              refine Calls.mono (HC.out _ (hB.alloc hB.size _)) ?_
              rintro e w2 ⟨rfl, hb2⟩
              have hB2 : Below w.heap.size w w2 := (hB.alloc hB.size _).trans (hb2.mono (by have := hB.size; simp; omega))
              clear hb2 HC q0 q1 q2
              go_wp2_with fail
              have hkl2 := HKl2.out
              exact ⟨⟨d.app (.cons y ky .nil), r, HSn.out, by rw [HDl.out]; go_num, by rw [HA1.out], hB2⟩, by simp [intOf]; omega⟩
    · by_cases h6 : xk = 6
      · subst h6
        obtain ⟨y, ky, r1, hk0⟩ := len_pos (k := k) (by rw [HKa.out]; decide)
        have ho := HKo.out
        rw [hk0] at ho hT
        obtain ⟨gy, ly, oy, -⟩ := ho
        obtain ⟨g, rfl, hg, -, p0, p1, sy, p2, hTy⟩ := hT.first
        have hRv : R = smp1 y ky := by rw [HR.out, hk0]; rfl
        have hKi : (0 : Int) < (KL : Int) := by have h := HKL.out; rw [HKa.out] at h; have h2 : ar 6 = 3 := rfl; omega
        have HCy := hide (fun (w' : World) (hw' : Below w.heap.size w w') => l7Simple_any ky y sy P w' ly oy (hTy.below hw'))
        obtain ⟨yad, yc, rfl⟩ := hTy.form
        obtain ⟨yn, hyn⟩ : ∃ yn, yn = ky.len := ⟨_, rfl⟩
        rw [← hyn] at p2 HCy
        rw [← hRv] at HCy
        clear hyn hT hTy gy ly oy hRv hk0
        go_enter Try.func26, Try.ntmps26
        go_wp2_with fail
        refine Calls.mono (HCy.out _ ((Below.refl _ _).alloc (Nat.le_refl _) _)) ?_
        rintro e w1 ⟨rfl, hb1⟩
        have HB1 : Hid (Below w.heap.size w w1) := hide (((Below.refl _ _).alloc (Nat.le_refl _) _).trans (hb1.mono (by simp)))
        have z2 : w1.cell? ⟨w.heap.size, 2, none⟩ = some (.slice (some ⟨g, 0, none⟩) KL sc) := by rw [hb1.cell (by simp)]; simp
        clear hb1 p0 p1 p2 HCy
        go_wp2_with fail
        go_loopw [3, 41] (fun o i w' => ∃ d r : F, k = d.app r ∧ i = .int .i64 (d.len : Int) ∧ o = .bool (R && hs d) ∧ Below w.heap.size w w') (fun _ i _ => KL - (intOf i).toNat)
        case atStart => exact ⟨.nil, k, rfl, rfl, by simp [hs], HB1.out⟩
        case round =>
          obtain ⟨d, r, hk, rfl, rfl, hB⟩ := hrel
          cases r with
          | nil =>
            rw [F.app_nil] at hk
            subst hk
            have hKL := HKL.out
            rw [← hKL]
            clear hKL
            obtain ⟨V, hV⟩ : ∃ V, V = (R && hs k) := ⟨_, rfl⟩
            rw [← hV]
            have HV := hide hV
            clear hV
            go_wp2_with fail
            go_ret
            exact ⟨ret_bool HV.out, hB⟩
          | cons y ky r =>
            have hkl2 : KL = d.len + (r.len + 1) := by rw [HKL.out, hk, F.app_len]; rfl
            have hlt' : (d.len : Int) < (KL : Int) := by omega
            have hK := HT.out
            have hI := IH.out
            have hO := HKO.out
            rw [hk] at hK hI hO
            obtain ⟨g, cap, sy, he, hP, hg, hTy, p0, p1, p2⟩ := hK.kid
            simp only [Value.slice.injEq] at he
            obtain ⟨he1, -, he3⟩ := he
            have he2 := he1.symm
            (try simp only [Option.some.injEq, Addr.mk.injEq, and_true] at he2)
            subst he2 he3
            clear he1
            obtain ⟨gy, ly, oy, -⟩ := ((F.app_ok _ _).1 hO).2
            have q0 := (hB.cell (p := ⟨g, d.len * 3, none⟩) hg).trans p0
            have q1 := (hB.cell (p := ⟨g, d.len * 3 + 1, none⟩) hg).trans p1
            have q2 := (hB.cell (p := ⟨g, d.len * 3 + 2, none⟩) hg).trans p2
            have HC := hide (fun (w' : World) (hw' : Below w.heap.size w w') => F.all_at hI y sy P w' ly oy (hTy.below hw'))
            obtain ⟨yad, yc, rfl⟩ := hTy.form
            have HSn := hide (hk.trans (F.app_snoc d ky r y))
            have HDl : Hid ((d.app (.cons y ky .nil)).len = d.len + 1) := hide (by rw [F.app_len]; rfl)
            have HA1 : Hid ((R && hs (d.app (.cons y ky .nil))) = ((R && hs d) && (sloc y.k ky && hs ky))) := hide (by rw [hs_app]; simp [hs, Bool.and_assoc])
            clear p0 p1 p2 hTy hK hI hk gy ly oy hO
            obtain ⟨dl, hdl⟩ : ∃ dl, dl = d.len := ⟨_, rfl⟩
            obtain ⟨kn, hkn⟩ : ∃ kn, kn = ky.len := ⟨_, rfl⟩
            rw [← hdl] at hlt' q0 q1 q2 HDl hkl2 ⊢
            rw [← hkn] at HC q2
            have HKl2 := hide hkl2
            obtain ⟨V, hV⟩ : ∃ V, V = (sloc y.k ky && hs ky) := ⟨_, rfl⟩
            obtain ⟨Q, hQ⟩ : ∃ Q, Q = (R && hs d) := ⟨_, rfl⟩
            rw [← hV] at HC HA1
            rw [← hQ] at HA1 ⊢
            clear hdl hkn hkl2 hV hQ
            cases Q with
            | false =>
              rw [Bool.false_and] at HA1
              go_wp2_with fail
              have hkl2 := HKl2.out
              exact ⟨⟨d.app (.cons y ky .nil), r, HSn.out, by rw [HDl.out]; go_num, by rw [HA1.out], hB.alloc hB.size _⟩, by simp [intOf]; omega⟩
            | true =>
              rw [Bool.true_and] at HA1
              go_wp2_with fail
              refine Calls.mono (HC.out _ (hB.alloc hB.size _)) ?_
              rintro e w2 ⟨rfl, hb2⟩
              have hB2 : Below w.heap.size w w2 := (hB.alloc hB.size _).trans (hb2.mono (by have := hB.size; simp; omega))
              clear hb2 HC q0 q1 q2
              go_wp2_with fail
              have hkl2 := HKl2.out
              exact ⟨⟨d.app (.cons y ky .nil), r, HSn.out, by rw [HDl.out]; go_num, by rw [HA1.out], hB2⟩, by simp [intOf]; omega⟩
      · have h4b : (xk == 4) = false := by simp [h4]
        have h5b : (xk == 5) = false := by simp [h5]
        have h6b : (xk == 6) = false := by simp [h6]
        clear hT
        by_cases h7 : xk = 7
        · subst h7
          have hRv : R = false := by rw [HR.out]; rfl
          have HRv := hide hRv
          clear hRv
          have HB1 : Hid (Below w.heap.size w (w.alloc (.cells #[.int .i64 7, .int .i64 xn, .slice sad KL sc] 37))) := hide ((Below.refl _ _).alloc (Nat.le_refl _) _)
          go_enter Try.func26, Try.ntmps26
          go_wp2_with fail
          go_loopw [3, 41] (fun o i w' => ∃ d r : F, k = d.app r ∧ i = .int .i64 (d.len : Int) ∧ o = .bool (R && hs d) ∧ Below w.heap.size w w') (fun _ i _ => KL - (intOf i).toNat)
          case atStart => exact ⟨.nil, k, rfl, rfl, by rw [HRv.out]; simp [hs], HB1.out⟩
          case round =>
            obtain ⟨d, r, hk, rfl, rfl, hB⟩ := hrel
            cases r with
            | nil =>
              rw [F.app_nil] at hk
              subst hk
              have hKL := HKL.out
              rw [← hKL]
              clear hKL
              obtain ⟨V, hV⟩ : ∃ V, V = (R && hs k) := ⟨_, rfl⟩
              rw [← hV]
              have HV := hide hV
              clear hV
              go_wp2_with fail
              go_ret
              exact ⟨ret_bool HV.out, hB⟩
            | cons y ky r =>
              have hkl2 : KL = d.len + (r.len + 1) := by rw [HKL.out, hk, F.app_len]; rfl
              have hlt' : (d.len : Int) < (KL : Int) := by omega
              have hK := HT.out
              have hI := IH.out
              have hO := HKO.out
              rw [hk] at hK hI hO
              obtain ⟨g, cap, sy, he, hP, hg, hTy, p0, p1, p2⟩ := hK.kid
              simp only [Value.slice.injEq] at he
              obtain ⟨he1, -, he3⟩ := he
              have he2 := he1.symm
              (try simp only [Option.some.injEq, Addr.mk.injEq, and_true] at he2)
              subst he2 he3
              clear he1
              obtain ⟨gy, ly, oy, -⟩ := ((F.app_ok _ _).1 hO).2
              have q0 := (hB.cell (p := ⟨g, d.len * 3, none⟩) hg).trans p0
              have q1 := (hB.cell (p := ⟨g, d.len * 3 + 1, none⟩) hg).trans p1
              have q2 := (hB.cell (p := ⟨g, d.len * 3 + 2, none⟩) hg).trans p2
              have HC := hide (fun (w' : World) (hw' : Below w.heap.size w w') => F.all_at hI y sy P w' ly oy (hTy.below hw'))
              obtain ⟨yad, yc, rfl⟩ := hTy.form
              have HSn := hide (hk.trans (F.app_snoc d ky r y))
              have HDl : Hid ((d.app (.cons y ky .nil)).len = d.len + 1) := hide (by rw [F.app_len]; rfl)
              have HA1 : Hid ((R && hs (d.app (.cons y ky .nil))) = ((R && hs d) && (sloc y.k ky && hs ky))) := hide (by rw [hs_app]; simp [hs, Bool.and_assoc])
              clear p0 p1 p2 hTy hK hI hk gy ly oy hO
              obtain ⟨dl, hdl⟩ : ∃ dl, dl = d.len := ⟨_, rfl⟩
              obtain ⟨kn, hkn⟩ : ∃ kn, kn = ky.len := ⟨_, rfl⟩
              rw [← hdl] at hlt' q0 q1 q2 HDl hkl2 ⊢
              rw [← hkn] at HC q2
              have HKl2 := hide hkl2
              obtain ⟨V, hV⟩ : ∃ V, V = (sloc y.k ky && hs ky) := ⟨_, rfl⟩
              obtain ⟨Q, hQ⟩ : ∃ Q, Q = (R && hs d) := ⟨_, rfl⟩
              rw [← hV] at HC HA1
              rw [← hQ] at HA1 ⊢
              clear hdl hkn hkl2 hV hQ
              cases Q with
              | false =>
                rw [Bool.false_and] at HA1
                go_wp2_with fail
                have hkl2 := HKl2.out
                exact ⟨⟨d.app (.cons y ky .nil), r, HSn.out, by rw [HDl.out]; go_num, by rw [HA1.out], hB.alloc hB.size _⟩, by simp [intOf]; omega⟩
              | true =>
                rw [Bool.true_and] at HA1
                go_wp2_with fail
                refine Calls.mono (HC.out _ (hB.alloc hB.size _)) ?_
                rintro e w2 ⟨rfl, hb2⟩
                have hB2 : Below w.heap.size w w2 := (hB.alloc hB.size _).trans (hb2.mono (by have := hB.size; simp; omega))
                clear hb2 HC q0 q1 q2
                go_wp2_with fail
                have hkl2 := HKl2.out
                exact ⟨⟨d.app (.cons y ky .nil), r, HSn.out, by rw [HDl.out]; go_num, by rw [HA1.out], hB2⟩, by simp [intOf]; omega⟩
        · have h7b : (xk == 7) = false := by simp [h7]
          have hRv : R = true := by rw [HR.out]; unfold sloc; rw [if_neg h7, if_neg h6, if_neg h5, if_neg h4]
          have HRv := hide hRv
          clear hRv
          have HB1 : Hid (Below w.heap.size w (w.alloc (.cells #[.int .i64 xk, .int .i64 xn, .slice sad KL sc] 37))) := hide ((Below.refl _ _).alloc (Nat.le_refl _) _)
          go_enter Try.func26, Try.ntmps26
          go_wp2_with fail
          go_loopw [3, 41] (fun o i w' => ∃ d r : F, k = d.app r ∧ i = .int .i64 (d.len : Int) ∧ o = .bool (R && hs d) ∧ Below w.heap.size w w') (fun _ i _ => KL - (intOf i).toNat)
          case atStart => exact ⟨.nil, k, rfl, rfl, by rw [HRv.out]; simp [hs], HB1.out⟩
          case round =>
            obtain ⟨d, r, hk, rfl, rfl, hB⟩ := hrel
            cases r with
            | nil =>
              rw [F.app_nil] at hk
              subst hk
              have hKL := HKL.out
              rw [← hKL]
              clear hKL
              obtain ⟨V, hV⟩ : ∃ V, V = (R && hs k) := ⟨_, rfl⟩
              rw [← hV]
              have HV := hide hV
              clear hV
              go_wp2_with fail
              go_ret
              exact ⟨ret_bool HV.out, hB⟩
            | cons y ky r =>
              have hkl2 : KL = d.len + (r.len + 1) := by rw [HKL.out, hk, F.app_len]; rfl
              have hlt' : (d.len : Int) < (KL : Int) := by omega
              have hK := HT.out
              have hI := IH.out
              have hO := HKO.out
              rw [hk] at hK hI hO
              obtain ⟨g, cap, sy, he, hP, hg, hTy, p0, p1, p2⟩ := hK.kid
              simp only [Value.slice.injEq] at he
              obtain ⟨he1, -, he3⟩ := he
              have he2 := he1.symm
              (try simp only [Option.some.injEq, Addr.mk.injEq, and_true] at he2)
              subst he2 he3
              clear he1
              obtain ⟨gy, ly, oy, -⟩ := ((F.app_ok _ _).1 hO).2
              have q0 := (hB.cell (p := ⟨g, d.len * 3, none⟩) hg).trans p0
              have q1 := (hB.cell (p := ⟨g, d.len * 3 + 1, none⟩) hg).trans p1
              have q2 := (hB.cell (p := ⟨g, d.len * 3 + 2, none⟩) hg).trans p2
              have HC := hide (fun (w' : World) (hw' : Below w.heap.size w w') => F.all_at hI y sy P w' ly oy (hTy.below hw'))
              obtain ⟨yad, yc, rfl⟩ := hTy.form
              have HSn := hide (hk.trans (F.app_snoc d ky r y))
              have HDl : Hid ((d.app (.cons y ky .nil)).len = d.len + 1) := hide (by rw [F.app_len]; rfl)
              have HA1 : Hid ((R && hs (d.app (.cons y ky .nil))) = ((R && hs d) && (sloc y.k ky && hs ky))) := hide (by rw [hs_app]; simp [hs, Bool.and_assoc])
              clear p0 p1 p2 hTy hK hI hk gy ly oy hO
              obtain ⟨dl, hdl⟩ : ∃ dl, dl = d.len := ⟨_, rfl⟩
              obtain ⟨kn, hkn⟩ : ∃ kn, kn = ky.len := ⟨_, rfl⟩
              rw [← hdl] at hlt' q0 q1 q2 HDl hkl2 ⊢
              rw [← hkn] at HC q2
              have HKl2 := hide hkl2
              obtain ⟨V, hV⟩ : ∃ V, V = (sloc y.k ky && hs ky) := ⟨_, rfl⟩
              obtain ⟨Q, hQ⟩ : ∃ Q, Q = (R && hs d) := ⟨_, rfl⟩
              rw [← hV] at HC HA1
              rw [← hQ] at HA1 ⊢
              clear hdl hkn hkl2 hV hQ
              cases Q with
              | false =>
                rw [Bool.false_and] at HA1
                go_wp2_with fail
                have hkl2 := HKl2.out
                exact ⟨⟨d.app (.cons y ky .nil), r, HSn.out, by rw [HDl.out]; go_num, by rw [HA1.out], hB.alloc hB.size _⟩, by simp [intOf]; omega⟩
              | true =>
                rw [Bool.true_and] at HA1
                go_wp2_with fail
                refine Calls.mono (HC.out _ (hB.alloc hB.size _)) ?_
                rintro e w2 ⟨rfl, hb2⟩
                have hB2 : Below w.heap.size w w2 := (hB.alloc hB.size _).trans (hb2.mono (by have := hB.size; simp; omega))
                clear hb2 HC q0 q1 q2
                go_wp2_with fail
                have hkl2 := HKl2.out
                exact ⟨⟨d.app (.cons y ky .nil), r, HSn.out, by rw [HDl.out]; go_num, by rw [HA1.out], hB2⟩, by simp [intOf]; omega⟩

set_option maxHeartbeats 1000000 in
theorem specIsHanded_any (ad : Option Addr) (c : Nat) (l : List Cc) (w : World) (hl : l.length ≤ 1048576) (h : CRow w ad l) :
    Calls Try.prog 13 #[.slice ad l.length c] w fun e w' => e = .returned (.tuple #[.bool (hsT (treeT l)), .bool (goodT l)]) ∧ Below w.heap.size w w' := by
  unfold goodT
  have HC := hide (l3Tree_any ad c l w hl h)
  clear h
  obtain ⟨T, hT⟩ : ∃ T, T = treeT l := ⟨_, rfl⟩
  rw [← hT] at HC ⊢
  have HTt := hide hT
  clear hT
  go_enter Try.func13, Try.ntmps13
  go_wp2_with fail
  refine Calls.mono HC.out ?_
  rintro e w1 ⟨hb1, ho⟩
  clear HC
  cases T with
  | none =>
    obtain ⟨k, n, sad, sn, sc, rfl⟩ := ho
    go_wp2_with fail
    exact bodyPost_ret (v := .tuple #[.bool false, .bool false]) (by simp [results, Try.results13, go_sem]) rfl ⟨rfl, hb1.alloc hb1.size _⟩
  | some t =>
    obtain ⟨x, k, s, rfl, rfl, hT⟩ := ho
    obtain ⟨e1, ⟨gx, lx, ox, -⟩, -, e6, -⟩ := treeT_flat HTt.out.symm
    have HA := hide (fun w' (hb : Below w1.heap.size w1 w') => l7Is_any k x s _ w' lx ox (hT.below hb))
    have HV : Hid (hsT (some (.cons x k .nil)) = (sloc x.k k && hs k)) := hide (by simp [hsT, hs])
    obtain ⟨sad, sc, rfl⟩ := hT.form
    clear hT e1 gx lx ox e6 HTt
    obtain ⟨sn, hsn⟩ : ∃ sn, sn = k.len := ⟨_, rfl⟩
    rw [← hsn] at HA ⊢
    clear hsn
    obtain ⟨V, hV⟩ : ∃ V, V = (sloc x.k k && hs k) := ⟨_, rfl⟩
    rw [← hV] at HA HV
    clear hV
    go_wp2_with fail
    refine Calls.mono (HA.out _ ((Below.refl _ _).alloc (Nat.le_refl _) _)) ?_
    rintro e w2 ⟨rfl, hb2⟩
    go_wp2_with fail
    exact bodyPost_ret (v := .tuple #[.bool V, .bool true]) (by simp [results, Try.results13, go_sem]) rfl ⟨by rw [HV.out]; rfl, (hb1.alloc hb1.size _).trans (hb2.mono (by have := hb1.size; simp; omega))⟩
end Go.Proofs.Ytnmkbpflbfhpnaa.W
