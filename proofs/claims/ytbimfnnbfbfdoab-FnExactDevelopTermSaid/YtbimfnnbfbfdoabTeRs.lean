/-
  Redexes as the specification tells them: contracts of l4Is, l4Any, IsNormal. Conditions: good terms of at most 1048576 cells.
-/
import Derived.Test.YtbimfnnbfbfdoabTeR
import Derived.Deep.RegionHeld3
namespace Go.Proofs.Ytbimfnnbfbfdoab.W
open Go.ChangeShapes Go.WideShapes Go.ChangeAt Go.RowKit
set_option linter.unusedVariables false

theorem belowDrw {B : Nat} {x y : World} (h : Below B x y) : Below B x y.drew := ⟨h.os, h.tape, h.output, h.size, h.block⟩

/-- The first kid, as a walk wants it. -/
theorem KidT.first {w : World} {P : Nat → Prop} {k r : F} {x : Cc} {ad : Option Addr} {n c : Nat} (h : KidT w P (.cons x k r) (.slice ad n c)) : ∃ g, ad = some ⟨g, 0, none⟩ ∧ g < w.heap.size ∧ n = r.len + 1 ∧
    w.cell? ⟨g, 0, none⟩ = some (.int .i64 x.k) ∧ w.cell? ⟨g, 1, none⟩ = some (.int .i64 x.n) ∧ ∃ sx, w.cell? ⟨g, 2, none⟩ = some sx ∧ KidT w P k sx := by
  obtain ⟨g, cap, sx, he, hP, hg, hTy, p0, p1, p2⟩ := KidT.kid (a := .nil) h
  simp only [F.len, Nat.zero_mul, Nat.zero_add] at p0 p1 p2
  simp only [Value.slice.injEq] at he
  exact ⟨g, he.1, hg, he.2.1, p0, p1, sx, p2, hTy⟩
/-- The second kid, as a walk wants it. -/
theorem KidT.second {w : World} {P : Nat → Prop} {k r ky : F} {x y : Cc} {g n c : Nat} (h : KidT w P (.cons y ky (.cons x k r)) (.slice (some ⟨g, 0, none⟩) n c)) :
    w.cell? ⟨g, 3, none⟩ = some (.int .i64 x.k) ∧ w.cell? ⟨g, 4, none⟩ = some (.int .i64 x.n) ∧ ∃ sx, w.cell? ⟨g, 5, none⟩ = some sx ∧ KidT w P k sx := by
  obtain ⟨g', cap, sx, he, hP, hg, hTy, p0, p1, p2⟩ := KidT.kid (a := .cons y ky .nil) h
  simp only [Value.slice.injEq, Option.some.injEq, Addr.mk.injEq] at he
  obtain ⟨⟨rfl, -, -⟩, -, -⟩ := he
  simp only [F.len, Nat.zero_add, Nat.one_mul] at p0 p1 p2
  exact ⟨p0, p1, sx, p2, hTy⟩

set_option maxRecDepth 20000 in
set_option maxHeartbeats 2000000 in
theorem l4Is_any (x : Cc) (k : F) (s : Value) (P : Nat → Prop) (w : World) (hl : k.len = ar x.k) (ho : k.ok) (hT : KidT w P k s) :
    Calls Try.prog 50 #[.agg #[.int .i64 x.k, .int .i64 x.n, s]] w fun e w' => e = .returned (.bool (redx x k)) ∧ Below w.heap.size w w' := by
  obtain ⟨sad, sc, rfl⟩ := hT.form
  obtain ⟨xk, xn⟩ := x
  simp only at *
  by_cases h4 : xk = 4
  · subst h4
    obtain ⟨y, ky, r, rfl⟩ := len_pos (k := k) (by rw [hl]; decide)
    obtain ⟨g, rfl, hg, -, p0, p1, sy, p2, hTy⟩ := hT.first
    obtain ⟨yad, yc, rfl⟩ := hTy.form
    have hr : redx ⟨4, xn⟩ (.cons y ky r) = decide (y.k = 3) := rfl
    rw [hr]
    obtain ⟨KL, hKL⟩ : ∃ KL, KL = (F.cons y ky r).len := ⟨_, rfl⟩
    rw [← hKL]
    have hK0 : (0 : Int) < (KL : Int) := by rw [hKL]; simp [F.len]
    clear hKL hT hTy hl ho hr
    go_enter Try.func50, Try.ntmps50
    go_wp2_with fail
    go_ret
    exact ⟨ret_bool (by rw [Bool.eq_iff_iff]; simp), (Below.refl _ _).alloc (Nat.le_refl _) _⟩
  · by_cases h7 : xk = 7
    · subst h7
      have hr : redx ⟨7, xn⟩ k = true := rfl
      rw [hr]
      obtain ⟨KL, hKL⟩ : ∃ KL, KL = k.len := ⟨_, rfl⟩
      rw [← hKL]
      clear hKL hT hl ho hr h4
      go_enter Try.func50, Try.ntmps50
      go_wp2_with fail
      go_ret
      exact ⟨rfl, (Below.refl _ _).alloc (Nat.le_refl _) _⟩
    · by_cases h5 : xk = 5
      · subst h5
        obtain ⟨y, ky, r, rfl⟩ := len_pos (k := k) (by rw [hl]; decide)
        obtain ⟨z, kz, r2, rfl⟩ := len_pos (k := r) (by have : ar 5 = 2 := (by decide); simp [F.len] at hl; omega)
        obtain ⟨g, rfl, hg, -, p0, p1, sy, p2, hTy⟩ := hT.first
        obtain ⟨q0, q1, sz, q2, hTz⟩ := hT.second
        obtain ⟨yad, yc, rfl⟩ := hTy.form
        obtain ⟨zad, zc, rfl⟩ := hTz.form
        obtain ⟨gy, ly, oy, gz, lz, oz, -⟩ := ho
        have hr : redx ⟨5, xn⟩ (.cons y ky (.cons z kz r2)) = (decide (y.k = 2) && (decide (z.k = 2) && inB (y.n + z.n) (-1000000) 1000000)) := rfl
        rw [hr]
        have hyn := num_n gy
        have hzn := num_n gz
        have hKL : (F.cons y ky (.cons z kz r2)).len = 2 := hl
        rw [hKL]
        obtain ⟨yn, hyn2⟩ : ∃ yn, yn = ky.len := ⟨_, rfl⟩
        obtain ⟨zn, hzn2⟩ : ∃ zn, zn = kz.len := ⟨_, rfl⟩
        rw [← hyn2] at p2
        rw [← hzn2] at q2
        clear hyn2 hzn2
        clear hKL hT hTy hTz hl hr h4 h7 gy ly oy gz lz oz
        have HB3 : ∀ w3, w3 = w.alloc (.cells #[.int .i64 5, .int .i64 xn, .slice (some ⟨g, 0, none⟩) 2 sc] 40) → Below w.heap.size w w3.drew ∧ w3.cell? ⟨w.heap.size, 2, none⟩ = some (.slice (some ⟨g, 0, none⟩) 2 sc) ∧
            w3.cell? ⟨g, 0, none⟩ = some (.int .i64 y.k) ∧ w3.cell? ⟨g, 1, none⟩ = some (.int .i64 y.n) ∧ w3.cell? ⟨g, 3, none⟩ = some (.int .i64 z.k) ∧ w3.cell? ⟨g, 4, none⟩ = some (.int .i64 z.n) := by
          rintro w3 rfl
          have hB3 : Below w.heap.size w (w.alloc (.cells #[.int .i64 5, .int .i64 xn, .slice (some ⟨g, 0, none⟩) 2 sc] 40)) := (Below.refl _ _).alloc (Nat.le_refl _) _
          exact ⟨belowDrw hB3, by simp, (hB3.cell (p := ⟨g, 0, none⟩) hg).trans p0, (hB3.cell (p := ⟨g, 1, none⟩) hg).trans p1, (hB3.cell (p := ⟨g, 3, none⟩) hg).trans q0, (hB3.cell (p := ⟨g, 4, none⟩) hg).trans q1⟩
        have HB3' := hide HB3
        have hng : ¬ g = w.heap.size := by omega
        clear HB3 p0 p1 p2 q0 q1 q2
        by_cases hy : y.k = 2
        · have hyb := hyn hy
          rw [decide_eq_true hy]
          rw [hy] at HB3'
          by_cases hz : z.k = 2
          · have hzb := hzn hz
            rw [decide_eq_true hz]
            rw [hz] at HB3'
            have hw : IntKind.i64.wrap (y.n + z.n) = y.n + z.n := by rw [IntWalk.i64_in _ ⟨by omega, by omega⟩]
            clear hyn hzn hy hz
            go_enter Try.func50, Try.ntmps50
            go_wp2_with fail
            obtain ⟨w3, hw3⟩ : ∃ w3, w3 = w.alloc (.cells #[.int .i64 5, .int .i64 xn, .slice (some ⟨g, 0, none⟩) 2 sc] 40) := ⟨_, rfl⟩
            rw [← hw3]
            obtain ⟨hB3, e5, e0, e1, e3, e4⟩ := HB3'.out w3 hw3
            have HB4 := hide hB3
            clear hw3 HB3' hB3
            go_region_held3 (fun w' => w'.cell? ⟨w.heap.size, 2, none⟩ = some (.slice (some ⟨g, 0, none⟩) 2 sc) ∧ w'.cell? ⟨g, 0, none⟩ = some (.int .i64 2) ∧ w'.cell? ⟨g, 1, none⟩ = some (.int .i64 y.n) ∧ w'.cell? ⟨g, 3, none⟩ = some (.int .i64 2) ∧ w'.cell? ⟨g, 4, none⟩ = some (.int .i64 z.n)) (go_keep)
              (first
                | (go_at_call 39; refine Calls.mono (l1In_any _ _ _ _) ?_; rintro e w' ⟨rfl, rfl⟩))
            go_wp2_with fail
            go_ret
            exact ⟨rfl, HB4.out⟩
          · rw [decide_eq_false hz]
            have hzb : (z.k == 2) = false := by simp [hz]
            clear hyn hzn hy
            go_enter Try.func50, Try.ntmps50
            go_wp2_with fail
            obtain ⟨w3, hw3⟩ : ∃ w3, w3 = w.alloc (.cells #[.int .i64 5, .int .i64 xn, .slice (some ⟨g, 0, none⟩) 2 sc] 40) := ⟨_, rfl⟩
            rw [← hw3]
            obtain ⟨hB3, e5, e0, e1, e3, e4⟩ := HB3'.out w3 hw3
            have HB4 := hide hB3
            clear hw3 HB3' hB3
            go_quiet (fail)
            go_wp2_with fail
            go_ret
            exact ⟨rfl, ⟨HB4.out.os, HB4.out.tape, HB4.out.output, HB4.out.size, HB4.out.block⟩⟩
        · rw [decide_eq_false hy]
          have hyb : (y.k == 2) = false := by simp [hy]
          clear hyn hzn
          go_enter Try.func50, Try.ntmps50
          go_wp2_with fail
          obtain ⟨w3, hw3⟩ : ∃ w3, w3 = w.alloc (.cells #[.int .i64 5, .int .i64 xn, .slice (some ⟨g, 0, none⟩) 2 sc] 40) := ⟨_, rfl⟩
          rw [← hw3]
          obtain ⟨hB3, e5, e0, e1, e3, e4⟩ := HB3'.out w3 hw3
          have HB4 := hide hB3
          clear hw3 HB3' hB3
          go_quiet (fail)
          go_wp2_with fail
          go_ret
          exact ⟨rfl, ⟨HB4.out.os, HB4.out.tape, HB4.out.output, HB4.out.size, HB4.out.block⟩⟩
      · by_cases h6 : xk = 6
        · subst h6
          obtain ⟨y, ky, r, rfl⟩ := len_pos (k := k) (by rw [hl]; decide)
          obtain ⟨g, rfl, hg, -, p0, p1, sy, p2, hTy⟩ := hT.first
          obtain ⟨yad, yc, rfl⟩ := hTy.form
          have hr : redx ⟨6, xn⟩ (.cons y ky r) = decide (y.k = 2) := rfl
          rw [hr]
          obtain ⟨KL, hKL⟩ : ∃ KL, KL = (F.cons y ky r).len := ⟨_, rfl⟩
          rw [← hKL]
          have hK0 : (0 : Int) < (KL : Int) := by rw [hKL]; simp [F.len]
          clear hKL hT hTy hl ho hr h4 h5 h7
          go_enter Try.func50, Try.ntmps50
          go_wp2_with fail
          go_ret
          exact ⟨ret_bool (by rw [Bool.eq_iff_iff]; simp), (Below.refl _ _).alloc (Nat.le_refl _) _⟩
        · have hr : redx ⟨xk, xn⟩ k = false := by unfold redx; rw [if_neg h4, if_neg h7, if_neg h5, if_neg h6]
          rw [hr]
          obtain ⟨KL, hKL⟩ : ∃ KL, KL = k.len := ⟨_, rfl⟩
          rw [← hKL]
          clear hKL hT hl ho hr
          go_enter Try.func50, Try.ntmps50
          go_wp2_with fail
          go_ret
          exact ⟨rfl, (Below.refl _ _).alloc (Nat.le_refl _) _⟩

def L4AGoal (k : F) : Prop := ∀ (x : Cc) (s : Value) (P : Nat → Prop) (w : World), k.len = ar x.k → k.ok → k.flat.length ≤ 1048576 → KidT w P k s →
    Calls Try.prog 37 #[.agg #[.int .i64 x.k, .int .i64 x.n, s]] w fun e w' => e = .returned (.bool (redx x k || anyR k)) ∧ Below w.heap.size w w'

set_option maxRecDepth 20000 in
set_option maxHeartbeats 2000000 in
theorem l4Any_any : ∀ k, L4AGoal k := by
  apply F.rec_kids
  intro k ih x s P w hka hko hfl hT
  have IH := hide ih
  have HT := hide hT
  have HKO := hide hko
  have HIs := hide (fun w' (hb : Below w.heap.size w w') => l4Is_any x k s P w' hka hko (hT.below hb))
  obtain ⟨sad, sc, rfl⟩ := hT.form
  clear ih hT hko hka
  have hkl := F.len_flat k
  obtain ⟨KL, hKL⟩ : ∃ KL, KL = k.len := ⟨_, rfl⟩
  rw [← hKL] at HT hkl HIs ⊢
  have HKL := hide hKL
  clear hKL
  obtain ⟨RD, hRD⟩ : ∃ RD, RD = redx x k := ⟨_, rfl⟩
  rw [← hRD] at HIs ⊢
  clear hRD
  cases RD with
  | true =>
    go_enter Try.func37, Try.ntmps37
    go_wp2_with fail
    refine Calls.mono (HIs.out _ ((Below.refl _ _).alloc (Nat.le_refl _) _)) ?_
    rintro e w1 ⟨rfl, hb1⟩
    have hB1 : Below w.heap.size w w1 := ((Below.refl _ _).alloc (Nat.le_refl _) _).trans (hb1.mono (by simp))
    clear hb1
    go_wp2_with fail
    go_ret
    exact ⟨rfl, hB1⟩
  | false =>
    rw [Bool.false_or]
    go_enter Try.func37, Try.ntmps37
    go_wp2_with fail
    refine Calls.mono (HIs.out _ ((Below.refl _ _).alloc (Nat.le_refl _) _)) ?_
    rintro e w1 ⟨rfl, hb1⟩
    have hB1 : Below w.heap.size w w1 := ((Below.refl _ _).alloc (Nat.le_refl _) _).trans (hb1.mono (by simp))
    have z2 : w1.cell? ⟨w.heap.size, 2, none⟩ = some (.slice sad KL sc) := by rw [hb1.cell (by simp)]; simp
    clear hb1 HIs
    go_wp2_with fail
    go_loopw [10] (fun i w' => ∃ d r : F, k = d.app r ∧ i = .int .i64 (d.len : Int) ∧ anyR d = false ∧ Below w.heap.size w w') (fun i _ => KL - (intOf i).toNat)
    case atStart => exact ⟨.nil, k, rfl, rfl, rfl, hB1⟩
    case round =>
      obtain ⟨d, r, hk, rfl, had, hB⟩ := hrel
      have HAd := hide had
      clear had z2 hB1
      cases r with
      | nil =>
        rw [F.app_nil] at hk
        subst hk
        have hKL := HKL.out
        rw [← hKL]
        clear hKL
        go_wp2_with fail
        go_ret
        exact ⟨ret_bool HAd.out.symm, hB⟩
      | cons y ky r =>
        have hkl2 : KL = d.len + (r.len + 1) := by rw [HKL.out, hk, F.app_len]; rfl
        have hlt' : (d.len : Int) < (KL : Int) := by omega
        have hfk : k.flat.length = d.flat.length + (1 + ky.flat.length + r.flat.length) := by rw [hk, F.app_flat]; simp [F.flat]; omega
        have hK := HT.out
        have hI := IH.out
        have hO := HKO.out
        rw [hk] at hK hI hO
        obtain ⟨g, cap, sy, he, hP, hg, hTy, p0, p1, p2⟩ := hK.kid
        simp only [Value.slice.injEq] at he
        obtain ⟨rfl, -, rfl⟩ := he
        obtain ⟨gy, ly, oy, -⟩ := ((F.app_ok _ _).1 hO).2
        have q0 := (hB.cell (p := ⟨g, d.len * 3, none⟩) hg).trans p0
        have q1 := (hB.cell (p := ⟨g, d.len * 3 + 1, none⟩) hg).trans p1
        have q2 := (hB.cell (p := ⟨g, d.len * 3 + 2, none⟩) hg).trans p2
        have HC := hide (fun (w' : World) (hw' : Below w.heap.size w w') => F.all_at hI y sy P w' ly oy (by omega) (hTy.below hw'))
        obtain ⟨yad, yc, rfl⟩ := hTy.form
        have HSn := hide (hk.trans (F.app_snoc d ky r y))
        have HDl : Hid ((d.app (.cons y ky .nil)).len = d.len + 1) := hide (by rw [F.app_len]; rfl)
        have HAn : Hid (anyR k = ((redx y ky || anyR ky) || anyR r)) := hide (by rw [hk, anyR_app, HAd.out]; rfl)
        have HA1 : Hid (anyR (d.app (.cons y ky .nil)) = (redx y ky || anyR ky)) := hide (by rw [anyR_app, HAd.out]; simp [anyR])
        clear p0 p1 p2 hTy hK hI hk gy ly oy hO hfk
        obtain ⟨dl, hdl⟩ : ∃ dl, dl = d.len := ⟨_, rfl⟩
        obtain ⟨kn, hkn⟩ : ∃ kn, kn = ky.len := ⟨_, rfl⟩
        rw [← hdl] at hlt' q0 q1 q2 HDl hkl2 ⊢
        rw [← hkn] at HC q2
        have HKl2 := hide hkl2
        obtain ⟨V, hV⟩ : ∃ V, V = (redx y ky || anyR ky) := ⟨_, rfl⟩
        rw [← hV] at HC HAn HA1
        clear hdl hkn hkl2 hV
        go_wp2_with fail
        refine Calls.mono (HC.out _ (hB.alloc hB.size _)) ?_
        rintro e w2 ⟨rfl, hb2⟩
        have hB2 : Below w.heap.size w w2 := (hB.alloc hB.size _).trans (hb2.mono (by have := hB.size; simp; omega))
        clear hb2 HC q0 q1 q2
        cases V with
        | true =>
          go_wp2_with fail
          go_ret
          exact ⟨ret_bool (by rw [HAn.out]; rfl), hB2⟩
        | false =>
          go_wp2_with fail
          have hkl2 := HKl2.out
          exact ⟨⟨d.app (.cons y ky .nil), r, HSn.out, by rw [HDl.out]; go_num, HA1.out, hB2⟩, by simp [intOf]; omega⟩

/-- Whether what is read is normal. -/
def nrmT : Option F → Bool
  | some a => !anyR a
  | none => false

set_option maxHeartbeats 1000000 in
theorem specIsNormal_any (ad : Option Addr) (c : Nat) (l : List Cc) (w : World) (hl : l.length ≤ 1048576) (h : CRow w ad l) :
    Calls Try.prog 18 #[.slice ad l.length c] w fun e w' => e = .returned (.tuple #[.bool (nrmT (treeT l)), .bool (goodT l)]) ∧ Below w.heap.size w w' := by
  unfold goodT
  have HC := hide (l3Tree_any ad c l w hl h)
  clear h
  obtain ⟨T, hT⟩ : ∃ T, T = treeT l := ⟨_, rfl⟩
  rw [← hT] at HC ⊢
  have HTt := hide hT
  clear hT
  go_enter Try.func18, Try.ntmps18
  go_wp2_with fail
  refine Calls.mono HC.out ?_
  rintro e w1 ⟨hb1, ho⟩
  clear HC
  cases T with
  | none =>
    obtain ⟨k, n, sad, sn, sc, rfl⟩ := ho
    go_wp2_with fail
    exact bodyPost_ret (v := .tuple #[.bool false, .bool false]) (by simp [results, Try.results18, go_sem]) rfl ⟨rfl, hb1.alloc hb1.size _⟩
  | some t =>
    obtain ⟨x, k, s, rfl, rfl, hT⟩ := ho
    obtain ⟨e1, ⟨gx, lx, ox, -⟩, -, e6, -⟩ := treeT_flat HTt.out.symm
    have hkf : k.flat.length ≤ 1048576 := by rw [e1] at e6; simp [F.flat] at e6; omega
    have HA := hide (fun w' (hb : Below w1.heap.size w1 w') => l4Any_any k x s _ w' lx ox hkf (hT.below hb))
    obtain ⟨sad, sc, rfl⟩ := hT.form
    have HN : Hid (nrmT (some (.cons x k .nil)) = !(redx x k || anyR k)) := hide (by simp [nrmT, anyR])
    clear hT e1 gx lx ox e6 hkf HTt
    obtain ⟨sn, hsn⟩ : ∃ sn, sn = k.len := ⟨_, rfl⟩
    obtain ⟨V, hV⟩ : ∃ V, V = (redx x k || anyR k) := ⟨_, rfl⟩
    rw [← hsn] at HA ⊢
    rw [← hV] at HA HN
    clear hsn hV
    go_wp2_with fail
    refine Calls.mono (HA.out _ ((Below.refl _ _).alloc (Nat.le_refl _) _)) ?_
    rintro e w2 ⟨rfl, hb2⟩
    have hB2 : Below w.heap.size w w2 := (hb1.alloc hb1.size _).trans (hb2.mono (by have := hb1.size; simp; omega))
    clear HA hb2
    go_wp2_with fail
    exact bodyPost_ret (v := .tuple #[.bool (!V), .bool true]) (by simp [results, Try.results18, go_sem]) rfl ⟨by rw [HN.out]; rfl, hB2⟩
end Go.Proofs.Ytbimfnnbfbfdoab.W
