/-
  Redexes as the specification tells them: contracts of l4Is, l4Any, IsNormal. Conditions: good terms of at most 1048576 cells.
-/
import Derived.Test.YtbimfnnbfbfdoaaTeR
import Derived.Deep.RegionHeld3
namespace Go.Proofs.Ytbimfnnbfbfdoaa.W
open Go.ChangeShapes Go.WideShapes Go.ChangeAt Go.RowKit
set_option linter.unusedVariables false

theorem belowDrw {B : Nat} {x y : World} (h : Below B x y) : Below B x y.drew := ⟨h.os, h.tape, h.output, h.size, h.block⟩

/-- The first kid, as a walk wants it. -/
theorem KidT.first {w : World} {P : Nat → Prop} {k r : F} {x : Cc} {ad : Option Addr} {n c : Nat} (h : KidT w P (.cons x k r) (.slice ad n c)) : ∃ g, ad = some ⟨g, 0, none⟩ ∧ g < w.heap.size ∧ n = r.len + 1 ∧
    w.cell? ⟨g, 0, none⟩ = some (.int .i64 x.k) ∧ w.cell? ⟨g, 1, none⟩ = some (.int .i64 x.n) ∧ ∃ sx, w.cell? ⟨g, 2, none⟩ = some sx ∧ KidT w P k sx := by
  obtain ⟨g, cap, sx, he, hP, hg, hTy, p0, p1, p2⟩ := KidT.kid (a := .nil) h
  simp only [F.len, Nat.zero_mul, Nat.zero_add] at p0 p1 p2
  simp only [Value.slice.injEq] at he
  exact ⟨g, he.1, hg, he.2.1, p0, p1, sx, p2, hTy⟩
/-- The second kid, as a walk wants it. -/
theorem KidT.second {w : World} {P : Nat → Prop} {k r ky : F} {x y : Cc} {g n c : Nat} (h : KidT w P (.cons y ky (.cons x k r)) (.slice (some ⟨g, 0, none⟩) n c)) :
    w.cell? ⟨g, 3, none⟩ = some (.int .i64 x.k) ∧ w.cell? ⟨g, 4, none⟩ = some (.int .i64 x.n) ∧ ∃ sx, w.cell? ⟨g, 5, none⟩ = some sx ∧ KidT w P k sx := by
  obtain ⟨g', cap, sx, he, hP, hg, hTy, p0, p1, p2⟩ := KidT.kid (a := .cons y ky .nil) h
  simp only [Value.slice.injEq, Option.some.injEq, Addr.mk.injEq] at he
  obtain ⟨⟨rfl, -, -⟩, -, -⟩ := he
  simp only [F.len, Nat.zero_add, Nat.one_mul] at p0 p1 p2
  exact ⟨p0, p1, sx, p2, hTy⟩

set_option maxRecDepth 20000 in
set_option maxHeartbeats 2000000 in
theorem l4Is_any (x : Cc) (k : F) (s : Value) (P : Nat → Prop) (w : World) (hl : k.len = ar x.k) (ho : k.ok) (hT : KidT w P k s) :
    Calls Try.prog 80 #[.agg #[.int .i64 x.k, .int .i64 x.n, s]] w fun e w' => e = .returned (.bool (redx x k)) ∧ Below w.heap.size w w' := by
  obtain ⟨sad, sc, rfl⟩ := hT.form
  obtain ⟨xk, xn⟩ := x
  simp only at *
  by_cases h4 : xk = 4
  · subst h4
    obtain ⟨y, ky, r, rfl⟩ := len_pos (k := k) (by rw [hl]; decide)
    obtain ⟨g, rfl, hg, -, p0, p1, sy, p2, hTy⟩ := hT.first
    obtain ⟨yad, yc, rfl⟩ := hTy.form
    have hr : redx ⟨4, xn⟩ (.cons y ky r) = decide (y.k = 3) := rfl
    rw [hr]
    obtain ⟨KL, hKL⟩ : ∃ KL, KL = (F.cons y ky r).len := ⟨_, rfl⟩
    rw [← hKL]
    have hK0 : (0 : Int) < (KL : Int) := by rw [hKL]; simp [F.len]
    clear hKL hT hTy hl ho hr
    go_enter Try.func80, Try.ntmps80
    go_wp2_with fail
    go_ret
    exact ⟨ret_bool (by rw [Bool.eq_iff_iff]; simp), (Below.refl _ _).alloc (Nat.le_refl _) _⟩
  · by_cases h7 : xk = 7
    · subst h7
      have hr : redx ⟨7, xn⟩ k = true := rfl
      rw [hr]
      obtain ⟨KL, hKL⟩ : ∃ KL, KL = k.len := ⟨_, rfl⟩
      rw [← hKL]
      clear hKL hT hl ho hr h4
      go_enter Try.func80, Try.ntmps80
      go_wp2_with fail
      go_ret
      exact ⟨rfl, (Below.refl _ _).alloc (Nat.le_refl _) _⟩
    · by_cases h5 : xk = 5
      · subst h5
        obtain ⟨y, ky, r, rfl⟩ := len_pos (k := k) (by rw [hl]; decide)
        obtain ⟨z, kz, r2, rfl⟩ := len_pos (k := r) (by have : ar 5 = 2 := (by decide); simp [F.len] at hl; omega)
        obtain ⟨g, rfl, hg, -, p0, p1, sy, p2, hTy⟩ := hT.first
        obtain ⟨q0, q1, sz, q2, hTz⟩ := hT.second
        obtain ⟨yad, yc, rfl⟩ := hTy.form
        obtain ⟨zad, zc, rfl⟩ := hTz.form
        obtain ⟨gy, ly, oy, gz, lz, oz, -⟩ := ho
        have hr : redx ⟨5, xn⟩ (.cons y ky (.cons z kz r2)) = (decide (y.k = 2) && (decide (z.k = 2) && inB (y.n + z.n) (-1000000) 1000000)) := rfl
        rw [hr]
        have hyn := num_n gy
        have hzn := num_n gz
        have hKL : (F.cons y ky (.cons z kz r2)).len = 2 := hl
        rw [hKL]
        obtain ⟨yn, hyn2⟩ : ∃ yn, yn = ky.len := ⟨_, rfl⟩
        obtain ⟨zn, hzn2⟩ : ∃ zn, zn = kz.len := ⟨_, rfl⟩
        rw [← hyn2] at p2
        rw [← hzn2] at q2
        clear hyn2 hzn2
        clear hKL hT hTy hTz hl hr h4 h7 gy ly oy gz lz oz
        have HB3 : ∀ w3, w3 = w.alloc (.cells #[.int .i64 5, .int .i64 xn, .slice (some ⟨g, 0, none⟩) 2 sc] 63) → Below w.heap.size w w3.drew ∧ w3.cell? ⟨w.heap.size, 2, none⟩ = some (.slice (some ⟨g, 0, none⟩) 2 sc) ∧
            w3.cell? ⟨g, 0, none⟩ = some (.int .i64 y.k) ∧ w3.cell? ⟨g, 1, none⟩ = some (.int .i64 y.n) ∧ w3.cell? ⟨g, 3, none⟩ = some (.int .i64 z.k) ∧ w3.cell? ⟨g, 4, none⟩ = some (.int .i64 z.n) := by
          rintro w3 rfl
          have hB3 : Below w.heap.size w (w.alloc (.cells #[.int .i64 5, .int .i64 xn, .slice (some ⟨g, 0, none⟩) 2 sc] 63)) := (Below.refl _ _).alloc (Nat.le_refl _) _
          exact ⟨belowDrw hB3, by simp, (hB3.cell (p := ⟨g, 0, none⟩) hg).trans p0, (hB3.cell (p := ⟨g, 1, none⟩) hg).trans p1, (hB3.cell (p := ⟨g, 3, none⟩) hg).trans q0, (hB3.cell (p := ⟨g, 4, none⟩) hg).trans q1⟩
        have HB3' := hide HB3
        have hng : ¬ g = w.heap.size := by omega
        clear HB3 p0 p1 p2 q0 q1 q2
        by_cases hy : y.k = 2
        · have hyb := hyn hy
          rw [decide_eq_true hy]
          rw [hy] at HB3'
          by_cases hz : z.k = 2
          · have hzb := hzn hz
            rw [decide_eq_true hz]
            rw [hz] at HB3'
            have hw : IntKind.i64.wrap (y.n + z.n) = y.n + z.n := by rw [IntWalk.i64_in _ ⟨by omega, by omega⟩]
            clear hyn hzn hy hz
            go_enter Try.func80, Try.ntmps80
            go_wp2_with fail
            obtain ⟨w3, hw3⟩ : ∃ w3, w3 = w.alloc (.cells #[.int .i64 5, .int .i64 xn, .slice (some ⟨g, 0, none⟩) 2 sc] 63) := ⟨_, rfl⟩
            rw [← hw3]
            obtain ⟨hB3, e5, e0, e1, e3, e4⟩ := HB3'.out w3 hw3
            have HB4 := hide hB3
            clear hw3 HB3' hB3
            go_region_held3 (fun w' => w'.cell? ⟨w.heap.size, 2, none⟩ = some (.slice (some ⟨g, 0, none⟩) 2 sc) ∧ w'.cell? ⟨g, 0, none⟩ = some (.int .i64 2) ∧ w'.cell? ⟨g, 1, none⟩ = some (.int .i64 y.n) ∧ w'.cell? ⟨g, 3, none⟩ = some (.int .i64 2) ∧ w'.cell? ⟨g, 4, none⟩ = some (.int .i64 z.n)) (go_keep)
              (first
                | (go_at_call 37; refine Calls.mono (l1In_any _ _ _ _) ?_; rintro e w' ⟨rfl, rfl⟩))
            go_wp2_with fail
            go_ret
            exact ⟨rfl, HB4.out⟩
          · rw [decide_eq_false hz]
            have hzb : (z.k == 2) = false := by simp [hz]
            clear hyn hzn hy
            go_enter Try.func80, Try.ntmps80
            go_wp2_with fail
            obtain ⟨w3, hw3⟩ : ∃ w3, w3 = w.alloc (.cells #[.int .i64 5, .int .i64 xn, .slice (some ⟨g, 0, none⟩) 2 sc] 63) := ⟨_, rfl⟩
            rw [← hw3]
            obtain ⟨hB3, e5, e0, e1, e3, e4⟩ := HB3'.out w3 hw3
            have HB4 := hide hB3
            clear hw3 HB3' hB3
            go_quiet (fail)
            go_wp2_with fail
            go_ret
            exact ⟨rfl, ⟨HB4.out.os, HB4.out.tape, HB4.out.output, HB4.out.size, HB4.out.block⟩⟩
        · rw [decide_eq_false hy]
          have hyb : (y.k == 2) = false := by simp [hy]
          clear hyn hzn
          go_enter Try.func80, Try.ntmps80
          go_wp2_with fail
          obtain ⟨w3, hw3⟩ : ∃ w3, w3 = w.alloc (.cells #[.int .i64 5, .int .i64 xn, .slice (some ⟨g, 0, none⟩) 2 sc] 63) := ⟨_, rfl⟩
          rw [← hw3]
          obtain ⟨hB3, e5, e0, e1, e3, e4⟩ := HB3'.out w3 hw3
          have HB4 := hide hB3
          clear hw3 HB3' hB3
          go_quiet (fail)
          go_wp2_with fail
          go_ret
          exact ⟨rfl, ⟨HB4.out.os, HB4.out.tape, HB4.out.output, HB4.out.size, HB4.out.block⟩⟩
      · by_cases h6 : xk = 6
        · subst h6
          obtain ⟨y, ky, r, rfl⟩ := len_pos (k := k) (by rw [hl]; decide)
          obtain ⟨g, rfl, hg, -, p0, p1, sy, p2, hTy⟩ := hT.first
          obtain ⟨yad, yc, rfl⟩ := hTy.form
          have hr : redx ⟨6, xn⟩ (.cons y ky r) = decide (y.k = 2) := rfl
          rw [hr]
          obtain ⟨KL, hKL⟩ : ∃ KL, KL = (F.cons y ky r).len := ⟨_, rfl⟩
          rw [← hKL]
          have hK0 : (0 : Int) < (KL : Int) := by rw [hKL]; simp [F.len]
          clear hKL hT hTy hl ho hr h4 h5 h7
          go_enter Try.func80, Try.ntmps80
          go_wp2_with fail
          go_ret
          exact ⟨ret_bool (by rw [Bool.eq_iff_iff]; simp), (Below.refl _ _).alloc (Nat.le_refl _) _⟩
        · have hr : redx ⟨xk, xn⟩ k = false := by unfold redx; rw [if_neg h4, if_neg h7, if_neg h5, if_neg h6]
          rw [hr]
          obtain ⟨KL, hKL⟩ : ∃ KL, KL = k.len := ⟨_, rfl⟩
          rw [← hKL]
          clear hKL hT hl ho hr
          go_enter Try.func80, Try.ntmps80
          go_wp2_with fail
          go_ret
          exact ⟨rfl, (Below.refl _ _).alloc (Nat.le_refl _) _⟩

/-- Whether what is read is normal. -/
def nrmT : Option F → Bool
  | some a => !anyR a
  | none => false
end Go.Proofs.Ytbimfnnbfbfdoaa.W
