/-
  Some texts of this proof in one: TeRs, TeRi.
-/
import Derived.Test.YtjmgnljjeogdlaaJk
import Derived.Deep.RegionHeld3
/-
  Redexes as the specification tells them: contracts of l4Is, l4Any, IsNormal. Conditions: good terms of at most 1048576 cells.
-/
namespace Go.Proofs.Ytjmgnljjeogdlaa.W
open Go.ChangeShapes Go.WideShapes Go.ChangeAt Go.RowKit
set_option linter.unusedVariables false

theorem belowDrw {B : Nat} {x y : World} (h : Below B x y) : Below B x y.drew := ⟨h.os, h.tape, h.output, h.size, h.block⟩

/-- The first kid, as a walk wants it. -/
theorem KidT.first {w : World} {P : Nat → Prop} {k r : F} {x : Cc} {ad : Option Addr} {n c : Nat} (h : KidT w P (.cons x k r) (.slice ad n c)) : ∃ g, ad = some ⟨g, 0, none⟩ ∧ g < w.heap.size ∧ n = r.len + 1 ∧
    w.cell? ⟨g, 0, none⟩ = some (.int .i64 x.k) ∧ w.cell? ⟨g, 1, none⟩ = some (.int .i64 x.n) ∧ ∃ sx, w.cell? ⟨g, 2, none⟩ = some sx ∧ KidT w P k sx := by
  obtain ⟨g, cap, sx, he, hP, hg, hTy, p0, p1, p2⟩ := KidT.kid (a := .nil) h
  simp only [F.len, Nat.zero_mul, Nat.zero_add] at p0 p1 p2
  simp only [Value.slice.injEq] at he
  exact ⟨g, he.1, hg, he.2.1, p0, p1, sx, p2, hTy⟩
/-- The second kid, as a walk wants it. -/
theorem KidT.second {w : World} {P : Nat → Prop} {k r ky : F} {x y : Cc} {g n c : Nat} (h : KidT w P (.cons y ky (.cons x k r)) (.slice (some ⟨g, 0, none⟩) n c)) :
    w.cell? ⟨g, 3, none⟩ = some (.int .i64 x.k) ∧ w.cell? ⟨g, 4, none⟩ = some (.int .i64 x.n) ∧ ∃ sx, w.cell? ⟨g, 5, none⟩ = some sx ∧ KidT w P k sx := by
  obtain ⟨g', cap, sx, he, hP, hg, hTy, p0, p1, p2⟩ := KidT.kid (a := .cons y ky .nil) h
  simp only [Value.slice.injEq, Option.some.injEq, Addr.mk.injEq] at he
  obtain ⟨⟨rfl, -, -⟩, -, -⟩ := he
  simp only [F.len, Nat.zero_add, Nat.one_mul] at p0 p1 p2
  exact ⟨p0, p1, sx, p2, hTy⟩

set_option maxRecDepth 20000 in
set_option maxHeartbeats 2000000 in
theorem l4Is_any (x : Cc) (k : F) (s : Value) (P : Nat → Prop) (w : World) (hl : k.len = ar x.k) (ho : k.ok) (hT : KidT w P k s) :
    Calls Try.prog 68 #[.agg #[.int .i64 x.k, .int .i64 x.n, s]] w fun e w' => e = .returned (.bool (redx x k)) ∧ Below w.heap.size w w' := by
  obtain ⟨sad, sc, rfl⟩ := hT.form
  obtain ⟨xk, xn⟩ := x
  simp only at *
  by_cases h4 : xk = 4
  · subst h4
    obtain ⟨y, ky, r, rfl⟩ := len_pos (k := k) (by rw [hl]; decide)
    obtain ⟨g, rfl, hg, -, p0, p1, sy, p2, hTy⟩ := hT.first
    obtain ⟨yad, yc, rfl⟩ := hTy.form
    have hr : redx ⟨4, xn⟩ (.cons y ky r) = decide (y.k = 3) := rfl
    rw [hr]
    obtain ⟨KL, hKL⟩ : ∃ KL, KL = (F.cons y ky r).len := ⟨_, rfl⟩
    rw [← hKL]
    have hK0 : (0 : Int) < (KL : Int) := by rw [hKL]; simp [F.len]
    clear hKL hT hTy hl ho hr
    go_enter Try.func68, Try.ntmps68
    go_wp2_with fail
    go_ret
    exact ⟨ret_bool (by rw [Bool.eq_iff_iff]; simp), (Below.refl _ _).alloc (Nat.le_refl _) _⟩
  · by_cases h7 : xk = 7
    · subst h7
      have hr : redx ⟨7, xn⟩ k = true := rfl
      rw [hr]
      obtain ⟨KL, hKL⟩ : ∃ KL, KL = k.len := ⟨_, rfl⟩
      rw [← hKL]
      clear hKL hT hl ho hr h4
      go_enter Try.func68, Try.ntmps68
      go_wp2_with fail
      go_ret
      exact ⟨rfl, (Below.refl _ _).alloc (Nat.le_refl _) _⟩
    · by_cases h5 : xk = 5
      · subst h5
        obtain ⟨y, ky, r, rfl⟩ := len_pos (k := k) (by rw [hl]; decide)
        obtain ⟨z, kz, r2, rfl⟩ := len_pos (k := r) (by have : ar 5 = 2 := (by decide); simp [F.len] at hl; omega)
        obtain ⟨g, rfl, hg, -, p0, p1, sy, p2, hTy⟩ := hT.first
        obtain ⟨q0, q1, sz, q2, hTz⟩ := hT.second
        obtain ⟨yad, yc, rfl⟩ := hTy.form
        obtain ⟨zad, zc, rfl⟩ := hTz.form
        obtain ⟨gy, ly, oy, gz, lz, oz, -⟩ := ho
        have hr : redx ⟨5, xn⟩ (.cons y ky (.cons z kz r2)) = (decide (y.k = 2) && (decide (z.k = 2) && inB (y.n + z.n) (-1000000) 1000000)) := rfl
        rw [hr]
        have hyn := num_n gy
        have hzn := num_n gz
        have hKL : (F.cons y ky (.cons z kz r2)).len = 2 := hl
        rw [hKL]
        obtain ⟨yn, hyn2⟩ : ∃ yn, yn = ky.len := ⟨_, rfl⟩
        obtain ⟨zn, hzn2⟩ : ∃ zn, zn = kz.len := ⟨_, rfl⟩
        rw [← hyn2] at p2
        rw [← hzn2] at q2
        clear hyn2 hzn2
        clear hKL hT hTy hTz hl hr h4 h7 gy ly oy gz lz oz
        have HB3 : ∀ w3, w3 = w.alloc (.cells #[.int .i64 5, .int .i64 xn, .slice (some ⟨g, 0, none⟩) 2 sc] 55) → Below w.heap.size w w3.drew ∧ w3.cell? ⟨w.heap.size, 2, none⟩ = some (.slice (some ⟨g, 0, none⟩) 2 sc) ∧
            w3.cell? ⟨g, 0, none⟩ = some (.int .i64 y.k) ∧ w3.cell? ⟨g, 1, none⟩ = some (.int .i64 y.n) ∧ w3.cell? ⟨g, 3, none⟩ = some (.int .i64 z.k) ∧ w3.cell? ⟨g, 4, none⟩ = some (.int .i64 z.n) := by
          rintro w3 rfl
          have hB3 : Below w.heap.size w (w.alloc (.cells #[.int .i64 5, .int .i64 xn, .slice (some ⟨g, 0, none⟩) 2 sc] 55)) := (Below.refl _ _).alloc (Nat.le_refl _) _
          exact ⟨belowDrw hB3, by simp, (hB3.cell (p := ⟨g, 0, none⟩) hg).trans p0, (hB3.cell (p := ⟨g, 1, none⟩) hg).trans p1, (hB3.cell (p := ⟨g, 3, none⟩) hg).trans q0, (hB3.cell (p := ⟨g, 4, none⟩) hg).trans q1⟩
        have HB3' := hide HB3
        have hng : ¬ g = w.heap.size := by omega
        clear HB3 p0 p1 p2 q0 q1 q2
        by_cases hy : y.k = 2
        · have hyb := hyn hy
          rw [decide_eq_true hy]
          rw [hy] at HB3'
          by_cases hz : z.k = 2
          · have hzb := hzn hz
            rw [decide_eq_true hz]
            rw [hz] at HB3'
            have hw : IntKind.i64.wrap (y.n + z.n) = y.n + z.n := by rw [IntWalk.i64_in _ ⟨by omega, by omega⟩]
            clear hyn hzn hy hz
            go_enter Try.func68, Try.ntmps68
            go_wp2_with fail
            obtain ⟨w3, hw3⟩ : ∃ w3, w3 = w.alloc (.cells #[.int .i64 5, .int .i64 xn, .slice (some ⟨g, 0, none⟩) 2 sc] 55) := ⟨_, rfl⟩
            rw [← hw3]
            obtain ⟨hB3, e5, e0, e1, e3, e4⟩ := HB3'.out w3 hw3
            have HB4 := hide hB3
            clear hw3 HB3' hB3
            go_region_held3 (fun w' => w'.cell? ⟨w.heap.size, 2, none⟩ = some (.slice (some ⟨g, 0, none⟩) 2 sc) ∧ w'.cell? ⟨g, 0, none⟩ = some (.int .i64 2) ∧ w'.cell? ⟨g, 1, none⟩ = some (.int .i64 y.n) ∧ w'.cell? ⟨g, 3, none⟩ = some (.int .i64 2) ∧ w'.cell? ⟨g, 4, none⟩ = some (.int .i64 z.n)) (go_keep)
              (first
                | (go_at_call 27; refine Calls.mono (l1In_any _ _ _ _) ?_; rintro e w' ⟨rfl, rfl⟩))
            go_wp2_with fail
            go_ret
            exact ⟨rfl, HB4.out⟩
          · rw [decide_eq_false hz]
            have hzb : (z.k == 2) = false := by simp [hz]
            clear hyn hzn hy
            go_enter Try.func68, Try.ntmps68
            go_wp2_with fail
            obtain ⟨w3, hw3⟩ : ∃ w3, w3 = w.alloc (.cells #[.int .i64 5, .int .i64 xn, .slice (some ⟨g, 0, none⟩) 2 sc] 55) := ⟨_, rfl⟩
            rw [← hw3]
            obtain ⟨hB3, e5, e0, e1, e3, e4⟩ := HB3'.out w3 hw3
            have HB4 := hide hB3
            clear hw3 HB3' hB3
            go_quiet (fail)
            go_wp2_with fail
            go_ret
            exact ⟨rfl, ⟨HB4.out.os, HB4.out.tape, HB4.out.output, HB4.out.size, HB4.out.block⟩⟩
        · rw [decide_eq_false hy]
          have hyb : (y.k == 2) = false := by simp [hy]
          clear hyn hzn
          go_enter Try.func68, Try.ntmps68
          go_wp2_with fail
          obtain ⟨w3, hw3⟩ : ∃ w3, w3 = w.alloc (.cells #[.int .i64 5, .int .i64 xn, .slice (some ⟨g, 0, none⟩) 2 sc] 55) := ⟨_, rfl⟩
          rw [← hw3]
          obtain ⟨hB3, e5, e0, e1, e3, e4⟩ := HB3'.out w3 hw3
          have HB4 := hide hB3
          clear hw3 HB3' hB3
          go_quiet (fail)
          go_wp2_with fail
          go_ret
          exact ⟨rfl, ⟨HB4.out.os, HB4.out.tape, HB4.out.output, HB4.out.size, HB4.out.block⟩⟩
      · by_cases h6 : xk = 6
        · subst h6
          obtain ⟨y, ky, r, rfl⟩ := len_pos (k := k) (by rw [hl]; decide)
          obtain ⟨g, rfl, hg, -, p0, p1, sy, p2, hTy⟩ := hT.first
          obtain ⟨yad, yc, rfl⟩ := hTy.form
          have hr : redx ⟨6, xn⟩ (.cons y ky r) = decide (y.k = 2) := rfl
          rw [hr]
          obtain ⟨KL, hKL⟩ : ∃ KL, KL = (F.cons y ky r).len := ⟨_, rfl⟩
          rw [← hKL]
          have hK0 : (0 : Int) < (KL : Int) := by rw [hKL]; simp [F.len]
          clear hKL hT hTy hl ho hr h4 h5 h7
          go_enter Try.func68, Try.ntmps68
          go_wp2_with fail
          go_ret
          exact ⟨ret_bool (by rw [Bool.eq_iff_iff]; simp), (Below.refl _ _).alloc (Nat.le_refl _) _⟩
        · have hr : redx ⟨xk, xn⟩ k = false := by unfold redx; rw [if_neg h4, if_neg h7, if_neg h5, if_neg h6]
          rw [hr]
          obtain ⟨KL, hKL⟩ : ∃ KL, KL = k.len := ⟨_, rfl⟩
          rw [← hKL]
          clear hKL hT hl ho hr
          go_enter Try.func68, Try.ntmps68
          go_wp2_with fail
          go_ret
          exact ⟨rfl, (Below.refl _ _).alloc (Nat.le_refl _) _⟩

/-- Whether what is read is normal. -/
def nrmT : Option F → Bool
  | some a => !anyR a
  | none => false
end Go.Proofs.Ytjmgnljjeogdlaa.W

/-
  Redexes as the program finds them: contracts of sumCell, isRedex. Conditions: rows that open with a good term, of at most 1048576 cells.
-/
namespace Go.Proofs.Ytjmgnljjeogdlaa.W
open Go.ChangeShapes Go.WideShapes Go.ChangeAt Go.RowKit
set_option linter.unusedVariables false

set_option maxRecDepth 20000 in
set_option maxHeartbeats 1000000 in
theorem sumCell_any (b o c n : Nat) (y z : Int) (w : World) (hn : 2 < n) (hb : b < w.heap.size) (q1 : w.cell? ⟨b, o + 3, none⟩ = some (.int .i64 y)) (q2 : w.cell? ⟨b, o + 5, none⟩ = some (.int .i64 z)) (hy : -1000000 ≤ y ∧ y ≤ 1000000) (hz : -1000000 ≤ z ∧ z ≤ 1000000) :
    Calls Try.prog 82 #[.slice (some ⟨b, o, none⟩) n c] w fun e w' => e = .returned (.agg #[.int .i64 2, .int .i64 (y + z)]) ∧ Below w.heap.size w w' := by
  have hn1 : (1 : Int) < (n : Int) := by omega
  have hn2 : (2 : Int) < (n : Int) := by omega
  have hw : IntKind.i64.wrap (y + z) = y + z := by rw [IntWalk.i64_in _ ⟨by omega, by omega⟩]
  clear hn
  go_enter Try.func82, Try.ntmps82
  go_wp2_with fail
  obtain ⟨w3, hw3⟩ : ∃ w3, w3 = w.alloc (.cells #[.int .i64 0, .int .i64 0] 62) := ⟨_, rfl⟩
  rw [← hw3]
  have hB3 : Below w.heap.size w w3 := by rw [hw3]; exact (Below.refl _ _).alloc (Nat.le_refl _) _
  have hh3 : w3.heap[w.heap.size]? = some (.cells #[.int .i64 0, .int .i64 0] 62) := by rw [hw3]; exact heap_alloc_new _ _
  have e1 := (hB3.cell (p := ⟨b, o + 3, none⟩) hb).trans q1
  have e2 := (hB3.cell (p := ⟨b, o + 5, none⟩) hb).trans q2
  have z0 := cell_of_blk hh3 0
  have z1 := cell_of_blk hh3 1
  have fz := unfrozen_of_blk hh3
  simp only [List.getElem?_toArray, List.getElem?_cons_zero, List.getElem?_cons_succ] at z0 z1
  have hng : ¬ b = w.heap.size := by omega
  have hng2 : ¬ w.heap.size = b := by omega
  have HB4 := hide (belowDrw hB3)
  have HH := hide hh3
  clear hw3 hB3 hh3 q1 q2
  go_region_held3 (fun w' => w'.cell? ⟨b, o + 3, none⟩ = some (.int .i64 y) ∧ w'.cell? ⟨b, o + 5, none⟩ = some (.int .i64 z)) (go_keep)
    (fail)
  go_wp2_with fail
  have hk := blk_setCell (i := 1) (blk_setCell (i := 0) HH.out (.int .i64 2)) (.int .i64 (y + z))
  have hk2 : ((w3.setCell ⟨w.heap.size, 0, none⟩ (.int .i64 2)).setCell ⟨w.heap.size, 1, none⟩ (.int .i64 (y + z))).drew.heap[w.heap.size]? = some (.cells #[.int .i64 2, .int .i64 (y + z)] 62 (0, 0)) := hk
  have c0 := cell_of_blk hk2 0
  have c1 := cell_of_blk hk2 1
  simp only [List.getElem?_toArray, List.getElem?_cons_zero, List.getElem?_cons_succ] at c0 c1
  exact bodyPost_ret (v := .agg #[.int .i64 2, .int .i64 (y + z)]) (by simp [results, Try.results82, go_sem, c0, c1]) rfl ⟨rfl, (HB4.out.setCell (p := ⟨w.heap.size, 0, none⟩) (Nat.le_refl _) _).setCell (p := ⟨w.heap.size, 1, none⟩) (Nat.le_refl _) _⟩

set_option maxRecDepth 20000 in
set_option maxHeartbeats 2000000 in
theorem isRedex_any (ad : Option Addr) (c : Nat) (l : List Cc) (w : World) (hl : l.length ≤ 1048576) (hO : RedOK l) (h : CRow w ad l) :
    Calls Try.prog 63 #[.slice ad l.length c] w fun e w' => e = .returned (.bool (isRl l)) ∧ Below w.heap.size w w' := by
  obtain ⟨b, o, rfl, hb, p0, p1⟩ := h.tok (Below.refl _ _) hO.l0
  have q : ∀ i, i < l.length → w.cell? ⟨b, o + i * 2, none⟩ = some (.int .i64 (kOf l i)) ∧ w.cell? ⟨b, o + i * 2 + 1, none⟩ = some (.int .i64 (nAt l i)) := by
    intro i hi
    obtain ⟨b', o', he, -, p0, p1⟩ := h.tok (Below.refl _ _) hi
    simp only [Option.some.injEq, Addr.mk.injEq] at he
    obtain ⟨rfl, rfl, -⟩ := he
    rw [kOf_lt hi, nAt_lt hi]
    exact ⟨p0, p1⟩
  clear p0 p1 h
  obtain ⟨l0, l1, l2, nb1, nb2⟩ := hO
  have p0 := (q 0 l0).1
  rw [Nat.zero_mul, Nat.add_zero] at p0
  unfold isRl
  have q1 := q 1
  have q2 := q 2
  clear q
  rw [show 1 * 2 = 2 from rfl] at q1
  rw [show 2 * 2 = 4 from rfl] at q2
  have hl0 : (0 : Int) < (l.length : Int) := by omega
  obtain ⟨L, hL⟩ : ∃ L, L = l.length := ⟨_, rfl⟩
  obtain ⟨x, hx⟩ : ∃ x, x = kOf l 0 := ⟨_, rfl⟩
  obtain ⟨y, hy⟩ : ∃ y, y = kOf l 1 := ⟨_, rfl⟩
  obtain ⟨z, hz⟩ : ∃ z, z = kOf l 2 := ⟨_, rfl⟩
  obtain ⟨yn, hyn⟩ : ∃ yn, yn = nAt l 1 := ⟨_, rfl⟩
  obtain ⟨zn, hzn⟩ : ∃ zn, zn = nAt l 2 := ⟨_, rfl⟩
  rw [← hL] at hl l0 l1 l2 q1 q2 hl0 ⊢
  rw [← hx] at l1 l2 nb1 nb2 p0 ⊢
  rw [← hy] at l2 nb1 nb2 q1 ⊢
  rw [← hz] at nb2 q2 ⊢
  rw [← hyn] at nb1 q1 ⊢
  rw [← hzn] at nb2 q2 ⊢
  clear hL hx hy hz hyn hzn l0
  by_cases h4 : x = 4
  · subst h4
    have hl1 := l1 (.inl rfl)
    have hl1' : (1 : Int) < (L : Int) := by omega
    have r1 := (q1 hl1).1
    rw [if_pos rfl]
    clear q1 q2 l1 l2 nb1 nb2
    go_enter Try.func63, Try.ntmps63
    go_wp2_with fail
    go_ret
    exact ⟨ret_bool (by rw [Bool.eq_iff_iff]; simp), Below.refl _ _⟩
  · by_cases h7 : x = 7
    · subst h7
      clear q1 q2 l1 l2 nb1 nb2
      rw [if_neg h4, if_pos rfl]
      clear h4
      go_enter Try.func63, Try.ntmps63
      go_wp2_with fail
      go_ret
      exact ⟨rfl, Below.refl _ _⟩
    · by_cases h6 : x = 6
      · subst h6
        have hl1 := l1 (.inr (.inr rfl))
        have hl1' : (1 : Int) < (L : Int) := by omega
        have r1 := (q1 hl1).1
        rw [if_neg h4, if_neg h7, if_neg (by omega), if_pos rfl]
        clear q1 q2 l1 l2 nb1 nb2 h4 h7
        go_enter Try.func63, Try.ntmps63
        go_wp2_with fail
        go_ret
        exact ⟨ret_bool (by rw [Bool.eq_iff_iff]; simp), Below.refl _ _⟩
      · by_cases h5 : x = 5
        · subst h5
          have hl1 := l1 (.inr (.inl rfl))
          have hl1' : (1 : Int) < (L : Int) := by omega
          obtain ⟨r1, r1n⟩ := q1 hl1
          rw [if_neg h4, if_neg h7, if_pos rfl]
          clear q1 h4 h7 h6
          by_cases hy : y = 2
          · subst hy
            have hl2 := l2 rfl rfl
            have hl2' : (2 : Int) < (L : Int) := by omega
            obtain ⟨r2, r2n⟩ := q2 hl2
            have n1 := nb1 rfl rfl
            have n2 := nb2 rfl rfl
            clear q2 nb1 nb2 l1 l2
            rw [decide_eq_true rfl, Bool.true_and]
            by_cases hz : z = 2
            · subst hz
              have n2' := n2 rfl
              rw [decide_eq_true rfl, Bool.true_and]
              have HS := hide (fun w' (hb' : Below w.heap.size w w') => sumCell_any b o c L yn zn w' hl2 (Nat.lt_of_lt_of_le hb hb'.size) ((hb'.cell (p := ⟨b, o + 3, none⟩) hb).trans r1n) ((hb'.cell (p := ⟨b, o + 5, none⟩) hb).trans r2n) n1 n2')
              have HG := hide (fun w' => goodCell_any ⟨2, yn + zn⟩ w')
              simp only at HG
              have hgc : goodC ⟨2, yn + zn⟩ = inB (yn + zn) (-1000000) 1000000 := rfl
              rw [hgc] at HG
              obtain ⟨V, hV⟩ : ∃ V, V = inB (yn + zn) (-1000000) 1000000 := ⟨_, rfl⟩
              rw [← hV] at HG ⊢
              clear hV hgc n1 n2 n2'
              go_enter Try.func63, Try.ntmps63
              go_wp2_with fail
              refine Calls.mono (HS.out _ (Below.refl _ _)) ?_
              rintro e w1 ⟨rfl, hb1⟩
              go_wp2_with fail
              refine Calls.mono (HG.out _) ?_
              rintro e w2 ⟨rfl, hb2⟩
              go_wp2_with fail
              go_ret
              exact ⟨rfl, hb1.trans (hb2.mono hb1.size)⟩
            · rw [decide_eq_false hz]
              have hzb : (z == 2) = false := by simp [hz]
              clear n1 n2
              go_enter Try.func63, Try.ntmps63
              go_wp2_with fail
              go_ret
              exact ⟨rfl, ⟨rfl, rfl, rfl, Nat.le_refl _, fun _ _ => rfl⟩⟩
          · rw [decide_eq_false hy]
            have hyb : (y == 2) = false := by simp [hy]
            clear q2 l1 l2 nb1 nb2
            go_enter Try.func63, Try.ntmps63
            go_wp2_with fail
            go_ret
            exact ⟨rfl, ⟨rfl, rfl, rfl, Nat.le_refl _, fun _ _ => rfl⟩⟩
        · rw [if_neg h4, if_neg h7, if_neg h5, if_neg h6]
          clear q1 q2 l1 l2 nb1 nb2
          go_enter Try.func63, Try.ntmps63
          go_wp2_with fail
          go_ret
          exact ⟨rfl, Below.refl _ _⟩
end Go.Proofs.Ytjmgnljjeogdlaa.W
