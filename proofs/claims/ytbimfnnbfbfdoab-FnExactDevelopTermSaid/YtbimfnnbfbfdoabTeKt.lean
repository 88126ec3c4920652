/-
  A redex contracted by the specification, the other kinds: a contract of l4Contract. Conditions: good terms of at most 600 cells.
-/
import Derived.Test.YtbimfnnbfbfdoabTeKs
namespace Go.Proofs.Ytbimfnnbfbfdoab.W
open Go.ChangeShapes Go.WideShapes Go.ChangeAt Go.RowKit
set_option linter.unusedVariables false

set_option maxRecDepth 20000 in
set_option maxHeartbeats 2000000 in
theorem l4Contract_add (x y z : Cc) (s : Value) (P : Nat → Prop) (w : World) (hx : x.k = 5) (hy : y.k = 2) (hz : z.k = 2) (hyn : -1000000 ≤ y.n ∧ y.n ≤ 1000000) (hzn : -1000000 ≤ z.n ∧ z.n ≤ 1000000) (hs : inB (y.n + z.n) (-1000000) 1000000 = true) (hT : KidT w P (.cons y .nil (.cons z .nil .nil)) s) :
    Calls Try.prog 51 #[.agg #[.int .i64 x.k, .int .i64 x.n, s]] w fun e w' => TO w' (fun g => P g ∨ w.heap.size ≤ g) (some (⟨2, y.n + z.n⟩, .nil)) e ∧ Below w.heap.size w w' := by
  obtain ⟨sad, sc, rfl⟩ := hT.form
  obtain ⟨g, rfl, hg, -, p0, p1, sy, p2, hTy⟩ := hT.first
  obtain ⟨q0, q1, sz, q2, hTz⟩ := hT.second
  obtain ⟨yad, yc, rfl⟩ := hTy.form
  obtain ⟨zad, zc, rfl⟩ := hTz.form
  rw [hx]
  rw [hy] at p0
  rw [hz] at q0
  have hKL : (F.cons y .nil (.cons z .nil .nil)).len = 2 := rfl
  have hKL1 : F.nil.len = 0 := rfl
  rw [hKL]
  rw [hKL1] at p2 q2
  have HI := hide (l1In_any (y.n + z.n) (-1000000) 1000000)
  rw [hs] at HI
  have hw : IntKind.i64.wrap (y.n + z.n) = y.n + z.n := by rw [IntWalk.i64_in _ ⟨by omega, by omega⟩]
  have al3 : ∀ (o1 o2 o3 : Obj) (i : Nat) (v : Value), w.cell? ⟨g, i, none⟩ = some v → (((w.alloc o1).alloc o2).alloc o3).cell? ⟨g, i, none⟩ = some v := fun o1 o2 o3 i v h => by
    have hb : Below w.heap.size w (((w.alloc o1).alloc o2).alloc o3) := (((Below.refl _ _).alloc (Nat.le_refl _) _).alloc (by simp) _).alloc (by simp; omega) _
    exact (hb.cell (p := ⟨g, i, none⟩) hg).trans h
  have q0' := fun o1 o2 o3 => al3 o1 o2 o3 3 _ q0
  have q1' := fun o1 o2 o3 => al3 o1 o2 o3 4 _ q1
  have q2' := fun o1 o2 o3 => al3 o1 o2 o3 5 _ q2
  clear hT hTy hTz hKL hKL1 hs al3
  go_enter Try.func51, Try.ntmps51
  go_wp2_with fail
  refine (HI.out _).mono ?_
  rintro e w' ⟨rfl, rfl⟩
  go_wp2_with fail
  have hB0 : ∀ o1 o2 o3 o4 : Obj, Below w.heap.size w ((((w.alloc o1).alloc o2).alloc o3).alloc o4) := fun o1 o2 o3 o4 => ((((Below.refl _ _).alloc (Nat.le_refl _) _).alloc (by simp) _).alloc (by simp; omega) _).alloc (by simp; omega) _
  exact bodyPost_ret (v := .tuple #[.agg #[.int .i64 2, .int .i64 (y.n + z.n), .slice none 0 0], .bool true]) (by simp [results, Try.results51, go_sem]) rfl ⟨⟨_, rfl, KidT.nil⟩, hB0 _ _ _ _⟩

set_option maxRecDepth 20000 in
set_option maxHeartbeats 2000000 in
theorem l4Contract_if (x y z u : Cc) (kz ku : F) (s : Value) (P : Nat → Prop) (w : World) (hx : x.k = 6) (hy : y.k = 2) (hT : KidT w P (.cons y .nil (.cons z kz (.cons u ku .nil))) s) :
    Calls Try.prog 51 #[.agg #[.int .i64 x.k, .int .i64 x.n, s]] w fun e w' => TO w' (fun g => P g ∨ w.heap.size ≤ g) (some (if y.n = 0 then (z, kz) else (u, ku))) e ∧ Below w.heap.size w w' := by
  obtain ⟨sad, sc, rfl⟩ := hT.form
  obtain ⟨g, rfl, hg, -, p0, p1, sy, p2, hTy⟩ := hT.first
  obtain ⟨q0, q1, sz, q2, hTz⟩ := hT.second
  obtain ⟨g', cap, su, he, hP, hg', hTu, u0, u1, u2⟩ := KidT.kid (a := .cons y .nil (.cons z kz .nil)) hT
  simp only [Value.slice.injEq, Option.some.injEq, Addr.mk.injEq] at he
  obtain ⟨⟨rfl, -, -⟩, -, -⟩ := he
  simp only [F.len, Nat.zero_add, Nat.reduceAdd, Nat.reduceMul] at u0 u1 u2
  obtain ⟨zad, zc, rfl⟩ := hTz.form
  obtain ⟨uad, uc, rfl⟩ := hTu.form
  rw [hx]
  rw [hy] at p0
  have hKL : (F.cons y .nil (.cons z kz (.cons u ku .nil))).len = 3 := rfl
  rw [hKL]
  have HTz := hide hTz
  have HTu := hide hTu
  obtain ⟨ZN, hZN⟩ : ∃ ZN, ZN = kz.len := ⟨_, rfl⟩
  obtain ⟨UN, hUN⟩ : ∃ UN, UN = ku.len := ⟨_, rfl⟩
  rw [← hZN] at q2 HTz
  rw [← hUN] at u2 HTu
  clear hT hTy hTz hTu hKL hZN hUN
  by_cases hy0 : y.n = 0
  · rw [if_pos hy0]
    rw [hy0] at p1
    go_enter Try.func51, Try.ntmps51
    go_wp2_with fail
    have hB0 : ∀ o1 o2 : Obj, Below w.heap.size w ((w.alloc o1).alloc o2) := fun o1 o2 => ((Below.refl _ _).alloc (Nat.le_refl _) _).alloc (by simp) _
    refine bodyPost_ret (v := .tuple #[.agg #[.int .i64 z.k, .int .i64 z.n, .slice zad ZN zc], .bool true]) (by simp [results, Try.results51, go_sem]) rfl ⟨⟨_, rfl, ?_⟩, hB0 _ _⟩
    exact HTz.out.keep (hB0 _ _).size (fun k hp hk => ⟨(hB0 _ _).block k hk, .inl hp⟩)
  · rw [if_neg hy0]
    have hyb : (y.n == 0) = false := by simp [hy0]
    go_enter Try.func51, Try.ntmps51
    go_wp2_with fail
    have hB0 : ∀ o1 o2 : Obj, Below w.heap.size w ((w.alloc o1).alloc o2) := fun o1 o2 => ((Below.refl _ _).alloc (Nat.le_refl _) _).alloc (by simp) _
    refine bodyPost_ret (v := .tuple #[.agg #[.int .i64 u.k, .int .i64 u.n, .slice uad UN uc], .bool true]) (by simp [results, Try.results51, go_sem]) rfl ⟨⟨_, rfl, ?_⟩, hB0 _ _⟩
    exact HTu.out.keep (hB0 _ _).size (fun k hp hk => ⟨(hB0 _ _).block k hk, .inl hp⟩)

set_option maxRecDepth 20000 in
set_option maxHeartbeats 4000000 in
theorem l4Contract_no (x : Cc) (k : F) (s : Value) (P : Nat → Prop) (w : World) (hok : okT x k) (hr : redx x k = false) (hT : KidT w P k s) :
    Calls Try.prog 51 #[.agg #[.int .i64 x.k, .int .i64 x.n, s]] w fun e w' => TO w' (fun g => P g ∨ w.heap.size ≤ g) none e ∧ Below w.heap.size w w' := by
  obtain ⟨sad, sc, rfl⟩ := hT.form
  obtain ⟨gx, lx, ox⟩ := hok
  obtain ⟨xk, xn⟩ := x
  simp only at *
  have hB0 : ∀ o1 o2 : Obj, Below w.heap.size w ((w.alloc o1).alloc o2) := fun o1 o2 => ((Below.refl _ _).alloc (Nat.le_refl _) _).alloc (by simp) _
  have HB0 := hide hB0
  clear hB0
  unfold redx at hr
  simp only at hr
  by_cases h4 : xk = 4
  · subst h4
    rw [if_pos rfl] at hr
    obtain ⟨y, ky, r, rfl⟩ := len_pos (k := k) (by rw [lx]; decide)
    obtain ⟨g, rfl, hg, -, p0, p1, sy, p2, hTy⟩ := hT.first
    have hy : ¬ y.k = 3 := of_decide_eq_false hr
    have hyb : (y.k == 3) = false := by simp [hy]
    have hKL : (F.cons y ky r).len = 2 := lx
    rw [hKL]
    clear hT hTy lx ox hr hKL gx
    go_enter Try.func51, Try.ntmps51
    go_wp2_with fail
    exact bodyPost_ret (v := .tuple #[.agg #[.int .i64 0, .int .i64 0, .slice none 0 0], .bool false]) (by simp [results, Try.results51, go_sem]) rfl ⟨rfl, HB0.out _ _⟩
  · rw [if_neg h4] at hr
    by_cases h7 : xk = 7
    · rw [if_pos h7] at hr; cases hr
    · rw [if_neg h7] at hr
      by_cases h6 : xk = 6
      · subst h6
        rw [if_neg (by decide), if_pos rfl] at hr
        obtain ⟨y, ky, r, rfl⟩ := len_pos (k := k) (by rw [lx]; decide)
        obtain ⟨g, rfl, hg, -, p0, p1, sy, p2, hTy⟩ := hT.first
        have hy : ¬ y.k = 2 := of_decide_eq_false hr
        have hyb : (y.k == 2) = false := by simp [hy]
        have hKL : (F.cons y ky r).len = 3 := lx
        rw [hKL]
        clear hT hTy lx ox hr hKL h4 h7 gx
        go_enter Try.func51, Try.ntmps51
        go_wp2_with fail
        exact bodyPost_ret (v := .tuple #[.agg #[.int .i64 0, .int .i64 0, .slice none 0 0], .bool false]) (by simp [results, Try.results51, go_sem]) rfl ⟨rfl, HB0.out _ _⟩
      · by_cases h5 : xk = 5
        · subst h5
          rw [if_pos rfl] at hr
          obtain ⟨y, ky, r, rfl⟩ := len_pos (k := k) (by rw [lx]; decide)
          obtain ⟨z, kz, r2, rfl⟩ := len_pos (k := r) (by have : ar 5 = 2 := (by decide); simp [F.len] at lx; omega)
          obtain ⟨g, rfl, hg, -, p0, p1, sy, p2, hTy⟩ := hT.first
          obtain ⟨q0, q1, sz, q2, hTz⟩ := hT.second
          obtain ⟨yad, yc, rfl⟩ := hTy.form
          obtain ⟨zad, zc, rfl⟩ := hTz.form
          obtain ⟨gy, ly, oy, gz, lz, oz, -⟩ := ox
          have hyn := num_n gy
          have hzn := num_n gz
          have hr' : (decide (y.k = 2) && (decide (z.k = 2) && inB (y.n + z.n) (-1000000) 1000000)) = false := hr
          have hKL : (F.cons y ky (.cons z kz r2)).len = 2 := lx
          rw [hKL]
          obtain ⟨yN, hyN⟩ : ∃ yN, yN = ky.len := ⟨_, rfl⟩
          obtain ⟨zN, hzN⟩ : ∃ zN, zN = kz.len := ⟨_, rfl⟩
          rw [← hyN] at p2
          rw [← hzN] at q2
          have al3 : ∀ (o1 o2 o3 : Obj) (i : Nat) (v : Value), w.cell? ⟨g, i, none⟩ = some v → (((w.alloc o1).alloc o2).alloc o3).cell? ⟨g, i, none⟩ = some v := fun o1 o2 o3 i v h => by
            have hb : Below w.heap.size w (((w.alloc o1).alloc o2).alloc o3) := (((Below.refl _ _).alloc (Nat.le_refl _) _).alloc (by simp) _).alloc (by simp; omega) _
            exact (hb.cell (p := ⟨g, i, none⟩) hg).trans h
          have hB1 : ∀ o1 o2 o3 o4 : Obj, Below w.heap.size w ((((w.alloc o1).alloc o2).alloc o3).alloc o4) := fun o1 o2 o3 o4 => ((((Below.refl _ _).alloc (Nat.le_refl _) _).alloc (by simp) _).alloc (by simp; omega) _).alloc (by simp; omega) _
          have HB1 := hide hB1
          clear hT hTy hTz lx hr hKL h4 h7 h6 gx gy ly oy gz lz oz hyN hzN hB1
          by_cases hy : y.k = 2
          · have hyb := hyn hy
            rw [decide_eq_true hy, Bool.true_and] at hr'
            rw [hy] at p0
            by_cases hz : z.k = 2
            · have hzb := hzn hz
              rw [decide_eq_true hz, Bool.true_and] at hr'
              rw [hz] at q0
              have HI := hide (l1In_any (y.n + z.n) (-1000000) 1000000)
              rw [hr'] at HI
              have hw : IntKind.i64.wrap (y.n + z.n) = y.n + z.n := by rw [IntWalk.i64_in _ ⟨by omega, by omega⟩]
              have q0' := fun o1 o2 o3 => al3 o1 o2 o3 3 _ q0
              have q1' := fun o1 o2 o3 => al3 o1 o2 o3 4 _ q1
              have q2' := fun o1 o2 o3 => al3 o1 o2 o3 5 _ q2
              clear al3 hyn hzn hr' hy hz
              go_enter Try.func51, Try.ntmps51
              go_wp2_with fail
              refine (HI.out _).mono ?_
              rintro e w' ⟨rfl, rfl⟩
              go_wp2_with fail
              exact bodyPost_ret (v := .tuple #[.agg #[.int .i64 0, .int .i64 0, .slice none 0 0], .bool false]) (by simp [results, Try.results51, go_sem]) rfl ⟨rfl, HB1.out _ _ _ _⟩
            · have hzb : (z.k == 2) = false := by simp [hz]
              have q0' := fun o1 o2 o3 => al3 o1 o2 o3 3 _ q0
              have q1' := fun o1 o2 o3 => al3 o1 o2 o3 4 _ q1
              have q2' := fun o1 o2 o3 => al3 o1 o2 o3 5 _ q2
              clear al3 hyn hzn hr'
              go_enter Try.func51, Try.ntmps51
              go_wp2_with fail
              exact bodyPost_ret (v := .tuple #[.agg #[.int .i64 0, .int .i64 0, .slice none 0 0], .bool false]) (by simp [results, Try.results51, go_sem]) rfl ⟨rfl, HB1.out _ _ _ _⟩
          · have hyb : (y.k == 2) = false := by simp [hy]
            have q0' := fun o1 o2 o3 => al3 o1 o2 o3 3 _ q0
            have q1' := fun o1 o2 o3 => al3 o1 o2 o3 4 _ q1
            have q2' := fun o1 o2 o3 => al3 o1 o2 o3 5 _ q2
            clear al3 hyn hzn hr'
            go_enter Try.func51, Try.ntmps51
            go_wp2_with fail
            exact bodyPost_ret (v := .tuple #[.agg #[.int .i64 0, .int .i64 0, .slice none 0 0], .bool false]) (by simp [results, Try.results51, go_sem]) rfl ⟨rfl, HB1.out _ _ _ _⟩
        · obtain ⟨KL, hKL⟩ : ∃ KL, KL = k.len := ⟨_, rfl⟩
          rw [← hKL]
          clear hT hr lx ox gx hKL
          go_enter Try.func51, Try.ntmps51
          go_wp2_with fail
          exact bodyPost_ret (v := .tuple #[.agg #[.int .i64 0, .int .i64 0, .slice none 0 0], .bool false]) (by simp [results, Try.results51, go_sem]) rfl ⟨rfl, HB0.out _ _⟩

/-- What a term comes to where it is a redex and there is room. -/
def ctrR (x : Cc) (k : F) : Option (Cc × F) := if redx x k = true then ctrO x k else none

theorem l4Contract_any (x : Cc) (k : F) (s : Value) (P : Nat → Prop) (w : World) (hok : okT x k) (hl : k.flat.length + 1 ≤ 600) (hT : KidT w P k s) :
    Calls Try.prog 51 #[.agg #[.int .i64 x.k, .int .i64 x.n, s]] w fun e w' => TO w' (fun g => P g ∨ w.heap.size ≤ g) (ctrR x k) e ∧ Below w.heap.size w w' := by
  unfold ctrR
  cases hr : redx x k with
  | false => exact l4Contract_no x k s P w hok hr hT
  | true =>
    rw [if_pos rfl]
    cases red_of hok hr with
    | app y d z kd kz hx hk' hy hd hz =>
      subst hk'
      have e1 : ctrO x (.cons y (.cons d kd .nil) (.cons z kz .nil)) = putO d kd z kz := by simp [ctrO, hx]
      rw [e1]
      simp [F.flat] at hl
      exact l4Contract_app x y d z kd kz s P w hx hy hd hz (by omega) (by omega) hT
    | lett y d ky kd hx hk' hy hd =>
      subst hk'
      have e1 : ctrO x (.cons y ky (.cons d kd .nil)) = putO d kd y ky := by simp [ctrO, hx]
      rw [e1]
      simp [F.flat] at hl
      exact l4Contract_let x y d ky kd s P w hx hy hd (by omega) (by omega) hT
    | add y z hx hk' hy hz hyn hzn hs =>
      subst hk'
      have e1 : ctrO x (.cons y .nil (.cons z .nil .nil)) = some (⟨2, y.n + z.n⟩, .nil) := by simp [ctrO, hx]
      rw [e1]
      exact l4Contract_add x y z s P w hx hy hz hyn hzn hs hT
    | iff y z u kz ku hx hk' hy hz hu =>
      subst hk'
      have e1 : ctrO x (.cons y .nil (.cons z kz (.cons u ku .nil))) = some (if y.n = 0 then (z, kz) else (u, ku)) := by simp [ctrO, hx]
      rw [e1]
      exact l4Contract_if x y z u kz ku s P w hx hy hT
end Go.Proofs.Ytbimfnnbfbfdoab.W
