/-
  Some texts of this proof in one: TeKt, TeKd, TeDm, TeDi.
-/
import Derived.Test.YtjmgnljjeogdlaaTeKs
import Derived.Test.YtjmgnljjeogdlaaJal
import Derived.Test.YtjmgnljjeogdlaaJam
import Derived.Test.YtjmgnljjeogdlaaJag
/-
  A redex contracted by the specification, the other kinds: a contract of l4Contract. Conditions: good terms of at most 600 cells.
-/
namespace Go.Proofs.Ytjmgnljjeogdlaa.W
open Go.ChangeShapes Go.WideShapes Go.ChangeAt Go.RowKit
set_option linter.unusedVariables false

set_option maxRecDepth 20000 in
set_option maxHeartbeats 2000000 in
theorem l4Contract_add (x y z : Cc) (s : Value) (P : Nat → Prop) (w : World) (hx : x.k = 5) (hy : y.k = 2) (hz : z.k = 2) (hyn : -1000000 ≤ y.n ∧ y.n ≤ 1000000) (hzn : -1000000 ≤ z.n ∧ z.n ≤ 1000000) (hs : inB (y.n + z.n) (-1000000) 1000000 = true) (hT : KidT w P (.cons y .nil (.cons z .nil .nil)) s) :
    Calls Try.prog 69 #[.agg #[.int .i64 x.k, .int .i64 x.n, s]] w fun e w' => TO w' (fun g => P g ∨ w.heap.size ≤ g) (some (⟨2, y.n + z.n⟩, .nil)) e ∧ Below w.heap.size w w' := by
  obtain ⟨sad, sc, rfl⟩ := hT.form
  obtain ⟨g, rfl, hg, -, p0, p1, sy, p2, hTy⟩ := hT.first
  obtain ⟨q0, q1, sz, q2, hTz⟩ := hT.second
  obtain ⟨yad, yc, rfl⟩ := hTy.form
  obtain ⟨zad, zc, rfl⟩ := hTz.form
  rw [hx]
  rw [hy] at p0
  rw [hz] at q0
  have hKL : (F.cons y .nil (.cons z .nil .nil)).len = 2 := rfl
  have hKL1 : F.nil.len = 0 := rfl
  rw [hKL]
  rw [hKL1] at p2 q2
  have HI := hide (l1In_any (y.n + z.n) (-1000000) 1000000)
  rw [hs] at HI
  have hw : IntKind.i64.wrap (y.n + z.n) = y.n + z.n := by rw [IntWalk.i64_in _ ⟨by omega, by omega⟩]
  have al3 : ∀ (o1 o2 o3 : Obj) (i : Nat) (v : Value), w.cell? ⟨g, i, none⟩ = some v → (((w.alloc o1).alloc o2).alloc o3).cell? ⟨g, i, none⟩ = some v := fun o1 o2 o3 i v h => by
    have hb : Below w.heap.size w (((w.alloc o1).alloc o2).alloc o3) := (((Below.refl _ _).alloc (Nat.le_refl _) _).alloc (by simp) _).alloc (by simp; omega) _
    exact (hb.cell (p := ⟨g, i, none⟩) hg).trans h
  have q0' := fun o1 o2 o3 => al3 o1 o2 o3 3 _ q0
  have q1' := fun o1 o2 o3 => al3 o1 o2 o3 4 _ q1
  have q2' := fun o1 o2 o3 => al3 o1 o2 o3 5 _ q2
  clear hT hTy hTz hKL hKL1 hs al3
  go_enter Try.func69, Try.ntmps69
  go_wp2_with fail
  refine (HI.out _).mono ?_
  rintro e w' ⟨rfl, rfl⟩
  go_wp2_with fail
  have hB0 : ∀ o1 o2 o3 o4 : Obj, Below w.heap.size w ((((w.alloc o1).alloc o2).alloc o3).alloc o4) := fun o1 o2 o3 o4 => ((((Below.refl _ _).alloc (Nat.le_refl _) _).alloc (by simp) _).alloc (by simp; omega) _).alloc (by simp; omega) _
  exact bodyPost_ret (v := .tuple #[.agg #[.int .i64 2, .int .i64 (y.n + z.n), .slice none 0 0], .bool true]) (by simp [results, Try.results69, go_sem]) rfl ⟨⟨_, rfl, KidT.nil⟩, hB0 _ _ _ _⟩

set_option maxRecDepth 20000 in
set_option maxHeartbeats 2000000 in
theorem l4Contract_if (x y z u : Cc) (kz ku : F) (s : Value) (P : Nat → Prop) (w : World) (hx : x.k = 6) (hy : y.k = 2) (hT : KidT w P (.cons y .nil (.cons z kz (.cons u ku .nil))) s) :
    Calls Try.prog 69 #[.agg #[.int .i64 x.k, .int .i64 x.n, s]] w fun e w' => TO w' (fun g => P g ∨ w.heap.size ≤ g) (some (if y.n = 0 then (z, kz) else (u, ku))) e ∧ Below w.heap.size w w' := by
  obtain ⟨sad, sc, rfl⟩ := hT.form
  obtain ⟨g, rfl, hg, -, p0, p1, sy, p2, hTy⟩ := hT.first
  obtain ⟨q0, q1, sz, q2, hTz⟩ := hT.second
  obtain ⟨g', cap, su, he, hP, hg', hTu, u0, u1, u2⟩ := KidT.kid (a := .cons y .nil (.cons z kz .nil)) hT
  simp only [Value.slice.injEq, Option.some.injEq, Addr.mk.injEq] at he
  obtain ⟨⟨rfl, -, -⟩, -, -⟩ := he
  simp only [F.len, Nat.zero_add, Nat.reduceAdd, Nat.reduceMul] at u0 u1 u2
  obtain ⟨zad, zc, rfl⟩ := hTz.form
  obtain ⟨uad, uc, rfl⟩ := hTu.form
  rw [hx]
  rw [hy] at p0
  have hKL : (F.cons y .nil (.cons z kz (.cons u ku .nil))).len = 3 := rfl
  rw [hKL]
  have HTz := hide hTz
  have HTu := hide hTu
  obtain ⟨ZN, hZN⟩ : ∃ ZN, ZN = kz.len := ⟨_, rfl⟩
  obtain ⟨UN, hUN⟩ : ∃ UN, UN = ku.len := ⟨_, rfl⟩
  rw [← hZN] at q2 HTz
  rw [← hUN] at u2 HTu
  clear hT hTy hTz hTu hKL hZN hUN
  by_cases hy0 : y.n = 0
  · rw [if_pos hy0]
    rw [hy0] at p1
    go_enter Try.func69, Try.ntmps69
    go_wp2_with fail
    have hB0 : ∀ o1 o2 : Obj, Below w.heap.size w ((w.alloc o1).alloc o2) := fun o1 o2 => ((Below.refl _ _).alloc (Nat.le_refl _) _).alloc (by simp) _
    refine bodyPost_ret (v := .tuple #[.agg #[.int .i64 z.k, .int .i64 z.n, .slice zad ZN zc], .bool true]) (by simp [results, Try.results69, go_sem]) rfl ⟨⟨_, rfl, ?_⟩, hB0 _ _⟩
    exact HTz.out.keep (hB0 _ _).size (fun k hp hk => ⟨(hB0 _ _).block k hk, .inl hp⟩)
  · rw [if_neg hy0]
    have hyb : (y.n == 0) = false := by simp [hy0]
    go_enter Try.func69, Try.ntmps69
    go_wp2_with fail
    have hB0 : ∀ o1 o2 : Obj, Below w.heap.size w ((w.alloc o1).alloc o2) := fun o1 o2 => ((Below.refl _ _).alloc (Nat.le_refl _) _).alloc (by simp) _
    refine bodyPost_ret (v := .tuple #[.agg #[.int .i64 u.k, .int .i64 u.n, .slice uad UN uc], .bool true]) (by simp [results, Try.results69, go_sem]) rfl ⟨⟨_, rfl, ?_⟩, hB0 _ _⟩
    exact HTu.out.keep (hB0 _ _).size (fun k hp hk => ⟨(hB0 _ _).block k hk, .inl hp⟩)

set_option maxRecDepth 20000 in
set_option maxHeartbeats 4000000 in
theorem l4Contract_no (x : Cc) (k : F) (s : Value) (P : Nat → Prop) (w : World) (hok : okT x k) (hr : redx x k = false) (hT : KidT w P k s) :
    Calls Try.prog 69 #[.agg #[.int .i64 x.k, .int .i64 x.n, s]] w fun e w' => TO w' (fun g => P g ∨ w.heap.size ≤ g) none e ∧ Below w.heap.size w w' := by
  obtain ⟨sad, sc, rfl⟩ := hT.form
  obtain ⟨gx, lx, ox⟩ := hok
  obtain ⟨xk, xn⟩ := x
  simp only at *
  have hB0 : ∀ o1 o2 : Obj, Below w.heap.size w ((w.alloc o1).alloc o2) := fun o1 o2 => ((Below.refl _ _).alloc (Nat.le_refl _) _).alloc (by simp) _
  have HB0 := hide hB0
  clear hB0
  unfold redx at hr
  simp only at hr
  by_cases h4 : xk = 4
  · subst h4
    rw [if_pos rfl] at hr
    obtain ⟨y, ky, r, rfl⟩ := len_pos (k := k) (by rw [lx]; decide)
    obtain ⟨g, rfl, hg, -, p0, p1, sy, p2, hTy⟩ := hT.first
    have hy : ¬ y.k = 3 := of_decide_eq_false hr
    have hyb : (y.k == 3) = false := by simp [hy]
    have hKL : (F.cons y ky r).len = 2 := lx
    rw [hKL]
    clear hT hTy lx ox hr hKL gx
    go_enter Try.func69, Try.ntmps69
    go_wp2_with fail
    exact bodyPost_ret (v := .tuple #[.agg #[.int .i64 0, .int .i64 0, .slice none 0 0], .bool false]) (by simp [results, Try.results69, go_sem]) rfl ⟨rfl, HB0.out _ _⟩
  · rw [if_neg h4] at hr
    by_cases h7 : xk = 7
    · rw [if_pos h7] at hr; cases hr
    · rw [if_neg h7] at hr
      by_cases h6 : xk = 6
      · subst h6
        rw [if_neg (by decide), if_pos rfl] at hr
        obtain ⟨y, ky, r, rfl⟩ := len_pos (k := k) (by rw [lx]; decide)
        obtain ⟨g, rfl, hg, -, p0, p1, sy, p2, hTy⟩ := hT.first
        have hy : ¬ y.k = 2 := of_decide_eq_false hr
        have hyb : (y.k == 2) = false := by simp [hy]
        have hKL : (F.cons y ky r).len = 3 := lx
        rw [hKL]
        clear hT hTy lx ox hr hKL h4 h7 gx
        go_enter Try.func69, Try.ntmps69
        go_wp2_with fail
        exact bodyPost_ret (v := .tuple #[.agg #[.int .i64 0, .int .i64 0, .slice none 0 0], .bool false]) (by simp [results, Try.results69, go_sem]) rfl ⟨rfl, HB0.out _ _⟩
      · by_cases h5 : xk = 5
        · subst h5
          rw [if_pos rfl] at hr
          obtain ⟨y, ky, r, rfl⟩ := len_pos (k := k) (by rw [lx]; decide)
          obtain ⟨z, kz, r2, rfl⟩ := len_pos (k := r) (by have : ar 5 = 2 := (by decide); simp [F.len] at lx; omega)
          obtain ⟨g, rfl, hg, -, p0, p1, sy, p2, hTy⟩ := hT.first
          obtain ⟨q0, q1, sz, q2, hTz⟩ := hT.second
          obtain ⟨yad, yc, rfl⟩ := hTy.form
          obtain ⟨zad, zc, rfl⟩ := hTz.form
          obtain ⟨gy, ly, oy, gz, lz, oz, -⟩ := ox
          have hyn := num_n gy
          have hzn := num_n gz
          have hr' : (decide (y.k = 2) && (decide (z.k = 2) && inB (y.n + z.n) (-1000000) 1000000)) = false := hr
          have hKL : (F.cons y ky (.cons z kz r2)).len = 2 := lx
          rw [hKL]
          obtain ⟨yN, hyN⟩ : ∃ yN, yN = ky.len := ⟨_, rfl⟩
          obtain ⟨zN, hzN⟩ : ∃ zN, zN = kz.len := ⟨_, rfl⟩
          rw [← hyN] at p2
          rw [← hzN] at q2
          have al3 : ∀ (o1 o2 o3 : Obj) (i : Nat) (v : Value), w.cell? ⟨g, i, none⟩ = some v → (((w.alloc o1).alloc o2).alloc o3).cell? ⟨g, i, none⟩ = some v := fun o1 o2 o3 i v h => by
            have hb : Below w.heap.size w (((w.alloc o1).alloc o2).alloc o3) := (((Below.refl _ _).alloc (Nat.le_refl _) _).alloc (by simp) _).alloc (by simp; omega) _
            exact (hb.cell (p := ⟨g, i, none⟩) hg).trans h
          have hB1 : ∀ o1 o2 o3 o4 : Obj, Below w.heap.size w ((((w.alloc o1).alloc o2).alloc o3).alloc o4) := fun o1 o2 o3 o4 => ((((Below.refl _ _).alloc (Nat.le_refl _) _).alloc (by simp) _).alloc (by simp; omega) _).alloc (by simp; omega) _
          have HB1 := hide hB1
          clear hT hTy hTz lx hr hKL h4 h7 h6 gx gy ly oy gz lz oz hyN hzN hB1
          by_cases hy : y.k = 2
          · have hyb := hyn hy
            rw [decide_eq_true hy, Bool.true_and] at hr'
            rw [hy] at p0
            by_cases hz : z.k = 2
            · have hzb := hzn hz
              rw [decide_eq_true hz, Bool.true_and] at hr'
              rw [hz] at q0
              have HI := hide (l1In_any (y.n + z.n) (-1000000) 1000000)
              rw [hr'] at HI
              have hw : IntKind.i64.wrap (y.n + z.n) = y.n + z.n := by rw [IntWalk.i64_in _ ⟨by omega, by omega⟩]
              have q0' := fun o1 o2 o3 => al3 o1 o2 o3 3 _ q0
              have q1' := fun o1 o2 o3 => al3 o1 o2 o3 4 _ q1
              have q2' := fun o1 o2 o3 => al3 o1 o2 o3 5 _ q2
              clear al3 hyn hzn hr' hy hz
              go_enter Try.func69, Try.ntmps69
              go_wp2_with fail
              refine (HI.out _).mono ?_
              rintro e w' ⟨rfl, rfl⟩
              go_wp2_with fail
              exact bodyPost_ret (v := .tuple #[.agg #[.int .i64 0, .int .i64 0, .slice none 0 0], .bool false]) (by simp [results, Try.results69, go_sem]) rfl ⟨rfl, HB1.out _ _ _ _⟩
            · have hzb : (z.k == 2) = false := by simp [hz]
              have q0' := fun o1 o2 o3 => al3 o1 o2 o3 3 _ q0
              have q1' := fun o1 o2 o3 => al3 o1 o2 o3 4 _ q1
              have q2' := fun o1 o2 o3 => al3 o1 o2 o3 5 _ q2
              clear al3 hyn hzn hr'
              go_enter Try.func69, Try.ntmps69
              go_wp2_with fail
              exact bodyPost_ret (v := .tuple #[.agg #[.int .i64 0, .int .i64 0, .slice none 0 0], .bool false]) (by simp [results, Try.results69, go_sem]) rfl ⟨rfl, HB1.out _ _ _ _⟩
          · have hyb : (y.k == 2) = false := by simp [hy]
            have q0' := fun o1 o2 o3 => al3 o1 o2 o3 3 _ q0
            have q1' := fun o1 o2 o3 => al3 o1 o2 o3 4 _ q1
            have q2' := fun o1 o2 o3 => al3 o1 o2 o3 5 _ q2
            clear al3 hyn hzn hr'
            go_enter Try.func69, Try.ntmps69
            go_wp2_with fail
            exact bodyPost_ret (v := .tuple #[.agg #[.int .i64 0, .int .i64 0, .slice none 0 0], .bool false]) (by simp [results, Try.results69, go_sem]) rfl ⟨rfl, HB1.out _ _ _ _⟩
        · obtain ⟨KL, hKL⟩ : ∃ KL, KL = k.len := ⟨_, rfl⟩
          rw [← hKL]
          clear hT hr lx ox gx hKL
          go_enter Try.func69, Try.ntmps69
          go_wp2_with fail
          exact bodyPost_ret (v := .tuple #[.agg #[.int .i64 0, .int .i64 0, .slice none 0 0], .bool false]) (by simp [results, Try.results69, go_sem]) rfl ⟨rfl, HB0.out _ _⟩

/-- What a term comes to where it is a redex and there is room. -/
def ctrR (x : Cc) (k : F) : Option (Cc × F) := if redx x k = true then ctrO x k else none

theorem l4Contract_any (x : Cc) (k : F) (s : Value) (P : Nat → Prop) (w : World) (hok : okT x k) (hl : k.flat.length + 1 ≤ 600) (hT : KidT w P k s) :
    Calls Try.prog 69 #[.agg #[.int .i64 x.k, .int .i64 x.n, s]] w fun e w' => TO w' (fun g => P g ∨ w.heap.size ≤ g) (ctrR x k) e ∧ Below w.heap.size w w' := by
  unfold ctrR
  cases hr : redx x k with
  | false => exact l4Contract_no x k s P w hok hr hT
  | true =>
    rw [if_pos rfl]
    cases red_of hok hr with
    | app y d z kd kz hx hk' hy hd hz =>
      subst hk'
      have e1 : ctrO x (.cons y (.cons d kd .nil) (.cons z kz .nil)) = putO d kd z kz := by simp [ctrO, hx]
      rw [e1]
      simp [F.flat] at hl
      exact l4Contract_app x y d z kd kz s P w hx hy hd hz (by omega) (by omega) hT
    | lett y d ky kd hx hk' hy hd =>
      subst hk'
      have e1 : ctrO x (.cons y ky (.cons d kd .nil)) = putO d kd y ky := by simp [ctrO, hx]
      rw [e1]
      simp [F.flat] at hl
      exact l4Contract_let x y d ky kd s P w hx hy hd (by omega) (by omega) hT
    | add y z hx hk' hy hz hyn hzn hs =>
      subst hk'
      have e1 : ctrO x (.cons y .nil (.cons z .nil .nil)) = some (⟨2, y.n + z.n⟩, .nil) := by simp [ctrO, hx]
      rw [e1]
      exact l4Contract_add x y z s P w hx hy hz hyn hzn hs hT
    | iff y z u kz ku hx hk' hy hz hu =>
      subst hk'
      have e1 : ctrO x (.cons y .nil (.cons z kz (.cons u ku .nil))) = some (if y.n = 0 then (z, kz) else (u, ku)) := by simp [ctrO, hx]
      rw [e1]
      exact l4Contract_if x y z u kz ku s P w hx hy hT
end Go.Proofs.Ytjmgnljjeogdlaa.W

/-
  A redex anywhere in a term contracted by the program: a contract of contractedAt. Conditions: good terms.
-/
namespace Go.Proofs.Ytjmgnljjeogdlaa.W
open Go.ChangeShapes Go.WideShapes Go.ChangeAt Go.RowKit
set_option linter.unusedVariables false

theorem putO_len {d z : Cc} {kd kz : F} (hd : okT d kd) {p : Cc × F} (h : putO d kd z kz = some p) : p.2.flat.length + 1 ≤ 600 := by
  unfold putO at h
  split at h
  · rename_i h6
    simp only [Option.some.injEq] at h
    subst h
    have h9 := sbf_flat 0 z kz (.cons d kd .nil) 0 0 0 ⟨hd.1, hd.2.1, hd.2.2, trivial⟩
    have h10 : usf (0 + 0) 0 0 (.cons d kd .nil) = us1 0 d kd := by rw [usf_cons, binds_0]; simp [usf]
    have h11 : sbf 0 z kz 0 0 0 (.cons d kd .nil) = .cons (sbr 0 z 0 d) (sbk 0 z kz 0 d kd) .nil := by rw [sbf_cons, binds_0]; rfl
    rw [h10, h11] at h9
    simp [F.flat] at h9
    simp only
    omega
  · cases h
theorem ctrO_len {x : Cc} {k : F} (hk : okT x k) (hr : redx x k = true) (hl : k.flat.length + 1 ≤ 600) {p : Cc × F} (h : ctrO x k = some p) : p.2.flat.length + 1 ≤ 600 := by
  cases red_of hk hr with
  | app y d z kd kz hx hk' hy hd hz =>
    subst hk'
    have e1 : ctrO x (.cons y (.cons d kd .nil) (.cons z kz .nil)) = putO d kd z kz := by simp [ctrO, hx]
    rw [e1] at h
    exact putO_len hd h
  | lett y d ky kd hx hk' hy hd =>
    subst hk'
    have e1 : ctrO x (.cons y ky (.cons d kd .nil)) = putO d kd y ky := by simp [ctrO, hx]
    rw [e1] at h
    exact putO_len hd h
  | add y z hx hk' hy hz hyn hzn hs =>
    subst hk'
    have e1 : ctrO x (.cons y .nil (.cons z .nil .nil)) = some (⟨2, y.n + z.n⟩, .nil) := by simp [ctrO, hx]
    rw [e1] at h
    simp only [Option.some.injEq] at h
    subst h
    simp [F.flat]
  | iff y z u kz ku hx hk' hy hz hu =>
    subst hk'
    have e1 : ctrO x (.cons y .nil (.cons z kz (.cons u ku .nil))) = some (if y.n = 0 then (z, kz) else (u, ku)) := by simp [ctrO, hx]
    rw [e1] at h
    simp only [Option.some.injEq] at h
    subst h
    simp [F.flat] at hl
    split <;> simp <;> omega

set_option maxRecDepth 20000 in
set_option maxHeartbeats 2000000 in
theorem contractedAt_any (b o c : Nat) (l : List Cc) (at_ : Nat) (r : Option (List Cc)) (w : World) (hp : Place l at_ r) (hl : l.length ≤ 600) (hc : l.length ≤ c) (h : CRowAt w b o l) :
    Calls Try.prog 43 #[.slice (some ⟨b, o, none⟩) l.length c, .int .i64 (at_ : Int)] w fun e w' => RS w r e w' := by
  obtain ⟨pre, y, ky, post, h1, h2, hk, hr, h5⟩ := hp
  have hlen : l.length = at_ + (ky.flat.length + 1) + post.length := by rw [h1, ← h2]; simp; omega
  rw [h1] at h
  have hd : CRowAt w b (o + at_ * 2) ((y :: ky.flat) ++ post) := by have := h.back; rw [h2] at this; simpa using this
  have hcut := cutAhead_any b (o + at_ * 2) (c - at_) ((y :: ky.flat) ++ post) (ky.flat.length + 1) w (by simp; omega) (by simp; omega) (sz_one hk _) (by simp) hd
  have hcl : ((y :: ky.flat) ++ post).length = l.length - at_ := by simp; omega
  rw [hcl] at hcut
  have hpl : l.length - at_ - (ky.flat.length + 1) = post.length := by omega
  rw [hpl] at hcut
  have HC := hide hcut
  have HK := hide (fun (w' : World) (hb : Below w.heap.size w w') => contracted_any b (o + at_ * 2) (c - at_) y ky w' hk hr (ky.flat.length + 1) rfl (by omega) (by omega) (hd.front.below hb))
  have HPre := hide h.front
  have HD := hide hd
  obtain ⟨L, hL⟩ : ∃ L, L = l.length := ⟨_, rfl⟩
  rw [← hL] at HC hlen hl hc ⊢
  have ha0 : (0 : Int) ≤ (at_ : Int) := by omega
  have haL : (at_ : Int) ≤ (L : Int) := by omega
  have haL2 : (at_ : Int) < (L : Int) := by omega
  have hLc : (L : Int) ≤ (c : Int) := by omega
  have hac : (at_ : Int) ≤ (c : Int) := by omega
  have hcn : ¬ c = at_ := by omega
  have HL := hide hlen
  have HLen := fun p (hp : ctrO y ky = some p) => ctrO_len hk hr (by omega) hp
  have HCL := hide HLen
  obtain ⟨N, hN⟩ : ∃ N, N = ky.flat.length + 1 := ⟨_, rfl⟩
  rw [← hN] at HC HK HL
  have HN := hide hN
  clear h1 h hd hcut hcl hpl hL hlen HLen hN
  go_enter Try.func43, Try.ntmps43
  go_wp2_with fail
  refine Calls.mono HC.out ?_
  rintro e w1 ⟨q, rfl, hq, hb1⟩
  have HQ := hide hq
  clear hq HC
  go_wp2_with fail
  refine Calls.mono (HK.out _ hb1) ?_
  rintro e w2 ⟨s2, rfl, ho2, hb2⟩
  have hB2 : Below w.heap.size w w2 := hb1.trans (hb2.mono hb1.size)
  obtain ⟨ad2, c2, rfl⟩ := iOwn_form ho2
  clear HK
  cases hco : ctrO y ky with
  | none =>
    rw [hco] at h5
    obtain rfl : r = none := h5
    clear ho2 hb2
    simp only [Option.map_none, Option.isSome_none]
    go_wp2_with fail
    exact bodyPost_ret (v := .tuple #[.slice none 0 0, .bool false]) (by simp [results, Try.results43, go_sem]) rfl ⟨_, rfl, World.ownsRow_nil _ _ _ _, hB2⟩
  | some p =>
    rw [hco] at h5 ho2
    have hM := HCL.out p hco
    obtain ⟨cs, hcs⟩ : ∃ cs, cs = p.1 :: p.2.flat := ⟨_, rfl⟩
    have h6 : r = some (pre ++ cs ++ post) := by rw [h5, hcs]; simp
    have ho2' : w2.ownsRow w1.heap.size 62 2 (.slice ad2 cs.length c2) cs.length (cv cs) := by rw [hcs]; exact ho2
    have hcl : cs.length ≤ 600 := by rw [hcs]; simpa using hM
    have hc0 : 0 < cs.length := by rw [hcs]; simp
    have e0 : (Option.map (fun p : Cc × F => p.1 :: p.2.flat) (some p)) = some cs := by rw [hcs]; rfl
    rw [e0]
    simp only [Option.getD_some, Option.isSome_some]
    have hO := ho2'
    obtain ⟨ad', c', he, hcc, hrow⟩ := cOwn_row ho2'
    obtain ⟨g, cap, hgs, -, hg⟩ := tOwn_some ho2' hc0
    simp only [Value.slice.injEq] at he hgs
    obtain ⟨rfl, -, rfl⟩ := he
    obtain ⟨rfl, -, rfl⟩ := hgs
    have HRow := hide hrow
    obtain ⟨w3, hw3⟩ : ∃ w3, w3 = w2.alloc (.cells #[.slice (some ⟨b, o, none⟩) at_ c, .slice (some ⟨g, 0, none⟩) cs.length c2, .slice (some ⟨b, q, none⟩) post.length (c - at_ - N)] 23) := ⟨_, rfl⟩
    have hB23 : Below w2.heap.size w2 w3 := by rw [hw3]; exact (Below.refl _ _).alloc (Nat.le_refl _) _
    have hB3 : Below w.heap.size w w3 := hB2.trans (hB23.mono hB2.size)
    have hh3 : w3.heap[w2.heap.size]? = some (.cells #[.slice (some ⟨b, o, none⟩) at_ c, .slice (some ⟨g, 0, none⟩) cs.length c2, .slice (some ⟨b, q, none⟩) post.length (c - at_ - N)] 23) := by rw [hw3]; exact heap_alloc_new _ _
    have hq1 := (cell_of_blk hh3 0).trans rfl
    have hq2 := (cell_of_blk hh3 1).trans rfl
    have hq3 := (cell_of_blk hh3 2).trans rfl
    have hlt3 : w2.heap.size < w3.heap.size := (Array.getElem?_eq_some_iff.1 hh3).1
    have hpost : CRow w3 (some ⟨b, q, none⟩) post := by
      by_cases hp0 : post = []
      · exact .inl hp0
      · have hpl : 0 < post.length := List.length_pos_iff.2 hp0
        have hqq := HQ.out (by have := HL.out; omega)
        refine .inr ⟨b, q, rfl, ?_⟩
        have := (HD.out.below hB3).back
        rw [hqq, HN.out]
        simpa using this
    have hcat := concatC_any w2.heap.size b o c g 0 c2 b q (c - at_ - N) pre cs post w3 (by omega) (by have := HL.out; omega) hlt3 (by rw [h2]; exact hq1) hq2 hq3 (.inr ⟨b, o, rfl, HPre.out.below hB3⟩) (HRow.out.below hB23) hpost
    have HCat := hide hcat
    have hcl3 : (pre ++ cs ++ post).length ≤ 1048576 := by simp; have := HL.out; omega
    have hcl4 : pre.length + cs.length + post.length = (pre ++ cs ++ post).length := by simp; omega
    rw [hcl4] at HCat
    obtain ⟨Z, hZ⟩ : ∃ Z, Z = pre ++ cs ++ post := ⟨_, rfl⟩
    rw [← hZ] at HCat h6 hcl3
    obtain ⟨CN, hCN⟩ : ∃ CN, CN = cs.length := ⟨_, rfl⟩
    rw [← hCN] at hw3 ⊢
    clear hcat hpost hq1 hq2 hq3 hh3 hco h5 ho2 hO hM e0 hcs ho2' hcc hrow hcl4 HRow hCN hb2 HCL hZ
    go_wp2_with fail
    rw [← hw3]
    refine Calls.mono HCat.out ?_
    rintro e w4 ⟨v4, rfl, ho4, hb4⟩
    have hB4 : Below w.heap.size w w4 := hB3.trans (hb4.mono hB3.size)
    have HO4 := hide (iOwn_lower ho4 hB3.size)
    obtain ⟨rad, rc, rfl, hrc, hrow4⟩ := cOwn_row ho4
    have HGC := hide (implGoodT_any rad rc Z w4 hcl3 hrow4)
    obtain ⟨G, hG⟩ : ∃ G, G = goodT Z := ⟨_, rfl⟩
    rw [← hG] at HGC
    have HGe := hide hG
    obtain ⟨ZN, hZN⟩ : ∃ ZN, ZN = Z.length := ⟨_, rfl⟩
    rw [← hZN] at HGC HO4 ⊢
    have HZN := hide hZN
    clear hG hZN ho4 hrow4 hb4 hw3 HCat
    go_wp2_with fail
    refine Calls.mono HGC.out ?_
    rintro e w5 ⟨rfl, hb5⟩
    have hB5 : Below w.heap.size w w5 := hB4.trans (hb5.mono hB4.size)
    have HO5 := hide (tOwn_keep HO4.out (fun k _ hk => hb5.block k hk))
    clear HGC hb5 HO4
    subst h6
    cases G with
    | true =>
      go_wp2_with fail
      refine bodyPost_ret (v := .tuple #[.slice rad ZN rc, .bool true]) (by simp [results, Try.results43, go_sem]) rfl ⟨.slice rad ZN rc, ?_, ?_, hB5⟩
      · show _ = Ending.returned (.tuple #[_, .bool (goodT Z)]); rw [← HGe.out]
      · have : rL (some Z) = Z := by show gd Z = Z; unfold gd; rw [if_pos HGe.out.symm]
        rw [this, ← HZN.out]; exact HO5.out
    | false =>
      go_wp2_with fail
      refine bodyPost_ret (v := .tuple #[.slice none 0 0, .bool false]) (by simp [results, Try.results43, go_sem]) rfl ⟨.slice none 0 0, ?_, ?_, hB5⟩
      · show _ = Ending.returned (.tuple #[_, .bool (goodT Z)]); rw [← HGe.out]
      · have : rL (some Z) = [] := by show gd Z = []; unfold gd; rw [if_neg (by rw [← HGe.out]; simp)]
        rw [this]; exact World.ownsRow_nil _ _ _ _
end Go.Proofs.Ytjmgnljjeogdlaa.W

/-
  Terms developed: the model, and what bounds the variables that are made on the way. No program here.
-/
namespace Go.Proofs.Ytjmgnljjeogdlaa.W
open Go.ChangeShapes Go.WideShapes Go.ChangeAt Go.RowKit
set_option linter.unusedVariables false

def gB (B : Int) (x : Cc) : Prop := (x.k = 1 → 0 ≤ x.n ∧ x.n ≤ B) ∧ (x.k = 2 → -1000000 ≤ x.n ∧ x.n ≤ 1000000) ∧ (3 ≤ x.k → x.n = 0) ∧ (1 ≤ x.k ∧ x.k ≤ 7)
def F.okB (B : Int) : F → Prop
  | .nil => True
  | .cons x k r => gB B x ∧ k.len = ar x.k ∧ k.okB B ∧ r.okB B
theorem gB_of {x : Cc} (h : goodC x = true) : gB 99 x := by
  unfold goodC at h
  unfold gB
  by_cases h1 : x.k = 1
  · rw [if_pos h1] at h; unfold inB at h; simp at h; omega
  · rw [if_neg h1] at h
    by_cases h2 : x.k = 2
    · rw [if_pos h2] at h; unfold inB at h; simp at h; omega
    · rw [if_neg h2] at h; unfold inB at h; simp at h; omega
theorem gB_mono {B B' : Int} {x : Cc} (h : gB B x) (hb : B ≤ B') : gB B' x := ⟨fun e => by have := h.1 e; omega, h.2⟩
theorem okB_of : ∀ {a : F}, a.ok → a.okB 99
  | .nil, _ => trivial
  | .cons x k r, h => ⟨gB_of h.1, h.2.1, okB_of h.2.2.1, okB_of h.2.2.2⟩
theorem okB_mono {B B' : Int} (hb : B ≤ B') : ∀ {a : F}, a.okB B → a.okB B'
  | .nil, _ => trivial
  | .cons x k r, h => ⟨gB_mono h.1 hb, h.2.1, okB_mono hb h.2.2.1, okB_mono hb h.2.2.2⟩
theorem gB_w {B : Int} (hb : B ≤ 900000) {x : Cc} (h : gB B x) : V.goodC x = true := by
  obtain ⟨h1, h2, h3, h4⟩ := h
  unfold V.goodC
  by_cases e1 : x.k = 1
  · rw [if_pos e1]; have := h1 e1; unfold inB; simp; omega
  · rw [if_neg e1]
    by_cases e2 : x.k = 2
    · rw [if_pos e2]; have := h2 e2; unfold inB; simp; omega
    · rw [if_neg e2]; have := h3 (by omega); unfold inB; simp; omega
theorem okB_w {B : Int} (hb : B ≤ 900000) : ∀ {a : F}, a.okB B → a.okw
  | .nil, _ => trivial
  | .cons x k r, h => ⟨gB_w hb h.1, h.2.1, okB_w hb h.2.2.1, okB_w hb h.2.2.2⟩
theorem shc_B {B : Int} (d : Nat) (f : Nat) {x : Cc} (h : gB B x) : gB (B + d) (shc (d : Int) f x) ∧ (shc (d : Int) f x).k = x.k := by
  unfold shc
  split
  · rename_i h1
    refine ⟨⟨fun _ => ?_, fun e => ?_, fun e => ?_, h.2.2.2⟩, rfl⟩
    · have := h.1 h1.1; simp only; omega
    · simp only at e; omega
    · simp only at e; omega
  · exact ⟨gB_mono h (by omega), rfl⟩
theorem shf_B {B : Int} (d : Nat) : ∀ (a : F) (pk : Int) (f i : Nat), a.okB B → (shf (d : Int) pk f i a).okB (B + d)
  | .nil, _, _, _, _ => trivial
  | .cons x k r, pk, f, i, h => by
    have h1 := shc_B (B := B) d (f + binds pk i) h.1
    exact ⟨h1.1, by rw [shf_len, h1.2]; exact h.2.1, shf_B d k _ _ _ h.2.2.1, shf_B d r _ _ _ h.2.2.2⟩
theorem sbf_B {B : Int} (K D : Nat) (sx : Cc) (sk : F) (hB : 0 ≤ B) (hs : (F.cons sx sk .nil).okB B) : ∀ (a : F) (pk : Int) (d i : Nat), a.okB B → d + a.flat.length ≤ D → (sbf K sx sk pk d i a).okB (B + D)
  | .nil, _, _, _, _, _ => trivial
  | .cons x k r, pk, d, i, h, hD => by
    have hbi := binds_le pk i
    simp only [F.flat, List.length_cons, List.length_append] at hD
    rw [sbf_cons]
    have hr := sbf_B K D sx sk hB hs r pk d (i + 1) h.2.2.2 (by omega)
    by_cases hx : x.k = 1
    · by_cases he : x.n = (K : Int) + ((d + binds pk i : Nat) : Int)
      · have e1 : sbr K sx (d + binds pk i) x = shc ((d + binds pk i : Nat) : Int) 0 sx := by unfold sbr; rw [if_pos hx, if_pos he]
        have e2 : sbk K sx sk (d + binds pk i) x k = shf ((d + binds pk i : Nat) : Int) sx.k 0 0 sk := by unfold sbk; rw [if_pos hx, if_pos he]
        rw [e1, e2]
        have h1 := shc_B (B := B) (d + binds pk i) 0 hs.1
        exact ⟨gB_mono h1.1 (by omega), by rw [shf_len, h1.2]; exact hs.2.1, okB_mono (by omega) (shf_B (d + binds pk i) sk _ _ _ hs.2.2.1), hr⟩
      · have e2 : sbk K sx sk (d + binds pk i) x k = .nil := by unfold sbk; rw [if_pos hx, if_neg he]
        rw [e2]
        by_cases hl : (K : Int) + ((d + binds pk i : Nat) : Int) < x.n
        · have e1 : sbr K sx (d + binds pk i) x = ⟨1, x.n - 1⟩ := by unfold sbr; rw [if_pos hx, if_neg he, if_pos hl]
          rw [e1]
          have := h.1.1 hx
          refine ⟨⟨fun _ => by simp only; omega, fun e => by simp only at e; omega, fun e => by simp only at e; omega, by simp only; omega⟩, rfl, trivial, hr⟩
        · have e1 : sbr K sx (d + binds pk i) x = x := by unfold sbr; rw [if_pos hx, if_neg he, if_neg hl]
          rw [e1]
          exact ⟨gB_mono h.1 (by omega), by rw [hx]; rfl, trivial, hr⟩
    · have e1 : sbr K sx (d + binds pk i) x = x := by unfold sbr; rw [if_neg hx]
      have e2 : sbk K sx sk (d + binds pk i) x k = sbf K sx sk x.k (d + binds pk i) 0 k := by unfold sbk; rw [if_neg hx]
      rw [e1, e2]
      exact ⟨gB_mono h.1 (by omega), by rw [sbf_len]; exact h.2.1, sbf_B K D sx sk hB hs k _ _ _ h.2.2.1 (by omega), hr⟩
theorem putO_B {B : Int} {d z : Cc} {kd kz : F} (hB : 0 ≤ B) (hd : (F.cons d kd .nil).okB B) (hz : (F.cons z kz .nil).okB B) (hB9 : B ≤ 900000) (hl : kd.flat.length + 1 ≤ 600) {p : Cc × F} (h : putO d kd z kz = some p) : (F.cons p.1 p.2 .nil).okB (B + 600) ∧ p.2.flat.length + 1 ≤ 600 := by
  unfold putO at h
  split at h
  · rename_i h6
    simp only [Option.some.injEq] at h
    subst h
    have h9 := sbf_B (B := B) 0 600 z kz hB hz (.cons d kd .nil) 0 0 0 hd (by simp [F.flat]; omega)
    have e0 : sbf 0 z kz 0 0 0 (.cons d kd .nil) = .cons (sbr 0 z 0 d) (sbk 0 z kz 0 d kd) .nil := by rw [sbf_cons, binds_0]; rfl
    rw [e0] at h9
    refine ⟨h9, ?_⟩
    have g9 := V.sbf_flat 0 z kz (.cons d kd .nil) 0 0 0 (okB_w hB9 hd)
    have g10 : usf (0 + 0) 0 0 (.cons d kd .nil) = us1 0 d kd := by rw [usf_cons, binds_0]; simp [usf]
    rw [g10, e0] at g9
    simp [F.flat] at g9
    simp only
    omega
  · cases h

/-- Terms one behind the other, each developed. -/
def dvF : F → Option F
  | .nil => some .nil
  | .cons y ky r => match dvF ky with
    | none => none
    | some ky' => if ky'.flat.length + 1 ≤ 600 then (match (if redx y ky = true then ctrO y ky' else some (y, ky')) with | none => none | some p => (dvF r).map fun r' => F.cons p.1 p.2 r') else none
/-- A term developed. -/
def dv (x : Cc) (k : F) : Option (Cc × F) := match dvF k with
  | none => none
  | some k' => if k'.flat.length + 1 ≤ 600 then (if redx x k = true then ctrO x k' else some (x, k')) else none
theorem dvF_cons (y : Cc) (ky r : F) : dvF (.cons y ky r) = match dv y ky with | none => none | some p => (dvF r).map fun r' => F.cons p.1 p.2 r' := by
  rw [dvF]
  unfold dv
  cases dvF ky with
  | none => rfl
  | some ky' =>
    simp only
    by_cases h : ky'.flat.length + 1 ≤ 600
    · rw [if_pos h, if_pos h]
    · rw [if_neg h, if_neg h]
theorem dvF_len : ∀ {a a' : F}, dvF a = some a' → a'.len = a.len
  | .nil, a', h => by simp only [dvF, Option.some.injEq] at h; subst h; rfl
  | .cons y ky r, a', h => by
    rw [dvF_cons] at h
    split at h
    · cases h
    · cases hr : dvF r with
      | none => rw [hr] at h; cases h
      | some r' =>
        rw [hr] at h
        simp only [Option.map_some, Option.some.injEq] at h
        subst h
        simp [F.len, dvF_len hr]
theorem dvF_split {y : Cc} {ky r a' : F} (h : dvF (.cons y ky r) = some a') : ∃ p r', dv y ky = some p ∧ dvF r = some r' ∧ a' = .cons p.1 p.2 r' := by
  rw [dvF_cons] at h
  split at h
  · cases h
  · rename_i p hp
    cases hr : dvF r with
    | none => rw [hr] at h; cases h
    | some r' =>
      rw [hr] at h
      simp only [Option.map_some, Option.some.injEq] at h
      exact ⟨p, r', hp, rfl, h.symm⟩
theorem dv_plain {y : Cc} {ky : F} {p : Cc × F} (hr : redx y ky = false) (h : dv y ky = some p) : p.1 = y ∧ dvF ky = some p.2 := by
  unfold dv at h
  split at h
  · cases h
  · rename_i k' hk'
    split at h
    · rw [if_neg (by rw [hr]; simp)] at h
      simp only [Option.some.injEq] at h
      subst h
      exact ⟨rfl, hk'⟩
    · cases h
/-- A redex whose parts were developed. -/
inductive RedW (x : Cc) (k : F) (B : Int) : Prop
  | app (y d z : Cc) (kd kz : F) (hx : x.k = 4) (hk : k = .cons y (.cons d kd .nil) (.cons z kz .nil)) (hy : y.k = 3) (hd : (F.cons d kd .nil).okB B) (hz : (F.cons z kz .nil).okB B)
  | lett (y d : Cc) (ky kd : F) (hx : x.k = 7) (hk : k = .cons y ky (.cons d kd .nil)) (hy : (F.cons y ky .nil).okB B) (hd : (F.cons d kd .nil).okB B)
  | add (y z : Cc) (hx : x.k = 5) (hk : k = .cons y .nil (.cons z .nil .nil)) (hy : y.k = 2) (hz : z.k = 2) (hyn : -1000000 ≤ y.n ∧ y.n ≤ 1000000) (hzn : -1000000 ≤ z.n ∧ z.n ≤ 1000000) (hs : inB (y.n + z.n) (-1000000) 1000000 = true)
  | iff (y z u : Cc) (kz ku : F) (hx : x.k = 6) (hk : k = .cons y .nil (.cons z kz (.cons u ku .nil))) (hy : y.k = 2) (hz : (F.cons z kz .nil).okB B) (hu : (F.cons u ku .nil).okB B)
theorem dvF_nil {a' : F} (h : dvF .nil = some a') : a' = .nil := by simp only [dvF, Option.some.injEq] at h; exact h.symm
theorem dv_red {x : Cc} {k k' : F} {B : Int} (hok : okT x k) (hr : redx x k = true) (h : dvF k = some k') (hB : k'.okB B) : RedW x k' B := by
  cases red_of hok hr with
  | app y d z kd kz hx hk' hy hd hz =>
    subst hk'
    obtain ⟨p, r', h1, h2, rfl⟩ := dvF_split h
    obtain ⟨e1, e2⟩ := dv_plain (by simp [redx, hy]) h1
    obtain ⟨q, r2, h3, h4, e3⟩ := dvF_split e2
    obtain rfl := dvF_nil h4
    obtain ⟨q2, r3, h5, h6, rfl⟩ := dvF_split h2
    obtain rfl := dvF_nil h6
    obtain ⟨p1, p2⟩ := p
    simp only at e1 e3 hB ⊢
    subst e1 e3
    exact .app _ q.1 q2.1 q.2 q2.2 hx rfl hy hB.2.2.1 hB.2.2.2
  | lett y d ky kd hx hk' hy hd =>
    subst hk'
    obtain ⟨p, r', h1, h2, rfl⟩ := dvF_split h
    obtain ⟨q2, r3, h5, h6, rfl⟩ := dvF_split h2
    obtain rfl := dvF_nil h6
    exact .lett p.1 q2.1 p.2 q2.2 hx rfl ⟨hB.1, hB.2.1, hB.2.2.1, trivial⟩ hB.2.2.2
  | add y z hx hk' hy hz hyn hzn hs =>
    subst hk'
    obtain ⟨p, r', h1, h2, rfl⟩ := dvF_split h
    obtain ⟨e1, e2⟩ := dv_plain (by simp [redx, hy]) h1
    obtain ⟨q2, r3, h5, h6, rfl⟩ := dvF_split h2
    obtain rfl := dvF_nil h6
    obtain ⟨e3, e4⟩ := dv_plain (by simp [redx, hz]) h5
    obtain ⟨p1, p2⟩ := p
    obtain ⟨q1, q2⟩ := q2
    have e5 := dvF_nil e2
    have e6 := dvF_nil e4
    simp only at e1 e3 e5 e6 ⊢
    subst e1 e3 e5 e6
    exact .add _ _ hx rfl hy hz hyn hzn hs
  | iff y z u kz ku hx hk' hy hz hu =>
    subst hk'
    obtain ⟨p, r', h1, h2, rfl⟩ := dvF_split h
    obtain ⟨e1, e2⟩ := dv_plain (by simp [redx, hy]) h1
    obtain ⟨q2, r3, h5, h6, rfl⟩ := dvF_split h2
    obtain ⟨q3, r4, h7, h8, rfl⟩ := dvF_split h6
    obtain rfl := dvF_nil h8
    obtain ⟨p1, p2⟩ := p
    have e5 := dvF_nil e2
    simp only at e1 e5 hB ⊢
    subst e1 e5
    exact .iff _ q2.1 q3.1 q2.2 q3.2 hx rfl hy ⟨hB.2.2.2.1, hB.2.2.2.2.1, hB.2.2.2.2.2.1, trivial⟩ hB.2.2.2.2.2.2
theorem ctrO_B {x : Cc} {k : F} {B : Int} (h : RedW x k B) (hB : 0 ≤ B) (hB9 : B ≤ 900000) (hl : k.flat.length + 1 ≤ 600) {p : Cc × F} (hp : ctrO x k = some p) : (F.cons p.1 p.2 .nil).okB (B + 600) ∧ p.2.flat.length + 1 ≤ 600 := by
  cases h with
  | app y d z kd kz hx hk' hy hd hz =>
    subst hk'
    have e1 : ctrO x (.cons y (.cons d kd .nil) (.cons z kz .nil)) = putO d kd z kz := by simp [ctrO, hx]
    rw [e1] at hp
    simp [F.flat] at hl
    exact putO_B hB hd hz hB9 (by omega) hp
  | lett y d ky kd hx hk' hy hd =>
    subst hk'
    have e1 : ctrO x (.cons y ky (.cons d kd .nil)) = putO d kd y ky := by simp [ctrO, hx]
    rw [e1] at hp
    simp [F.flat] at hl
    exact putO_B hB hd hy hB9 (by omega) hp
  | add y z hx hk' hy hz hyn hzn hs =>
    subst hk'
    have e1 : ctrO x (.cons y .nil (.cons z .nil .nil)) = some (⟨2, y.n + z.n⟩, .nil) := by simp [ctrO, hx]
    rw [e1] at hp
    simp only [Option.some.injEq] at hp
    subst hp
    unfold inB at hs
    simp at hs
    exact ⟨⟨⟨fun e => by simp at e, fun _ => by simp only; omega, fun e => by simp at e, by simp⟩, rfl, trivial, trivial⟩, by simp [F.flat]⟩
  | iff y z u kz ku hx hk' hy hz hu =>
    subst hk'
    have e1 : ctrO x (.cons y .nil (.cons z kz (.cons u ku .nil))) = some (if y.n = 0 then (z, kz) else (u, ku)) := by simp [ctrO, hx]
    rw [e1] at hp
    simp only [Option.some.injEq] at hp
    subst hp
    simp [F.flat] at hl
    split
    · exact ⟨okB_mono (by omega) hz, by simp only; omega⟩
    · exact ⟨okB_mono (by omega) hu, by simp only; omega⟩
theorem dvF_B : ∀ {a a' : F}, a.ok → a.flat.length ≤ 600 → dvF a = some a' → a'.okB (99 + 600 * a.flat.length)
  | .nil, a', _, _, h => by rw [dvF_nil h]; trivial
  | .cons y ky r, a', hok, hl, h => by
    have hf : (F.cons y ky r).flat.length = ky.flat.length + r.flat.length + 1 := by simp [F.flat]
    rw [hf] at hl ⊢
    obtain ⟨p, r', h1, h2, rfl⟩ := dvF_split h
    have hr := dvF_B hok.2.2.2 (by omega) h2
    unfold dv at h1
    split at h1
    · cases h1
    · rename_i k' hk'
      have hk := dvF_B hok.2.2.1 (by omega) hk'
      split at h1
      · rename_i h6
        by_cases hrd : redx y ky = true
        · rw [if_pos hrd] at h1
          have := (ctrO_B (dv_red ⟨hok.1, hok.2.1, hok.2.2.1⟩ hrd hk' hk) (by omega) (by omega) h6 h1).1
          exact ⟨gB_mono this.1 (by omega), this.2.1, okB_mono (by omega) this.2.2.1, okB_mono (by omega) hr⟩
        · rw [if_neg hrd] at h1
          simp only [Option.some.injEq] at h1
          subst h1
          exact ⟨gB_mono (gB_of hok.1) (by omega), by rw [dvF_len hk']; exact hok.2.1, okB_mono (by omega) hk, okB_mono (by omega) hr⟩
      · cases h1

theorem okB_T {B : Int} (hb : B ≤ 900000) {x : Cc} {k : F} (h : (F.cons x k .nil).okB B) : V.okT x k := ⟨gB_w hb h.1, h.2.1, okB_w hb h.2.2.1⟩
/-- Such a redex contracted by the program .. -/
theorem contracted_w {B : Int} (hB : B ≤ 900000) (b o c : Nat) (x : Cc) (k : F) (w : World) (hk : RedW x k B) (L : Nat) (hL : L = k.flat.length + 1) (hl : L ≤ 600) (hc : L ≤ c) (h : CRowAt w b o (x :: k.flat)) :
    Calls Try.prog 71 #[.slice (some ⟨b, o, none⟩) L c] w fun e w' => RU w ((ctrO x k).map fun p => p.1 :: p.2.flat) e w' := by
  cases hk with
  | app y d z kd kz hx hk' hy hd hz =>
    subst hk'
    have e1 : ctrO x (.cons y (.cons d kd .nil) (.cons z kz .nil)) = putO d kd z kz := by simp [ctrO, hx]
    rw [e1]
    have e2 : x :: (F.cons y (.cons d kd .nil) (.cons z kz .nil)).flat = [x, y] ++ ((d :: kd.flat) ++ (z :: kz.flat)) := by simp [F.flat]
    rw [e2] at h
    exact V.contracted_app b o c x y d z kd kz w hx (okB_T hB hd) (okB_T hB hz) L (by rw [hL]; simp [F.flat]; omega) hl hc h
  | lett y d ky kd hx hk' hy hd =>
    subst hk'
    have e1 : ctrO x (.cons y ky (.cons d kd .nil)) = putO d kd y ky := by simp [ctrO, hx]
    rw [e1]
    have e2 : x :: (F.cons y ky (.cons d kd .nil)).flat = [x] ++ ((y :: ky.flat) ++ (d :: kd.flat)) := by simp [F.flat]
    rw [e2] at h
    exact V.contracted_let b o c x y d ky kd w hx (okB_T hB hy) (okB_T hB hd) L (by rw [hL]; simp [F.flat]; omega) hl hc h
  | add y z hx hk' hy hz hyn hzn hs =>
    subst hk'
    have e1 : ctrO x (.cons y .nil (.cons z .nil .nil)) = some (⟨2, y.n + z.n⟩, .nil) := by simp [ctrO, hx]
    rw [e1]
    have e2 : x :: (F.cons y .nil (.cons z .nil .nil)).flat = [x, y, z] := by simp [F.flat]
    rw [e2] at h
    obtain rfl : L = 3 := by rw [hL]; simp [F.flat]
    exact contracted_add b o c x y z w hx hyn hzn h
  | iff y z u kz ku hx hk' hy hz hu =>
    subst hk'
    have e1 : (ctrO x (.cons y .nil (.cons z kz (.cons u ku .nil)))).map (fun p => p.1 :: p.2.flat) = some (if y.n = 0 then z :: kz.flat else u :: ku.flat) := by
      simp only [ctrO, hx]
      by_cases hy0 : y.n = 0
      · simp [hy0]
      · simp [hy0]
    rw [e1]
    have e2 : x :: (F.cons y .nil (.cons z kz (.cons u ku .nil))).flat = [x, y] ++ ((z :: kz.flat) ++ (u :: ku.flat)) := by simp [F.flat]
    rw [e2] at h
    exact V.contracted_if b o c x y z u kz ku w hx (okB_T hB hz) (okB_T hB hu) L (by rw [hL]; simp [F.flat]; omega) hl hc h

/-- .. and by the specification. -/
theorem l4Contract_w {B : Int} (hB : B ≤ 900000) (x : Cc) (k : F) (s : Value) (P : Nat → Prop) (w : World) (hk : RedW x k B) (hl : k.flat.length + 1 ≤ 600) (hT : KidT w P k s) :
    Calls Try.prog 69 #[.agg #[.int .i64 x.k, .int .i64 x.n, s]] w fun e w' => TO w' (fun g => P g ∨ w.heap.size ≤ g) (ctrO x k) e ∧ Below w.heap.size w w' := by
  cases hk with
  | app y d z kd kz hx hk' hy hd hz =>
    subst hk'
    have e1 : ctrO x (.cons y (.cons d kd .nil) (.cons z kz .nil)) = putO d kd z kz := by simp [ctrO, hx]
    rw [e1]
    simp [F.flat] at hl
    exact V.l4Contract_app x y d z kd kz s P w hx hy (okB_T hB hd) (okB_T hB hz) (by omega) (by omega) hT
  | lett y d ky kd hx hk' hy hd =>
    subst hk'
    have e1 : ctrO x (.cons y ky (.cons d kd .nil)) = putO d kd y ky := by simp [ctrO, hx]
    rw [e1]
    simp [F.flat] at hl
    exact V.l4Contract_let x y d ky kd s P w hx (okB_T hB hy) (okB_T hB hd) (by omega) (by omega) hT
  | add y z hx hk' hy hz hyn hzn hs =>
    subst hk'
    have e1 : ctrO x (.cons y .nil (.cons z .nil .nil)) = some (⟨2, y.n + z.n⟩, .nil) := by simp [ctrO, hx]
    rw [e1]
    exact l4Contract_add x y z s P w hx hy hz hyn hzn hs hT
  | iff y z u kz ku hx hk' hy hz hu =>
    subst hk'
    have e1 : ctrO x (.cons y .nil (.cons z kz (.cons u ku .nil))) = some (if y.n = 0 then (z, kz) else (u, ku)) := by simp [ctrO, hx]
    rw [e1]
    exact l4Contract_if x y z u kz ku s P w hx hy hT
end Go.Proofs.Ytjmgnljjeogdlaa.W

/-
  A term at the front developed by the program: a contract of developedAhead. Conditions: good terms.
-/
namespace Go.Proofs.Ytjmgnljjeogdlaa.W
open Go.ChangeShapes Go.WideShapes Go.ChangeAt Go.RowKit
set_option linter.unusedVariables false

theorem dvF_app : ∀ a b : F, dvF (a.app b) = match dvF a with | none => none | some a' => (dvF b).map fun b' => a'.app b'
  | .nil, b => by show dvF b = (dvF b).map _; cases dvF b <;> rfl
  | .cons y ky r, b => by
    show dvF (.cons y ky (r.app b)) = _
    rw [dvF_cons, dvF_cons, dvF_app r b]
    cases dv y ky with
    | none => rfl
    | some p =>
      cases dvF r with
      | none => rfl
      | some r' => cases dvF b <;> rfl
theorem dv_600 {y : Cc} {ky : F} (hok : okT y ky) (hl : ky.flat.length + 1 ≤ 600) {p : Cc × F} (h : dv y ky = some p) : p.2.flat.length + 1 ≤ 600 := by
  unfold dv at h
  split at h
  · cases h
  · rename_i k' hk'
    split at h
    · rename_i h6
      by_cases hrd : redx y ky = true
      · rw [if_pos hrd] at h
        exact (ctrO_B (dv_red hok hrd hk' (dvF_B hok.2.2 (by omega) hk')) (by omega) (by omega) h6 h).2
      · rw [if_neg hrd] at h
        simp only [Option.some.injEq] at h
        subst h
        exact h6
    · cases h
/-- What developedAhead tells. -/
def DO (w w' : World) (b o c : Nat) (n : Nat) (m : Nat) (r : Option (Cc × F)) (e : Ending) : Prop :=
  match r with
  | none => ∃ a1 n1 c1 a2 n2 c2, e = .returned (.tuple #[.slice a1 n1 c1, .slice a2 n2 c2, .bool false])
  | some p => ∃ s' q, e = .returned (.tuple #[s', .slice (some ⟨b, q, none⟩) m (c - n), .bool true]) ∧ (0 < m → q = o + n * 2) ∧ w'.ownsRow w.heap.size 62 2 s' (p.1 :: p.2.flat).length (cv (p.1 :: p.2.flat))
def DAGoal (k : F) : Prop := ∀ (x : Cc) (r : List Cc) (b o c : Nat) (w : World), okT x k → (k.flat ++ r).length + 1 ≤ 600 → (k.flat ++ r).length + 1 ≤ c → CRowAt w b o (x :: (k.flat ++ r)) →
    Calls Try.prog 40 #[.slice (some ⟨b, o, none⟩) ((k.flat ++ r).length + 1) c] w fun e w' => DO w w' b o c (k.flat.length + 1) r.length (dv x k) e ∧ Below w.heap.size w w'

set_option maxRecDepth 20000 in
set_option maxHeartbeats 4000000 in
theorem developedAhead_any : ∀ k, DAGoal k := by
  apply F.rec_kids
  intro k ih x r b o c w hok hl hc h
  have IH := hide ih
  have HOk := hide hok
  have HRow := hide h
  obtain ⟨i0, hi0, hz0, hz1, hz2⟩ := infoPartsT infoCe
  have Hi := hide hi0
  have hp := h.2 0 (by simp)
  simp only [Nat.zero_mul, Nat.add_zero, List.getElem_cons_zero] at hp
  obtain ⟨p0, p1⟩ := hp
  have hbw := h.1
  obtain ⟨R, hR⟩ : ∃ R, R = dv x k := ⟨_, rfl⟩
  rw [← hR]
  have HR := hide hR
  have hka := hok.2.1
  obtain ⟨KN, hKN⟩ : ∃ KN, KN = ar x.k := ⟨_, rfl⟩
  have HKN : Hid (KN = k.len) := hide (by rw [hKN, hka])
  have HTb := hide (fun w' => termsBehind_any x.k w')
  rw [← hKN] at HTb
  obtain ⟨TL, hTL⟩ : ∃ TL, TL = (k.flat ++ r).length := ⟨_, rfl⟩
  rw [← hTL] at hl hc ⊢
  have HTL := hide hTL
  have hc1 : (1 : Int) ≤ (c : Int) := by omega
  have hl1 : (1 : Int) ≤ ((TL + 1 : Nat) : Int) := by omega
  have hlc : ((TL + 1 : Nat) : Int) ≤ (c : Int) := by omega
  have hl0 : (0 : Int) < ((TL + 1 : Nat) : Int) := by omega
  clear ih hok h hi0 hR hka hKN hTL
  by_cases hcc : c = 1
  · subst hcc
    obtain rfl : TL = 0 := by omega
    have hnil : k.flat ++ r = [] := List.eq_nil_of_length_eq_zero HTL.out.symm
    have hk0 : k = .nil := by
      cases k with
      | nil => rfl
      | cons y ky s => simp [F.flat] at hnil
    subst hk0
    have hr0 : r = [] := by simpa [F.flat] using hnil
    subst hr0
    obtain rfl : KN = 0 := HKN.out
    have hrd : redx x .nil = false := by
      cases h9 : redx x .nil with
      | false => rfl
      | true => exact absurd (red_of HOk.out h9) (fun h8 => by cases h8 with
        | app y d z kd kz hx hk' => cases hk'
        | lett y d ky kd hx hk' => cases hk'
        | add y z hx hk' => cases hk'
        | iff y z u kz ku hx hk' => cases hk')
    have hRe : R = some (x, .nil) := by rw [HR.out]; unfold dv; simp [dvF, F.flat, hrd]
    subst hRe
    have hfr := front HOk.out.1 HOk.out.2.1 HOk.out.2.2 []
    have HRx := hide (fun (w' : World) (hb : Below w.heap.size w w') => isRedex_any (some ⟨b, o, none⟩) 1 (x :: (F.nil.flat ++ [])) w' (by simp [F.flat]) hfr.2 (.inr ⟨b, o, rfl, HRow.out.below hb⟩))
    rw [hfr.1, hrd] at HRx
    have hlen : (x :: (F.nil.flat ++ [])).length = 0 + 1 := rfl
    rw [hlen] at HRx
    clear hnil hfr hrd hlen HR
    go_enter Try.func40, Try.ntmps40
    go_wp2_with fail
    obtain ⟨w0, hw0⟩ : ∃ w0, w0 = w.alloc (.cells #[.int .i64 x.k, .int .i64 x.n] 62) := ⟨_, rfl⟩
    rw [← hw0]
    have hB0 : Below w.heap.size w w0 := by rw [hw0]; exact (Below.refl _ _).alloc (Nat.le_refl _) _
    have HO0 : Hid (w0.ownsRow w.heap.size 62 2 (.slice (some ⟨w.heap.size, 0, none⟩) 1 1) 1 (cv [x])) := hide (by rw [hw0]; exact ⟨rfl, .inr ⟨w.heap.size, 1, _, rfl, Nat.le_refl _, heap_alloc_new _ _, Nat.le_refl _, by decide, rfl, rfl⟩⟩)
    clear hw0 p0 p1
    refine Calls.mono (HTb.out _) ?_
    rintro e w' ⟨rfl, rfl⟩
    clear HTb
    go_wp2_with fail
    refine wp_loop_rounds 1 ?_
    rw [rounds_succ]
    go_wp2_with fail
    refine Calls.mono (HRx.out _ hB0) ?_
    rintro e w2 ⟨rfl, hb2⟩
    go_wp2_with fail
    exact bodyPost_ret (v := .tuple #[.slice (some ⟨w.heap.size, 0, none⟩) 1 1, .slice (some ⟨b, o, none⟩) 0 0, .bool true]) (by simp [results, Try.results40, go_sem]) rfl ⟨⟨_, o, rfl, fun h => absurd h (Nat.lt_irrefl _), tOwn_keep HO0.out (fun k _ hk => hb2.block k hk)⟩, hB0.trans (hb2.mono hB0.size)⟩
  go_enter Try.func40, Try.ntmps40
  go_wp2_with fail
  obtain ⟨w0, hw0⟩ : ∃ w0, w0 = w.alloc (.cells #[.int .i64 x.k, .int .i64 x.n] 62) := ⟨_, rfl⟩
  rw [← hw0]
  have hB0 : Below w.heap.size w w0 := by rw [hw0]; exact (Below.refl _ _).alloc (Nat.le_refl _) _
  have HO0 : Hid (w0.ownsRow w.heap.size 62 2 (.slice (some ⟨w.heap.size, 0, none⟩) 1 1) 1 (cv [x])) := hide (by rw [hw0]; exact ⟨rfl, .inr ⟨w.heap.size, 1, _, rfl, Nat.le_refl _, heap_alloc_new _ _, Nat.le_refl _, by decide, rfl, rfl⟩⟩)
  clear hw0 p0 p1
  refine Calls.mono (HTb.out _) ?_
  rintro e w' ⟨rfl, rfl⟩
  clear HTb
  go_wp2_with fail
  go_loopw [5, 6, 23] (fun v rs i w' => ∃ (a bb a' : F) (q : Nat), k = a.app bb ∧ i = .int .i64 (a.len : Int) ∧ dvF a = some a' ∧ rs = .slice (some ⟨b, q, none⟩) ((bb.flat ++ r).length) (c - (a.flat.length + 1)) ∧ (0 < (bb.flat ++ r).length → q = o + (a.flat.length + 1) * 2) ∧ w'.ownsRow w.heap.size 62 2 v (x :: a'.flat).length (cv (x :: a'.flat)) ∧ (a'.flat.length ≤ 600 * a.len) ∧ Below w.heap.size w w') (fun _ _ i _ => KN - (intOf i).toNat)
  case atStart => exact ⟨.nil, k, .nil, o + 2, rfl, rfl, rfl, by rw [← HTL.out]; rfl, fun _ => by simp [F.flat], HO0.out, by simp [F.flat, F.len], hB0⟩
  case round =>
    obtain ⟨a, bb, a', q, hk, rfl, hda, rfl, hq, hOw, ha4, hB⟩ := hrel
    have HDa := hide hda
    have HQ := hide hq
    have HOw := hide hOw
    obtain ⟨oa, oc, rfl⟩ := iOwn_form hOw
    clear hda hq hOw HO0 hB0
    cases bb with
    | nil =>
      rw [F.app_nil] at hk
      subst hk
      have hKL := HKN.out
      rw [← hKL]
      have hfr := front HOk.out.1 HOk.out.2.1 HOk.out.2.2 r
      have hlen : (x :: (k.flat ++ r)).length = TL + 1 := by rw [HTL.out]; simp
      have HRx := hide (fun (w' : World) (hb : Below w.heap.size w w') => isRedex_any (some ⟨b, o, none⟩) c (x :: (k.flat ++ r)) w' (by omega) hfr.2 (.inr ⟨b, o, rfl, HRow.out.below hb⟩))
      rw [hfr.1, hlen] at HRx
      have hkf : k.flat.length ≤ 600 := by have := HTL.out; simp at this; omega
      obtain ⟨RL, hRL⟩ : ∃ RL, RL = r.length := ⟨_, rfl⟩
      have e8 : (F.nil.flat ++ r).length = RL := by rw [hRL]; rfl
      rw [e8] at HQ ⊢
      obtain ⟨KF, hKF⟩ : ∃ KF, KF = k.flat.length := ⟨_, rfl⟩
      rw [← hKF] at HQ ⊢
      obtain ⟨ON, hON⟩ : ∃ ON, ON = (x :: a'.flat).length := ⟨_, rfl⟩
      have hON1 : ON = a'.flat.length + 1 := by rw [hON]; rfl
      have HKF := hide hKF
      have HRL := hide hRL
      have HON := hide hON
      have hdv : R = if a'.flat.length + 1 ≤ 600 then (if redx x k = true then ctrO x a' else some (x, a')) else none := by rw [HR.out]; unfold dv; rw [HDa.out]
      rw [← hON1] at hdv
      have HDv := hide hdv
      have HWk := hide (fun hrd => dv_red HOk.out hrd HDa.out (dvF_B HOk.out.2.2 hkf HDa.out))
      rw [← hON] at HOw ⊢
      clear hfr hlen hKL hRL hKF hON e8 hdv hON1 IH ha4
      by_cases h6 : ON ≤ 600
      · have h6' : ¬ (600 : Int) < (ON : Int) := by omega
        go_wp2_with fail
        refine Calls.mono (HRx.out _ hB) ?_
        rintro e w2 ⟨rfl, hb2⟩
        have hB2 : Below w.heap.size w w2 := hB.trans (hb2.mono hB.size)
        have HO2 := hide (tOwn_keep HOw.out (fun k _ hk => hb2.block k hk))
        clear HRx hb2 HOw
        cases hrd : redx x k with
        | false =>
          have hRe : R = some (x, a') := by rw [HDv.out, if_pos h6, if_neg (by rw [hrd]; simp)]
          subst hRe
          clear hrd
          go_wp2_with fail
          refine bodyPost_ret (v := .tuple #[.slice oa ON oc, .slice (some ⟨b, q, none⟩) RL (c - (KF + 1)), .bool true]) (by simp [results, Try.results40, go_sem]) rfl ⟨⟨_, q, by rw [HRL.out, HKF.out], by rw [← HRL.out, ← HKF.out]; exact HQ.out, ?_⟩, hB2⟩
          have h := HO2.out
          rw [HON.out] at h ⊢
          exact h
        | true =>
          have hRe : R = ctrO x a' := by rw [HDv.out, if_pos h6, if_pos hrd]
          have hred := HWk.out hrd
          have hO2 : w2.ownsRow w.heap.size 62 2 (.slice oa ON oc) (x :: a'.flat).length (cv (x :: a'.flat)) := by have h := HO2.out; rw [HON.out] at h ⊢; exact h
          obtain ⟨g, cap, he, hgb, hgl⟩ := tOwn_some hO2 (by simp)
          obtain ⟨ad2, c2, he2, hc2, hrow2⟩ := cOwn_row hO2
          simp only [Value.slice.injEq] at he he2
          obtain ⟨rfl, -, rfl⟩ := he
          obtain ⟨rfl, -, rfl⟩ := he2
          have hrow3 : CRowAt w2 g 0 (x :: a'.flat) := by
            rcases hrow2 with h0 | ⟨b', o', h1, h2⟩
            · cases h0
            · simp only [Option.some.injEq, Addr.mk.injEq] at h1
              obtain ⟨rfl, rfl, -⟩ := h1
              exact h2
          have HCt := hide (contracted_w (B := 99 + 600 * k.flat.length) (by omega) g 0 oc x a' w2 hred ON (by rw [HON.out]; rfl) h6 (by rw [HON.out]; exact hc2) hrow3)
          rw [← hRe] at HCt
          clear hRe hred hO2 hrow2 hrow3 hc2 hrd
          go_wp2_with fail
          refine Calls.mono HCt.out ?_
          rintro e w3 ⟨s3, rfl, ho3, hb3⟩
          have hB3 : Below w.heap.size w w3 := hB2.trans (hb3.mono hB2.size)
          have HO3 := hide (iOwn_lower ho3 hB2.size)
          obtain ⟨a3, c3, rfl⟩ := iOwn_form ho3
          clear HCt ho3 hb3
          cases R with
          | none =>
            go_wp2_with fail
            exact bodyPost_ret (v := .tuple #[.slice a3 0 c3, .slice (some ⟨b, q, none⟩) RL (c - (KF + 1)), .bool false]) (by simp [results, Try.results40, go_sem]) rfl ⟨⟨_, _, _, _, _, _, rfl⟩, hB3⟩
          | some p =>
            simp only [Option.map_some, Option.getD_some, Option.isSome_some] at HO3 ⊢
            obtain ⟨PN, hPN⟩ : ∃ PN, PN = (p.1 :: p.2.flat).length := ⟨_, rfl⟩
            rw [← hPN] at HO3 ⊢
            have HPN := hide hPN
            clear hPN
            go_wp2_with fail
            refine bodyPost_ret (v := .tuple #[.slice a3 PN c3, .slice (some ⟨b, q, none⟩) RL (c - (KF + 1)), .bool true]) (by simp [results, Try.results40, go_sem]) rfl ⟨⟨_, q, by rw [HRL.out, HKF.out], by rw [← HRL.out, ← HKF.out]; exact HQ.out, ?_⟩, hB3⟩
            have h := HO3.out
            rw [HPN.out] at h ⊢
            exact h
      · have h6' : (600 : Int) < (ON : Int) := by omega
        have hRe : R = none := by rw [HDv.out, if_neg h6]
        subst hRe
        go_wp2_with fail
        exact bodyPost_ret (v := .tuple #[.slice none 0 0, .slice none 0 0, .bool false]) (by simp [results, Try.results40, go_sem]) rfl ⟨⟨_, _, _, _, _, _, rfl⟩, hB⟩
    | cons y ky bb =>
      have hO := HOk.out.2.2
      rw [hk] at hO
      obtain ⟨gy, ly, oy, orr⟩ := ((F.app_ok _ _).1 hO).2
      have hI := IH.out
      rw [hk] at hI
      have hfk : k.flat = a.flat ++ (y :: (ky.flat ++ bb.flat)) := by rw [hk, F.app_flat]; simp [F.flat]
      have hTl : TL = a.flat.length + (ky.flat ++ (bb.flat ++ r)).length + 1 := by rw [HTL.out, hfk]; simp; omega
      have hkl2 : KN = a.len + (bb.len + 1) := by rw [HKN.out, hk, F.app_len]; rfl
      have hlt' : (a.len : Int) < (KN : Int) := by omega
      have e9 : ((F.cons y ky bb).flat ++ r).length = (ky.flat ++ (bb.flat ++ r)).length + 1 := by simp [F.flat]
      have hqe := HQ.out (by rw [e9]; omega)
      have hrw : CRowAt w b (o + (a.flat.length + 1) * 2) (y :: (ky.flat ++ (bb.flat ++ r))) := by
        have h1 := HRow.out
        rw [hfk, show x :: (a.flat ++ (y :: (ky.flat ++ bb.flat)) ++ r) = (x :: a.flat) ++ (y :: (ky.flat ++ (bb.flat ++ r))) by simp] at h1
        have := h1.back
        simpa using this
      rw [hqe, e9]
      have HCl := hide (fun (w' : World) (hb : Below w.heap.size w w') => F.all_at hI y (bb.flat ++ r) b (o + (a.flat.length + 1) * 2) (c - (a.flat.length + 1)) w' ⟨gy, ly, oy⟩ (by omega) (by omega) (hrw.below hb))
      have HSn := hide (hk.trans (F.app_snoc a ky bb y))
      have HDl : Hid ((a.app (.cons y ky .nil)).len = a.len + 1) := hide (by rw [F.app_len]; rfl)
      have HFl : Hid ((a.app (.cons y ky .nil)).flat.length = a.flat.length + (ky.flat.length + 1)) := hide (by rw [F.app_flat]; simp [F.flat])
      have HDn : Hid (dv y ky = none → R = none) := hide (fun hv => by
        rw [HR.out]; unfold dv; rw [hk, dvF_app, HDa.out]; simp only; rw [dvF_cons, hv]; rfl)
      have HDs : Hid (∀ p, dv y ky = some p → dvF (a.app (.cons y ky .nil)) = some (a'.app (.cons p.1 p.2 .nil))) := hide (fun p hv => by
        rw [dvF_app, HDa.out]; simp only; rw [dvF_cons, hv]; rfl)
      have hky : ky.flat.length + 1 ≤ 600 := by have h9 := hTl; simp at h9; omega
      obtain ⟨CM, hCM⟩ : ∃ CM, CM = dv y ky := ⟨_, rfl⟩
      rw [← hCM] at HCl HDn HDs
      obtain ⟨AL, hAL⟩ : ∃ AL, AL = a.len := ⟨_, rfl⟩
      obtain ⟨AF, hAF⟩ : ∃ AF, AF = a.flat.length := ⟨_, rfl⟩
      obtain ⟨RF, hRF⟩ : ∃ RF, RF = (ky.flat ++ (bb.flat ++ r)).length := ⟨_, rfl⟩
      rw [← hAL] at hlt' HDl ⊢
      rw [← hAF] at HCl HFl hTl ⊢
      rw [← hRF] at HCl hTl ⊢
      have HAL := hide hAL
      have hAL3 : AL ≤ 3 := by have h1 := ar_le x.k; have h2 := HOk.out.2.1; have h3 := HKN.out; omega
      rw [← hAL] at ha4
      obtain ⟨ON, hON⟩ : ∃ ON, ON = (x :: a'.flat).length := ⟨_, rfl⟩
      have hON1 : ON = a'.flat.length + 1 := by rw [hON]; rfl
      rw [← hON] at HOw ⊢
      have HON := hide hON
      obtain ⟨KF, hKF⟩ : ∃ KF, KF = ky.flat.length := ⟨_, rfl⟩
      rw [← hKF] at HCl HFl hky
      obtain ⟨ML, hML⟩ : ∃ ML, ML = (bb.flat ++ r).length := ⟨_, rfl⟩
      rw [← hML] at HCl
      have HML := hide hML
      have HP6 := hide (fun p hv => dv_600 ⟨gy, ly, oy⟩ (hKF ▸ hky) (p := p) (hCM ▸ hv))
      have hKFl : AF + (KF + 1) ≤ TL := by rw [hTl, hRF, hKF]; simp; omega
      have hON2 : ON ≤ 2000 := by omega
      clear hO gy ly oy orr hI hfk hkl2 hqe hrw hk hAL hCM e9 hON hKF hML hAF hRF hON1 hTl
      go_wp2_with fail
      refine Calls.mono (HCl.out _ hB) ?_
      rintro e w2 ⟨hdo, hb2⟩
      have hB2 : Below w.heap.size w w2 := hB.trans (hb2.mono hB.size)
      have HO2 := hide (tOwn_keep HOw.out (fun k _ hk => hb2.block k hk))
      have hol : ∀ q, (Value.slice oa ON oc).ownBlock = some q → w.heap.size ≤ q := fun q hq => (HOw.out.lt q hq).1
      have hs2 := hb2.size
      clear HCl HOw hb2
      cases CM with
      | none =>
        obtain ⟨a1, n1, c1, a2, n2, c2, rfl⟩ := hdo
        have hRn := HDn.out rfl
        subst hRn
        clear HDn HDs HP6
        go_wp2_with fail
        exact bodyPost_ret (v := .tuple #[.slice none 0 0, .slice none 0 0, .bool false]) (by simp [results, Try.results40, go_sem]) rfl ⟨⟨_, _, _, _, _, _, rfl⟩, hB2⟩
      | some p =>
        obtain ⟨s', q', rfl, hq', ho'⟩ := hdo
        have hDs := HDs.out p rfl
        have hp6 := HP6.out p rfl
        obtain ⟨g', cap', rfl, -, hg', hcs⟩ := tOwn_lies ho' (by simp)
        obtain ⟨PN, hPN⟩ : ∃ PN, PN = (p.1 :: p.2.flat).length := ⟨_, rfl⟩
        have hPN1 : PN = p.2.flat.length + 1 := by rw [hPN]; rfl
        have HNw : Hid (∀ j u, (cv (p.1 :: p.2.flat))[j]? = some u → w2.cell? ((⟨g', 0, none⟩ : Addr).add j) = some u) := hide (fun j u hu => by
          have h9 := hcs j u hu
          by_cases hj : j = 0
          · subst hj; simpa [Addr.add] using h9
          · simpa [Addr.add, hj] using h9)
        have HCv : Hid ((cv (p.1 :: p.2.flat)).length = PN * 2) := hide (by rw [cv_len, hPN])
        rw [← hPN] at ⊢
        have HPN := hide hPN
        have HDs2 := hide hDs
        have HQ2 := hide hq'
        clear HDn HDs HP6 hDs hq' ho' hcs hPN
        have hM1 : ON + PN ≤ maxLen := by unfold maxLen; omega
        have hM2 : (ON + PN) * 16 ≤ 140737488355328 := by omega
        have HPN1 := hide hPN1
        clear hPN1
        go_wp2_with (at_builtin; refine wpList_append_own _ rfl _ _ 23 rfl w.heap.size 62 i0 (.agg #[.int .i64 0, .int .i64 0]) 2 16 Try.underlying23 Hi.out hz0 hz1 hz2 rfl (by decide) _ ON (cv (x :: a'.flat)) rfl HO2.out ⟨g', 0, none⟩ PN cap' (cv (p.1 :: p.2.flat)) rfl HCv.out HNw.out (cv_one _) hM1 hM2 hB2.size ?_)
        intro v6 w6 hown6 hgr6 _
        have hB6 : Below w.heap.size w w6 := hB2.grown hgr6 hB2.size (fun q hq => hol q hq)
        obtain ⟨va, vc, rfl⟩ := iOwn_form hown6
        have HO6 := hide hown6
        clear hown6 hgr6 HNw HCv HO2
        go_wp2_with fail
        have e5 : x :: (a'.app (.cons p.1 p.2 .nil)).flat = (x :: a'.flat) ++ (p.1 :: p.2.flat) := by rw [F.app_flat]; simp [F.flat]
        refine ⟨⟨a.app (.cons y ky .nil), bb, a'.app (.cons p.1 p.2 .nil), q', HSn.out, by rw [HDl.out]; go_num, HDs2.out, ?_, fun hpos => ?_, ?_, ?_, hB6⟩, by simp [intOf]; omega⟩
        · rw [← HML.out, HFl.out, show c - (AF + 1) - (KF + 1) = c - (AF + (KF + 1) + 1) by omega]
        · rw [HQ2.out (by rw [HML.out]; exact hpos), HFl.out]; omega
        · rw [e5, List.length_append, ← HON.out, ← HPN.out, cv_app]; exact HO6.out
        · rw [F.app_flat, HDl.out]; simp [F.flat]; omega
end Go.Proofs.Ytjmgnljjeogdlaa.W
