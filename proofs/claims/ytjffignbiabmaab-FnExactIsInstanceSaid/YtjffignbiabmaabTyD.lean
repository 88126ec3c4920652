/-
  Types compared by the specification: the contract of l5Same. Conditions: as the theorem states.
-/
import Derived.Test.YtjffignbiabmaabTyS
import Derived.Test.YtjffignbiabmaabTyI
import Derived.Deep.RegionHeld3
namespace Go.Proofs.Ytjffignbiabmaab.Y
open Go.Proofs.Ytjffignbiabmaab.W
open Go.ChangeShapes Go.WideShapes Go.ChangeAt Go.RowKit
set_option linter.unusedVariables false

/-- Two rows that open with types are the same just if these are, and what is behind them. -/
theorem same_app {z u : Cc} {kz ku : F} (hz : (F.cons z kz .nil).ok) (hu : (F.cons u ku .nil).ok) (p q : List Cc) : sameC (z :: (kz.flat ++ p)) (u :: (ku.flat ++ q)) = (sameC (z :: kz.flat) (u :: ku.flat) && sameC p q) := by
  rw [Bool.eq_iff_iff, Bool.and_eq_true, sameC_iff, sameC_iff, sameC_iff]
  constructor
  · intro h
    have e1 := rt_back (.cons z kz .nil) p hz
    have e2 := rt_back (.cons u ku .nil) q hu
    simp only [F.len, F.flat, List.append_nil, List.cons_append] at e1 e2
    rw [h] at e1
    have e3 := e1.symm.trans e2
    simp only [Option.some.injEq, Prod.mk.injEq, F.cons.injEq, and_true] at e3
    obtain ⟨⟨rfl, rfl⟩, rfl⟩ := e3
    exact ⟨rfl, rfl⟩
  · rintro ⟨h1, rfl⟩
    simp only [List.cons.injEq] at h1
    rw [h1.1, h1.2]

def L5SGoal (ka : F) : Prop := ∀ (x y : Cc) (kb : F) (s1 s2 : Value) (P1 P2 : Nat → Prop) (w : World), (F.cons x ka .nil).ok → (F.cons y kb .nil).ok → ka.flat.length ≤ 60 → kb.flat.length ≤ 60 → KidT w P1 ka s1 → KidT w P2 kb s2 →
    Calls Try.prog 100 #[.agg #[.int .i64 x.k, .int .i64 x.n, s1], .agg #[.int .i64 y.k, .int .i64 y.n, s2]] w fun e w' => e = .returned (.bool (sameC (x :: ka.flat) (y :: kb.flat))) ∧ Below w.heap.size w w'

set_option maxRecDepth 20000 in
set_option maxHeartbeats 4000000 in
theorem l5Same_any : ∀ k, L5SGoal k := by
  apply F.rec_kids
  intro ka ih x y kb s1 s2 P1 P2 w hx hy hl1 hl2 hT1 hT2
  obtain ⟨gx, lx, okx, -⟩ : goodC x = true ∧ ka.len = ar x.k ∧ ka.ok ∧ F.nil.ok := hx
  obtain ⟨gy, ly, oky, -⟩ : goodC y = true ∧ kb.len = ar y.k ∧ kb.ok ∧ F.nil.ok := hy
  have IH := hide ih
  have HT1 := hide hT1
  have HT2 := hide hT2
  have HOx := hide okx
  have HOy := hide oky
  obtain ⟨ad1, c1, rfl⟩ := hT1.form
  obtain ⟨ad2, c2, rfl⟩ := hT2.form
  clear ih hT1 hT2 okx oky gx gy
  have hR0 : sameC (x :: ka.flat) (y :: kb.flat) = (decide (x.k = y.k) && decide (x.n = y.n) && sameC ka.flat kb.flat) := rfl
  obtain ⟨R, hR⟩ : ∃ R, R = sameC (x :: ka.flat) (y :: kb.flat) := ⟨_, rfl⟩
  rw [← hR] at hR0 ⊢
  clear hR
  have hkl1 := F.len_flat ka
  have hkl2 := F.len_flat kb
  by_cases hk : x.k = y.k
  · by_cases hn : x.n = y.n
    · rw [decide_eq_true hk, decide_eq_true hn] at hR0
      have hLL : ka.len = kb.len := by rw [lx, ly, hk]
      have HR0 := hide hR0
      obtain ⟨KL, hKL⟩ : ∃ KL, KL = ka.len := ⟨_, rfl⟩
      have HKL := hide hKL
      have HKL2 : Hid (KL = kb.len) := hide (by rw [hKL, hLL])
      rw [← hLL, ← hKL]
      rw [← hKL] at HT1 hkl1
      rw [← hLL, ← hKL] at HT2 hkl2
      obtain ⟨xk, xn⟩ := x
      obtain ⟨yk, yn⟩ := y
      simp only at *
      subst hk hn
      clear hR0 lx ly hLL hKL
      go_enter Try.func100, Try.ntmps100
      go_wp2_with fail
      obtain ⟨w0, hw0⟩ : ∃ w0, w0 = (w.alloc (.cells #[.int .i64 xk, .int .i64 xn, .slice ad1 KL c1] 64)).alloc (.cells #[.int .i64 xk, .int .i64 xn, .slice ad2 KL c2] 64) := ⟨_, rfl⟩
      have hB0 : Below w.heap.size w w0 := by rw [hw0]; exact ((Below.refl _ _).alloc (Nat.le_refl _) _).alloc (by simp) _
      have hb1 : w0.heap[w.heap.size]? = some (.cells #[.int .i64 xk, .int .i64 xn, .slice ad1 KL c1] 64) := by rw [hw0, heap_alloc_old _ _ (by simp)]; exact heap_alloc_new _ _
      have hb2 : w0.heap[w.heap.size + 1]? = some (.cells #[.int .i64 xk, .int .i64 xn, .slice ad2 KL c2] 64) := by rw [hw0]; have := heap_alloc_new (w.alloc (.cells #[.int .i64 xk, .int .i64 xn, .slice ad1 KL c1] 64)) (.cells #[.int .i64 xk, .int .i64 xn, .slice ad2 KL c2] 64); simpa using this
      have hsz0 : w0.heap.size = w.heap.size + 1 + 1 := by rw [hw0]; simp
      have a0 : w0.cell? ⟨w.heap.size, 2, none⟩ = some (.slice ad1 KL c1) := (cell_of_blk hb1 2).trans rfl
      have a1 : w0.cell? ⟨w.heap.size + 1, 2, none⟩ = some (.slice ad2 KL c2) := (cell_of_blk hb2 2).trans rfl
      rw [← hw0]
      clear hw0 hb1 hb2
      go_loopw [21] (fun i w' => ∃ (d d' p q : F), ka = d.app p ∧ kb = d'.app q ∧ d'.len = d.len ∧ i = .int .i64 (d.len : Int) ∧ R = sameC p.flat q.flat ∧ Below w0.heap.size w0 w') (fun i _ => KL - (intOf i).toNat)
      case atStart => exact ⟨.nil, .nil, ka, kb, rfl, rfl, rfl, rfl, by rw [HR0.out]; rfl, Below.refl _ _⟩
      case round =>
        obtain ⟨d, d', p, q, hka, hkb, hdd, rfl, hRR, hBr⟩ := hrel
        have HRR := hide hRR
        clear hRR
        have hB : Below w.heap.size w wr := hB0.trans (hBr.mono hB0.size)
        cases p with
        | nil =>
          have hq0 : q = .nil := F.len_0 (by
            have e1 := HKL.out; have e2 := HKL2.out
            rw [hka, F.app_nil] at e1
            rw [hkb, F.app_len] at e2
            omega)
          subst hq0
          have hRt : R = true := by rw [HRR.out]; rfl
          subst hRt
          have hdl : d.len = KL := by rw [HKL.out, hka, F.app_nil]
          rw [hdl]
          clear HRR HR0 hka hkb hdd hdl
          go_wp2_with fail
          go_ret
          exact ⟨rfl, hB⟩
        | cons z kz pz =>
          cases q with
          | nil =>
            have e1 := HKL.out; have e2 := HKL2.out
            rw [hka, F.app_len] at e1
            rw [hkb, F.app_len] at e2
            simp [F.len] at e1 e2
            omega
          | cons u ku qu =>
            have hlt : d.len < KL := by rw [HKL.out, hka, F.app_len]; simp [F.len]
            have hlt' : (d.len : Int) < (KL : Int) := by omega
            have hI := IH.out
            have hO1 := HOx.out
            have hO2 := HOy.out
            rw [hka] at hI hO1
            rw [hkb] at hO2
            have hf1 : kz.flat.length ≤ 60 := by have h := hl1; rw [hka, F.app_flat] at h; simp [F.flat] at h; omega
            have hf2 : ku.flat.length ≤ 60 := by have h := hl2; rw [hkb, F.app_flat] at h; simp [F.flat] at h; omega
            obtain ⟨g1, cap1, sz, he1, -, hg1, hTz, p0, p1, p2⟩ := KidT.kid (a := d) (k := kz) (r := pz) (x := z) (s := .slice ad1 KL c1) (by rw [← hka]; exact HT1.out)
            obtain ⟨g2, cap2, su, he2, -, hg2, hTu, q0, q1, q2⟩ := KidT.kid (a := d') (k := ku) (r := qu) (x := u) (s := .slice ad2 KL c2) (by rw [← hkb]; exact HT2.out)
            simp only [Value.slice.injEq] at he1 he2
            obtain ⟨rfl, -, rfl⟩ := he1
            obtain ⟨rfl, -, rfl⟩ := he2
            rw [hdd] at q0 q1 q2
            have b0 := (hBr.cell (p := ⟨w.heap.size, 2, none⟩) (by show w.heap.size < _; omega)).trans a0
            have b1 := (hBr.cell (p := ⟨w.heap.size + 1, 2, none⟩) (by show w.heap.size + 1 < _; omega)).trans a1
            have m0 := (hB.cell (p := ⟨g1, d.len * 3, none⟩) hg1).trans p0
            have m1 := (hB.cell (p := ⟨g1, d.len * 3 + 1, none⟩) hg1).trans p1
            have m2 := (hB.cell (p := ⟨g1, d.len * 3 + 2, none⟩) hg1).trans p2
            have n0 := (hB.cell (p := ⟨g2, d.len * 3, none⟩) hg2).trans q0
            have n1 := (hB.cell (p := ⟨g2, d.len * 3 + 1, none⟩) hg2).trans q1
            have n2 := (hB.cell (p := ⟨g2, d.len * 3 + 2, none⟩) hg2).trans q2
            obtain ⟨gz, lz, oz, -⟩ : goodC z = true ∧ kz.len = ar z.k ∧ kz.ok ∧ pz.ok := ((F.app_ok _ _).1 hO1).2
            obtain ⟨gu, lu, ou, -⟩ : goodC u = true ∧ ku.len = ar u.k ∧ ku.ok ∧ qu.ok := ((F.app_ok _ _).1 hO2).2
            have HC := hide (fun (w' : World) (hw' : Below w.heap.size w w') => F.all_at hI z u ku sz su P1 P2 w' ⟨gz, lz, oz, trivial⟩ ⟨gu, lu, ou, trivial⟩ hf1 hf2 (hTz.below hw') (hTu.below hw'))
            have hRs : R = (sameC (z :: kz.flat) (u :: ku.flat) && sameC pz.flat qu.flat) := by rw [HRR.out]; exact same_app ⟨gz, lz, oz, trivial⟩ ⟨gu, lu, ou, trivial⟩ _ _
            have HRs := hide hRs
            obtain ⟨zad, zc, rfl⟩ := hTz.form
            obtain ⟨uad, uc, rfl⟩ := hTu.form
            have HN1 := hide (hka.trans (F.app_snoc d kz pz z))
            have HN2 := hide (hkb.trans (F.app_snoc d' ku qu u))
            have HD1 : Hid ((d.app (.cons z kz .nil)).len = d.len + 1) := hide (by rw [F.app_len]; rfl)
            have HD2 : Hid ((d'.app (.cons u ku .nil)).len = d.len + 1) := hide (by rw [F.app_len, hdd]; rfl)
            clear p0 p1 p2 q0 q1 q2 hTz hTu hI hO1 hO2 hka hkb hdd gz lz oz gu lu ou hRs HRR
            obtain ⟨S1, hS1⟩ : ∃ S1, S1 = sameC (z :: kz.flat) (u :: ku.flat) := ⟨_, rfl⟩
            rw [← hS1] at HC HRs
            obtain ⟨al, hal⟩ : ∃ al, al = d.len := ⟨_, rfl⟩
            obtain ⟨zn, hzn⟩ : ∃ zn, zn = kz.len := ⟨_, rfl⟩
            obtain ⟨un, hun⟩ : ∃ un, un = ku.len := ⟨_, rfl⟩
            rw [← hal] at hlt hlt' m0 m1 m2 n0 n1 n2 HD1 HD2 ⊢
            rw [← hzn] at HC m2
            rw [← hun] at HC n2
            clear hS1 hal hzn hun
            have HB0 : Hid (Below w.heap.size w wr.drew) := hide (belowDrew hB)
            have hal0 : (0 : Int) ≤ (al : Int) := by omega
            go_wp2_with fail
            go_region_held3 (fun w' => w'.cell? ⟨w.heap.size, 2, none⟩ = some (.slice (some ⟨g1, 0, none⟩) KL c1) ∧ w'.cell? ⟨w.heap.size + 1, 2, none⟩ = some (.slice (some ⟨g2, 0, none⟩) KL c2) ∧ w'.cell? ⟨g1, al * 3, none⟩ = some (.int .i64 z.k) ∧ w'.cell? ⟨g1, al * 3 + 1, none⟩ = some (.int .i64 z.n) ∧ w'.cell? ⟨g1, al * 3 + 2, none⟩ = some (.slice zad zn zc) ∧ w'.cell? ⟨g2, al * 3, none⟩ = some (.int .i64 u.k) ∧ w'.cell? ⟨g2, al * 3 + 1, none⟩ = some (.int .i64 u.n) ∧ w'.cell? ⟨g2, al * 3 + 2, none⟩ = some (.slice uad un uc)) (go_keep)
              (first
                | (go_at_call 100; (with_reducible refine Calls.mono (HC.out _ HB0.out) ?_); rintro e wa ⟨rfl, hba⟩; have HBa := hide hba; (have fa0 := (hba.cell (p := ⟨w.heap.size, 2, none⟩) (show w.heap.size < wr.heap.size by have := hBr.size; omega)).trans b0; have fa1 := (hba.cell (p := ⟨w.heap.size + 1, 2, none⟩) (show w.heap.size + 1 < wr.heap.size by have := hBr.size; omega)).trans b1; have fa2 := (hba.cell (p := ⟨g1, al * 3, none⟩) (show g1 < wr.heap.size by have := hB.size; omega)).trans m0; have fa3 := (hba.cell (p := ⟨g1, al * 3 + 1, none⟩) (show g1 < wr.heap.size by have := hB.size; omega)).trans m1; have fa4 := (hba.cell (p := ⟨g1, al * 3 + 2, none⟩) (show g1 < wr.heap.size by have := hB.size; omega)).trans m2; have fa5 := (hba.cell (p := ⟨g2, al * 3, none⟩) (show g2 < wr.heap.size by have := hB.size; omega)).trans n0; have fa6 := (hba.cell (p := ⟨g2, al * 3 + 1, none⟩) (show g2 < wr.heap.size by have := hB.size; omega)).trans n1; have fa7 := (hba.cell (p := ⟨g2, al * 3 + 2, none⟩) (show g2 < wr.heap.size by have := hB.size; omega)).trans n2); clear hba))
            all_goals
              have hB5 : Below w.heap.size w wa := HB0.out.trans (HBa.out.mono HB0.out.size)
              have hBr5 : Below w0.heap.size w0 wa := hBr.trans ⟨HBa.out.os, HBa.out.tape, HBa.out.output, HBa.out.size, fun k hk => HBa.out.block k (show k < wr.heap.size by have := hBr.size; omega)⟩
              clear b0 b1 m0 m1 m2 n0 n1 n2 HC
              cases S1 with
              | false =>
                have hRf : R = false := by rw [HRs.out]; rfl
                subst hRf
                clear HRs HR0
                go_wp2_with fail
                go_ret
                exact ⟨rfl, hB5⟩
              | true =>
                have hRt : R = sameC pz.flat qu.flat := by rw [HRs.out, Bool.true_and]
                have HRt := hide hRt
                clear hRt HRs
                go_wp2_with fail
                exact ⟨⟨d.app (.cons z kz .nil), d'.app (.cons u ku .nil), pz, qu, HN1.out, HN2.out, by rw [HD1.out, HD2.out], by rw [HD1.out]; go_num, HRt.out, hBr5⟩, by simp [intOf]; omega⟩
    · have hRf : R = false := by rw [hR0, decide_eq_false hn]; simp
      subst hRf
      have hnb : (x.n == y.n) = false := by simpa using hn
      have hnb' : (x.n != y.n) = true := by simp [hn]
      rw [hk]
      clear hR0 hk lx ly
      go_enter Try.func100, Try.ntmps100
      go_wp2_with fail
      go_ret
      exact ⟨rfl, ((Below.refl _ _).alloc (Nat.le_refl _) _).alloc (by simp) _⟩
  · have hRf : R = false := by rw [hR0, decide_eq_false hk]; simp
    subst hRf
    have hnb : (x.k == y.k) = false := by simpa using hk
    have hnb' : (x.k != y.k) = true := by simp [hk]
    clear hR0 lx ly
    go_enter Try.func100, Try.ntmps100
    go_wp2_with fail
    go_ret
    exact ⟨rfl, ((Below.refl _ _).alloc (Nat.le_refl _) _).alloc (by simp) _⟩
end Go.Proofs.Ytjffignbiabmaab.Y
