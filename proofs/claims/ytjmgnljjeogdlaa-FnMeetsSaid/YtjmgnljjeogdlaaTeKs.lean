/-
  A redex contracted by the specification: a contract of l4Contract. Conditions: good terms of at most 600 cells.
-/
import Derived.Test.YtjmgnljjeogdlaaJaf
import Derived.Test.YtjmgnljjeogdlaaJah
import Derived.Test.YtjmgnljjeogdlaaTeQx
namespace Go.Proofs.Ytjmgnljjeogdlaa.W
open Go.ChangeShapes Go.WideShapes Go.ChangeAt Go.RowKit
set_option linter.unusedVariables false

/-- A tree that may be told, its kids in blocks of this kind. -/
def TO (w' : World) (P : Nat → Prop) (r : Option (Cc × F)) (e : Ending) : Prop :=
  match r with
  | some p => ∃ s', e = .returned (.tuple #[.agg #[.int .i64 p.1.k, .int .i64 p.1.n, s'], .bool true]) ∧ KidT w' P p.2 s'
  | none => e = .returned (.tuple #[.agg #[.int .i64 0, .int .i64 0, .slice none 0 0], .bool false])

set_option maxRecDepth 20000 in
set_option maxHeartbeats 2000000 in
theorem l4Contract_app (x y d z : Cc) (kd kz : F) (s : Value) (P : Nat → Prop) (w : World) (hx : x.k = 4) (hy : y.k = 3) (hd : okT d kd) (hz : okT z kz) (hl : kd.flat.length + 1 ≤ 600) (hlz : kz.flat.length + 1 ≤ 600) (hT : KidT w P (.cons y (.cons d kd .nil) (.cons z kz .nil)) s) :
    Calls Try.prog 69 #[.agg #[.int .i64 x.k, .int .i64 x.n, s]] w fun e w' => TO w' (fun g => P g ∨ w.heap.size ≤ g) (putO d kd z kz) e ∧ Below w.heap.size w w' := by
  obtain ⟨sad, sc, rfl⟩ := hT.form
  obtain ⟨g, rfl, hg, -, p0, p1, sy, p2, hTy⟩ := hT.first
  obtain ⟨q0, q1, sz, q2, hTz⟩ := hT.second
  obtain ⟨yad, yc, rfl⟩ := hTy.form
  obtain ⟨g2, rfl, hg2, -, r0, r1, sd, r2, hTd⟩ := hTy.first
  rw [hx]
  rw [hy] at p0
  have HP := hide (fun (w' : World) (hb : Below w.heap.size w w') => l3Put_any l3Subst_any d z kd kz sd sz 0 P P w' (good_n hd.1).1 (good_n hd.1).2 (good_n hz.1).1 (good_n hz.1).2 (by omega) hd.2.1 hd.2.2 hz.2.1 hz.2.2 hl hlz (hTd.below hb) (hTz.below hb))
  rw [show ((0 : Nat) : Int) = 0 from rfl] at HP
  obtain ⟨dad, dc, rfl⟩ := hTd.form
  obtain ⟨zad, zc, rfl⟩ := hTz.form
  have hKL : (F.cons y (.cons d kd .nil) (.cons z kz .nil)).len = 2 := rfl
  have hKL1 : (F.cons d kd .nil).len = 1 := rfl
  rw [hKL]
  rw [hKL1] at p2
  obtain ⟨DN, hDN⟩ : ∃ DN, DN = kd.len := ⟨_, rfl⟩
  obtain ⟨ZN, hZN⟩ : ∃ ZN, ZN = kz.len := ⟨_, rfl⟩
  rw [← hDN, ← hZN] at HP
  rw [← hDN] at r2
  rw [← hZN] at q2
  clear hT hTy hTd hTz hKL hKL1 hDN hZN
  obtain ⟨w0, hw0⟩ : ∃ w0, w0 = (w.alloc (.cells #[.int .i64 4, .int .i64 x.n, .slice (some ⟨g, 0, none⟩) 2 sc] 55)).alloc (.cells #[.int .i64 0, .int .i64 0, .slice none 0 0] 55) := ⟨_, rfl⟩
  have hB0 : Below w.heap.size w w0 := by rw [hw0]; exact ((Below.refl _ _).alloc (Nat.le_refl _) _).alloc (by simp) _
  have hbT : w0.heap[w.heap.size]? = some (.cells #[.int .i64 4, .int .i64 x.n, .slice (some ⟨g, 0, none⟩) 2 sc] 55) := by rw [hw0, heap_alloc_old _ _ (by simp)]; exact heap_alloc_new _ _
  have hbR : w0.heap[w.heap.size + 1]? = some (.cells #[.int .i64 0, .int .i64 0, .slice none 0 0] 55) := by rw [hw0]; have := heap_alloc_new (w.alloc (.cells #[.int .i64 4, .int .i64 x.n, .slice (some ⟨g, 0, none⟩) 2 sc] 55)) (.cells #[.int .i64 0, .int .i64 0, .slice none 0 0] 55); simpa using this
  have hsz0 : w0.heap.size = w.heap.size + 1 + 1 := by rw [hw0]; simp
  have HW0 := hide hw0
  clear hw0
  have e0 : w0.cell? ⟨w.heap.size, 2, none⟩ = some (.slice (some ⟨g, 0, none⟩) 2 sc) := (cell_of_blk hbT 2).trans rfl
  have e1 : w0.cell? ⟨g, 2, none⟩ = some (.slice (some ⟨g2, 0, none⟩) 1 yc) := (hB0.cell (p := ⟨g, 2, none⟩) hg).trans p2
  have e2 : w0.cell? ⟨g2, 0, none⟩ = some (.int .i64 d.k) := (hB0.cell (p := ⟨g2, 0, none⟩) hg2).trans r0
  have e3 : w0.cell? ⟨g2, 1, none⟩ = some (.int .i64 d.n) := (hB0.cell (p := ⟨g2, 1, none⟩) hg2).trans r1
  have e4 : w0.cell? ⟨g2, 2, none⟩ = some (.slice dad DN dc) := (hB0.cell (p := ⟨g2, 2, none⟩) hg2).trans r2
  have e5 : w0.cell? ⟨g, 3, none⟩ = some (.int .i64 z.k) := (hB0.cell (p := ⟨g, 3, none⟩) hg).trans q0
  have e6 : w0.cell? ⟨g, 4, none⟩ = some (.int .i64 z.n) := (hB0.cell (p := ⟨g, 4, none⟩) hg).trans q1
  have e7 : w0.cell? ⟨g, 5, none⟩ = some (.slice zad ZN zc) := (hB0.cell (p := ⟨g, 5, none⟩) hg).trans q2
  have HB0 : Hid (Below w.heap.size w w0.drew) := hide (belowDrew hB0)
  have HbR := hide hbR
  have n1 : ¬ w.heap.size + 1 = g := by omega
  have n2 : ¬ w.heap.size + 1 = g2 := by omega
  have n3 : ¬ w.heap.size + 1 = w.heap.size := by omega
  by_cases hroom : kd.flat.length + 1 + us1 0 d kd * kz.flat.length ≤ 600
  · have hput : putO d kd z kz = some (sbr 0 z 0 d, sbk 0 z kz 0 d kd) := if_pos hroom
    rw [hput]
    simp only [if_pos hroom] at HP
    obtain ⟨zz, hzz⟩ : ∃ zz, zz = sbr 0 z 0 d := ⟨_, rfl⟩
    obtain ⟨kk, hkk⟩ : ∃ kk, kk = sbk 0 z kz 0 d kd := ⟨_, rfl⟩
    rw [← hzz, ← hkk] at HP ⊢
    clear hzz hkk hroom hput
    go_enter Try.func69, Try.ntmps69
    go_wp2_with fail
    rw [← HW0.out]
    clear HW0 p0 p1 p2 q0 q1 q2 r0 r1 r2 hbT hbR hB0
    go_region_held3 (fun w' => w'.cell? ⟨w.heap.size, 2, none⟩ = some (.slice (some ⟨g, 0, none⟩) 2 sc) ∧ w'.cell? ⟨g, 2, none⟩ = some (.slice (some ⟨g2, 0, none⟩) 1 yc) ∧ w'.cell? ⟨g2, 0, none⟩ = some (.int .i64 d.k) ∧ w'.cell? ⟨g2, 1, none⟩ = some (.int .i64 d.n) ∧ w'.cell? ⟨g2, 2, none⟩ = some (.slice dad DN dc) ∧ w'.cell? ⟨g, 3, none⟩ = some (.int .i64 z.k) ∧ w'.cell? ⟨g, 4, none⟩ = some (.int .i64 z.n) ∧ w'.cell? ⟨g, 5, none⟩ = some (.slice zad ZN zc)) (go_keep)
      (first
        | (go_at_call 28; (with_reducible refine Calls.mono (HP.out _ HB0.out) ?_); rintro e wc ⟨⟨s5, rfl, hs5⟩, hbc⟩; obtain ⟨pad, pc5, rfl⟩ := hs5.form; have HS5 := hide hs5; clear hs5; have HBc' := hide hbc; clear hbc; have hszc : w0.heap.size ≤ wc.heap.size := HBc'.out.size; have HBc := hide (HB0.out.trans (HBc'.out.mono HB0.out.size)); have f0 : wc.cell? ⟨w.heap.size, 2, none⟩ = some (.slice (some ⟨g, 0, none⟩) 2 sc) := (HBc'.out.cell (p := ⟨w.heap.size, 2, none⟩) (show w.heap.size < w0.heap.size by omega)).trans e0; have f1 : wc.cell? ⟨g, 2, none⟩ = some (.slice (some ⟨g2, 0, none⟩) 1 yc) := (HBc'.out.cell (p := ⟨g, 2, none⟩) (show g < w0.heap.size by omega)).trans e1; have f2 : wc.cell? ⟨g2, 0, none⟩ = some (.int .i64 d.k) := (HBc'.out.cell (p := ⟨g2, 0, none⟩) (show g2 < w0.heap.size by omega)).trans e2; have f3 : wc.cell? ⟨g2, 1, none⟩ = some (.int .i64 d.n) := (HBc'.out.cell (p := ⟨g2, 1, none⟩) (show g2 < w0.heap.size by omega)).trans e3; have f4 : wc.cell? ⟨g2, 2, none⟩ = some (.slice dad DN dc) := (HBc'.out.cell (p := ⟨g2, 2, none⟩) (show g2 < w0.heap.size by omega)).trans e4; have f5 : wc.cell? ⟨g, 3, none⟩ = some (.int .i64 z.k) := (HBc'.out.cell (p := ⟨g, 3, none⟩) (show g < w0.heap.size by omega)).trans e5; have f6 : wc.cell? ⟨g, 4, none⟩ = some (.int .i64 z.n) := (HBc'.out.cell (p := ⟨g, 4, none⟩) (show g < w0.heap.size by omega)).trans e6; have f7 : wc.cell? ⟨g, 5, none⟩ = some (.slice zad ZN zc) := (HBc'.out.cell (p := ⟨g, 5, none⟩) (show g < w0.heap.size by omega)).trans e7; have hR0 : wc.heap[w.heap.size + 1]? = some (.cells #[.int .i64 0, .int .i64 0, .slice none 0 0] 55) := (HBc'.out.block _ (show w.heap.size + 1 < w0.heap.size by omega)).trans HbR.out; have HR0 := hide hR0; have z0 : wc.cell? ⟨w.heap.size + 1, 0, none⟩ = some (.int .i64 0) := (cell_of_blk hR0 0).trans rfl; have z1 : wc.cell? ⟨w.heap.size + 1, 1, none⟩ = some (.int .i64 0) := (cell_of_blk hR0 1).trans rfl; have z2 : wc.cell? ⟨w.heap.size + 1, 2, none⟩ = some (.slice none 0 0) := (cell_of_blk hR0 2).trans rfl; have fz := unfrozen_of_blk hR0; clear hR0))
    all_goals
      clear e0 e1 e2 e3 e4 e5 e6 e7 f0 f1 f2 f3 f4 f5 f6 f7 z0 z1 z2 fz HP
      have hk := blk_setCell (i := 2) (blk_setCell (i := 1) (blk_setCell (i := 0) HR0.out (.int .i64 zz.k)) (.int .i64 zz.n)) (.slice pad kk.len pc5)
      have HK := hide hk
      clear hk
      go_wp2_with fail
      have c0 := (cell_of_blk HK.out 0).trans rfl
      have c1 := (cell_of_blk HK.out 1).trans rfl
      have c2 := (cell_of_blk HK.out 2).trans rfl
      refine bodyPost_ret (v := .tuple #[.agg #[.int .i64 zz.k, .int .i64 zz.n, .slice pad kk.len pc5], .bool true]) (by simp [results, Try.results69, go_sem, c0, c1, c2]) rfl ⟨?_, ((HBc.out.setCell (p := ⟨w.heap.size + 1, 0, none⟩) (by simp) _).setCell (p := ⟨w.heap.size + 1, 1, none⟩) (by simp) _).setCell (p := ⟨w.heap.size + 1, 2, none⟩) (by simp) _⟩
      refine ⟨_, rfl, HS5.out.keep (by simp [World.setCell]) (fun g h1 h2 => ?_)⟩
      have h3 : w0.heap.size ≤ g := h1
      have hkn : g ≠ w.heap.size + 1 := by omega
      exact ⟨by rw [Below.heap_setCell _ _ _ _ hkn, Below.heap_setCell _ _ _ _ hkn, Below.heap_setCell _ _ _ _ hkn], .inr (by omega)⟩
  · have hput : putO d kd z kz = none := if_neg hroom
    rw [hput]
    simp only [if_neg hroom] at HP
    clear hroom hput
    go_enter Try.func69, Try.ntmps69
    go_wp2_with fail
    rw [← HW0.out]
    clear HW0 p0 p1 p2 q0 q1 q2 r0 r1 r2 hbT hbR hB0
    go_region_held3 (fun w' => w'.cell? ⟨w.heap.size, 2, none⟩ = some (.slice (some ⟨g, 0, none⟩) 2 sc) ∧ w'.cell? ⟨g, 2, none⟩ = some (.slice (some ⟨g2, 0, none⟩) 1 yc) ∧ w'.cell? ⟨g2, 0, none⟩ = some (.int .i64 d.k) ∧ w'.cell? ⟨g2, 1, none⟩ = some (.int .i64 d.n) ∧ w'.cell? ⟨g2, 2, none⟩ = some (.slice dad DN dc) ∧ w'.cell? ⟨g, 3, none⟩ = some (.int .i64 z.k) ∧ w'.cell? ⟨g, 4, none⟩ = some (.int .i64 z.n) ∧ w'.cell? ⟨g, 5, none⟩ = some (.slice zad ZN zc)) (go_keep)
      (first
        | (go_at_call 28; (with_reducible refine Calls.mono (HP.out _ HB0.out) ?_); rintro e wc ⟨rfl, hbc⟩; have HBc' := hide hbc; clear hbc; have hszc : w0.heap.size ≤ wc.heap.size := HBc'.out.size; have HBc := hide (HB0.out.trans (HBc'.out.mono HB0.out.size)); have f0 : wc.cell? ⟨w.heap.size, 2, none⟩ = some (.slice (some ⟨g, 0, none⟩) 2 sc) := (HBc'.out.cell (p := ⟨w.heap.size, 2, none⟩) (show w.heap.size < w0.heap.size by omega)).trans e0; have f1 : wc.cell? ⟨g, 2, none⟩ = some (.slice (some ⟨g2, 0, none⟩) 1 yc) := (HBc'.out.cell (p := ⟨g, 2, none⟩) (show g < w0.heap.size by omega)).trans e1; have f2 : wc.cell? ⟨g2, 0, none⟩ = some (.int .i64 d.k) := (HBc'.out.cell (p := ⟨g2, 0, none⟩) (show g2 < w0.heap.size by omega)).trans e2; have f3 : wc.cell? ⟨g2, 1, none⟩ = some (.int .i64 d.n) := (HBc'.out.cell (p := ⟨g2, 1, none⟩) (show g2 < w0.heap.size by omega)).trans e3; have f4 : wc.cell? ⟨g2, 2, none⟩ = some (.slice dad DN dc) := (HBc'.out.cell (p := ⟨g2, 2, none⟩) (show g2 < w0.heap.size by omega)).trans e4; have f5 : wc.cell? ⟨g, 3, none⟩ = some (.int .i64 z.k) := (HBc'.out.cell (p := ⟨g, 3, none⟩) (show g < w0.heap.size by omega)).trans e5; have f6 : wc.cell? ⟨g, 4, none⟩ = some (.int .i64 z.n) := (HBc'.out.cell (p := ⟨g, 4, none⟩) (show g < w0.heap.size by omega)).trans e6; have f7 : wc.cell? ⟨g, 5, none⟩ = some (.slice zad ZN zc) := (HBc'.out.cell (p := ⟨g, 5, none⟩) (show g < w0.heap.size by omega)).trans e7; have hR0 : wc.heap[w.heap.size + 1]? = some (.cells #[.int .i64 0, .int .i64 0, .slice none 0 0] 55) := (HBc'.out.block _ (show w.heap.size + 1 < w0.heap.size by omega)).trans HbR.out; have HR0 := hide hR0; have z0 : wc.cell? ⟨w.heap.size + 1, 0, none⟩ = some (.int .i64 0) := (cell_of_blk hR0 0).trans rfl; have z1 : wc.cell? ⟨w.heap.size + 1, 1, none⟩ = some (.int .i64 0) := (cell_of_blk hR0 1).trans rfl; have z2 : wc.cell? ⟨w.heap.size + 1, 2, none⟩ = some (.slice none 0 0) := (cell_of_blk hR0 2).trans rfl; have fz := unfrozen_of_blk hR0; clear hR0))
    all_goals
      clear e0 e1 e2 e3 e4 e5 e6 e7 f0 f1 f2 f3 f4 f5 f6 f7 z0 z1 z2 fz HP
      have hk := blk_setCell (i := 2) (blk_setCell (i := 1) (blk_setCell (i := 0) HR0.out (.int .i64 0)) (.int .i64 0)) (.slice none 0 0)
      have HK := hide hk
      clear hk
      go_wp2_with fail
      have c0 := (cell_of_blk HK.out 0).trans rfl
      have c1 := (cell_of_blk HK.out 1).trans rfl
      have c2 := (cell_of_blk HK.out 2).trans rfl
      refine bodyPost_ret (v := .tuple #[.agg #[.int .i64 0, .int .i64 0, .slice none 0 0], .bool false]) (by simp [results, Try.results69, go_sem, c0, c1, c2]) rfl ⟨?_, ((HBc.out.setCell (p := ⟨w.heap.size + 1, 0, none⟩) (by simp) _).setCell (p := ⟨w.heap.size + 1, 1, none⟩) (by simp) _).setCell (p := ⟨w.heap.size + 1, 2, none⟩) (by simp) _⟩
      rfl

set_option maxRecDepth 20000 in
set_option maxHeartbeats 2000000 in
theorem l4Contract_let (x z d : Cc) (kz kd : F) (s : Value) (P : Nat → Prop) (w : World) (hx : x.k = 7) (hz : okT z kz) (hd : okT d kd) (hl : kd.flat.length + 1 ≤ 600) (hlz : kz.flat.length + 1 ≤ 600) (hT : KidT w P (.cons z kz (.cons d kd .nil)) s) :
    Calls Try.prog 69 #[.agg #[.int .i64 x.k, .int .i64 x.n, s]] w fun e w' => TO w' (fun g => P g ∨ w.heap.size ≤ g) (putO d kd z kz) e ∧ Below w.heap.size w w' := by
  obtain ⟨sad, sc, rfl⟩ := hT.form
  obtain ⟨g, rfl, hg, -, p0, p1, sz, p2, hTz⟩ := hT.first
  obtain ⟨q0, q1, sd, q2, hTd⟩ := hT.second
  rw [hx]
  have HP := hide (fun (w' : World) (hb : Below w.heap.size w w') => l3Put_any l3Subst_any d z kd kz sd sz 0 P P w' (good_n hd.1).1 (good_n hd.1).2 (good_n hz.1).1 (good_n hz.1).2 (by omega) hd.2.1 hd.2.2 hz.2.1 hz.2.2 hl hlz (hTd.below hb) (hTz.below hb))
  rw [show ((0 : Nat) : Int) = 0 from rfl] at HP
  obtain ⟨dad, dc, rfl⟩ := hTd.form
  obtain ⟨zad, zc, rfl⟩ := hTz.form
  have hKL : (F.cons z kz (.cons d kd .nil)).len = 2 := rfl
  rw [hKL]
  obtain ⟨DN, hDN⟩ : ∃ DN, DN = kd.len := ⟨_, rfl⟩
  obtain ⟨ZN, hZN⟩ : ∃ ZN, ZN = kz.len := ⟨_, rfl⟩
  rw [← hDN, ← hZN] at HP
  rw [← hDN] at q2
  rw [← hZN] at p2
  clear hT hTd hTz hKL hDN hZN
  obtain ⟨w0, hw0⟩ : ∃ w0, w0 = (w.alloc (.cells #[.int .i64 7, .int .i64 x.n, .slice (some ⟨g, 0, none⟩) 2 sc] 55)).alloc (.cells #[.int .i64 0, .int .i64 0, .slice none 0 0] 55) := ⟨_, rfl⟩
  have hB0 : Below w.heap.size w w0 := by rw [hw0]; exact ((Below.refl _ _).alloc (Nat.le_refl _) _).alloc (by simp) _
  have hbT : w0.heap[w.heap.size]? = some (.cells #[.int .i64 7, .int .i64 x.n, .slice (some ⟨g, 0, none⟩) 2 sc] 55) := by rw [hw0, heap_alloc_old _ _ (by simp)]; exact heap_alloc_new _ _
  have hbR : w0.heap[w.heap.size + 1]? = some (.cells #[.int .i64 0, .int .i64 0, .slice none 0 0] 55) := by rw [hw0]; have := heap_alloc_new (w.alloc (.cells #[.int .i64 7, .int .i64 x.n, .slice (some ⟨g, 0, none⟩) 2 sc] 55)) (.cells #[.int .i64 0, .int .i64 0, .slice none 0 0] 55); simpa using this
  have hsz0 : w0.heap.size = w.heap.size + 1 + 1 := by rw [hw0]; simp
  have HW0 := hide hw0
  clear hw0
  have e0 : w0.cell? ⟨w.heap.size, 2, none⟩ = some (.slice (some ⟨g, 0, none⟩) 2 sc) := (cell_of_blk hbT 2).trans rfl
  have e1 : w0.cell? ⟨g, 3, none⟩ = some (.int .i64 d.k) := (hB0.cell (p := ⟨g, 3, none⟩) hg).trans q0
  have e2 : w0.cell? ⟨g, 4, none⟩ = some (.int .i64 d.n) := (hB0.cell (p := ⟨g, 4, none⟩) hg).trans q1
  have e3 : w0.cell? ⟨g, 5, none⟩ = some (.slice dad DN dc) := (hB0.cell (p := ⟨g, 5, none⟩) hg).trans q2
  have e4 : w0.cell? ⟨g, 0, none⟩ = some (.int .i64 z.k) := (hB0.cell (p := ⟨g, 0, none⟩) hg).trans p0
  have e5 : w0.cell? ⟨g, 1, none⟩ = some (.int .i64 z.n) := (hB0.cell (p := ⟨g, 1, none⟩) hg).trans p1
  have e6 : w0.cell? ⟨g, 2, none⟩ = some (.slice zad ZN zc) := (hB0.cell (p := ⟨g, 2, none⟩) hg).trans p2
  have HB0 : Hid (Below w.heap.size w w0.drew) := hide (belowDrew hB0)
  have HbR := hide hbR
  have n1 : ¬ w.heap.size + 1 = g := by omega
  have n3 : ¬ w.heap.size + 1 = w.heap.size := by omega
  by_cases hroom : kd.flat.length + 1 + us1 0 d kd * kz.flat.length ≤ 600
  · have hput : putO d kd z kz = some (sbr 0 z 0 d, sbk 0 z kz 0 d kd) := if_pos hroom
    rw [hput]
    simp only [if_pos hroom] at HP
    obtain ⟨zz, hzz⟩ : ∃ zz, zz = sbr 0 z 0 d := ⟨_, rfl⟩
    obtain ⟨kk, hkk⟩ : ∃ kk, kk = sbk 0 z kz 0 d kd := ⟨_, rfl⟩
    rw [← hzz, ← hkk] at HP ⊢
    clear hzz hkk hroom hput
    go_enter Try.func69, Try.ntmps69
    go_wp2_with fail
    rw [← HW0.out]
    clear HW0 p0 p1 p2 q0 q1 q2 hbT hbR hB0
    go_region_held3 (fun w' => w'.cell? ⟨w.heap.size, 2, none⟩ = some (.slice (some ⟨g, 0, none⟩) 2 sc) ∧ w'.cell? ⟨g, 3, none⟩ = some (.int .i64 d.k) ∧ w'.cell? ⟨g, 4, none⟩ = some (.int .i64 d.n) ∧ w'.cell? ⟨g, 5, none⟩ = some (.slice dad DN dc) ∧ w'.cell? ⟨g, 0, none⟩ = some (.int .i64 z.k) ∧ w'.cell? ⟨g, 1, none⟩ = some (.int .i64 z.n) ∧ w'.cell? ⟨g, 2, none⟩ = some (.slice zad ZN zc)) (go_keep)
      (first
        | (go_at_call 28; (with_reducible refine Calls.mono (HP.out _ HB0.out) ?_); rintro e wc ⟨⟨s5, rfl, hs5⟩, hbc⟩; obtain ⟨pad, pc5, rfl⟩ := hs5.form; have HS5 := hide hs5; clear hs5; have HBc' := hide hbc; clear hbc; have hszc : w0.heap.size ≤ wc.heap.size := HBc'.out.size; have HBc := hide (HB0.out.trans (HBc'.out.mono HB0.out.size)); have f0 : wc.cell? ⟨w.heap.size, 2, none⟩ = some (.slice (some ⟨g, 0, none⟩) 2 sc) := (HBc'.out.cell (p := ⟨w.heap.size, 2, none⟩) (show w.heap.size < w0.heap.size by omega)).trans e0; have f1 : wc.cell? ⟨g, 3, none⟩ = some (.int .i64 d.k) := (HBc'.out.cell (p := ⟨g, 3, none⟩) (show g < w0.heap.size by omega)).trans e1; have f2 : wc.cell? ⟨g, 4, none⟩ = some (.int .i64 d.n) := (HBc'.out.cell (p := ⟨g, 4, none⟩) (show g < w0.heap.size by omega)).trans e2; have f3 : wc.cell? ⟨g, 5, none⟩ = some (.slice dad DN dc) := (HBc'.out.cell (p := ⟨g, 5, none⟩) (show g < w0.heap.size by omega)).trans e3; have f4 : wc.cell? ⟨g, 0, none⟩ = some (.int .i64 z.k) := (HBc'.out.cell (p := ⟨g, 0, none⟩) (show g < w0.heap.size by omega)).trans e4; have f5 : wc.cell? ⟨g, 1, none⟩ = some (.int .i64 z.n) := (HBc'.out.cell (p := ⟨g, 1, none⟩) (show g < w0.heap.size by omega)).trans e5; have f6 : wc.cell? ⟨g, 2, none⟩ = some (.slice zad ZN zc) := (HBc'.out.cell (p := ⟨g, 2, none⟩) (show g < w0.heap.size by omega)).trans e6; have hR0 : wc.heap[w.heap.size + 1]? = some (.cells #[.int .i64 0, .int .i64 0, .slice none 0 0] 55) := (HBc'.out.block _ (show w.heap.size + 1 < w0.heap.size by omega)).trans HbR.out; have HR0 := hide hR0; have z0 : wc.cell? ⟨w.heap.size + 1, 0, none⟩ = some (.int .i64 0) := (cell_of_blk hR0 0).trans rfl; have z1 : wc.cell? ⟨w.heap.size + 1, 1, none⟩ = some (.int .i64 0) := (cell_of_blk hR0 1).trans rfl; have z2 : wc.cell? ⟨w.heap.size + 1, 2, none⟩ = some (.slice none 0 0) := (cell_of_blk hR0 2).trans rfl; have fz := unfrozen_of_blk hR0; clear hR0))
    all_goals
      clear e0 e1 e2 e3 e4 e5 e6 f0 f1 f2 f3 f4 f5 f6 z0 z1 z2 fz HP
      have hk := blk_setCell (i := 2) (blk_setCell (i := 1) (blk_setCell (i := 0) HR0.out (.int .i64 zz.k)) (.int .i64 zz.n)) (.slice pad kk.len pc5)
      have HK := hide hk
      clear hk
      go_wp2_with fail
      have c0 := (cell_of_blk HK.out 0).trans rfl
      have c1 := (cell_of_blk HK.out 1).trans rfl
      have c2 := (cell_of_blk HK.out 2).trans rfl
      refine bodyPost_ret (v := .tuple #[.agg #[.int .i64 zz.k, .int .i64 zz.n, .slice pad kk.len pc5], .bool true]) (by simp [results, Try.results69, go_sem, c0, c1, c2]) rfl ⟨?_, ((HBc.out.setCell (p := ⟨w.heap.size + 1, 0, none⟩) (by simp) _).setCell (p := ⟨w.heap.size + 1, 1, none⟩) (by simp) _).setCell (p := ⟨w.heap.size + 1, 2, none⟩) (by simp) _⟩
      refine ⟨_, rfl, HS5.out.keep (by simp [World.setCell]) (fun g h1 h2 => ?_)⟩
      have h3 : w0.heap.size ≤ g := h1
      have hkn : g ≠ w.heap.size + 1 := by omega
      exact ⟨by rw [Below.heap_setCell _ _ _ _ hkn, Below.heap_setCell _ _ _ _ hkn, Below.heap_setCell _ _ _ _ hkn], .inr (by omega)⟩
  · have hput : putO d kd z kz = none := if_neg hroom
    rw [hput]
    simp only [if_neg hroom] at HP
    clear hroom hput
    go_enter Try.func69, Try.ntmps69
    go_wp2_with fail
    rw [← HW0.out]
    clear HW0 p0 p1 p2 q0 q1 q2 hbT hbR hB0
    go_region_held3 (fun w' => w'.cell? ⟨w.heap.size, 2, none⟩ = some (.slice (some ⟨g, 0, none⟩) 2 sc) ∧ w'.cell? ⟨g, 3, none⟩ = some (.int .i64 d.k) ∧ w'.cell? ⟨g, 4, none⟩ = some (.int .i64 d.n) ∧ w'.cell? ⟨g, 5, none⟩ = some (.slice dad DN dc) ∧ w'.cell? ⟨g, 0, none⟩ = some (.int .i64 z.k) ∧ w'.cell? ⟨g, 1, none⟩ = some (.int .i64 z.n) ∧ w'.cell? ⟨g, 2, none⟩ = some (.slice zad ZN zc)) (go_keep)
      (first
        | (go_at_call 28; (with_reducible refine Calls.mono (HP.out _ HB0.out) ?_); rintro e wc ⟨rfl, hbc⟩; have HBc' := hide hbc; clear hbc; have hszc : w0.heap.size ≤ wc.heap.size := HBc'.out.size; have HBc := hide (HB0.out.trans (HBc'.out.mono HB0.out.size)); have f0 : wc.cell? ⟨w.heap.size, 2, none⟩ = some (.slice (some ⟨g, 0, none⟩) 2 sc) := (HBc'.out.cell (p := ⟨w.heap.size, 2, none⟩) (show w.heap.size < w0.heap.size by omega)).trans e0; have f1 : wc.cell? ⟨g, 3, none⟩ = some (.int .i64 d.k) := (HBc'.out.cell (p := ⟨g, 3, none⟩) (show g < w0.heap.size by omega)).trans e1; have f2 : wc.cell? ⟨g, 4, none⟩ = some (.int .i64 d.n) := (HBc'.out.cell (p := ⟨g, 4, none⟩) (show g < w0.heap.size by omega)).trans e2; have f3 : wc.cell? ⟨g, 5, none⟩ = some (.slice dad DN dc) := (HBc'.out.cell (p := ⟨g, 5, none⟩) (show g < w0.heap.size by omega)).trans e3; have f4 : wc.cell? ⟨g, 0, none⟩ = some (.int .i64 z.k) := (HBc'.out.cell (p := ⟨g, 0, none⟩) (show g < w0.heap.size by omega)).trans e4; have f5 : wc.cell? ⟨g, 1, none⟩ = some (.int .i64 z.n) := (HBc'.out.cell (p := ⟨g, 1, none⟩) (show g < w0.heap.size by omega)).trans e5; have f6 : wc.cell? ⟨g, 2, none⟩ = some (.slice zad ZN zc) := (HBc'.out.cell (p := ⟨g, 2, none⟩) (show g < w0.heap.size by omega)).trans e6; have hR0 : wc.heap[w.heap.size + 1]? = some (.cells #[.int .i64 0, .int .i64 0, .slice none 0 0] 55) := (HBc'.out.block _ (show w.heap.size + 1 < w0.heap.size by omega)).trans HbR.out; have HR0 := hide hR0; have z0 : wc.cell? ⟨w.heap.size + 1, 0, none⟩ = some (.int .i64 0) := (cell_of_blk hR0 0).trans rfl; have z1 : wc.cell? ⟨w.heap.size + 1, 1, none⟩ = some (.int .i64 0) := (cell_of_blk hR0 1).trans rfl; have z2 : wc.cell? ⟨w.heap.size + 1, 2, none⟩ = some (.slice none 0 0) := (cell_of_blk hR0 2).trans rfl; have fz := unfrozen_of_blk hR0; clear hR0))
    all_goals
      clear e0 e1 e2 e3 e4 e5 e6 f0 f1 f2 f3 f4 f5 f6 z0 z1 z2 fz HP
      have hk := blk_setCell (i := 2) (blk_setCell (i := 1) (blk_setCell (i := 0) HR0.out (.int .i64 0)) (.int .i64 0)) (.slice none 0 0)
      have HK := hide hk
      clear hk
      go_wp2_with fail
      have c0 := (cell_of_blk HK.out 0).trans rfl
      have c1 := (cell_of_blk HK.out 1).trans rfl
      have c2 := (cell_of_blk HK.out 2).trans rfl
      refine bodyPost_ret (v := .tuple #[.agg #[.int .i64 0, .int .i64 0, .slice none 0 0], .bool false]) (by simp [results, Try.results69, go_sem, c0, c1, c2]) rfl ⟨?_, ((HBc.out.setCell (p := ⟨w.heap.size + 1, 0, none⟩) (by simp) _).setCell (p := ⟨w.heap.size + 1, 1, none⟩) (by simp) _).setCell (p := ⟨w.heap.size + 1, 2, none⟩) (by simp) _⟩
      rfl

end Go.Proofs.Ytjmgnljjeogdlaa.W
