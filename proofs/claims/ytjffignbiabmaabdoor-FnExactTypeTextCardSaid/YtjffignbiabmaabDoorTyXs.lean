/-
  A type's text by the specification: contracts of l5Text and TypeText. Conditions: at most 1048576 cells.
-/
import Derived.Test.YtjffignbiabmaabDoorTyX
namespace Go.Proofs.YtjffignbiabmaabDoor.Y
open Go.Proofs.YtjffignbiabmaabDoor.W
open Go.ChangeShapes Go.WideShapes Go.ChangeAt Go.RowKit
set_option linter.unusedVariables false

def L5TGoal (k : F) : Prop := ∀ (x : Cc) (s : Value) (P : Nat → Prop) (w : World), goodC x = true → k.len = ar x.k → k.ok → k.flat.length ≤ 60 → KidT w P k s →
    Calls Tryd.prog 23 #[.agg #[.int .i64 x.k, .int .i64 x.n, s]] w fun e w' => e = .returned (.string (tx1 x k)) ∧ Below w.heap.size w w'

set_option maxRecDepth 20000 in
set_option maxHeartbeats 4000000 in
theorem l5Text_any : ∀ k, L5TGoal k := by
  apply F.rec_kids
  intro k ih x s P w hg hk hko hl hT
  have hn := good_n hg
  have hi := itB_len x.n (by omega) (by omega)
  have hkk := good_kinds hg
  obtain ⟨sad, sc, rfl⟩ := hT.form
  obtain ⟨xk, xn⟩ := x
  simp only at *
  rcases hkk with h | h | h
  · subst h
    obtain rfl : k = .nil := F.len_0 (by rw [hk]; rfl)
    have HE : Hid (tx1 ⟨1, xn⟩ .nil = ⟨#[97]⟩ ++ itB xn) := hide rfl
    rw [HE.out]
    have HC := hide (fun w => l1NumI_any xn w (by omega) (by omega))
    clear hk hT ih hko hg
    obtain ⟨it, hit⟩ : ∃ it, it = itB xn := ⟨_, rfl⟩
    rw [← hit] at HC hi ⊢
    clear hit
    go_enter Tryd.func23, Tryd.ntmps23
    go_wp2_with fail
    refine (HC.out _).mono ?_
    rintro e w1 ⟨rfl, hb1⟩
    go_wp2_with fail
    go_ret
    exact ⟨rfl, ((Below.refl _ _).alloc (Nat.le_refl _) _).trans (hb1.mono (by simp))⟩
  · subst h
    obtain rfl : k = .nil := F.len_0 (by rw [hk]; rfl)
    have HE : Hid (tx1 ⟨2, xn⟩ .nil = ⟨#[110, 117, 109]⟩) := hide rfl
    rw [HE.out]
    clear hk hT ih hko hg
    go_enter Tryd.func23, Tryd.ntmps23
    go_wp2_with fail
    go_ret
    exact ⟨rfl, (Below.refl _ _).alloc (Nat.le_refl _) _⟩
  · subst h
    have hk2 : k.len = 2 := by rw [hk]; rfl
    obtain ⟨y0, k0, y1, k1, rfl⟩ := F.len_2 hk2
    obtain ⟨g0, l0, o0, g1, l1, o1, -⟩ : goodC y0 = true ∧ k0.len = ar y0.k ∧ k0.ok ∧ goodC y1 = true ∧ k1.len = ar y1.k ∧ k1.ok ∧ F.nil.ok := hko
    obtain ⟨ih0, ih1, -⟩ : L5TGoal k0 ∧ L5TGoal k1 ∧ True := ih
    have hf0 : k0.flat.length ≤ 60 := by simp [F.flat] at hl; omega
    have hf1 : k1.flat.length ≤ 60 := by simp [F.flat] at hl; omega
    obtain ⟨g, cap, s0, he, -, hgl, hT0, p0, p1, p2⟩ := KidT.kid (a := .nil) (x := y0) (k := k0) (r := .cons y1 k1 .nil) hT
    obtain ⟨g', cap', s1, he', -, -, hT1, p3, p4, p5⟩ := KidT.kid (a := .cons y0 k0 .nil) (x := y1) (k := k1) (r := .nil) hT
    simp only [Value.slice.injEq] at he he'
    obtain ⟨rfl, -, rfl⟩ := he
    have hgg : g = g' := by have := he'.1; simp only [Option.some.injEq, Addr.mk.injEq] at this; exact this.1
    subst hgg
    clear he'
    simp only [F.len, Nat.zero_mul, Nat.zero_add, Nat.one_mul] at p0 p1 p2 p3 p4 p5
    have h0 := tx1_len (x := y0) (k := k0) ⟨g0, l0, o0, trivial⟩ hf0
    have h1 := tx1_len (x := y1) (k := k1) ⟨g1, l1, o1, trivial⟩ hf1
    have HC0 := hide (fun (w' : World) (hb : Below w.heap.size w w') => ih0 y0 s0 P w' g0 l0 o0 hf0 (hT0.below hb))
    have HC1 := hide (fun (w' : World) (hb : Below w.heap.size w w') => ih1 y1 s1 P w' g1 l1 o1 hf1 (hT1.below hb))
    obtain ⟨ad0, c0, rfl⟩ := hT0.form
    obtain ⟨ad1, c1, rfl⟩ := hT1.form
    have HE : Hid (tx1 ⟨3, xn⟩ (.cons y0 k0 (.cons y1 k1 .nil)) = ⟨#[40]⟩ ++ tx1 y0 k0 ++ ⟨#[45, 62]⟩ ++ tx1 y1 k1 ++ ⟨#[41]⟩) := hide rfl
    rw [HE.out]
    obtain ⟨u0, hu0⟩ : ∃ u, u = tx1 y0 k0 := ⟨_, rfl⟩
    obtain ⟨u1, hu1⟩ : ∃ u, u = tx1 y1 k1 := ⟨_, rfl⟩
    obtain ⟨n0, hn0⟩ : ∃ n, n = k0.len := ⟨_, rfl⟩
    obtain ⟨n1, hn1⟩ : ∃ n, n = k1.len := ⟨_, rfl⟩
    rw [← hu0] at HC0 h0 ⊢
    rw [← hu1] at HC1 h1 ⊢
    rw [← hn0] at HC0 p2
    rw [← hn1] at HC1 p5
    rw [hk2]
    clear hu0 hu1 hn0 hn1 hk ih0 ih1 hk2 g0 l0 o0 g1 l1 o1 HE hT hT0 hT1 hg hl hf0 hf1
    go_enter Tryd.func23, Tryd.ntmps23
    go_wp2_with fail
    obtain ⟨w0, hw0⟩ : ∃ w0, w0 = w.alloc (.cells #[.int .i64 3, .int .i64 xn, .slice (some ⟨g, 0, none⟩) 2 sc] 49) := ⟨_, rfl⟩
    have hB0 : Below w.heap.size w w0 := by rw [hw0]; exact (Below.refl _ _).alloc (Nat.le_refl _) _
    have e6 : w0.cell? ⟨w.heap.size, 2, none⟩ = some (.slice (some ⟨g, 0, none⟩) 2 sc) := by rw [hw0, cell_of_blk (heap_alloc_new w _)]; rfl
    have hsz0 : w.heap.size < w0.heap.size := by rw [hw0]; simp
    rw [← hw0]
    have e0 := (hB0.cell (p := ⟨g, 0, none⟩) hgl).trans p0
    have e1 := (hB0.cell (p := ⟨g, 1, none⟩) hgl).trans p1
    have e2 := (hB0.cell (p := ⟨g, 2, none⟩) hgl).trans p2
    have e3 := (hB0.cell (p := ⟨g, 3, none⟩) hgl).trans p3
    have e4 := (hB0.cell (p := ⟨g, 4, none⟩) hgl).trans p4
    have e5 := (hB0.cell (p := ⟨g, 5, none⟩) hgl).trans p5
    have HB0 : Hid (Below w.heap.size w w0.drew) := hide (belowDrew hB0)
    clear hw0 hB0 p0 p1 p2 p3 p4 p5
    have k1 : ¬ 9223372036854775807 < 1 + u0.size := by omega
    have k2 : ¬ 9223372036854775807 < 1 + u0.size + 2 := by omega
    have k3 : ¬ 9223372036854775807 < 1 + u0.size + 2 + u1.size := by omega
    have k4 : ¬ 9223372036854775807 < 1 + u0.size + 2 + u1.size + 1 := by omega
    go_region_held3 (fun w' => w'.cell? ⟨w.heap.size, 2, none⟩ = some (.slice (some ⟨g, 0, none⟩) 2 sc) ∧ w'.cell? ⟨g, 0, none⟩ = some (.int .i64 y0.k) ∧ w'.cell? ⟨g, 1, none⟩ = some (.int .i64 y0.n) ∧ w'.cell? ⟨g, 2, none⟩ = some (.slice ad0 n0 c0) ∧ w'.cell? ⟨g, 3, none⟩ = some (.int .i64 y1.k) ∧ w'.cell? ⟨g, 4, none⟩ = some (.int .i64 y1.n) ∧ w'.cell? ⟨g, 5, none⟩ = some (.slice ad1 n1 c1)) (go_keep)
      (first
        | (go_at_call 23; (with_reducible refine Calls.mono (HC1.out _ HBa.out) ?_); rintro e wb ⟨rfl, hbb⟩; have HBb := hide (HBa.out.trans (hbb.mono HBa.out.size)); (have fb6 := (hbb.cell (p := ⟨w.heap.size, 2, none⟩) (show w.heap.size < wa.heap.size by omega)).trans fa6; have fb0 := (hbb.cell (p := ⟨g, 0, none⟩) (show g < wa.heap.size by omega)).trans fa0; have fb1 := (hbb.cell (p := ⟨g, 1, none⟩) (show g < wa.heap.size by omega)).trans fa1; have fb2 := (hbb.cell (p := ⟨g, 2, none⟩) (show g < wa.heap.size by omega)).trans fa2; have fb3 := (hbb.cell (p := ⟨g, 3, none⟩) (show g < wa.heap.size by omega)).trans fa3; have fb4 := (hbb.cell (p := ⟨g, 4, none⟩) (show g < wa.heap.size by omega)).trans fa4; have fb5 := (hbb.cell (p := ⟨g, 5, none⟩) (show g < wa.heap.size by omega)).trans fa5); clear hbb)
        | (go_at_call 23; (with_reducible refine Calls.mono (HC0.out _ HB0.out) ?_); rintro e wa ⟨rfl, hba⟩; have HBa := hide (HB0.out.trans (hba.mono HB0.out.size)); have hsza : w0.heap.size ≤ wa.heap.size := hba.size; (have fa6 := (hba.cell (p := ⟨w.heap.size, 2, none⟩) (show w.heap.size < w0.heap.size by omega)).trans e6; have fa0 := (hba.cell (p := ⟨g, 0, none⟩) (show g < w0.heap.size by omega)).trans e0; have fa1 := (hba.cell (p := ⟨g, 1, none⟩) (show g < w0.heap.size by omega)).trans e1; have fa2 := (hba.cell (p := ⟨g, 2, none⟩) (show g < w0.heap.size by omega)).trans e2; have fa3 := (hba.cell (p := ⟨g, 3, none⟩) (show g < w0.heap.size by omega)).trans e3; have fa4 := (hba.cell (p := ⟨g, 4, none⟩) (show g < w0.heap.size by omega)).trans e4; have fa5 := (hba.cell (p := ⟨g, 5, none⟩) (show g < w0.heap.size by omega)).trans e5); clear hba))
    all_goals
      go_wp2_with fail
      go_ret
      exact ⟨rfl, HBb.out⟩

set_option maxRecDepth 20000 in
set_option maxHeartbeats 2000000 in
theorem specText_any (ad : Option Addr) (c : Nat) (l : List Cc) (w : World) (hl : l.length ≤ 1048576) (h : CRow w ad l) :
    Calls Tryd.prog 11 #[.slice ad l.length c] w fun e w' => e = .returned (txV (txT l)) ∧ Below w.heap.size w w' := by
  have HC := hide (l5Tree_any ad c l w hl h)
  clear h
  cases hT : treeT l with
  | none =>
    have HE : Hid (txV (txT l) = .tuple #[.string ⟨#[]⟩, .bool false]) := hide (by unfold txT; rw [hT]; rfl)
    rw [hT] at HC
    rw [HE.out]
    clear hT
    go_enter Tryd.func11, Tryd.ntmps11
    go_wp2_with fail
    refine Calls.mono HC.out ?_
    rintro e w1 ⟨hb1, k, n, sad, sn, sc, rfl⟩
    go_wp2_with fail
    exact bodyPost_ret (v := .tuple #[.string ⟨#[]⟩, .bool false]) (by simp [results, Tryd.results11, go_sem]) rfl ⟨rfl, hb1.alloc hb1.size _⟩
  | some a =>
    obtain ⟨t1, t2, t3, t4, -⟩ := treeT_flat hT
    obtain ⟨x, k, rfl⟩ := F.len_1 t3
    have HE : Hid (txV (txT l) = .tuple #[.string (tx1 x k), .bool true]) := hide (by unfold txT; rw [hT]; rfl)
    obtain ⟨g1, l1, o1, -⟩ : goodC x = true ∧ k.len = ar x.k ∧ k.ok ∧ F.nil.ok := t2
    have hkf : k.flat.length ≤ 60 := by rw [t1] at t4; simp [F.flat] at t4; omega
    have HD := hide (fun (s : Value) (w' : World) (h : KidT w' (fun g => w.heap.size ≤ g) k s) => l5Text_any k x s _ w' g1 l1 o1 hkf h)
    rw [hT] at HC
    rw [HE.out]
    obtain ⟨u, hu⟩ : ∃ u, u = tx1 x k := ⟨_, rfl⟩
    rw [← hu] at HD ⊢
    clear hT t1 t3 t4 g1 l1 o1 hkf hu HE
    go_enter Tryd.func11, Tryd.ntmps11
    go_wp2_with fail
    refine Calls.mono HC.out ?_
    rintro e w1 ⟨hb1, x', k', s1, he1, rfl, hT1⟩
    simp only [F.cons.injEq, and_true] at he1
    obtain ⟨rfl, rfl⟩ := he1
    have hB1a : Below w.heap.size w (w1.alloc (.cells #[.int .i64 x.k, .int .i64 x.n, s1] 49)) := hb1.alloc hb1.size _
    have HD1 := hide (HD.out s1 (w1.alloc (.cells #[.int .i64 x.k, .int .i64 x.n, s1] 49)) (hT1.below ((Below.refl _ _).alloc (Nat.le_refl _) _)))
    obtain ⟨sad, sc, rfl⟩ := hT1.form
    obtain ⟨KL, hKL⟩ : ∃ KL, KL = k.len := ⟨_, rfl⟩
    rw [← hKL] at HD1 hB1a ⊢
    clear hT1 HD HC hKL
    go_wp2_with fail
    refine Calls.mono HD1.out ?_
    rintro e w2 ⟨rfl, hb2⟩
    go_wp2_with fail
    exact bodyPost_ret (v := .tuple #[.string u, .bool true]) (by simp [results, Tryd.results11, go_sem]) rfl ⟨rfl, hB1a.trans (hb2.mono hB1a.size)⟩
end Go.Proofs.YtjffignbiabmaabDoor.Y
