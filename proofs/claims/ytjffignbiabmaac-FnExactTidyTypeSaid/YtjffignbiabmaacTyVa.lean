/-
  A type's variables as they come, by the specification: the contract of l5Vars. Conditions: as the theorem states.
-/
import Derived.Test.YtjffignbiabmaacTyV
namespace Go.Proofs.Ytjffignbiabmaac.Y
open Go.Proofs.Ytjffignbiabmaac.W
open Go.ChangeShapes Go.WideShapes Go.ChangeAt Go.RowKit
set_option linter.unusedVariables false

theorem av1_no {o : List Int} {x : Cc} (h : x.k ≠ 1) : av1 o x = o := if_neg (fun e => h e.1)
theorem av1_has {o : List Int} {x : Cc} (h : x.n ∈ o) : av1 o x = o := if_neg (fun e => e.2 h)
theorem av1_new {o : List Int} {x : Cc} (h : x.k = 1) (hn : x.n ∉ o) : av1 o x = o ++ [x.n] := if_pos ⟨h, hn⟩

set_option maxRecDepth 20000 in
set_option maxHeartbeats 4000000 in
theorem l5Vars_any : ∀ k, L5VGoal k := by
  apply F.rec_kids
  intro k ih x s so o P w hg hk hko hl hT hJ
  by_cases hnew : x.k = 1 ∧ x.n ∉ o
  · obtain rfl : k = .nil := F.len_0 (by rw [hk, hnew.1]; rfl)
    have := l5Vars_new x s so o P w hnew.1 hnew.2 (by simp [F.flat] at hl; omega) hT hJ
    rw [show av o (x :: F.nil.flat) = o ++ [x.n] by simp [F.flat, av, av1_new hnew.1 hnew.2]]
    exact this
  · have hav : av o (x :: k.flat) = av o k.flat := by
      show av (av1 o x) k.flat = _
      unfold av1
      rw [if_neg hnew]
    rw [hav]
    clear hav
    have IH := hide ih
    have HT := hide hT
    have HJ := hide hJ
    have HKO := hide hko
    obtain ⟨sad, sc, rfl⟩ := hT.form
    obtain ⟨oad, oc, rfl⟩ := hJ.1.form
    have HH := hide (fun w' (hb : Below w.heap.size w w') => l1Has_any (.slice oad o.length oc) o x.n w' (by omega) (hJ.1.below hb))
    have HNew := hide hnew
    clear ih hT hJ hko hnew
    have hkl := F.len_flat k
    obtain ⟨KL, hKL⟩ : ∃ KL, KL = k.len := ⟨_, rfl⟩
    rw [← hKL] at HT hkl hk ⊢
    have HKL := hide hKL
    clear hKL
    obtain ⟨xk, xn⟩ := x
    simp only at *
    have HS : ∀ w0 : World, w0 = w.alloc (.cells #[.int .i64 xk, .int .i64 xn, .slice sad KL sc] 41) → Below w.heap.size w w0 ∧ w0.cell? ⟨w.heap.size, 2, none⟩ = some (.slice sad KL sc) := fun w0 h => by
      subst h
      exact ⟨(Below.refl _ _).alloc (Nat.le_refl _) _, by rw [cell_of_blk (heap_alloc_new w _)]; rfl⟩
    by_cases hx1 : xk = 1
    · subst hx1
      have hmem : xn ∈ o := Classical.byContradiction fun h => HNew.out ⟨rfl, h⟩
      rw [decide_eq_true hmem] at HH
      have hKL0 : KL = 0 := by rw [hk]; rfl
      clear hk
      have hk0 : k = .nil := F.len_0 (by rw [← HKL.out, hKL0])
      subst hKL0 hk0
      go_enter Try.func34, Try.ntmps34
      go_wp2_with fail
      refine (HH.out _ ((Below.refl _ _).alloc (Nat.le_refl _) _)).mono ?_
      rintro e w' ⟨rfl, rfl⟩
      go_wp2_with fail
      refine wp_loop_rounds 1 ?_
      rw [rounds_succ]
      go_wp2_with fail
      go_ret
      exact ⟨_, rfl, HJ.out.below ((Below.refl _ _).alloc (Nat.le_refl _) _), (Below.refl _ _).alloc (Nat.le_refl _) _⟩
    · have hxb : (xk == 1) = false := by simp [hx1]
      clear hk
      go_enter Try.func34, Try.ntmps34
      go_wp2_with fail
      obtain ⟨w0, hw0⟩ : ∃ w0, w0 = w.alloc (.cells #[.int .i64 xk, .int .i64 xn, .slice sad KL sc] 41) := ⟨_, rfl⟩
      obtain ⟨hB0, -⟩ := HS w0 hw0
      rw [← hw0]
      clear hw0 HS
      go_loopw [1, 27] (fun v1 i w' => ∃ a b : F, k = a.app b ∧ i = .int .i64 (a.len : Int) ∧ JS w' v1 (av o a.flat) ∧ Below w.heap.size w w') (fun _ i _ => KL - (intOf i).toNat)
      case atStart => exact ⟨.nil, k, rfl, rfl, HJ.out.below hB0, hB0⟩
      case round =>
        obtain ⟨a, b, hk, rfl, hJr, hBr⟩ := hrel
        have HJr := hide hJr
        obtain ⟨rad, rc, hform⟩ := hJr.1.form
        subst hform
        clear hJr hB0
        cases b with
        | nil =>
          rw [F.app_nil] at hk
          subst hk
          have hKL := HKL.out
          rw [← hKL]
          clear hKL
          go_wp2_with fail
          go_ret
          exact ⟨_, rfl, HJr.out, hBr⟩
        | cons y ky b =>
          have hkl2 : KL = a.len + (b.len + 1) := by rw [HKL.out, hk, F.app_len]; rfl
          have hlt' : (a.len : Int) < (KL : Int) := by omega
          have hfk : k.flat.length = a.flat.length + (1 + ky.flat.length + b.flat.length) := by rw [hk, F.app_flat]; simp [F.flat]; omega
          have hI := IH.out
          have hKO := HKO.out
          rw [hk] at hI hKO
          obtain ⟨g, cap, sy, he, hPg, hg', hTy, p0, p1, p2⟩ := KidT.kid (a := a) (k := ky) (r := b) (x := y) (s := .slice sad KL sc) (by rw [← hk]; exact HT.out)
          simp only [Value.slice.injEq] at he
          obtain ⟨rfl, -, rfl⟩ := he
          have q0 := (hBr.cell (p := ⟨g, a.len * 3, none⟩) hg').trans p0
          have q1 := (hBr.cell (p := ⟨g, a.len * 3 + 1, none⟩) hg').trans p1
          have q2 := (hBr.cell (p := ⟨g, a.len * 3 + 2, none⟩) hg').trans p2
          obtain ⟨g1, l1, o1, -⟩ : goodC y = true ∧ ky.len = ar y.k ∧ ky.ok ∧ b.ok := ((F.app_ok _ _).1 hKO).2
          have hal := av_len a.flat o
          have hB1 : Below w.heap.size w (wr.alloc (.cells #[.int .i64 y.k, .int .i64 y.n, sy] 41)) := hBr.alloc hBr.size _
          have HC := hide (F.all_at hI y sy (.slice rad (av o a.flat).length rc) (av o a.flat) P (wr.alloc (.cells #[.int .i64 y.k, .int .i64 y.n, sy] 41)) g1 l1 o1 (by omega) (hTy.below hB1) (HJr.out.below ((Below.refl _ _).alloc (Nat.le_refl _) _)))
          obtain ⟨yad, yc, rfl⟩ := hTy.form
          have HSn := hide (hk.trans (F.app_snoc a ky b y))
          have HDl : Hid ((a.app (.cons y ky .nil)).len = a.len + 1) := hide (by rw [F.app_len]; rfl)
          have HDf : Hid (av o (a.app (.cons y ky .nil)).flat = av (av o a.flat) (y :: ky.flat)) := hide (by rw [F.app_flat, av_app]; simp [F.flat])
          have HKl2 := hide hkl2
          clear p0 p1 p2 hTy hI hk hkl2 hfk hKO g1 l1 o1 hal
          obtain ⟨al, hal⟩ : ∃ al, al = a.len := ⟨_, rfl⟩
          obtain ⟨kn, hkn⟩ : ∃ kn, kn = ky.len := ⟨_, rfl⟩
          obtain ⟨NN, hNN⟩ : ∃ NN, NN = (av o a.flat).length := ⟨_, rfl⟩
          rw [← hal] at hlt' q0 q1 q2 HDl HKl2 ⊢
          rw [← hkn] at HC q2 hB1
          rw [← hNN] at HC HJr ⊢
          clear hal hkn hNN
          go_wp2_with fail
          refine Calls.mono HC.out ?_
          rintro e w2 ⟨v2, rfl, hJ2, hb2⟩
          obtain ⟨ad2, c2, rfl⟩ := hJ2.1.form
          have HJ2 := hide hJ2
          have hB2 : Below w.heap.size w w2 := hB1.trans (hb2.mono hB1.size)
          clear hJ2 hb2 HC q0 q1 q2
          go_wp2_with fail
          have hkl2 := HKl2.out
          exact ⟨⟨a.app (.cons y ky .nil), b, HSn.out, by rw [HDl.out]; go_num, by rw [HDf.out]; exact HJ2.out, hB2⟩, by simp [intOf]; omega⟩
end Go.Proofs.Ytjffignbiabmaac.Y
