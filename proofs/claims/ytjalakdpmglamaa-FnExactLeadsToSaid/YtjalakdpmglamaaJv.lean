/-
  Some texts of this proof in one: WkTeX, WkTeN.
-/
import Derived.Test.YtjalakdpmglamaaJe
import Derived.Test.YtjalakdpmglamaaJt
import Derived.Test.YtjalakdpmglamaaJu
import Derived.Test.YtjalakdpmglamaaJh
/-
  TeX for terms whose variables may be up to 900000 (written by build/weak.py).
-/
namespace Go.Proofs.Ytjalakdpmglamaa.V
open Go.Proofs.Ytjalakdpmglamaa.W
open Go.ChangeShapes Go.WideShapes Go.ChangeAt Go.RowKit
set_option linter.unusedVariables false

section
variable {σ : Type} (fid : FuncId) (cap : Array Value) (cb : Nat) (ob : σ → World → Prop) (g : σ → Int → Nat → F) (st : σ → Int → Nat → σ)
theorem withVariables_any (hfn : ∀ args w, (callFunc fid args).run Try.prog w = .ok (.enter fid args) w) (hch : ChgOK fid cap cb ob g st) (hlen : ∀ s n d, (g s n d).len = 1) : ∀ k, WVGoal fid cap cb ob g st k := by
  apply F.rec_kids
  intro k ih x s d hg hk hko hd w hcb hinv
  have hl1 : ∀ (y : Cc) (ky : F) (s : σ) (d : Nat), (w1 g st d y ky s).1.len = 1 := fun y ky s d => wv_len hlen _ _ _ _ _
  have one : ∀ (y : Cc) (ky : F) (s : σ) (d : Nat), ∃ R q, pvT (w1 g st d y ky s).1 = .iface R q := fun y ky s d => pvT_iface (hl1 y ky s d)
  obtain ⟨xk, xn⟩ := x
  have hin := good_ar hg
  simp only [inB, Bool.and_eq_true, decide_eq_true_eq] at hin
  have hx : xk = 1 ∨ xk = 2 ∨ xk = 3 ∨ xk = 4 ∨ xk = 5 ∨ xk = 6 ∨ xk = 7 := by omega
  rcases hx with h | h | h | h | h | h | h
  · subst h
    rw [w1_var]
    have hn : 0 ≤ xn ∧ xn ≤ 900000 := by simpa [goodC, inB] using hg
    exact with_var fid cap cb ob g st hfn hch hlen s d (by omega) xn hn.1 hn.2 w hcb hinv
  · subst h
    have hk0 : k = .nil := F.len_0 (by rw [hk]; rfl)
    subst hk0
    rw [w1_other _ _ _ _ _ _ (by simp)]
    exact with_num fid cap cb ob s d xn w hcb hinv
  · subst h
    obtain ⟨y0, k0, rfl⟩ := F.len_1 (show k.len = 1 by rw [hk]; rfl)
    obtain ⟨g0, l0, o0, r0⟩ := ok_cons hko
    have i0 := ih.1
    have hfl : d + ((1 + k0.flat.length)) ≤ 1048576 := by simp [F.flat] at hd; omega
    obtain ⟨R0, q0, e0⟩ := one y0 k0 s (d + 1)
    have c0 := i0 y0 s (d + 1) g0 l0 o0 (by omega)
    have f0 := hl1 y0 k0 s (d + 1)
    obtain ⟨T0, u0, v0⟩ := pv_iface y0.k y0.n (pvs k0)
    unfold WVC at c0
    rw [e0, v0] at c0
    rw [show ((d + 1 : Nat) : Int) = (d : Int) + 1 from rfl] at c0
    rw [w1_other _ _ _ _ _ _ (by simp)]
    have hp : pv 3 xn (pvs (F.cons y0 k0 (.nil))) = .iface 90 (.agg #[.iface T0 u0]) := by
      show pv 3 xn [pv y0.k y0.n (pvs k0)] = _
      rw [v0]
      rfl
    have hw : wv g st 3 d 0 (F.cons y0 k0 (.nil)) s = ((w1 g st (d + 1) y0 k0 s).1.app (.nil), (w1 g st (d + 1) y0 k0 s).2) := by simp [wv_step, wv_nil, binds]
    have hr : pvT (.cons ⟨3, xn⟩ ((w1 g st (d + 1) y0 k0 s).1.app (.nil)) .nil) = .iface 90 (.agg #[.iface R0 q0]) := by
      show pv 3 xn (pvs ((w1 g st (d + 1) y0 k0 s).1.app (.nil))) = _
      simp only [pvs_app, pvs_one f0, pvs]
      simp [pv, e0]
    rw [hw]
    simp only
    rw [hr, hp]
    exact with_lam fid cap cb ob s d (by omega) T0 u0 R0 q0 _ c0 w hcb hinv
  · subst h
    obtain ⟨y0, k0, y1, k1, rfl⟩ := F.len_2 (show k.len = 2 by rw [hk]; rfl)
    obtain ⟨g0, l0, o0, r0⟩ := ok_cons hko
    obtain ⟨g1, l1, o1, r1⟩ := ok_cons r0
    have i0 := ih.1
    have i1 := ih.2.1
    have hfl : d + ((1 + k0.flat.length) + (1 + k1.flat.length)) ≤ 1048576 := by simp [F.flat] at hd; omega
    obtain ⟨R0, q0, e0⟩ := one y0 k0 s d
    have c0 := i0 y0 s d g0 l0 o0 (by omega)
    have f0 := hl1 y0 k0 s d
    obtain ⟨R1, q1, e1⟩ := one y1 k1 (w1 g st d y0 k0 s).2 d
    have c1 := i1 y1 (w1 g st d y0 k0 s).2 d g1 l1 o1 (by omega)
    have f1 := hl1 y1 k1 (w1 g st d y0 k0 s).2 d
    obtain ⟨T0, u0, v0⟩ := pv_iface y0.k y0.n (pvs k0)
    unfold WVC at c0
    rw [e0, v0] at c0
    obtain ⟨T1, u1, v1⟩ := pv_iface y1.k y1.n (pvs k1)
    unfold WVC at c1
    rw [e1, v1] at c1
    rw [w1_other _ _ _ _ _ _ (by simp)]
    have hp : pv 4 xn (pvs (F.cons y0 k0 (F.cons y1 k1 (.nil)))) = .iface 92 (.agg #[.iface T0 u0, .iface T1 u1]) := by
      show pv 4 xn [pv y0.k y0.n (pvs k0), pv y1.k y1.n (pvs k1)] = _
      rw [v0, v1]
      rfl
    have hw : wv g st 4 d 0 (F.cons y0 k0 (F.cons y1 k1 (.nil))) s = ((w1 g st d y0 k0 s).1.app ((w1 g st d y1 k1 (w1 g st d y0 k0 s).2).1.app (.nil)), (w1 g st d y1 k1 (w1 g st d y0 k0 s).2).2) := by simp [wv_step, wv_nil, binds]
    have hr : pvT (.cons ⟨4, xn⟩ ((w1 g st d y0 k0 s).1.app ((w1 g st d y1 k1 (w1 g st d y0 k0 s).2).1.app (.nil))) .nil) = .iface 92 (.agg #[.iface R0 q0, .iface R1 q1]) := by
      show pv 4 xn (pvs ((w1 g st d y0 k0 s).1.app ((w1 g st d y1 k1 (w1 g st d y0 k0 s).2).1.app (.nil)))) = _
      simp only [pvs_app, pvs_one f0, pvs_one f1, pvs]
      simp [pv, e0, e1]
    rw [hw]
    simp only
    rw [hr, hp]
    exact with_app fid cap cb ob s d (by omega) T0 u0 R0 q0 _ T1 u1 R1 q1 _ c0 c1 w hcb hinv
  · subst h
    obtain ⟨y0, k0, y1, k1, rfl⟩ := F.len_2 (show k.len = 2 by rw [hk]; rfl)
    obtain ⟨g0, l0, o0, r0⟩ := ok_cons hko
    obtain ⟨g1, l1, o1, r1⟩ := ok_cons r0
    have i0 := ih.1
    have i1 := ih.2.1
    have hfl : d + ((1 + k0.flat.length) + (1 + k1.flat.length)) ≤ 1048576 := by simp [F.flat] at hd; omega
    obtain ⟨R0, q0, e0⟩ := one y0 k0 s d
    have c0 := i0 y0 s d g0 l0 o0 (by omega)
    have f0 := hl1 y0 k0 s d
    obtain ⟨R1, q1, e1⟩ := one y1 k1 (w1 g st d y0 k0 s).2 d
    have c1 := i1 y1 (w1 g st d y0 k0 s).2 d g1 l1 o1 (by omega)
    have f1 := hl1 y1 k1 (w1 g st d y0 k0 s).2 d
    obtain ⟨T0, u0, v0⟩ := pv_iface y0.k y0.n (pvs k0)
    unfold WVC at c0
    rw [e0, v0] at c0
    obtain ⟨T1, u1, v1⟩ := pv_iface y1.k y1.n (pvs k1)
    unfold WVC at c1
    rw [e1, v1] at c1
    rw [w1_other _ _ _ _ _ _ (by simp)]
    have hp : pv 5 xn (pvs (F.cons y0 k0 (F.cons y1 k1 (.nil)))) = .iface 94 (.agg #[.iface T0 u0, .iface T1 u1]) := by
      show pv 5 xn [pv y0.k y0.n (pvs k0), pv y1.k y1.n (pvs k1)] = _
      rw [v0, v1]
      rfl
    have hw : wv g st 5 d 0 (F.cons y0 k0 (F.cons y1 k1 (.nil))) s = ((w1 g st d y0 k0 s).1.app ((w1 g st d y1 k1 (w1 g st d y0 k0 s).2).1.app (.nil)), (w1 g st d y1 k1 (w1 g st d y0 k0 s).2).2) := by simp [wv_step, wv_nil, binds]
    have hr : pvT (.cons ⟨5, xn⟩ ((w1 g st d y0 k0 s).1.app ((w1 g st d y1 k1 (w1 g st d y0 k0 s).2).1.app (.nil))) .nil) = .iface 94 (.agg #[.iface R0 q0, .iface R1 q1]) := by
      show pv 5 xn (pvs ((w1 g st d y0 k0 s).1.app ((w1 g st d y1 k1 (w1 g st d y0 k0 s).2).1.app (.nil)))) = _
      simp only [pvs_app, pvs_one f0, pvs_one f1, pvs]
      simp [pv, e0, e1]
    rw [hw]
    simp only
    rw [hr, hp]
    exact with_add fid cap cb ob s d (by omega) T0 u0 R0 q0 _ T1 u1 R1 q1 _ c0 c1 w hcb hinv
  · subst h
    obtain ⟨y0, k0, y1, k1, y2, k2, rfl⟩ := F.len_3 (show k.len = 3 by rw [hk]; rfl)
    obtain ⟨g0, l0, o0, r0⟩ := ok_cons hko
    obtain ⟨g1, l1, o1, r1⟩ := ok_cons r0
    obtain ⟨g2, l2, o2, r2⟩ := ok_cons r1
    have i0 := ih.1
    have i1 := ih.2.1
    have i2 := ih.2.2.1
    have hfl : d + ((1 + k0.flat.length) + (1 + k1.flat.length) + (1 + k2.flat.length)) ≤ 1048576 := by simp [F.flat] at hd; omega
    obtain ⟨R0, q0, e0⟩ := one y0 k0 s d
    have c0 := i0 y0 s d g0 l0 o0 (by omega)
    have f0 := hl1 y0 k0 s d
    obtain ⟨R1, q1, e1⟩ := one y1 k1 (w1 g st d y0 k0 s).2 d
    have c1 := i1 y1 (w1 g st d y0 k0 s).2 d g1 l1 o1 (by omega)
    have f1 := hl1 y1 k1 (w1 g st d y0 k0 s).2 d
    obtain ⟨R2, q2, e2⟩ := one y2 k2 (w1 g st d y1 k1 (w1 g st d y0 k0 s).2).2 d
    have c2 := i2 y2 (w1 g st d y1 k1 (w1 g st d y0 k0 s).2).2 d g2 l2 o2 (by omega)
    have f2 := hl1 y2 k2 (w1 g st d y1 k1 (w1 g st d y0 k0 s).2).2 d
    obtain ⟨T0, u0, v0⟩ := pv_iface y0.k y0.n (pvs k0)
    unfold WVC at c0
    rw [e0, v0] at c0
    obtain ⟨T1, u1, v1⟩ := pv_iface y1.k y1.n (pvs k1)
    unfold WVC at c1
    rw [e1, v1] at c1
    obtain ⟨T2, u2, v2⟩ := pv_iface y2.k y2.n (pvs k2)
    unfold WVC at c2
    rw [e2, v2] at c2
    rw [w1_other _ _ _ _ _ _ (by simp)]
    have hp : pv 6 xn (pvs (F.cons y0 k0 (F.cons y1 k1 (F.cons y2 k2 (.nil))))) = .iface 96 (.agg #[.iface T0 u0, .iface T1 u1, .iface T2 u2]) := by
      show pv 6 xn [pv y0.k y0.n (pvs k0), pv y1.k y1.n (pvs k1), pv y2.k y2.n (pvs k2)] = _
      rw [v0, v1, v2]
      rfl
    have hw : wv g st 6 d 0 (F.cons y0 k0 (F.cons y1 k1 (F.cons y2 k2 (.nil)))) s = ((w1 g st d y0 k0 s).1.app ((w1 g st d y1 k1 (w1 g st d y0 k0 s).2).1.app ((w1 g st d y2 k2 (w1 g st d y1 k1 (w1 g st d y0 k0 s).2).2).1.app (.nil))), (w1 g st d y2 k2 (w1 g st d y1 k1 (w1 g st d y0 k0 s).2).2).2) := by simp [wv_step, wv_nil, binds]
    have hr : pvT (.cons ⟨6, xn⟩ ((w1 g st d y0 k0 s).1.app ((w1 g st d y1 k1 (w1 g st d y0 k0 s).2).1.app ((w1 g st d y2 k2 (w1 g st d y1 k1 (w1 g st d y0 k0 s).2).2).1.app (.nil)))) .nil) = .iface 96 (.agg #[.iface R0 q0, .iface R1 q1, .iface R2 q2]) := by
      show pv 6 xn (pvs ((w1 g st d y0 k0 s).1.app ((w1 g st d y1 k1 (w1 g st d y0 k0 s).2).1.app ((w1 g st d y2 k2 (w1 g st d y1 k1 (w1 g st d y0 k0 s).2).2).1.app (.nil))))) = _
      simp only [pvs_app, pvs_one f0, pvs_one f1, pvs_one f2, pvs]
      simp [pv, e0, e1, e2]
    rw [hw]
    simp only
    rw [hr, hp]
    exact with_if fid cap cb ob s d (by omega) T0 u0 R0 q0 _ T1 u1 R1 q1 _ T2 u2 R2 q2 _ c0 c1 c2 w hcb hinv
  · subst h
    obtain ⟨y0, k0, y1, k1, rfl⟩ := F.len_2 (show k.len = 2 by rw [hk]; rfl)
    obtain ⟨g0, l0, o0, r0⟩ := ok_cons hko
    obtain ⟨g1, l1, o1, r1⟩ := ok_cons r0
    have i0 := ih.1
    have i1 := ih.2.1
    have hfl : d + ((1 + k0.flat.length) + (1 + k1.flat.length)) ≤ 1048576 := by simp [F.flat] at hd; omega
    obtain ⟨R0, q0, e0⟩ := one y0 k0 s d
    have c0 := i0 y0 s d g0 l0 o0 (by omega)
    have f0 := hl1 y0 k0 s d
    obtain ⟨R1, q1, e1⟩ := one y1 k1 (w1 g st d y0 k0 s).2 (d + 1)
    have c1 := i1 y1 (w1 g st d y0 k0 s).2 (d + 1) g1 l1 o1 (by omega)
    have f1 := hl1 y1 k1 (w1 g st d y0 k0 s).2 (d + 1)
    obtain ⟨T0, u0, v0⟩ := pv_iface y0.k y0.n (pvs k0)
    unfold WVC at c0
    rw [e0, v0] at c0
    obtain ⟨T1, u1, v1⟩ := pv_iface y1.k y1.n (pvs k1)
    unfold WVC at c1
    rw [e1, v1] at c1
    rw [show ((d + 1 : Nat) : Int) = (d : Int) + 1 from rfl] at c1
    rw [w1_other _ _ _ _ _ _ (by simp)]
    have hp : pv 7 xn (pvs (F.cons y0 k0 (F.cons y1 k1 (.nil)))) = .iface 98 (.agg #[.iface T0 u0, .iface T1 u1]) := by
      show pv 7 xn [pv y0.k y0.n (pvs k0), pv y1.k y1.n (pvs k1)] = _
      rw [v0, v1]
      rfl
    have hw : wv g st 7 d 0 (F.cons y0 k0 (F.cons y1 k1 (.nil))) s = ((w1 g st d y0 k0 s).1.app ((w1 g st (d + 1) y1 k1 (w1 g st d y0 k0 s).2).1.app (.nil)), (w1 g st (d + 1) y1 k1 (w1 g st d y0 k0 s).2).2) := by simp [wv_step, wv_nil, binds]
    have hr : pvT (.cons ⟨7, xn⟩ ((w1 g st d y0 k0 s).1.app ((w1 g st (d + 1) y1 k1 (w1 g st d y0 k0 s).2).1.app (.nil))) .nil) = .iface 98 (.agg #[.iface R0 q0, .iface R1 q1]) := by
      show pv 7 xn (pvs ((w1 g st d y0 k0 s).1.app ((w1 g st (d + 1) y1 k1 (w1 g st d y0 k0 s).2).1.app (.nil)))) = _
      simp only [pvs_app, pvs_one f0, pvs_one f1, pvs]
      simp [pv, e0, e1]
    rw [hw]
    simp only
    rw [hr, hp]
    exact with_let fid cap cb ob s d (by omega) T0 u0 R0 q0 _ T1 u1 R1 q1 _ c0 c1 w hcb hinv
end
end Go.Proofs.Ytjalakdpmglamaa.V

/-
  TeN for terms whose variables may be up to 900000 (written by build/weak.py).
-/
namespace Go.Proofs.Ytjalakdpmglamaa.V
open Go.Proofs.Ytjalakdpmglamaa.W
open Go.ChangeShapes Go.WideShapes Go.ChangeAt Go.RowKit
set_option linter.unusedVariables false

def L3UGoal (k : F) : Prop := ∀ (x : Cc) (s : Value) (K : Nat) (P : Nat → Prop) (w : World), -1000000 ≤ x.n → x.n ≤ 1000000 → k.len = ar x.k → k.okw → K + k.flat.length ≤ 1048576 → KidT w P k s →
    Calls Try.prog 39 #[.agg #[.int .i64 x.k, .int .i64 x.n, s], .int .i64 (K : Int)] w fun e w' => e = .returned (.int .i64 (us1 K x k : Int)) ∧ Below w.heap.size w w'

set_option maxRecDepth 20000 in
set_option maxHeartbeats 2000000 in
theorem l3Uses_any : ∀ k, L3UGoal k := by
  apply F.rec_kids
  intro k ih x s d P w hn1 hn2 hka hko hd hT
  have IH := hide ih
  have HT := hide hT
  have HKO := hide hko
  obtain ⟨sad, sc, rfl⟩ := hT.form
  clear ih hT hko
  by_cases hv : x.k = 1 ∧ x.n = (d : Int)
  · have hf : us1 d x k = 1 := if_pos hv
    rw [hf]
    obtain ⟨xk, xn⟩ := x
    obtain ⟨rfl, rfl⟩ := hv
    simp only at *
    obtain ⟨KL, hKL⟩ : ∃ KL, KL = k.len := ⟨_, rfl⟩
    rw [← hKL] at HT ⊢
    clear hKL hf
    go_enter Try.func39, Try.ntmps39
    go_wp2_with fail
    go_ret
    exact ⟨rfl, (Below.refl _ _).alloc (Nat.le_refl _) _⟩
  · have hf : us1 d x k = usf d x.k 0 k := if_neg hv
    rw [hf]
    obtain ⟨xk, xn⟩ := x
    simp only at *
    obtain ⟨KL, hKL⟩ : ∃ KL, KL = k.len := ⟨_, rfl⟩
    rw [← hKL] at HT ⊢
    have HKL := hide hKL
    have hkl := F.len_flat k
    rw [← hKL] at hkl
    clear hKL hf
    have hv' : xk = 1 → ¬ xn = (d : Int) := fun h1 h2 => hv ⟨h1, h2⟩
    clear hv
    by_cases hx1 : xk = 1
    · subst hx1
      have hv2 : ¬ xn = (d : Int) := hv' rfl
      have hk0 : k = .nil := F.len_0 (by rw [hka]; rfl)
      subst hk0
      obtain rfl : KL = 0 := HKL.out
      clear hv' hka HKL
      go_enter Try.func39, Try.ntmps39
      go_wp2_with fail
      go_loopw [5, 20] (fun o2 i w' => o2 = .int .i64 0 ∧ i = .int .i64 0 ∧ w' = w.alloc (.cells #[.int .i64 1, .int .i64 xn, .slice sad 0 sc] 32)) (fun _ _ _ => 0)
      case atStart => exact ⟨rfl, rfl, rfl⟩
      case round =>
        obtain ⟨rfl, rfl, rfl⟩ := hrel
        go_wp2_with fail
        go_ret
        exact ⟨rfl, (Below.refl _ _).alloc (Nat.le_refl _) _⟩
    · clear hv' hka
      go_enter Try.func39, Try.ntmps39
      go_wp2_with fail
      obtain ⟨w0, hw0⟩ : ∃ w0, w0 = w.alloc (.cells #[.int .i64 xk, .int .i64 xn, .slice sad KL sc] 32) := ⟨_, rfl⟩
      rw [← hw0]
      have hB0 : Below w.heap.size w w0 := by rw [hw0]; exact (Below.refl _ _).alloc (Nat.le_refl _) _
      have hb0 : w0.heap[w.heap.size]? = some (.cells #[.int .i64 xk, .int .i64 xn, .slice sad KL sc] 32) := by rw [hw0]; exact heap_alloc_new _ _
      have HB0 := hide hb0
      have hsz0 : w.heap.size < w0.heap.size := (Array.getElem?_eq_some_iff.1 hb0).1
      have HT0 := hide (HT.out.below hB0)
      clear hw0 hb0
      go_loopw [5, 20] (fun o2 i w' => ∃ a b : F, k = a.app b ∧ i = .int .i64 (a.len : Int) ∧ o2 = .int .i64 (usf d xk 0 a : Int) ∧ Below w0.heap.size w0 w') (fun _ i _ => KL - (intOf i).toNat)
      case atStart => exact ⟨.nil, k, rfl, rfl, rfl, Below.refl _ _⟩
      case round =>
        obtain ⟨a, b, hk, rfl, rfl, hBr⟩ := hrel
        have hBw : Below w.heap.size w wr := hB0.trans (hBr.mono hB0.size)
        cases b with
        | nil =>
          rw [F.app_nil] at hk
          subst hk
          have hKL := HKL.out
          rw [← hKL]
          clear hKL
          go_wp2_with fail
          go_ret
          exact ⟨rfl, hBw⟩
        | cons y ky b =>
          have hkl2 : KL = a.len + (b.len + 1) := by rw [HKL.out, hk, F.app_len]; rfl
          have hlt' : (a.len : Int) < (KL : Int) := by omega
          have hfk : k.flat.length = a.flat.length + (1 + ky.flat.length + b.flat.length) := by rw [hk, F.app_flat]; simp [F.flat]; omega
          have hK := HT0.out
          have hI := IH.out
          have hKO := HKO.out
          rw [hk] at hI hKO
          obtain ⟨g, cap, sy, he, hP, hg, hTy, p0, p1, p2⟩ := KidT.kid (a := a) (k := ky) (r := b) (x := y) (s := .slice sad KL sc) (by rw [← hk]; exact hK)
          simp only [Value.slice.injEq] at he
          obtain ⟨rfl, -, rfl⟩ := he
          have q0 := (hBr.cell (p := ⟨g, a.len * 3, none⟩) hg).trans p0
          have q1 := (hBr.cell (p := ⟨g, a.len * 3 + 1, none⟩) hg).trans p1
          have q2 := (hBr.cell (p := ⟨g, a.len * 3 + 2, none⟩) hg).trans p2
          obtain ⟨g1, l1, o1, -⟩ := ok_cons ((F.app_okw _ _).1 hKO).2
          have hyn := good_n g1
          have hbl := binds_le xk a.len
          have hfl := usf_le a xk d 0
          have hul := us1_le (d + binds xk a.len) y ky
          have HC := hide (fun (w' : World) (hw' : Below w0.heap.size w0 w') => F.all_at hI y sy (d + binds xk a.len) P w' hyn.1 hyn.2 l1 o1 (by omega) (hTy.below hw'))
          obtain ⟨yad, yc, rfl⟩ := hTy.form
          have HSn := hide (hk.trans (F.app_snoc a ky b y))
          have HDl : Hid ((a.app (.cons y ky .nil)).len = a.len + 1) := hide (by rw [F.app_len]; rfl)
          have HFr : Hid (usf d xk 0 (a.app (.cons y ky .nil)) = usf d xk 0 a + us1 (d + binds xk a.len) y ky) := hide (by rw [usf_app, Nat.zero_add, usf_cons]; rfl)
          have HKl2 := hide hkl2
          have HBi := hide (l3Binds_any xk a.len)
          obtain ⟨U0, hU0⟩ : ∃ U0, U0 = usf d xk 0 a := ⟨_, rfl⟩
          obtain ⟨U1, hU1⟩ : ∃ U1, U1 = us1 (d + binds xk a.len) y ky := ⟨_, rfl⟩
          rw [← hU0] at hfl HFr ⊢
          rw [← hU1] at hul HC HFr
          have hU0b : U0 ≤ 1048576 := by omega
          have hU1b : U1 ≤ 1048577 := by omega
          clear p0 p1 p2 hTy hK hI hk hkl2 hfk hfl hul hKO g1 l1 o1 hyn hU0 hU1
          obtain ⟨al, hal⟩ : ∃ al, al = a.len := ⟨_, rfl⟩
          obtain ⟨kn, hkn⟩ : ∃ kn, kn = ky.len := ⟨_, rfl⟩
          obtain ⟨bi, hbi⟩ : ∃ bi, bi = binds xk a.len := ⟨_, rfl⟩
          rw [← hbi] at HC HBi hbl
          rw [← hal] at hlt' q0 q1 q2 HDl HKl2 HBi ⊢
          rw [← hkn] at HC q2
          clear hal hkn hbi
          have c0 : wr.cell? ⟨w.heap.size, 0, none⟩ = some (.int .i64 xk) := (hBr.cell (p := ⟨w.heap.size, 0, none⟩) hsz0).trans ((cell_of_blk HB0.out 0).trans rfl)
          have hw : IntKind.i64.wrap ((d : Int) + (bi : Int)) = ((d + bi : Nat) : Int) := by rw [IntWalk.i64_in _ ⟨by omega, by omega⟩]; omega
          go_wp2_with fail
          obtain ⟨w3, hw3⟩ : ∃ w3, w3 = wr.alloc (.cells #[.int .i64 y.k, .int .i64 y.n, .slice yad kn yc] 32) := ⟨_, rfl⟩
          rw [← hw3]
          have hb3 : w3.heap[wr.heap.size]? = some (.cells #[.int .i64 y.k, .int .i64 y.n, .slice yad kn yc] 32) := by rw [hw3]; exact heap_alloc_new _ _
          have hBr3 : Below wr.heap.size wr w3 := by rw [hw3]; exact (Below.refl _ _).alloc (Nat.le_refl _) _
          have hsz3 : wr.heap.size < w3.heap.size := (Array.getElem?_eq_some_iff.1 hb3).1
          have hszr : w0.heap.size ≤ wr.heap.size := hBr.size
          have e0 : w3.cell? ⟨wr.heap.size, 0, none⟩ = some (.int .i64 y.k) := (cell_of_blk hb3 0).trans rfl
          have e1 : w3.cell? ⟨wr.heap.size, 1, none⟩ = some (.int .i64 y.n) := (cell_of_blk hb3 1).trans rfl
          have e2 : w3.cell? ⟨wr.heap.size, 2, none⟩ = some (.slice yad kn yc) := (cell_of_blk hb3 2).trans rfl
          have e3 : w3.cell? ⟨w.heap.size, 0, none⟩ = some (.int .i64 xk) := (hBr3.cell (p := ⟨w.heap.size, 0, none⟩) (by show w.heap.size < _; omega)).trans c0
          have hB3 : Below w0.heap.size w0 w3.drew := belowDrew (hBr.trans (hBr3.mono hBr.size))
          have HB3 := hide hB3
          clear hw3 hb3 hBr3 q0 q1 q2 c0 hB3
          go_region_held3 (fun w' => w'.cell? ⟨wr.heap.size, 0, none⟩ = some (.int .i64 y.k) ∧ w'.cell? ⟨wr.heap.size, 1, none⟩ = some (.int .i64 y.n) ∧ w'.cell? ⟨wr.heap.size, 2, none⟩ = some (.slice yad kn yc) ∧ w'.cell? ⟨w.heap.size, 0, none⟩ = some (.int .i64 xk)) (go_keep)
            (first
              | (go_at_call 46; refine (HBi.out _).mono ?_; rintro e w' ⟨rfl, rfl⟩)
              | (go_at_call 39; refine Calls.mono (HC.out _ HB3.out) ?_; rintro e w5 ⟨rfl, hb5⟩; have HB5 := hide hb5; clear hb5; have f0 := (HB5.out.cell (p := ⟨wr.heap.size, 0, none⟩) hsz3).trans e0; have f1 := (HB5.out.cell (p := ⟨wr.heap.size, 1, none⟩) hsz3).trans e1; have f2 := (HB5.out.cell (p := ⟨wr.heap.size, 2, none⟩) hsz3).trans e2; have f3 := (HB5.out.cell (p := ⟨w.heap.size, 0, none⟩) (show w.heap.size < w3.heap.size by omega)).trans e3))
          have hB5 : Below w0.heap.size w0 w5 := HB3.out.trans (HB5.out.mono HB3.out.size)
          clear f0 f1 f2 f3 e0 e1 e2 e3
          have hkl2 := HKl2.out
          go_wp2_with fail
          exact ⟨⟨a.app (.cons y ky .nil), b, HSn.out, by rw [HDl.out]; go_num, by rw [HFr.out, IntWalk.i64_in ((U0 : Int) + (U1 : Int)) ⟨by omega, by omega⟩]; rfl, hB5⟩, by simp [intOf]; omega⟩
end Go.Proofs.Ytjalakdpmglamaa.V
