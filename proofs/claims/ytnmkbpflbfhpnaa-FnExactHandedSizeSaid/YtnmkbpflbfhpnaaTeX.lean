/-
  The walk over a term's variables, whole: a contract of withVariables for any change of variables. Conditions: as the theorem states.
-/
import Derived.Test.YtnmkbpflbfhpnaaTeW
namespace Go.Proofs.Ytnmkbpflbfhpnaa.W
open Go.ChangeShapes Go.WideShapes Go.ChangeAt Go.RowKit
set_option linter.unusedVariables false

section
variable {σ : Type} (fid : FuncId) (cap : Array Value) (cb : Nat) (ob : σ → World → Prop) (g : σ → Int → Nat → F) (st : σ → Int → Nat → σ)
theorem ok_cons {x : Cc} {k r : F} (h : (F.cons x k r).ok) : goodC x = true ∧ k.len = ar x.k ∧ k.ok ∧ r.ok := h

theorem withVariables_any (hfn : ∀ args w, (callFunc fid args).run Try.prog w = .ok (.enter fid args) w) (hch : ChgOK fid cap cb ob g st) (hlen : ∀ s n d, (g s n d).len = 1) : ∀ k, WVGoal fid cap cb ob g st k := by
  apply F.rec_kids
  intro k ih x s d hg hk hko hd w hcb hinv
  have hl1 : ∀ (y : Cc) (ky : F) (s : σ) (d : Nat), (w1 g st d y ky s).1.len = 1 := fun y ky s d => wv_len hlen _ _ _ _ _
  have one : ∀ (y : Cc) (ky : F) (s : σ) (d : Nat), ∃ R q, pvT (w1 g st d y ky s).1 = .iface R q := fun y ky s d => pvT_iface (hl1 y ky s d)
  obtain ⟨xk, xn⟩ := x
  have hin := good_ar hg
  simp only [inB, Bool.and_eq_true, decide_eq_true_eq] at hin
  have hx : xk = 1 ∨ xk = 2 ∨ xk = 3 ∨ xk = 4 ∨ xk = 5 ∨ xk = 6 ∨ xk = 7 := by omega
  rcases hx with h | h | h | h | h | h | h
  · subst h
    rw [w1_var]
    have hn : 0 ≤ xn ∧ xn ≤ 99 := by simpa [goodC, inB] using hg
    exact with_var fid cap cb ob g st hfn hch hlen s d (by omega) xn hn.1 hn.2 w hcb hinv
  · subst h
    have hk0 : k = .nil := F.len_0 (by rw [hk]; rfl)
    subst hk0
    rw [w1_other _ _ _ _ _ _ (by simp)]
    exact with_num fid cap cb ob s d xn w hcb hinv
  · subst h
    obtain ⟨y0, k0, rfl⟩ := F.len_1 (show k.len = 1 by rw [hk]; rfl)
    obtain ⟨g0, l0, o0, r0⟩ := ok_cons hko
    have i0 := ih.1
    have hfl : d + ((1 + k0.flat.length)) ≤ 1048576 := by simp [F.flat] at hd; omega
    obtain ⟨R0, q0, e0⟩ := one y0 k0 s (d + 1)
    have c0 := i0 y0 s (d + 1) g0 l0 o0 (by omega)
    have f0 := hl1 y0 k0 s (d + 1)
    obtain ⟨T0, u0, v0⟩ := pv_iface y0.k y0.n (pvs k0)
    unfold WVC at c0
    rw [e0, v0] at c0
    rw [show ((d + 1 : Nat) : Int) = (d : Int) + 1 from rfl] at c0
    rw [w1_other _ _ _ _ _ _ (by simp)]
    have hp : pv 3 xn (pvs (F.cons y0 k0 (.nil))) = .iface 69 (.agg #[.iface T0 u0]) := by
      show pv 3 xn [pv y0.k y0.n (pvs k0)] = _
      rw [v0]
      rfl
    have hw : wv g st 3 d 0 (F.cons y0 k0 (.nil)) s = ((w1 g st (d + 1) y0 k0 s).1.app (.nil), (w1 g st (d + 1) y0 k0 s).2) := by simp [wv_step, wv_nil, binds]
    have hr : pvT (.cons ⟨3, xn⟩ ((w1 g st (d + 1) y0 k0 s).1.app (.nil)) .nil) = .iface 69 (.agg #[.iface R0 q0]) := by
      show pv 3 xn (pvs ((w1 g st (d + 1) y0 k0 s).1.app (.nil))) = _
      simp only [pvs_app, pvs_one f0, pvs]
      simp [pv, e0]
    rw [hw]
    simp only
    rw [hr, hp]
    exact with_lam fid cap cb ob s d (by omega) T0 u0 R0 q0 _ c0 w hcb hinv
  · subst h
    obtain ⟨y0, k0, y1, k1, rfl⟩ := F.len_2 (show k.len = 2 by rw [hk]; rfl)
    obtain ⟨g0, l0, o0, r0⟩ := ok_cons hko
    obtain ⟨g1, l1, o1, r1⟩ := ok_cons r0
    have i0 := ih.1
    have i1 := ih.2.1
    have hfl : d + ((1 + k0.flat.length) + (1 + k1.flat.length)) ≤ 1048576 := by simp [F.flat] at hd; omega
    obtain ⟨R0, q0, e0⟩ := one y0 k0 s d
    have c0 := i0 y0 s d g0 l0 o0 (by omega)
    have f0 := hl1 y0 k0 s d
    obtain ⟨R1, q1, e1⟩ := one y1 k1 (w1 g st d y0 k0 s).2 d
    have c1 := i1 y1 (w1 g st d y0 k0 s).2 d g1 l1 o1 (by omega)
    have f1 := hl1 y1 k1 (w1 g st d y0 k0 s).2 d
    obtain ⟨T0, u0, v0⟩ := pv_iface y0.k y0.n (pvs k0)
    unfold WVC at c0
    rw [e0, v0] at c0
    obtain ⟨T1, u1, v1⟩ := pv_iface y1.k y1.n (pvs k1)
    unfold WVC at c1
    rw [e1, v1] at c1
    rw [w1_other _ _ _ _ _ _ (by simp)]
    have hp : pv 4 xn (pvs (F.cons y0 k0 (F.cons y1 k1 (.nil)))) = .iface 73 (.agg #[.iface T0 u0, .iface T1 u1]) := by
      show pv 4 xn [pv y0.k y0.n (pvs k0), pv y1.k y1.n (pvs k1)] = _
      rw [v0, v1]
      rfl
    have hw : wv g st 4 d 0 (F.cons y0 k0 (F.cons y1 k1 (.nil))) s = ((w1 g st d y0 k0 s).1.app ((w1 g st d y1 k1 (w1 g st d y0 k0 s).2).1.app (.nil)), (w1 g st d y1 k1 (w1 g st d y0 k0 s).2).2) := by simp [wv_step, wv_nil, binds]
    have hr : pvT (.cons ⟨4, xn⟩ ((w1 g st d y0 k0 s).1.app ((w1 g st d y1 k1 (w1 g st d y0 k0 s).2).1.app (.nil))) .nil) = .iface 73 (.agg #[.iface R0 q0, .iface R1 q1]) := by
      show pv 4 xn (pvs ((w1 g st d y0 k0 s).1.app ((w1 g st d y1 k1 (w1 g st d y0 k0 s).2).1.app (.nil)))) = _
      simp only [pvs_app, pvs_one f0, pvs_one f1, pvs]
      simp [pv, e0, e1]
    rw [hw]
    simp only
    rw [hr, hp]
    exact with_app fid cap cb ob s d (by omega) T0 u0 R0 q0 _ T1 u1 R1 q1 _ c0 c1 w hcb hinv
  · subst h
    obtain ⟨y0, k0, y1, k1, rfl⟩ := F.len_2 (show k.len = 2 by rw [hk]; rfl)
    obtain ⟨g0, l0, o0, r0⟩ := ok_cons hko
    obtain ⟨g1, l1, o1, r1⟩ := ok_cons r0
    have i0 := ih.1
    have i1 := ih.2.1
    have hfl : d + ((1 + k0.flat.length) + (1 + k1.flat.length)) ≤ 1048576 := by simp [F.flat] at hd; omega
    obtain ⟨R0, q0, e0⟩ := one y0 k0 s d
    have c0 := i0 y0 s d g0 l0 o0 (by omega)
    have f0 := hl1 y0 k0 s d
    obtain ⟨R1, q1, e1⟩ := one y1 k1 (w1 g st d y0 k0 s).2 d
    have c1 := i1 y1 (w1 g st d y0 k0 s).2 d g1 l1 o1 (by omega)
    have f1 := hl1 y1 k1 (w1 g st d y0 k0 s).2 d
    obtain ⟨T0, u0, v0⟩ := pv_iface y0.k y0.n (pvs k0)
    unfold WVC at c0
    rw [e0, v0] at c0
    obtain ⟨T1, u1, v1⟩ := pv_iface y1.k y1.n (pvs k1)
    unfold WVC at c1
    rw [e1, v1] at c1
    rw [w1_other _ _ _ _ _ _ (by simp)]
    have hp : pv 5 xn (pvs (F.cons y0 k0 (F.cons y1 k1 (.nil)))) = .iface 78 (.agg #[.iface T0 u0, .iface T1 u1]) := by
      show pv 5 xn [pv y0.k y0.n (pvs k0), pv y1.k y1.n (pvs k1)] = _
      rw [v0, v1]
      rfl
    have hw : wv g st 5 d 0 (F.cons y0 k0 (F.cons y1 k1 (.nil))) s = ((w1 g st d y0 k0 s).1.app ((w1 g st d y1 k1 (w1 g st d y0 k0 s).2).1.app (.nil)), (w1 g st d y1 k1 (w1 g st d y0 k0 s).2).2) := by simp [wv_step, wv_nil, binds]
    have hr : pvT (.cons ⟨5, xn⟩ ((w1 g st d y0 k0 s).1.app ((w1 g st d y1 k1 (w1 g st d y0 k0 s).2).1.app (.nil))) .nil) = .iface 78 (.agg #[.iface R0 q0, .iface R1 q1]) := by
      show pv 5 xn (pvs ((w1 g st d y0 k0 s).1.app ((w1 g st d y1 k1 (w1 g st d y0 k0 s).2).1.app (.nil)))) = _
      simp only [pvs_app, pvs_one f0, pvs_one f1, pvs]
      simp [pv, e0, e1]
    rw [hw]
    simp only
    rw [hr, hp]
    exact with_add fid cap cb ob s d (by omega) T0 u0 R0 q0 _ T1 u1 R1 q1 _ c0 c1 w hcb hinv
  · subst h
    obtain ⟨y0, k0, y1, k1, y2, k2, rfl⟩ := F.len_3 (show k.len = 3 by rw [hk]; rfl)
    obtain ⟨g0, l0, o0, r0⟩ := ok_cons hko
    obtain ⟨g1, l1, o1, r1⟩ := ok_cons r0
    obtain ⟨g2, l2, o2, r2⟩ := ok_cons r1
    have i0 := ih.1
    have i1 := ih.2.1
    have i2 := ih.2.2.1
    have hfl : d + ((1 + k0.flat.length) + (1 + k1.flat.length) + (1 + k2.flat.length)) ≤ 1048576 := by simp [F.flat] at hd; omega
    obtain ⟨R0, q0, e0⟩ := one y0 k0 s d
    have c0 := i0 y0 s d g0 l0 o0 (by omega)
    have f0 := hl1 y0 k0 s d
    obtain ⟨R1, q1, e1⟩ := one y1 k1 (w1 g st d y0 k0 s).2 d
    have c1 := i1 y1 (w1 g st d y0 k0 s).2 d g1 l1 o1 (by omega)
    have f1 := hl1 y1 k1 (w1 g st d y0 k0 s).2 d
    obtain ⟨R2, q2, e2⟩ := one y2 k2 (w1 g st d y1 k1 (w1 g st d y0 k0 s).2).2 d
    have c2 := i2 y2 (w1 g st d y1 k1 (w1 g st d y0 k0 s).2).2 d g2 l2 o2 (by omega)
    have f2 := hl1 y2 k2 (w1 g st d y1 k1 (w1 g st d y0 k0 s).2).2 d
    obtain ⟨T0, u0, v0⟩ := pv_iface y0.k y0.n (pvs k0)
    unfold WVC at c0
    rw [e0, v0] at c0
    obtain ⟨T1, u1, v1⟩ := pv_iface y1.k y1.n (pvs k1)
    unfold WVC at c1
    rw [e1, v1] at c1
    obtain ⟨T2, u2, v2⟩ := pv_iface y2.k y2.n (pvs k2)
    unfold WVC at c2
    rw [e2, v2] at c2
    rw [w1_other _ _ _ _ _ _ (by simp)]
    have hp : pv 6 xn (pvs (F.cons y0 k0 (F.cons y1 k1 (F.cons y2 k2 (.nil))))) = .iface 80 (.agg #[.iface T0 u0, .iface T1 u1, .iface T2 u2]) := by
      show pv 6 xn [pv y0.k y0.n (pvs k0), pv y1.k y1.n (pvs k1), pv y2.k y2.n (pvs k2)] = _
      rw [v0, v1, v2]
      rfl
    have hw : wv g st 6 d 0 (F.cons y0 k0 (F.cons y1 k1 (F.cons y2 k2 (.nil)))) s = ((w1 g st d y0 k0 s).1.app ((w1 g st d y1 k1 (w1 g st d y0 k0 s).2).1.app ((w1 g st d y2 k2 (w1 g st d y1 k1 (w1 g st d y0 k0 s).2).2).1.app (.nil))), (w1 g st d y2 k2 (w1 g st d y1 k1 (w1 g st d y0 k0 s).2).2).2) := by simp [wv_step, wv_nil, binds]
    have hr : pvT (.cons ⟨6, xn⟩ ((w1 g st d y0 k0 s).1.app ((w1 g st d y1 k1 (w1 g st d y0 k0 s).2).1.app ((w1 g st d y2 k2 (w1 g st d y1 k1 (w1 g st d y0 k0 s).2).2).1.app (.nil)))) .nil) = .iface 80 (.agg #[.iface R0 q0, .iface R1 q1, .iface R2 q2]) := by
      show pv 6 xn (pvs ((w1 g st d y0 k0 s).1.app ((w1 g st d y1 k1 (w1 g st d y0 k0 s).2).1.app ((w1 g st d y2 k2 (w1 g st d y1 k1 (w1 g st d y0 k0 s).2).2).1.app (.nil))))) = _
      simp only [pvs_app, pvs_one f0, pvs_one f1, pvs_one f2, pvs]
      simp [pv, e0, e1, e2]
    rw [hw]
    simp only
    rw [hr, hp]
    exact with_if fid cap cb ob s d (by omega) T0 u0 R0 q0 _ T1 u1 R1 q1 _ T2 u2 R2 q2 _ c0 c1 c2 w hcb hinv
  · subst h
    obtain ⟨y0, k0, y1, k1, rfl⟩ := F.len_2 (show k.len = 2 by rw [hk]; rfl)
    obtain ⟨g0, l0, o0, r0⟩ := ok_cons hko
    obtain ⟨g1, l1, o1, r1⟩ := ok_cons r0
    have i0 := ih.1
    have i1 := ih.2.1
    have hfl : d + ((1 + k0.flat.length) + (1 + k1.flat.length)) ≤ 1048576 := by simp [F.flat] at hd; omega
    obtain ⟨R0, q0, e0⟩ := one y0 k0 s d
    have c0 := i0 y0 s d g0 l0 o0 (by omega)
    have f0 := hl1 y0 k0 s d
    obtain ⟨R1, q1, e1⟩ := one y1 k1 (w1 g st d y0 k0 s).2 (d + 1)
    have c1 := i1 y1 (w1 g st d y0 k0 s).2 (d + 1) g1 l1 o1 (by omega)
    have f1 := hl1 y1 k1 (w1 g st d y0 k0 s).2 (d + 1)
    obtain ⟨T0, u0, v0⟩ := pv_iface y0.k y0.n (pvs k0)
    unfold WVC at c0
    rw [e0, v0] at c0
    obtain ⟨T1, u1, v1⟩ := pv_iface y1.k y1.n (pvs k1)
    unfold WVC at c1
    rw [e1, v1] at c1
    rw [show ((d + 1 : Nat) : Int) = (d : Int) + 1 from rfl] at c1
    rw [w1_other _ _ _ _ _ _ (by simp)]
    have hp : pv 7 xn (pvs (F.cons y0 k0 (F.cons y1 k1 (.nil)))) = .iface 83 (.agg #[.iface T0 u0, .iface T1 u1]) := by
      show pv 7 xn [pv y0.k y0.n (pvs k0), pv y1.k y1.n (pvs k1)] = _
      rw [v0, v1]
      rfl
    have hw : wv g st 7 d 0 (F.cons y0 k0 (F.cons y1 k1 (.nil))) s = ((w1 g st d y0 k0 s).1.app ((w1 g st (d + 1) y1 k1 (w1 g st d y0 k0 s).2).1.app (.nil)), (w1 g st (d + 1) y1 k1 (w1 g st d y0 k0 s).2).2) := by simp [wv_step, wv_nil, binds]
    have hr : pvT (.cons ⟨7, xn⟩ ((w1 g st d y0 k0 s).1.app ((w1 g st (d + 1) y1 k1 (w1 g st d y0 k0 s).2).1.app (.nil))) .nil) = .iface 83 (.agg #[.iface R0 q0, .iface R1 q1]) := by
      show pv 7 xn (pvs ((w1 g st d y0 k0 s).1.app ((w1 g st (d + 1) y1 k1 (w1 g st d y0 k0 s).2).1.app (.nil)))) = _
      simp only [pvs_app, pvs_one f0, pvs_one f1, pvs]
      simp [pv, e0, e1]
    rw [hw]
    simp only
    rw [hr, hp]
    exact with_let fid cap cb ob s d (by omega) T0 u0 R0 q0 _ T1 u1 R1 q1 _ c0 c1 w hcb hinv
end
end Go.Proofs.Ytnmkbpflbfhpnaa.W
