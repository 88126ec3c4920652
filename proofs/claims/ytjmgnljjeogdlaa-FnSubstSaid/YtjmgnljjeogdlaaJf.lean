/-
  Some texts of this proof in one: TeX, TeF.
-/
import Derived.Test.YtjmgnljjeogdlaaJe
import Derived.Laws.AppendOwnNone
/-
  The walk over a term's variables, whole: a contract of withVariables for any change of variables. Conditions: as the theorem states.
-/
namespace Go.Proofs.Ytjmgnljjeogdlaa.W
open Go.ChangeShapes Go.WideShapes Go.ChangeAt Go.RowKit
set_option linter.unusedVariables false

section
variable {σ : Type} (fid : FuncId) (cap : Array Value) (cb : Nat) (ob : σ → World → Prop) (g : σ → Int → Nat → F) (st : σ → Int → Nat → σ)
theorem ok_cons {x : Cc} {k r : F} (h : (F.cons x k r).ok) : goodC x = true ∧ k.len = ar x.k ∧ k.ok ∧ r.ok := h

theorem withVariables_any (hfn : ∀ args w, (callFunc fid args).run Try.prog w = .ok (.enter fid args) w) (hch : ChgOK fid cap cb ob g st) (hlen : ∀ s n d, (g s n d).len = 1) : ∀ k, WVGoal fid cap cb ob g st k := by
  apply F.rec_kids
  intro k ih x s d hg hk hko hd w hcb hinv
  have hl1 : ∀ (y : Cc) (ky : F) (s : σ) (d : Nat), (w1 g st d y ky s).1.len = 1 := fun y ky s d => wv_len hlen _ _ _ _ _
  have one : ∀ (y : Cc) (ky : F) (s : σ) (d : Nat), ∃ R q, pvT (w1 g st d y ky s).1 = .iface R q := fun y ky s d => pvT_iface (hl1 y ky s d)
  obtain ⟨xk, xn⟩ := x
  have hin := good_ar hg
  simp only [inB, Bool.and_eq_true, decide_eq_true_eq] at hin
  have hx : xk = 1 ∨ xk = 2 ∨ xk = 3 ∨ xk = 4 ∨ xk = 5 ∨ xk = 6 ∨ xk = 7 := by omega
  rcases hx with h | h | h | h | h | h | h
  · subst h
    rw [w1_var]
    have hn : 0 ≤ xn ∧ xn ≤ 99 := by simpa [goodC, inB] using hg
    exact with_var fid cap cb ob g st hfn hch hlen s d (by omega) xn hn.1 hn.2 w hcb hinv
  · subst h
    have hk0 : k = .nil := F.len_0 (by rw [hk]; rfl)
    subst hk0
    rw [w1_other _ _ _ _ _ _ (by simp)]
    exact with_num fid cap cb ob s d xn w hcb hinv
  · subst h
    obtain ⟨y0, k0, rfl⟩ := F.len_1 (show k.len = 1 by rw [hk]; rfl)
    obtain ⟨g0, l0, o0, r0⟩ := ok_cons hko
    have i0 := ih.1
    have hfl : d + ((1 + k0.flat.length)) ≤ 1048576 := by simp [F.flat] at hd; omega
    obtain ⟨R0, q0, e0⟩ := one y0 k0 s (d + 1)
    have c0 := i0 y0 s (d + 1) g0 l0 o0 (by omega)
    have f0 := hl1 y0 k0 s (d + 1)
    obtain ⟨T0, u0, v0⟩ := pv_iface y0.k y0.n (pvs k0)
    unfold WVC at c0
    rw [e0, v0] at c0
    rw [show ((d + 1 : Nat) : Int) = (d : Int) + 1 from rfl] at c0
    rw [w1_other _ _ _ _ _ _ (by simp)]
    have hp : pv 3 xn (pvs (F.cons y0 k0 (.nil))) = .iface 100 (.agg #[.iface T0 u0]) := by
      show pv 3 xn [pv y0.k y0.n (pvs k0)] = _
      rw [v0]
      rfl
    have hw : wv g st 3 d 0 (F.cons y0 k0 (.nil)) s = ((w1 g st (d + 1) y0 k0 s).1.app (.nil), (w1 g st (d + 1) y0 k0 s).2) := by simp [wv_step, wv_nil, binds]
    have hr : pvT (.cons ⟨3, xn⟩ ((w1 g st (d + 1) y0 k0 s).1.app (.nil)) .nil) = .iface 100 (.agg #[.iface R0 q0]) := by
      show pv 3 xn (pvs ((w1 g st (d + 1) y0 k0 s).1.app (.nil))) = _
      simp only [pvs_app, pvs_one f0, pvs]
      simp [pv, e0]
    rw [hw]
    simp only
    rw [hr, hp]
    exact with_lam fid cap cb ob s d (by omega) T0 u0 R0 q0 _ c0 w hcb hinv
  · subst h
    obtain ⟨y0, k0, y1, k1, rfl⟩ := F.len_2 (show k.len = 2 by rw [hk]; rfl)
    obtain ⟨g0, l0, o0, r0⟩ := ok_cons hko
    obtain ⟨g1, l1, o1, r1⟩ := ok_cons r0
    have i0 := ih.1
    have i1 := ih.2.1
    have hfl : d + ((1 + k0.flat.length) + (1 + k1.flat.length)) ≤ 1048576 := by simp [F.flat] at hd; omega
    obtain ⟨R0, q0, e0⟩ := one y0 k0 s d
    have c0 := i0 y0 s d g0 l0 o0 (by omega)
    have f0 := hl1 y0 k0 s d
    obtain ⟨R1, q1, e1⟩ := one y1 k1 (w1 g st d y0 k0 s).2 d
    have c1 := i1 y1 (w1 g st d y0 k0 s).2 d g1 l1 o1 (by omega)
    have f1 := hl1 y1 k1 (w1 g st d y0 k0 s).2 d
    obtain ⟨T0, u0, v0⟩ := pv_iface y0.k y0.n (pvs k0)
    unfold WVC at c0
    rw [e0, v0] at c0
    obtain ⟨T1, u1, v1⟩ := pv_iface y1.k y1.n (pvs k1)
    unfold WVC at c1
    rw [e1, v1] at c1
    rw [w1_other _ _ _ _ _ _ (by simp)]
    have hp : pv 4 xn (pvs (F.cons y0 k0 (F.cons y1 k1 (.nil)))) = .iface 102 (.agg #[.iface T0 u0, .iface T1 u1]) := by
      show pv 4 xn [pv y0.k y0.n (pvs k0), pv y1.k y1.n (pvs k1)] = _
      rw [v0, v1]
      rfl
    have hw : wv g st 4 d 0 (F.cons y0 k0 (F.cons y1 k1 (.nil))) s = ((w1 g st d y0 k0 s).1.app ((w1 g st d y1 k1 (w1 g st d y0 k0 s).2).1.app (.nil)), (w1 g st d y1 k1 (w1 g st d y0 k0 s).2).2) := by simp [wv_step, wv_nil, binds]
    have hr : pvT (.cons ⟨4, xn⟩ ((w1 g st d y0 k0 s).1.app ((w1 g st d y1 k1 (w1 g st d y0 k0 s).2).1.app (.nil))) .nil) = .iface 102 (.agg #[.iface R0 q0, .iface R1 q1]) := by
      show pv 4 xn (pvs ((w1 g st d y0 k0 s).1.app ((w1 g st d y1 k1 (w1 g st d y0 k0 s).2).1.app (.nil)))) = _
      simp only [pvs_app, pvs_one f0, pvs_one f1, pvs]
      simp [pv, e0, e1]
    rw [hw]
    simp only
    rw [hr, hp]
    exact with_app fid cap cb ob s d (by omega) T0 u0 R0 q0 _ T1 u1 R1 q1 _ c0 c1 w hcb hinv
  · subst h
    obtain ⟨y0, k0, y1, k1, rfl⟩ := F.len_2 (show k.len = 2 by rw [hk]; rfl)
    obtain ⟨g0, l0, o0, r0⟩ := ok_cons hko
    obtain ⟨g1, l1, o1, r1⟩ := ok_cons r0
    have i0 := ih.1
    have i1 := ih.2.1
    have hfl : d + ((1 + k0.flat.length) + (1 + k1.flat.length)) ≤ 1048576 := by simp [F.flat] at hd; omega
    obtain ⟨R0, q0, e0⟩ := one y0 k0 s d
    have c0 := i0 y0 s d g0 l0 o0 (by omega)
    have f0 := hl1 y0 k0 s d
    obtain ⟨R1, q1, e1⟩ := one y1 k1 (w1 g st d y0 k0 s).2 d
    have c1 := i1 y1 (w1 g st d y0 k0 s).2 d g1 l1 o1 (by omega)
    have f1 := hl1 y1 k1 (w1 g st d y0 k0 s).2 d
    obtain ⟨T0, u0, v0⟩ := pv_iface y0.k y0.n (pvs k0)
    unfold WVC at c0
    rw [e0, v0] at c0
    obtain ⟨T1, u1, v1⟩ := pv_iface y1.k y1.n (pvs k1)
    unfold WVC at c1
    rw [e1, v1] at c1
    rw [w1_other _ _ _ _ _ _ (by simp)]
    have hp : pv 5 xn (pvs (F.cons y0 k0 (F.cons y1 k1 (.nil)))) = .iface 104 (.agg #[.iface T0 u0, .iface T1 u1]) := by
      show pv 5 xn [pv y0.k y0.n (pvs k0), pv y1.k y1.n (pvs k1)] = _
      rw [v0, v1]
      rfl
    have hw : wv g st 5 d 0 (F.cons y0 k0 (F.cons y1 k1 (.nil))) s = ((w1 g st d y0 k0 s).1.app ((w1 g st d y1 k1 (w1 g st d y0 k0 s).2).1.app (.nil)), (w1 g st d y1 k1 (w1 g st d y0 k0 s).2).2) := by simp [wv_step, wv_nil, binds]
    have hr : pvT (.cons ⟨5, xn⟩ ((w1 g st d y0 k0 s).1.app ((w1 g st d y1 k1 (w1 g st d y0 k0 s).2).1.app (.nil))) .nil) = .iface 104 (.agg #[.iface R0 q0, .iface R1 q1]) := by
      show pv 5 xn (pvs ((w1 g st d y0 k0 s).1.app ((w1 g st d y1 k1 (w1 g st d y0 k0 s).2).1.app (.nil)))) = _
      simp only [pvs_app, pvs_one f0, pvs_one f1, pvs]
      simp [pv, e0, e1]
    rw [hw]
    simp only
    rw [hr, hp]
    exact with_add fid cap cb ob s d (by omega) T0 u0 R0 q0 _ T1 u1 R1 q1 _ c0 c1 w hcb hinv
  · subst h
    obtain ⟨y0, k0, y1, k1, y2, k2, rfl⟩ := F.len_3 (show k.len = 3 by rw [hk]; rfl)
    obtain ⟨g0, l0, o0, r0⟩ := ok_cons hko
    obtain ⟨g1, l1, o1, r1⟩ := ok_cons r0
    obtain ⟨g2, l2, o2, r2⟩ := ok_cons r1
    have i0 := ih.1
    have i1 := ih.2.1
    have i2 := ih.2.2.1
    have hfl : d + ((1 + k0.flat.length) + (1 + k1.flat.length) + (1 + k2.flat.length)) ≤ 1048576 := by simp [F.flat] at hd; omega
    obtain ⟨R0, q0, e0⟩ := one y0 k0 s d
    have c0 := i0 y0 s d g0 l0 o0 (by omega)
    have f0 := hl1 y0 k0 s d
    obtain ⟨R1, q1, e1⟩ := one y1 k1 (w1 g st d y0 k0 s).2 d
    have c1 := i1 y1 (w1 g st d y0 k0 s).2 d g1 l1 o1 (by omega)
    have f1 := hl1 y1 k1 (w1 g st d y0 k0 s).2 d
    obtain ⟨R2, q2, e2⟩ := one y2 k2 (w1 g st d y1 k1 (w1 g st d y0 k0 s).2).2 d
    have c2 := i2 y2 (w1 g st d y1 k1 (w1 g st d y0 k0 s).2).2 d g2 l2 o2 (by omega)
    have f2 := hl1 y2 k2 (w1 g st d y1 k1 (w1 g st d y0 k0 s).2).2 d
    obtain ⟨T0, u0, v0⟩ := pv_iface y0.k y0.n (pvs k0)
    unfold WVC at c0
    rw [e0, v0] at c0
    obtain ⟨T1, u1, v1⟩ := pv_iface y1.k y1.n (pvs k1)
    unfold WVC at c1
    rw [e1, v1] at c1
    obtain ⟨T2, u2, v2⟩ := pv_iface y2.k y2.n (pvs k2)
    unfold WVC at c2
    rw [e2, v2] at c2
    rw [w1_other _ _ _ _ _ _ (by simp)]
    have hp : pv 6 xn (pvs (F.cons y0 k0 (F.cons y1 k1 (F.cons y2 k2 (.nil))))) = .iface 106 (.agg #[.iface T0 u0, .iface T1 u1, .iface T2 u2]) := by
      show pv 6 xn [pv y0.k y0.n (pvs k0), pv y1.k y1.n (pvs k1), pv y2.k y2.n (pvs k2)] = _
      rw [v0, v1, v2]
      rfl
    have hw : wv g st 6 d 0 (F.cons y0 k0 (F.cons y1 k1 (F.cons y2 k2 (.nil)))) s = ((w1 g st d y0 k0 s).1.app ((w1 g st d y1 k1 (w1 g st d y0 k0 s).2).1.app ((w1 g st d y2 k2 (w1 g st d y1 k1 (w1 g st d y0 k0 s).2).2).1.app (.nil))), (w1 g st d y2 k2 (w1 g st d y1 k1 (w1 g st d y0 k0 s).2).2).2) := by simp [wv_step, wv_nil, binds]
    have hr : pvT (.cons ⟨6, xn⟩ ((w1 g st d y0 k0 s).1.app ((w1 g st d y1 k1 (w1 g st d y0 k0 s).2).1.app ((w1 g st d y2 k2 (w1 g st d y1 k1 (w1 g st d y0 k0 s).2).2).1.app (.nil)))) .nil) = .iface 106 (.agg #[.iface R0 q0, .iface R1 q1, .iface R2 q2]) := by
      show pv 6 xn (pvs ((w1 g st d y0 k0 s).1.app ((w1 g st d y1 k1 (w1 g st d y0 k0 s).2).1.app ((w1 g st d y2 k2 (w1 g st d y1 k1 (w1 g st d y0 k0 s).2).2).1.app (.nil))))) = _
      simp only [pvs_app, pvs_one f0, pvs_one f1, pvs_one f2, pvs]
      simp [pv, e0, e1, e2]
    rw [hw]
    simp only
    rw [hr, hp]
    exact with_if fid cap cb ob s d (by omega) T0 u0 R0 q0 _ T1 u1 R1 q1 _ T2 u2 R2 q2 _ c0 c1 c2 w hcb hinv
  · subst h
    obtain ⟨y0, k0, y1, k1, rfl⟩ := F.len_2 (show k.len = 2 by rw [hk]; rfl)
    obtain ⟨g0, l0, o0, r0⟩ := ok_cons hko
    obtain ⟨g1, l1, o1, r1⟩ := ok_cons r0
    have i0 := ih.1
    have i1 := ih.2.1
    have hfl : d + ((1 + k0.flat.length) + (1 + k1.flat.length)) ≤ 1048576 := by simp [F.flat] at hd; omega
    obtain ⟨R0, q0, e0⟩ := one y0 k0 s d
    have c0 := i0 y0 s d g0 l0 o0 (by omega)
    have f0 := hl1 y0 k0 s d
    obtain ⟨R1, q1, e1⟩ := one y1 k1 (w1 g st d y0 k0 s).2 (d + 1)
    have c1 := i1 y1 (w1 g st d y0 k0 s).2 (d + 1) g1 l1 o1 (by omega)
    have f1 := hl1 y1 k1 (w1 g st d y0 k0 s).2 (d + 1)
    obtain ⟨T0, u0, v0⟩ := pv_iface y0.k y0.n (pvs k0)
    unfold WVC at c0
    rw [e0, v0] at c0
    obtain ⟨T1, u1, v1⟩ := pv_iface y1.k y1.n (pvs k1)
    unfold WVC at c1
    rw [e1, v1] at c1
    rw [show ((d + 1 : Nat) : Int) = (d : Int) + 1 from rfl] at c1
    rw [w1_other _ _ _ _ _ _ (by simp)]
    have hp : pv 7 xn (pvs (F.cons y0 k0 (F.cons y1 k1 (.nil)))) = .iface 108 (.agg #[.iface T0 u0, .iface T1 u1]) := by
      show pv 7 xn [pv y0.k y0.n (pvs k0), pv y1.k y1.n (pvs k1)] = _
      rw [v0, v1]
      rfl
    have hw : wv g st 7 d 0 (F.cons y0 k0 (F.cons y1 k1 (.nil))) s = ((w1 g st d y0 k0 s).1.app ((w1 g st (d + 1) y1 k1 (w1 g st d y0 k0 s).2).1.app (.nil)), (w1 g st (d + 1) y1 k1 (w1 g st d y0 k0 s).2).2) := by simp [wv_step, wv_nil, binds]
    have hr : pvT (.cons ⟨7, xn⟩ ((w1 g st d y0 k0 s).1.app ((w1 g st (d + 1) y1 k1 (w1 g st d y0 k0 s).2).1.app (.nil))) .nil) = .iface 108 (.agg #[.iface R0 q0, .iface R1 q1]) := by
      show pv 7 xn (pvs ((w1 g st d y0 k0 s).1.app ((w1 g st (d + 1) y1 k1 (w1 g st d y0 k0 s).2).1.app (.nil)))) = _
      simp only [pvs_app, pvs_one f0, pvs_one f1, pvs]
      simp [pv, e0, e1]
    rw [hw]
    simp only
    rw [hr, hp]
    exact with_let fid cap cb ob s d (by omega) T0 u0 R0 q0 _ T1 u1 R1 q1 _ c0 c1 w hcb hinv
end
end Go.Proofs.Ytjmgnljjeogdlaa.W

/-
  The variables that are bound nowhere, by the specification: contracts of l1Put, l3Binds, l3Free and FreeIn. Conditions: at most 1048576 cells.
-/
namespace Go.Proofs.Ytjmgnljjeogdlaa.W
open Go.ChangeShapes Go.WideShapes Go.ChangeAt Go.RowKit
set_option linter.unusedVariables false

/-- A slice of numbers that fills its block from the front, or none. -/
def IS (w : World) (s : Value) (l : List Int) : Prop :=
  (s = .slice none 0 0 ∧ l = []) ∨ ∃ g c, s = .slice (some ⟨g, 0, none⟩) l.length c ∧ l.length ≤ c ∧ g < w.heap.size ∧ ∀ i (h : i < l.length), w.cell? ⟨g, i, none⟩ = some (.int .i64 l[i])
theorem IS.below {w w' : World} {s : Value} {l : List Int} (h : IS w s l) (hb : Below w.heap.size w w') : IS w' s l := by
  rcases h with h | ⟨g, c, h1, h2, h3, h4⟩
  · exact .inl h
  · exact .inr ⟨g, c, h1, h2, Nat.lt_of_lt_of_le h3 hb.size, fun i hi => (hb.cell (p := ⟨g, i, none⟩) h3).trans (h4 i hi)⟩
theorem IS.form {w : World} {s : Value} {l : List Int} (h : IS w s l) : ∃ ad c, s = .slice ad l.length c := by
  rcases h with ⟨h1, h2⟩ | ⟨g, c, h1, _⟩
  · exact ⟨none, 0, by rw [h1, h2]; rfl⟩
  · exact ⟨_, _, h1⟩

/-- Where a number goes in a rising list. -/
def putAt (l : List Int) (n : Int) : Nat := (l.takeWhile (· < n)).length
/-- A number put into a rising list. -/
def put (l : List Int) (n : Int) : List Int := if l[putAt l n]? = some n then l else l.take (putAt l n) ++ n :: l.drop (putAt l n)
theorem putAt_le (l : List Int) (n : Int) : putAt l n ≤ l.length := (List.takeWhile_sublist _).length_le
theorem putAt_lt (l : List Int) (n : Int) (i : Nat) (h : i < putAt l n) : l[i]'(Nat.lt_of_lt_of_le h (putAt_le l n)) < n := by
  have h1 : (l.takeWhile (· < n))[i]'h = l[i]'(Nat.lt_of_lt_of_le h (putAt_le l n)) := (List.takeWhile_prefix (p := (· < n)) (l := l)).getElem h
  have h2 : ∀ (l : List Int) x, x ∈ l.takeWhile (· < n) → x < n := by
    intro l
    induction l with
    | nil => intro x hx; cases hx
    | cons y l ih =>
      intro x hx
      by_cases hy : y < n
      · simp only [List.takeWhile_cons, hy, decide_true, if_true, List.mem_cons] at hx
        rcases hx with rfl | hx
        · exact hy
        · exact ih x hx
      · simp [hy] at hx
  have h3 := h2 l _ (List.getElem_mem (l := l.takeWhile (· < n)) h)
  rw [h1] at h3
  simpa using h3
theorem putAt_ge (l : List Int) (n : Int) (h : putAt l n < l.length) : ¬ l[putAt l n] < n := by
  unfold putAt at h ⊢
  induction l with
  | nil => simp at h
  | cons x l ih =>
    by_cases hx : x < n
    · simp only [List.takeWhile_cons, hx, decide_true, if_true, List.length_cons, List.getElem_cons_succ] at h ⊢
      exact ih (by omega)
    · simp [hx]
theorem putAt_is {l : List Int} {n : Int} {k : Nat} (hk : k ≤ l.length) (h1 : ∀ i (h : i < l.length), i < k → l[i] < n) (h2 : ∀ h : k < l.length, ¬ l[k] < n) : putAt l n = k := by
  rcases Nat.lt_trichotomy (putAt l n) k with h | h | h
  · exact absurd (h1 _ (by omega) h) (putAt_ge l n (by omega))
  · exact h
  · exact absurd (putAt_lt l n k h) (h2 (by have := putAt_le l n; omega))

theorem iOwn_form {w : World} {base n size : Nat} {e : TypeId} {v : Value} {xs : List Value} (h : w.ownsRow base e size v n xs) : ∃ ad c, v = .slice ad n c := by
  rcases h.2 with ⟨h1, h2⟩ | ⟨g, cap, cur, hv, _⟩
  · exact ⟨none, 0, by rw [h1, h2]⟩
  · exact ⟨_, _, hv⟩
theorem iAdd (g o j : Nat) : (⟨g, o, none⟩ : Addr).add j = ⟨g, o + j, none⟩ := by unfold Addr.add; split <;> simp_all
theorem iOne (l : List Int) : ∀ u ∈ l.map (Value.int .i64), u.oneCell' = true := by
  intro u hu
  obtain ⟨n, -, rfl⟩ := List.mem_map.1 hu
  rfl
theorem iOneT (l : List Int) (k : Nat) : ∀ u ∈ (l.map (Value.int .i64)).take k, u.oneCell' = true := fun u hu => iOne l u (List.mem_of_mem_take hu)
theorem iOneD (l : List Int) (k : Nat) : ∀ u ∈ (l.map (Value.int .i64)).drop k, u.oneCell' = true := fun u hu => iOne l u (List.mem_of_mem_drop hu)
theorem IS.ofOwn {w : World} {base : Nat} {e : TypeId} {v : Value} {l : List Int} (h : w.ownsRow base e 1 v l.length (l.map (Value.int .i64))) : IS w v l := by
  rcases h.2 with ⟨h1, h2⟩ | ⟨g, cap, cur, hv, hg, hh, h1, h2, h3, h4⟩
  · exact .inl ⟨h1, List.eq_nil_of_length_eq_zero h2⟩
  · refine .inr ⟨g, cap, hv, h1, (Array.getElem?_eq_some_iff.1 hh).1, fun i hi => ?_⟩
    have h5 : (cur.toList.take (l.length * 1))[i]? = some (.int .i64 l[i]) := by rw [h4]; simp [hi]
    rw [cell_of_blk hh, List.getElem?_take_of_lt (by omega)] at *
    simpa using h5

theorem infoInt : (Try.prog.info? 3).map (fun i => (i.zero, i.size, i.bytes)) = some (some (.int .i64 0), 1, 8) := by kernel_rfl

set_option maxHeartbeats 400000 in
theorem l3Binds_any (k : Int) (i : Nat) (w : World) :
    Calls Try.prog 80 #[.int .i64 k, .int .i64 (i : Int)] w fun e w' => e = .returned (.int .i64 (binds k i : Int)) ∧ w' = w := by
  go_enter Try.func80, Try.ntmps80
  go_wp2
  all_goals
    go_ret
    refine ⟨ret_int ?_, rfl⟩
    simp_all [binds]
  all_goals (try (split <;> omega))
end Go.Proofs.Ytjmgnljjeogdlaa.W
