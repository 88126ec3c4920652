/-
  Some texts of this proof in one: TeNm, SbB.
-/
import Derived.Test.YtjmgnljjeogdlaaJr
import Derived.Test.YtjmgnljjeogdlaaJm
import Derived.Test.YtjmgnljjeogdlaaJo
import Derived.Test.YtjmgnljjeogdlaaJn
/-
  The first redex contracted, and so on: the model. No program here.
-/
namespace Go.Proofs.Ytjmgnljjeogdlaa.W
set_option linter.unusedVariables false

/-- Terms one behind the other, the first redex contracted; none where there is none. -/
def fk : F → Option (Option F)
  | .nil => none
  | .cons y ky r => if redx y ky = true then some ((ctrO y ky).map fun p : Cc × F => F.cons p.1 p.2 r) else match fk ky with
    | some c => some (c.map fun ky' => F.cons y ky' r)
    | none => (fk r).map fun c => c.map fun r' => F.cons y ky r'
def fh (x : Cc) (k : F) : Option (Option (Cc × F)) := if redx x k = true then some (ctrO x k) else (fk k).map fun c => c.map fun k' => (x, k')

theorem fstR_cons (x : Cc) (l : List Cc) : fstR (x :: l) = if isRl (x :: l) = true then some 0 else (fstR l).map (· + 1) := by
  unfold fstR plUp
  rw [List.length_cons, List.range_succ_eq_map]
  by_cases h : isRl (x :: l) = true
  · rw [if_pos h, List.filter_cons, if_pos (by simpa using h)]; rfl
  · rw [if_neg h, List.filter_cons, if_neg (by simpa using h), List.filter_map, List.head?_map]
    rfl
theorem fstR_nil : fstR [] = none := rfl

theorem first_agree : ∀ (a : F) (r : List Cc), a.ok →
    (fk a = none ∧ fstR (a.flat ++ r) = (fstR r).map (· + a.flat.length)) ∨ (∃ c pos, fk a = some c ∧ fstR (a.flat ++ r) = some pos ∧ Place a.flat pos (c.map F.flat))
  | .nil, r, _ => .inl ⟨rfl, by simp [F.flat]⟩
  | .cons y ky s, r, ⟨h1, h2, h3, h4⟩ => by
    have e0 : (F.cons y ky s).flat ++ r = y :: (ky.flat ++ (s.flat ++ r)) := by simp [F.flat]
    have e3 : (F.cons y ky s).flat = (y :: ky.flat) ++ s.flat := by simp [F.flat]
    rw [e0, fstR_cons, (front h1 h2 h3 _).1]
    cases hr : redx y ky with
    | true =>
      refine .inr ⟨(ctrO y ky).map fun p : Cc × F => F.cons p.1 p.2 s, 0, by rw [fk, if_pos hr], by simp, [], y, ky, s.flat, by rw [e3]; simp, rfl, ⟨h1, h2, h3⟩, hr, ?_⟩
      cases ctrO y ky with
      | none => rfl
      | some p => simp [F.flat]
    | false =>
      rw [if_neg (by simp)]
      rcases first_agree ky (s.flat ++ r) h3 with ⟨i1, i2⟩ | ⟨c, pos, i1, i2, i3⟩
      · rw [i2]
        rcases first_agree s r h4 with ⟨j1, j2⟩ | ⟨c, pos, j1, j2, j3⟩
        · refine .inl ⟨by rw [fk, if_neg (by rw [hr]; simp), i1, j1]; rfl, ?_⟩
          rw [j2]
          simp only [Option.map_map]
          congr 1
          funext q
          simp [F.flat]; omega
        · refine .inr ⟨c.map fun r' => F.cons y ky r', pos + ky.flat.length + 1, by rw [fk, if_neg (by rw [hr]; simp), i1, j1]; rfl, by rw [j2]; rfl, ?_⟩
          have := j3.app (y :: ky.flat) []
          simp only [List.append_nil, List.length_cons] at this
          rw [e3, show pos + ky.flat.length + 1 = ky.flat.length + 1 + pos by omega]
          have e4 : ((c.map fun r' => F.cons y ky r').map F.flat) = (c.map F.flat).map fun m => (y :: ky.flat) ++ m := by cases c <;> simp [F.flat]
          rw [e4]
          exact this
      · refine .inr ⟨c.map fun ky' => F.cons y ky' s, pos + 1, by rw [fk, if_neg (by rw [hr]; simp), i1], by rw [i2]; rfl, ?_⟩
        have := i3.app [y] s.flat
        simp only [List.length_singleton] at this
        rw [show (F.cons y ky s).flat = [y] ++ (ky.flat ++ s.flat) by simp [F.flat], show pos + 1 = 1 + pos by omega]
        have e4 : ((c.map fun ky' => F.cons y ky' s).map F.flat) = (c.map F.flat).map fun m => [y] ++ (m ++ s.flat) := by cases c <;> simp [F.flat]
        rw [e4]
        exact this
/-- .. of one term. -/
theorem first_one {x : Cc} {k : F} (h : okT x k) : (fh x k = none ∧ fstR (x :: k.flat) = none) ∨ (∃ c pos, fh x k = some c ∧ fstR (x :: k.flat) = some pos ∧ Place (x :: k.flat) pos (c.map fun p : Cc × F => p.1 :: p.2.flat)) := by
  rcases first_agree (.cons x k .nil) [] ⟨h.1, h.2.1, h.2.2, trivial⟩ with ⟨i1, i2⟩ | ⟨c, pos, i1, i2, i3⟩
  · refine .inl ⟨?_, by simpa [F.flat, fstR_nil] using i2⟩
    unfold fk at i1
    unfold fh
    by_cases hr : redx x k = true
    · rw [if_pos hr] at i1; cases i1
    · rw [if_neg hr] at i1 ⊢
      cases hk : fk k with
      | none => rfl
      | some c => rw [hk] at i1; cases i1
  · have e1 : (F.cons x k .nil).flat = x :: k.flat := by simp [F.flat]
    rw [e1] at i2 i3
    rw [List.append_nil] at i2
    unfold fk at i1
    unfold fh
    by_cases hr : redx x k = true
    · rw [if_pos hr] at i1 ⊢
      simp only [Option.some.injEq] at i1
      subst i1
      refine .inr ⟨_, pos, rfl, i2, ?_⟩
      have e2 : ((ctrO x k).map fun p : Cc × F => p.1 :: p.2.flat) = ((ctrO x k).map fun p : Cc × F => F.cons p.1 p.2 .nil).map F.flat := by cases ctrO x k <;> simp [F.flat]
      rw [e2]; exact i3
    · rw [if_neg hr] at i1 ⊢
      cases hk : fk k with
      | none => rw [hk] at i1; simp [fk] at i1
      | some c' =>
        rw [hk] at i1
        simp only [Option.some.injEq] at i1
        subst i1
        refine .inr ⟨_, pos, rfl, i2, ?_⟩
        have e2 : ((c'.map fun k' => (x, k')).map fun p : Cc × F => p.1 :: p.2.flat) = (c'.map fun ky' => F.cons x ky' .nil).map F.flat := by cases c' <;> simp [F.flat]
        rw [e2]; exact i3

/-! ### what is made has the form of terms -/
theorem fit_ok : ∀ {a : F}, a.fit → (∀ c ∈ a.flat, goodC c = true) → a.ok
  | .nil, _, _ => trivial
  | .cons x k r, ⟨h1, h2, h3, h4, h5⟩, h => ⟨h x (by simp [F.flat]), h3, fit_ok h4 (fun c hc => h c (by simp [F.flat, hc])), fit_ok h5 (fun c hc => h c (by simp [F.flat, hc]))⟩
theorem ok_good : ∀ {a : F}, a.ok → ∀ c ∈ a.flat, goodC c = true
  | .nil, _, c, hc => by simp [F.flat] at hc
  | .cons x k r, ⟨h1, h2, h3, h4⟩, c, hc => by
    simp only [F.flat, List.mem_cons, List.mem_append] at hc
    rcases hc with rfl | hc | hc
    · exact h1
    · exact ok_good h3 c hc
    · exact ok_good h4 c hc
theorem okT_fit {x : Cc} {k : F} (h : okT x k) : (F.cons x k .nil).fit := F.ok_fit (a := .cons x k .nil) ⟨h.1, h.2.1, h.2.2, trivial⟩
/-- Good cells of a term's form are that term. -/
theorem good_back {x : Cc} {k : F} (hf : (F.cons x k .nil).fit) (hg : goodT (x :: k.flat) = true) : okT x k ∧ k.flat.length + 1 ≤ 600 := by
  unfold goodT at hg
  cases ht : treeT (x :: k.flat) with
  | none => rw [ht] at hg; cases hg
  | some t =>
    obtain ⟨e1, e2, -, e4, -⟩ := treeT_flat ht
    have hall : ∀ c ∈ (F.cons x k .nil).flat, goodC c = true := by
      have e5 : (F.cons x k .nil).flat = t.flat := by rw [← e1]; simp [F.flat]
      rw [e5]; exact ok_good e2
    have := fit_ok hf hall
    exact ⟨⟨this.1, this.2.1, this.2.2.1⟩, by simpa using e4⟩
theorem putO_fit {d z : Cc} {kd kz : F} (hd : okT d kd) (hz : okT z kz) {p : Cc × F} (h : putO d kd z kz = some p) : (F.cons p.1 p.2 .nil).fit := by
  unfold putO at h
  split at h
  · simp only [Option.some.injEq] at h
    subst h
    have h9 := sbf_fit 0 z kz (okT_fit hz) (.cons d kd .nil) 0 0 0 (okT_fit hd)
    rw [sbf_cons, binds_0] at h9
    exact h9
  · cases h
theorem ctrO_fit {x : Cc} {k : F} (hk : okT x k) (hr : redx x k = true) {p : Cc × F} (h : ctrO x k = some p) : (F.cons p.1 p.2 .nil).fit := by
  cases red_of hk hr with
  | app y d z kd kz hx hk' hy hd hz =>
    subst hk'
    have e1 : ctrO x (.cons y (.cons d kd .nil) (.cons z kz .nil)) = putO d kd z kz := by simp [ctrO, hx]
    rw [e1] at h
    exact putO_fit hd hz h
  | lett y d ky kd hx hk' hy hd =>
    subst hk'
    have e1 : ctrO x (.cons y ky (.cons d kd .nil)) = putO d kd y ky := by simp [ctrO, hx]
    rw [e1] at h
    exact putO_fit hd hy h
  | add y z hx hk' hy hz hyn hzn hs =>
    subst hk'
    have e1 : ctrO x (.cons y .nil (.cons z .nil .nil)) = some (⟨2, y.n + z.n⟩, .nil) := by simp [ctrO, hx]
    rw [e1] at h
    simp only [Option.some.injEq] at h
    subst h
    exact ⟨by simp [inB], fun h => by simp at h, rfl, trivial, trivial⟩
  | iff y z u kz ku hx hk' hy hz hu =>
    subst hk'
    have e1 : ctrO x (.cons y .nil (.cons z kz (.cons u ku .nil))) = some (if y.n = 0 then (z, kz) else (u, ku)) := by simp [ctrO, hx]
    rw [e1] at h
    simp only [Option.some.injEq] at h
    subst h
    split
    · exact okT_fit hz
    · exact okT_fit hu
theorem fk_fit : ∀ {a : F} {b : F}, a.ok → fk a = some (some b) → b.fit ∧ b.len = a.len
  | .nil, b, _, h => by simp [fk] at h
  | .cons y ky r, b, ⟨h1, h2, h3, h4⟩, h => by
    unfold fk at h
    have hy : (F.cons y ky r).fit := F.ok_fit (a := .cons y ky r) ⟨h1, h2, h3, h4⟩
    by_cases hr : redx y ky = true
    · rw [if_pos hr] at h
      cases hc : ctrO y ky with
      | none => rw [hc] at h; cases h
      | some p =>
        rw [hc] at h
        simp only [Option.map_some, Option.some.injEq] at h
        subst h
        obtain ⟨f1, f2, f3, f4, -⟩ := ctrO_fit ⟨h1, h2, h3⟩ hr hc
        exact ⟨⟨f1, f2, f3, f4, hy.2.2.2.2⟩, rfl⟩
    · rw [if_neg hr] at h
      cases hk : fk ky with
      | some c =>
        rw [hk] at h
        cases c with
        | none => cases h
        | some ky' =>
          simp only [Option.map_some, Option.some.injEq] at h
          subst h
          obtain ⟨f1, f2⟩ := fk_fit h3 hk
          exact ⟨⟨hy.1, hy.2.1, by rw [f2]; exact h2, f1, hy.2.2.2.2⟩, rfl⟩
      | none =>
        rw [hk] at h
        cases hs : fk r with
        | none => rw [hs] at h; cases h
        | some c =>
          rw [hs] at h
          cases c with
          | none => cases h
          | some r' =>
            simp only [Option.map_some, Option.some.injEq] at h
            subst h
            obtain ⟨f1, f2⟩ := fk_fit h4 hs
            exact ⟨⟨hy.1, hy.2.1, hy.2.2.1, hy.2.2.2.1, f1⟩, by simp [F.len, f2]⟩
theorem fh_fit {x : Cc} {k : F} (h : okT x k) {p : Cc × F} (hp : fh x k = some (some p)) : (F.cons p.1 p.2 .nil).fit := by
  unfold fh at hp
  by_cases hr : redx x k = true
  · rw [if_pos hr] at hp
    simp only [Option.some.injEq] at hp
    exact ctrO_fit h hr hp
  · rw [if_neg hr] at hp
    cases hk : fk k with
    | none => rw [hk] at hp; cases hp
    | some c =>
      rw [hk] at hp
      cases c with
      | none => cases hp
      | some k' =>
        simp only [Option.map_some, Option.some.injEq] at hp
        subst hp
        obtain ⟨f1, f2⟩ := fk_fit h.2.2 hk
        have hf := okT_fit h
        exact ⟨hf.1, hf.2.1, by rw [f2]; exact h.2.1, f1, trivial⟩

/-- So many steps at most, of the first redex each: what it comes to, and how many were made. -/
def nm : Nat → Nat → Cc × F → Option ((Cc × F) × Nat)
  | 0, n, p => some (p, n)
  | s + 1, n, p => match fh p.1 p.2 with
    | none => some (p, n)
    | some none => none
    | some (some q) => if goodT (q.1 :: q.2.flat) = true then nm s (n + 1) q else none
end Go.Proofs.Ytjmgnljjeogdlaa.W

/-
  What SubstTerm, ShiftTerm and FreeIn tell of rows: two that are put in the place of variables may be put in either order; which variables are left. No program here.
-/
namespace Go.Proofs.Ytjmgnljjeogdlaa.W
set_option linter.unusedVariables false
set_option linter.unusedSimpArgs false

/-- What FreeIn tells. -/
def frS (l : List Cc) : List Int := match treeT l with | some a => freT a | none => []
theorem frS_mem {l : List Cc} {x : Cc} {k : F} (ht : treeT l = some (.cons x k .nil)) (n : Int) : n ∈ frS l ↔ 0 ≤ n ∧ hv 0 0 0 (.cons x k .nil) n := by
  have ho := (treeT_flat ht).2.1
  have e : frS l = fre 0 0 0 (.cons x k .nil) [] := by
    unfold frS; rw [ht, fre_cons]; simp only [fre, binds0, Nat.add_zero]; rfl
  rw [e]
  constructor
  · intro h
    have h0 := fre_pos _ 0 0 0 [] (by simp) n h
    exact ⟨h0, by simpa using (mem_fre _ 0 0 0 [] n (ok_nv ho) h0).1 h⟩
  · rintro ⟨h0, h⟩
    exact (mem_fre _ 0 0 0 [] n (ok_nv ho) h0).2 (.inr h)
theorem rB_some {r : Option (List Cc)} (h : rB r = true) : ∃ cs, r = some cs ∧ goodT cs = true ∧ rL r = cs := by
  cases r with
  | none => cases h
  | some cs => exact ⟨cs, rfl, h, by show gd cs = cs; unfold gd; exact if_pos h⟩
theorem tree_is {l : List Cc} {t : F} (h : treeT l = some t) : ∃ x k, t = .cons x k .nil := F.len_1 (treeT_flat h).2.2.1
theorem tree_fit {x : Cc} {k : F} (hf : (F.cons x k .nil).fit) (hg : goodT (x :: k.flat) = true) : treeT (x :: k.flat) = some (.cons x k .nil) := by
  obtain ⟨h1, h2⟩ := good_back hf hg
  have := treeT_back (a := .cons x k .nil) ⟨h1.1, h1.2.1, h1.2.2, trivial⟩ rfl (by simpa [F.flat] using h2)
  simpa [F.flat] using this
theorem sbf_one (K : Nat) (sx : Cc) (sk : F) (x : Cc) (k : F) : sbf K sx sk 0 0 0 (.cons x k .nil) = .cons (sbr K sx 0 x) (sbk K sx sk 0 x k) .nil := by
  rw [sbf_cons, binds0, sbf_nil]
theorem sb_some {l ls : List Cc} {K : Int} (h : rB (sbR l K ls) = true) : ∃ x k sx sk, treeT l = some (.cons x k .nil) ∧ treeT ls = some (.cons sx sk .nil) ∧ 0 ≤ K ∧
    rL (sbR l K ls) = sbr K.toNat sx 0 x :: (sbk K.toNat sx sk 0 x k).flat ∧ treeT (rL (sbR l K ls)) = some (.cons (sbr K.toNat sx 0 x) (sbk K.toNat sx sk 0 x k) .nil) := by
  obtain ⟨cs, h1, h2, h3⟩ := rB_some h
  rw [h3]
  unfold sbR at h1
  cases ht : treeT l with
  | none => rw [ht] at h1; cases h1
  | some t =>
    obtain ⟨x, k, rfl⟩ := tree_is ht
    cases hts : treeT ls with
    | none => rw [ht, hts] at h1; cases h1
    | some t2 =>
      obtain ⟨sx, sk, rfl⟩ := tree_is hts
      rw [ht, hts] at h1
      simp only at h1
      split at h1
      · rename_i hc
        simp only [Option.some.injEq] at h1
        have hf : (F.cons (sbr K.toNat sx 0 x) (sbk K.toNat sx sk 0 x k) .nil).fit := by
          rw [← sbf_one]
          exact sbf_fit K.toNat sx sk (F.ok_fit (treeT_flat hts).2.1) _ 0 0 0 (F.ok_fit (treeT_flat ht).2.1)
        refine ⟨x, k, sx, sk, rfl, rfl, ?_, h1.symm, ?_⟩
        · simp [inB] at hc; omega
        · rw [← h1] at h2 ⊢
          exact tree_fit hf h2
      · cases h1
theorem sh_some {l : List Cc} {by_ f : Int} (h : rB (shR l by_ f) = true) : ∃ x k, treeT l = some (.cons x k .nil) ∧ treeT (rL (shR l by_ f)) = some (.cons (shc by_ f.toNat x) (shf by_ x.k f.toNat 0 k) .nil) := by
  obtain ⟨cs, h1, h2, h3⟩ := rB_some h
  rw [h3]
  unfold shR at h1
  cases ht : treeT l with
  | none => rw [ht] at h1; cases h1
  | some t =>
    obtain ⟨x, k, rfl⟩ := tree_is ht
    rw [ht] at h1
    simp only at h1
    split at h1
    · simp only [Option.some.injEq] at h1
      have hf : (F.cons (shc by_ f.toNat x) (shf by_ x.k f.toNat 0 k) .nil).fit := by
        have := shf_fit by_ (.cons x k .nil) 0 f.toNat 0 (F.ok_fit (treeT_flat ht).2.1)
        simpa only [shf, binds0, Nat.add_zero] using this
      refine ⟨x, k, rfl, ?_⟩
      rw [← h1] at h2 ⊢
      exact tree_fit hf h2
    · cases h1
/-- Two that are put in the place of variables may be put in either order. -/
theorem either_order {l ls lu : List Cc} (h1 : rB (sbR l 0 ls) = true) (h2 : rB (sbR (rL (sbR l 0 ls)) 0 lu) = true) (h3 : rB (shR lu 1 0) = true) (h4 : rB (sbR l 1 (rL (shR lu 1 0))) = true) (h5 : rB (sbR ls 0 lu) = true)
    (h6 : rB (sbR (rL (sbR l 1 (rL (shR lu 1 0)))) 0 (rL (sbR ls 0 lu))) = true) : rL (sbR (rL (sbR l 0 ls)) 0 lu) = rL (sbR (rL (sbR l 1 (rL (shR lu 1 0)))) 0 (rL (sbR ls 0 lu))) := by
  obtain ⟨x, k, sx, sk, t1, t2, -, e1, f1⟩ := sb_some h1
  obtain ⟨ax, ak, ux, uk, t3, t4, -, e2, f2⟩ := sb_some h2
  rw [f1] at t3
  simp only [Option.some.injEq, F.cons.injEq, and_true] at t3
  obtain ⟨rfl, rfl⟩ := t3
  obtain ⟨ux', uk', t5, f3⟩ := sh_some h3
  rw [t4] at t5
  simp only [Option.some.injEq, F.cons.injEq, and_true] at t5
  obtain ⟨rfl, rfl⟩ := t5
  obtain ⟨x', k', cx, ck, t6, t7, -, e4, f4⟩ := sb_some h4
  rw [t1] at t6
  rw [f3] at t7
  simp only [Option.some.injEq, F.cons.injEq, and_true] at t6 t7
  obtain ⟨rfl, rfl⟩ := t6
  obtain ⟨rfl, rfl⟩ := t7
  obtain ⟨sx', sk', ux', uk', t8, t9, -, e5, f5⟩ := sb_some h5
  rw [t2] at t8
  rw [t4] at t9
  simp only [Option.some.injEq, F.cons.injEq, and_true] at t8 t9
  obtain ⟨rfl, rfl⟩ := t8
  obtain ⟨rfl, rfl⟩ := t9
  obtain ⟨dx, dk, ex, ek, t10, t11, -, e6, f6⟩ := sb_some h6
  rw [f4] at t10
  rw [f5] at t11
  simp only [Option.some.injEq, F.cons.injEq, and_true] at t10 t11
  obtain ⟨rfl, rfl⟩ := t10
  obtain ⟨rfl, rfl⟩ := t11
  rw [e2, e6]
  have hm := sbf_sbf (ok_nv (treeT_flat t2).2.1) (ok_nv (treeT_flat t4).2.1) (.cons x k .nil) 0 0 0 (ok_nv (treeT_flat t1).2.1)
  rw [sbf_one, sbf_one, sbf_one, sbf_one] at hm
  simp only [F.cons.injEq, and_true] at hm
  have z0 : (0 : Int).toNat = 0 := rfl
  have z1 : (1 : Int).toNat = 1 := rfl
  rw [z0, z1]
  rw [hm.1, hm.2]
/-- Which variables what is put together has. -/
theorem left_free {l ls : List Cc} {K : Int} (h : rB (sbR l K ls) = true) : (treeT l).isSome = true ∧ (treeT ls).isSome = true ∧ (treeT (rL (sbR l K ls))).isSome = true ∧
    ∀ n ∈ frS (rL (sbR l K ls)), (n ∈ frS l ∧ n < K) ∨ ((n + 1) ∈ frS l ∧ K ≤ n) ∨ (K ∈ frS l ∧ n ∈ frS ls) := by
  obtain ⟨x, k, sx, sk, t1, t2, hK, e1, f1⟩ := sb_some h
  refine ⟨by rw [t1]; rfl, by rw [t2]; rfl, by rw [f1]; rfl, fun n hn => ?_⟩
  obtain ⟨hn0, hh⟩ := (frS_mem f1 n).1 hn
  rw [← sbf_one] at hh
  have hk : ((K.toNat : Nat) : Int) = K := by omega
  have := hv_sbf (K := K.toNat) (.cons x k .nil) 0 0 0 n hn0 (ok_nv (treeT_flat t1).2.1) hh
  rw [hk] at this
  rcases this with h | h | h
  · exact .inl ⟨(frS_mem t1 n).2 ⟨hn0, h.1⟩, h.2⟩
  · exact .inr (.inl ⟨(frS_mem t1 (n + 1)).2 ⟨by omega, h.1⟩, h.2⟩)
  · exact .inr (.inr ⟨(frS_mem t1 K).2 ⟨hK, h.1⟩, (frS_mem t2 n).2 ⟨hn0, h.2⟩⟩)
end Go.Proofs.Ytjmgnljjeogdlaa.W
