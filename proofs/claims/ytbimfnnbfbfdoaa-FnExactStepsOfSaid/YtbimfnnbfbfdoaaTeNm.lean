/-
  The first redex contracted, and so on: the model. No program here.
-/
import Derived.Test.YtbimfnnbfbfdoaaTeKd
namespace Go.Proofs.Ytbimfnnbfbfdoaa.W
set_option linter.unusedVariables false

/-- Terms one behind the other, the first redex contracted; none where there is none. -/
def fk : F → Option (Option F)
  | .nil => none
  | .cons y ky r => if redx y ky = true then some ((ctrO y ky).map fun p : Cc × F => F.cons p.1 p.2 r) else match fk ky with
    | some c => some (c.map fun ky' => F.cons y ky' r)
    | none => (fk r).map fun c => c.map fun r' => F.cons y ky r'
def fh (x : Cc) (k : F) : Option (Option (Cc × F)) := if redx x k = true then some (ctrO x k) else (fk k).map fun c => c.map fun k' => (x, k')

theorem fstR_cons (x : Cc) (l : List Cc) : fstR (x :: l) = if isRl (x :: l) = true then some 0 else (fstR l).map (· + 1) := by
  unfold fstR plUp
  rw [List.length_cons, List.range_succ_eq_map]
  by_cases h : isRl (x :: l) = true
  · rw [if_pos h, List.filter_cons, if_pos (by simpa using h)]; rfl
  · rw [if_neg h, List.filter_cons, if_neg (by simpa using h), List.filter_map, List.head?_map]
    rfl
theorem fstR_nil : fstR [] = none := rfl

theorem first_agree : ∀ (a : F) (r : List Cc), a.ok →
    (fk a = none ∧ fstR (a.flat ++ r) = (fstR r).map (· + a.flat.length)) ∨ (∃ c pos, fk a = some c ∧ fstR (a.flat ++ r) = some pos ∧ Place a.flat pos (c.map F.flat))
  | .nil, r, _ => .inl ⟨rfl, by simp [F.flat]⟩
  | .cons y ky s, r, ⟨h1, h2, h3, h4⟩ => by
    have e0 : (F.cons y ky s).flat ++ r = y :: (ky.flat ++ (s.flat ++ r)) := by simp [F.flat]
    have e3 : (F.cons y ky s).flat = (y :: ky.flat) ++ s.flat := by simp [F.flat]
    rw [e0, fstR_cons, (front h1 h2 h3 _).1]
    cases hr : redx y ky with
    | true =>
      refine .inr ⟨(ctrO y ky).map fun p : Cc × F => F.cons p.1 p.2 s, 0, by rw [fk, if_pos hr], by simp, [], y, ky, s.flat, by rw [e3]; simp, rfl, ⟨h1, h2, h3⟩, hr, ?_⟩
      cases ctrO y ky with
      | none => rfl
      | some p => simp [F.flat]
    | false =>
      rw [if_neg (by simp)]
      rcases first_agree ky (s.flat ++ r) h3 with ⟨i1, i2⟩ | ⟨c, pos, i1, i2, i3⟩
      · rw [i2]
        rcases first_agree s r h4 with ⟨j1, j2⟩ | ⟨c, pos, j1, j2, j3⟩
        · refine .inl ⟨by rw [fk, if_neg (by rw [hr]; simp), i1, j1]; rfl, ?_⟩
          rw [j2]
          simp only [Option.map_map]
          congr 1
          funext q
          simp [F.flat]; omega
        · refine .inr ⟨c.map fun r' => F.cons y ky r', pos + ky.flat.length + 1, by rw [fk, if_neg (by rw [hr]; simp), i1, j1]; rfl, by rw [j2]; rfl, ?_⟩
          have := j3.app (y :: ky.flat) []
          simp only [List.append_nil, List.length_cons] at this
          rw [e3, show pos + ky.flat.length + 1 = ky.flat.length + 1 + pos by omega]
          have e4 : ((c.map fun r' => F.cons y ky r').map F.flat) = (c.map F.flat).map fun m => (y :: ky.flat) ++ m := by cases c <;> simp [F.flat]
          rw [e4]
          exact this
      · refine .inr ⟨c.map fun ky' => F.cons y ky' s, pos + 1, by rw [fk, if_neg (by rw [hr]; simp), i1], by rw [i2]; rfl, ?_⟩
        have := i3.app [y] s.flat
        simp only [List.length_singleton] at this
        rw [show (F.cons y ky s).flat = [y] ++ (ky.flat ++ s.flat) by simp [F.flat], show pos + 1 = 1 + pos by omega]
        have e4 : ((c.map fun ky' => F.cons y ky' s).map F.flat) = (c.map F.flat).map fun m => [y] ++ (m ++ s.flat) := by cases c <;> simp [F.flat]
        rw [e4]
        exact this
/-- .. of one term. -/
theorem first_one {x : Cc} {k : F} (h : okT x k) : (fh x k = none ∧ fstR (x :: k.flat) = none) ∨ (∃ c pos, fh x k = some c ∧ fstR (x :: k.flat) = some pos ∧ Place (x :: k.flat) pos (c.map fun p : Cc × F => p.1 :: p.2.flat)) := by
  rcases first_agree (.cons x k .nil) [] ⟨h.1, h.2.1, h.2.2, trivial⟩ with ⟨i1, i2⟩ | ⟨c, pos, i1, i2, i3⟩
  · refine .inl ⟨?_, by simpa [F.flat, fstR_nil] using i2⟩
    unfold fk at i1
    unfold fh
    by_cases hr : redx x k = true
    · rw [if_pos hr] at i1; cases i1
    · rw [if_neg hr] at i1 ⊢
      cases hk : fk k with
      | none => rfl
      | some c => rw [hk] at i1; cases i1
  · have e1 : (F.cons x k .nil).flat = x :: k.flat := by simp [F.flat]
    rw [e1] at i2 i3
    rw [List.append_nil] at i2
    unfold fk at i1
    unfold fh
    by_cases hr : redx x k = true
    · rw [if_pos hr] at i1 ⊢
      simp only [Option.some.injEq] at i1
      subst i1
      refine .inr ⟨_, pos, rfl, i2, ?_⟩
      have e2 : ((ctrO x k).map fun p : Cc × F => p.1 :: p.2.flat) = ((ctrO x k).map fun p : Cc × F => F.cons p.1 p.2 .nil).map F.flat := by cases ctrO x k <;> simp [F.flat]
      rw [e2]; exact i3
    · rw [if_neg hr] at i1 ⊢
      cases hk : fk k with
      | none => rw [hk] at i1; simp [fk] at i1
      | some c' =>
        rw [hk] at i1
        simp only [Option.some.injEq] at i1
        subst i1
        refine .inr ⟨_, pos, rfl, i2, ?_⟩
        have e2 : ((c'.map fun k' => (x, k')).map fun p : Cc × F => p.1 :: p.2.flat) = (c'.map fun ky' => F.cons x ky' .nil).map F.flat := by cases c' <;> simp [F.flat]
        rw [e2]; exact i3

/-! ### what is made has the form of terms -/
theorem fit_ok : ∀ {a : F}, a.fit → (∀ c ∈ a.flat, goodC c = true) → a.ok
  | .nil, _, _ => trivial
  | .cons x k r, ⟨h1, h2, h3, h4, h5⟩, h => ⟨h x (by simp [F.flat]), h3, fit_ok h4 (fun c hc => h c (by simp [F.flat, hc])), fit_ok h5 (fun c hc => h c (by simp [F.flat, hc]))⟩
theorem ok_good : ∀ {a : F}, a.ok → ∀ c ∈ a.flat, goodC c = true
  | .nil, _, c, hc => by simp [F.flat] at hc
  | .cons x k r, ⟨h1, h2, h3, h4⟩, c, hc => by
    simp only [F.flat, List.mem_cons, List.mem_append] at hc
    rcases hc with rfl | hc | hc
    · exact h1
    · exact ok_good h3 c hc
    · exact ok_good h4 c hc
theorem okT_fit {x : Cc} {k : F} (h : okT x k) : (F.cons x k .nil).fit := F.ok_fit (a := .cons x k .nil) ⟨h.1, h.2.1, h.2.2, trivial⟩
/-- Good cells of a term's form are that term. -/
theorem good_back {x : Cc} {k : F} (hf : (F.cons x k .nil).fit) (hg : goodT (x :: k.flat) = true) : okT x k ∧ k.flat.length + 1 ≤ 600 := by
  unfold goodT at hg
  cases ht : treeT (x :: k.flat) with
  | none => rw [ht] at hg; cases hg
  | some t =>
    obtain ⟨e1, e2, -, e4, -⟩ := treeT_flat ht
    have hall : ∀ c ∈ (F.cons x k .nil).flat, goodC c = true := by
      have e5 : (F.cons x k .nil).flat = t.flat := by rw [← e1]; simp [F.flat]
      rw [e5]; exact ok_good e2
    have := fit_ok hf hall
    exact ⟨⟨this.1, this.2.1, this.2.2.1⟩, by simpa using e4⟩
theorem putO_fit {d z : Cc} {kd kz : F} (hd : okT d kd) (hz : okT z kz) {p : Cc × F} (h : putO d kd z kz = some p) : (F.cons p.1 p.2 .nil).fit := by
  unfold putO at h
  split at h
  · simp only [Option.some.injEq] at h
    subst h
    have h9 := sbf_fit 0 z kz (okT_fit hz) (.cons d kd .nil) 0 0 0 (okT_fit hd)
    rw [sbf_cons, binds_0] at h9
    exact h9
  · cases h
theorem ctrO_fit {x : Cc} {k : F} (hk : okT x k) (hr : redx x k = true) {p : Cc × F} (h : ctrO x k = some p) : (F.cons p.1 p.2 .nil).fit := by
  cases red_of hk hr with
  | app y d z kd kz hx hk' hy hd hz =>
    subst hk'
    have e1 : ctrO x (.cons y (.cons d kd .nil) (.cons z kz .nil)) = putO d kd z kz := by simp [ctrO, hx]
    rw [e1] at h
    exact putO_fit hd hz h
  | lett y d ky kd hx hk' hy hd =>
    subst hk'
    have e1 : ctrO x (.cons y ky (.cons d kd .nil)) = putO d kd y ky := by simp [ctrO, hx]
    rw [e1] at h
    exact putO_fit hd hy h
  | add y z hx hk' hy hz hyn hzn hs =>
    subst hk'
    have e1 : ctrO x (.cons y .nil (.cons z .nil .nil)) = some (⟨2, y.n + z.n⟩, .nil) := by simp [ctrO, hx]
    rw [e1] at h
    simp only [Option.some.injEq] at h
    subst h
    exact ⟨by simp [inB], fun h => by simp at h, rfl, trivial, trivial⟩
  | iff y z u kz ku hx hk' hy hz hu =>
    subst hk'
    have e1 : ctrO x (.cons y .nil (.cons z kz (.cons u ku .nil))) = some (if y.n = 0 then (z, kz) else (u, ku)) := by simp [ctrO, hx]
    rw [e1] at h
    simp only [Option.some.injEq] at h
    subst h
    split
    · exact okT_fit hz
    · exact okT_fit hu
theorem fk_fit : ∀ {a : F} {b : F}, a.ok → fk a = some (some b) → b.fit ∧ b.len = a.len
  | .nil, b, _, h => by simp [fk] at h
  | .cons y ky r, b, ⟨h1, h2, h3, h4⟩, h => by
    unfold fk at h
    have hy : (F.cons y ky r).fit := F.ok_fit (a := .cons y ky r) ⟨h1, h2, h3, h4⟩
    by_cases hr : redx y ky = true
    · rw [if_pos hr] at h
      cases hc : ctrO y ky with
      | none => rw [hc] at h; cases h
      | some p =>
        rw [hc] at h
        simp only [Option.map_some, Option.some.injEq] at h
        subst h
        obtain ⟨f1, f2, f3, f4, -⟩ := ctrO_fit ⟨h1, h2, h3⟩ hr hc
        exact ⟨⟨f1, f2, f3, f4, hy.2.2.2.2⟩, rfl⟩
    · rw [if_neg hr] at h
      cases hk : fk ky with
      | some c =>
        rw [hk] at h
        cases c with
        | none => cases h
        | some ky' =>
          simp only [Option.map_some, Option.some.injEq] at h
          subst h
          obtain ⟨f1, f2⟩ := fk_fit h3 hk
          exact ⟨⟨hy.1, hy.2.1, by rw [f2]; exact h2, f1, hy.2.2.2.2⟩, rfl⟩
      | none =>
        rw [hk] at h
        cases hs : fk r with
        | none => rw [hs] at h; cases h
        | some c =>
          rw [hs] at h
          cases c with
          | none => cases h
          | some r' =>
            simp only [Option.map_some, Option.some.injEq] at h
            subst h
            obtain ⟨f1, f2⟩ := fk_fit h4 hs
            exact ⟨⟨hy.1, hy.2.1, hy.2.2.1, hy.2.2.2.1, f1⟩, by simp [F.len, f2]⟩
theorem fh_fit {x : Cc} {k : F} (h : okT x k) {p : Cc × F} (hp : fh x k = some (some p)) : (F.cons p.1 p.2 .nil).fit := by
  unfold fh at hp
  by_cases hr : redx x k = true
  · rw [if_pos hr] at hp
    simp only [Option.some.injEq] at hp
    exact ctrO_fit h hr hp
  · rw [if_neg hr] at hp
    cases hk : fk k with
    | none => rw [hk] at hp; cases hp
    | some c =>
      rw [hk] at hp
      cases c with
      | none => cases hp
      | some k' =>
        simp only [Option.map_some, Option.some.injEq] at hp
        subst hp
        obtain ⟨f1, f2⟩ := fk_fit h.2.2 hk
        have hf := okT_fit h
        exact ⟨hf.1, hf.2.1, by rw [f2]; exact h.2.1, f1, trivial⟩

/-- So many steps at most, of the first redex each: what it comes to, and how many were made. -/
def nm : Nat → Nat → Cc × F → Option ((Cc × F) × Nat)
  | 0, n, p => some (p, n)
  | s + 1, n, p => match fh p.1 p.2 with
    | none => some (p, n)
    | some none => none
    | some (some q) => if goodT (q.1 :: q.2.flat) = true then nm s (n + 1) q else none
end Go.Proofs.Ytbimfnnbfbfdoaa.W
