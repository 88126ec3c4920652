/-
  Some texts of this proof in one: TeNm, TeSm.
-/
import Derived.Test.YtjalakdpmglamaaJo
/-
  The first redex contracted, and so on: the model. No program here.
-/
namespace Go.Proofs.Ytjalakdpmglamaa.W
set_option linter.unusedVariables false

/-- Terms one behind the other, the first redex contracted; none where there is none. -/
def fk : F → Option (Option F)
  | .nil => none
  | .cons y ky r => if redx y ky = true then some ((ctrO y ky).map fun p : Cc × F => F.cons p.1 p.2 r) else match fk ky with
    | some c => some (c.map fun ky' => F.cons y ky' r)
    | none => (fk r).map fun c => c.map fun r' => F.cons y ky r'
def fh (x : Cc) (k : F) : Option (Option (Cc × F)) := if redx x k = true then some (ctrO x k) else (fk k).map fun c => c.map fun k' => (x, k')

theorem fstR_cons (x : Cc) (l : List Cc) : fstR (x :: l) = if isRl (x :: l) = true then some 0 else (fstR l).map (· + 1) := by
  unfold fstR plUp
  rw [List.length_cons, List.range_succ_eq_map]
  by_cases h : isRl (x :: l) = true
  · rw [if_pos h, List.filter_cons, if_pos (by simpa using h)]; rfl
  · rw [if_neg h, List.filter_cons, if_neg (by simpa using h), List.filter_map, List.head?_map]
    rfl
theorem fstR_nil : fstR [] = none := rfl

theorem first_agree : ∀ (a : F) (r : List Cc), a.ok →
    (fk a = none ∧ fstR (a.flat ++ r) = (fstR r).map (· + a.flat.length)) ∨ (∃ c pos, fk a = some c ∧ fstR (a.flat ++ r) = some pos ∧ Place a.flat pos (c.map F.flat))
  | .nil, r, _ => .inl ⟨rfl, by simp [F.flat]⟩
  | .cons y ky s, r, ⟨h1, h2, h3, h4⟩ => by
    have e0 : (F.cons y ky s).flat ++ r = y :: (ky.flat ++ (s.flat ++ r)) := by simp [F.flat]
    have e3 : (F.cons y ky s).flat = (y :: ky.flat) ++ s.flat := by simp [F.flat]
    rw [e0, fstR_cons, (front h1 h2 h3 _).1]
    cases hr : redx y ky with
    | true =>
      refine .inr ⟨(ctrO y ky).map fun p : Cc × F => F.cons p.1 p.2 s, 0, by rw [fk, if_pos hr], by simp, [], y, ky, s.flat, by rw [e3]; simp, rfl, ⟨h1, h2, h3⟩, hr, ?_⟩
      cases ctrO y ky with
      | none => rfl
      | some p => simp [F.flat]
    | false =>
      rw [if_neg (by simp)]
      rcases first_agree ky (s.flat ++ r) h3 with ⟨i1, i2⟩ | ⟨c, pos, i1, i2, i3⟩
      · rw [i2]
        rcases first_agree s r h4 with ⟨j1, j2⟩ | ⟨c, pos, j1, j2, j3⟩
        · refine .inl ⟨by rw [fk, if_neg (by rw [hr]; simp), i1, j1]; rfl, ?_⟩
          rw [j2]
          simp only [Option.map_map]
          congr 1
          funext q
          simp [F.flat]; omega
        · refine .inr ⟨c.map fun r' => F.cons y ky r', pos + ky.flat.length + 1, by rw [fk, if_neg (by rw [hr]; simp), i1, j1]; rfl, by rw [j2]; rfl, ?_⟩
          have := j3.app (y :: ky.flat) []
          simp only [List.append_nil, List.length_cons] at this
          rw [e3, show pos + ky.flat.length + 1 = ky.flat.length + 1 + pos by omega]
          have e4 : ((c.map fun r' => F.cons y ky r').map F.flat) = (c.map F.flat).map fun m => (y :: ky.flat) ++ m := by cases c <;> simp [F.flat]
          rw [e4]
          exact this
      · refine .inr ⟨c.map fun ky' => F.cons y ky' s, pos + 1, by rw [fk, if_neg (by rw [hr]; simp), i1], by rw [i2]; rfl, ?_⟩
        have := i3.app [y] s.flat
        simp only [List.length_singleton] at this
        rw [show (F.cons y ky s).flat = [y] ++ (ky.flat ++ s.flat) by simp [F.flat], show pos + 1 = 1 + pos by omega]
        have e4 : ((c.map fun ky' => F.cons y ky' s).map F.flat) = (c.map F.flat).map fun m => [y] ++ (m ++ s.flat) := by cases c <;> simp [F.flat]
        rw [e4]
        exact this
/-- .. of one term. -/
theorem first_one {x : Cc} {k : F} (h : okT x k) : (fh x k = none ∧ fstR (x :: k.flat) = none) ∨ (∃ c pos, fh x k = some c ∧ fstR (x :: k.flat) = some pos ∧ Place (x :: k.flat) pos (c.map fun p : Cc × F => p.1 :: p.2.flat)) := by
  rcases first_agree (.cons x k .nil) [] ⟨h.1, h.2.1, h.2.2, trivial⟩ with ⟨i1, i2⟩ | ⟨c, pos, i1, i2, i3⟩
  · refine .inl ⟨?_, by simpa [F.flat, fstR_nil] using i2⟩
    unfold fk at i1
    unfold fh
    by_cases hr : redx x k = true
    · rw [if_pos hr] at i1; cases i1
    · rw [if_neg hr] at i1 ⊢
      cases hk : fk k with
      | none => rfl
      | some c => rw [hk] at i1; cases i1
  · have e1 : (F.cons x k .nil).flat = x :: k.flat := by simp [F.flat]
    rw [e1] at i2 i3
    rw [List.append_nil] at i2
    unfold fk at i1
    unfold fh
    by_cases hr : redx x k = true
    · rw [if_pos hr] at i1 ⊢
      simp only [Option.some.injEq] at i1
      subst i1
      refine .inr ⟨_, pos, rfl, i2, ?_⟩
      have e2 : ((ctrO x k).map fun p : Cc × F => p.1 :: p.2.flat) = ((ctrO x k).map fun p : Cc × F => F.cons p.1 p.2 .nil).map F.flat := by cases ctrO x k <;> simp [F.flat]
      rw [e2]; exact i3
    · rw [if_neg hr] at i1 ⊢
      cases hk : fk k with
      | none => rw [hk] at i1; simp [fk] at i1
      | some c' =>
        rw [hk] at i1
        simp only [Option.some.injEq] at i1
        subst i1
        refine .inr ⟨_, pos, rfl, i2, ?_⟩
        have e2 : ((c'.map fun k' => (x, k')).map fun p : Cc × F => p.1 :: p.2.flat) = (c'.map fun ky' => F.cons x ky' .nil).map F.flat := by cases c' <;> simp [F.flat]
        rw [e2]; exact i3

/-! ### what is made has the form of terms -/
theorem fit_ok : ∀ {a : F}, a.fit → (∀ c ∈ a.flat, goodC c = true) → a.ok
  | .nil, _, _ => trivial
  | .cons x k r, ⟨h1, h2, h3, h4, h5⟩, h => ⟨h x (by simp [F.flat]), h3, fit_ok h4 (fun c hc => h c (by simp [F.flat, hc])), fit_ok h5 (fun c hc => h c (by simp [F.flat, hc]))⟩
theorem ok_good : ∀ {a : F}, a.ok → ∀ c ∈ a.flat, goodC c = true
  | .nil, _, c, hc => by simp [F.flat] at hc
  | .cons x k r, ⟨h1, h2, h3, h4⟩, c, hc => by
    simp only [F.flat, List.mem_cons, List.mem_append] at hc
    rcases hc with rfl | hc | hc
    · exact h1
    · exact ok_good h3 c hc
    · exact ok_good h4 c hc
theorem okT_fit {x : Cc} {k : F} (h : okT x k) : (F.cons x k .nil).fit := F.ok_fit (a := .cons x k .nil) ⟨h.1, h.2.1, h.2.2, trivial⟩
/-- Good cells of a term's form are that term. -/
theorem good_back {x : Cc} {k : F} (hf : (F.cons x k .nil).fit) (hg : goodT (x :: k.flat) = true) : okT x k ∧ k.flat.length + 1 ≤ 600 := by
  unfold goodT at hg
  cases ht : treeT (x :: k.flat) with
  | none => rw [ht] at hg; cases hg
  | some t =>
    obtain ⟨e1, e2, -, e4, -⟩ := treeT_flat ht
    have hall : ∀ c ∈ (F.cons x k .nil).flat, goodC c = true := by
      have e5 : (F.cons x k .nil).flat = t.flat := by rw [← e1]; simp [F.flat]
      rw [e5]; exact ok_good e2
    have := fit_ok hf hall
    exact ⟨⟨this.1, this.2.1, this.2.2.1⟩, by simpa using e4⟩
theorem putO_fit {d z : Cc} {kd kz : F} (hd : okT d kd) (hz : okT z kz) {p : Cc × F} (h : putO d kd z kz = some p) : (F.cons p.1 p.2 .nil).fit := by
  unfold putO at h
  split at h
  · simp only [Option.some.injEq] at h
    subst h
    have h9 := sbf_fit 0 z kz (okT_fit hz) (.cons d kd .nil) 0 0 0 (okT_fit hd)
    rw [sbf_cons, binds_0] at h9
    exact h9
  · cases h
theorem ctrO_fit {x : Cc} {k : F} (hk : okT x k) (hr : redx x k = true) {p : Cc × F} (h : ctrO x k = some p) : (F.cons p.1 p.2 .nil).fit := by
  cases red_of hk hr with
  | app y d z kd kz hx hk' hy hd hz =>
    subst hk'
    have e1 : ctrO x (.cons y (.cons d kd .nil) (.cons z kz .nil)) = putO d kd z kz := by simp [ctrO, hx]
    rw [e1] at h
    exact putO_fit hd hz h
  | lett y d ky kd hx hk' hy hd =>
    subst hk'
    have e1 : ctrO x (.cons y ky (.cons d kd .nil)) = putO d kd y ky := by simp [ctrO, hx]
    rw [e1] at h
    exact putO_fit hd hy h
  | add y z hx hk' hy hz hyn hzn hs =>
    subst hk'
    have e1 : ctrO x (.cons y .nil (.cons z .nil .nil)) = some (⟨2, y.n + z.n⟩, .nil) := by simp [ctrO, hx]
    rw [e1] at h
    simp only [Option.some.injEq] at h
    subst h
    exact ⟨by simp [inB], fun h => by simp at h, rfl, trivial, trivial⟩
  | iff y z u kz ku hx hk' hy hz hu =>
    subst hk'
    have e1 : ctrO x (.cons y .nil (.cons z kz (.cons u ku .nil))) = some (if y.n = 0 then (z, kz) else (u, ku)) := by simp [ctrO, hx]
    rw [e1] at h
    simp only [Option.some.injEq] at h
    subst h
    split
    · exact okT_fit hz
    · exact okT_fit hu
theorem fk_fit : ∀ {a : F} {b : F}, a.ok → fk a = some (some b) → b.fit ∧ b.len = a.len
  | .nil, b, _, h => by simp [fk] at h
  | .cons y ky r, b, ⟨h1, h2, h3, h4⟩, h => by
    unfold fk at h
    have hy : (F.cons y ky r).fit := F.ok_fit (a := .cons y ky r) ⟨h1, h2, h3, h4⟩
    by_cases hr : redx y ky = true
    · rw [if_pos hr] at h
      cases hc : ctrO y ky with
      | none => rw [hc] at h; cases h
      | some p =>
        rw [hc] at h
        simp only [Option.map_some, Option.some.injEq] at h
        subst h
        obtain ⟨f1, f2, f3, f4, -⟩ := ctrO_fit ⟨h1, h2, h3⟩ hr hc
        exact ⟨⟨f1, f2, f3, f4, hy.2.2.2.2⟩, rfl⟩
    · rw [if_neg hr] at h
      cases hk : fk ky with
      | some c =>
        rw [hk] at h
        cases c with
        | none => cases h
        | some ky' =>
          simp only [Option.map_some, Option.some.injEq] at h
          subst h
          obtain ⟨f1, f2⟩ := fk_fit h3 hk
          exact ⟨⟨hy.1, hy.2.1, by rw [f2]; exact h2, f1, hy.2.2.2.2⟩, rfl⟩
      | none =>
        rw [hk] at h
        cases hs : fk r with
        | none => rw [hs] at h; cases h
        | some c =>
          rw [hs] at h
          cases c with
          | none => cases h
          | some r' =>
            simp only [Option.map_some, Option.some.injEq] at h
            subst h
            obtain ⟨f1, f2⟩ := fk_fit h4 hs
            exact ⟨⟨hy.1, hy.2.1, hy.2.2.1, hy.2.2.2.1, f1⟩, by simp [F.len, f2]⟩
theorem fh_fit {x : Cc} {k : F} (h : okT x k) {p : Cc × F} (hp : fh x k = some (some p)) : (F.cons p.1 p.2 .nil).fit := by
  unfold fh at hp
  by_cases hr : redx x k = true
  · rw [if_pos hr] at hp
    simp only [Option.some.injEq] at hp
    exact ctrO_fit h hr hp
  · rw [if_neg hr] at hp
    cases hk : fk k with
    | none => rw [hk] at hp; cases hp
    | some c =>
      rw [hk] at hp
      cases c with
      | none => cases hp
      | some k' =>
        simp only [Option.map_some, Option.some.injEq] at hp
        subst hp
        obtain ⟨f1, f2⟩ := fk_fit h.2.2 hk
        have hf := okT_fit h
        exact ⟨hf.1, hf.2.1, by rw [f2]; exact h.2.1, f1, trivial⟩

/-- So many steps at most, of the first redex each: what it comes to, and how many were made. -/
def nm : Nat → Nat → Cc × F → Option ((Cc × F) × Nat)
  | 0, n, p => some (p, n)
  | s + 1, n, p => match fh p.1 p.2 with
    | none => some (p, n)
    | some none => none
    | some (some q) => if goodT (q.1 :: q.2.flat) = true then nm s (n + 1) q else none
end Go.Proofs.Ytjalakdpmglamaa.W

/-
  All terms that one contraction leads to: the model. No program here.
-/
namespace Go.Proofs.Ytjalakdpmglamaa.W
set_option linter.unusedVariables false

/-- The contractions of one redex each in terms one behind the other, from the front: the place, and what it leads to. -/
def sk : F → List (Nat × Option F)
  | .nil => []
  | .cons y ky r => (if redx y ky = true then [(0, (ctrO y ky).map fun p : Cc × F => F.cons p.1 p.2 r)] else []) ++ ((sk ky).map fun q => (q.1 + 1, q.2.map fun ky' => F.cons y ky' r)) ++ ((sk r).map fun q => (q.1 + (ky.flat.length + 1), q.2.map fun r' => F.cons y ky r'))
theorem sk_cons (y : Cc) (ky r : F) : sk (.cons y ky r) = (if redx y ky = true then [(0, (ctrO y ky).map fun p : Cc × F => F.cons p.1 p.2 r)] else []) ++ ((sk ky).map fun q => (q.1 + 1, q.2.map fun ky' => F.cons y ky' r)) ++ ((sk r).map fun q => (q.1 + (ky.flat.length + 1), q.2.map fun r' => F.cons y ky r')) := rfl
/-- .. of one term. -/
def sh (x : Cc) (k : F) : List (Nat × Option (Cc × F)) := (if redx x k = true then [(0, ctrO x k)] else []) ++ (sk k).map fun q => (q.1 + 1, q.2.map fun k' => (x, k'))

def pls (l : List Cc) : List Nat := plUp l l.length
theorem pls_nil : pls [] = [] := rfl
theorem pls_cons (x : Cc) (l : List Cc) : pls (x :: l) = (if isRl (x :: l) = true then [0] else []) ++ (pls l).map (· + 1) := by
  unfold pls plUp
  rw [List.length_cons, List.range_succ_eq_map, List.filter_cons, List.filter_map]
  by_cases h : isRl (x :: l) = true
  · rw [if_pos h, if_pos (by simpa using h)]; rfl
  · rw [if_neg h, if_neg (by simpa using h)]; rfl

theorem steps_agree : ∀ (a : F) (r : List Cc), a.ok → pls (a.flat ++ r) = (sk a).map Prod.fst ++ (pls r).map (· + a.flat.length) ∧ ∀ q ∈ sk a, Place a.flat q.1 (q.2.map F.flat)
  | .nil, r, _ => ⟨by simp [F.flat, sk], fun q hq => by simp [sk] at hq⟩
  | .cons y ky s, r, ⟨h1, h2, h3, h4⟩ => by
    have e0 : (F.cons y ky s).flat ++ r = y :: (ky.flat ++ (s.flat ++ r)) := by simp [F.flat]
    have e3 : (F.cons y ky s).flat = (y :: ky.flat) ++ s.flat := by simp [F.flat]
    obtain ⟨i1, i2⟩ := steps_agree ky (s.flat ++ r) h3
    obtain ⟨j1, j2⟩ := steps_agree s r h4
    constructor
    · rw [e0, pls_cons, (front h1 h2 h3 _).1, i1, j1, e3]
      rw [sk_cons]
      by_cases hr : redx y ky = true
      · rw [if_pos hr, if_pos hr]
        simp [Function.comp_def, Nat.add_comm, Nat.add_left_comm]
      · rw [if_neg hr, if_neg hr]
        simp [Function.comp_def, Nat.add_comm, Nat.add_left_comm]
    · intro q hq
      rw [sk_cons] at hq
      simp only [List.mem_append, List.mem_map] at hq
      rcases hq with (hq | ⟨q', hq', rfl⟩) | ⟨q', hq', rfl⟩
      · by_cases hr : redx y ky = true
        · rw [if_pos hr] at hq
          simp only [List.mem_singleton] at hq
          subst hq
          refine ⟨[], y, ky, s.flat, by rw [e3]; simp, rfl, ⟨h1, h2, h3⟩, hr, ?_⟩
          cases ctrO y ky with
          | none => rfl
          | some p => simp [F.flat]
        · rw [if_neg hr] at hq; cases hq
      · have := (i2 q' hq').app [y] s.flat
        simp only [List.length_singleton] at this
        rw [show (F.cons y ky s).flat = [y] ++ (ky.flat ++ s.flat) by simp [F.flat], show q'.1 + 1 = 1 + q'.1 by omega]
        have e4 : ((q'.2.map fun ky' => F.cons y ky' s).map F.flat) = (q'.2.map F.flat).map fun m => [y] ++ (m ++ s.flat) := by cases q'.2 <;> simp [F.flat]
        rw [e4]
        exact this
      · have := (j2 q' hq').app (y :: ky.flat) []
        simp only [List.append_nil, List.length_cons] at this
        rw [e3, show q'.1 + (ky.flat.length + 1) = ky.flat.length + 1 + q'.1 by omega]
        have e4 : ((q'.2.map fun r' => F.cons y ky r').map F.flat) = (q'.2.map F.flat).map fun m => (y :: ky.flat) ++ m := by cases q'.2 <;> simp [F.flat]
        rw [e4]
        exact this
/-- .. of one term. -/
theorem steps_one {x : Cc} {k : F} (h : okT x k) : pls (x :: k.flat) = (sh x k).map Prod.fst ∧ ∀ q ∈ sh x k, Place (x :: k.flat) q.1 (q.2.map fun p : Cc × F => p.1 :: p.2.flat) := by
  obtain ⟨i1, i2⟩ := steps_agree (.cons x k .nil) [] ⟨h.1, h.2.1, h.2.2, trivial⟩
  have e1 : (F.cons x k .nil).flat = x :: k.flat := by simp [F.flat]
  have e2 : sk (.cons x k .nil) = (sh x k).map fun q => (q.1, q.2.map fun p : Cc × F => F.cons p.1 p.2 .nil) := by
    rw [sk_cons]
    unfold sh
    by_cases hr : redx x k = true
    · rw [if_pos hr, if_pos hr]; simp [sk, Function.comp_def]
    · rw [if_neg hr, if_neg hr]; simp [sk, Function.comp_def]
  rw [e1, e2] at i1 i2
  refine ⟨by simpa [pls_nil, Function.comp_def] using i1, fun q hq => ?_⟩
  have := i2 _ (List.mem_map_of_mem hq)
  have e3 : (q.2.map fun p : Cc × F => p.1 :: p.2.flat) = (q.2.map fun p : Cc × F => F.cons p.1 p.2 .nil).map F.flat := by cases q.2 <;> simp [F.flat]
  rw [e3]; exact this

/-- All of them, where there are all. -/
def coll {α : Type} : List (Option α) → Option (List α)
  | [] => some []
  | o :: r => match o with | none => none | some x => (coll r).map (x :: ·)
theorem coll_snoc {α : Type} : ∀ (l : List (Option α)) (o : Option α), coll (l ++ [o]) = match coll l with | none => none | some xs => match o with | none => none | some x => some (xs ++ [x])
  | [], o => by cases o <;> rfl
  | p :: r, o => by
    cases p with
    | none => rfl
    | some y =>
      simp only [List.cons_append, coll, coll_snoc r o]
      cases coll r with
      | none => rfl
      | some xs => cases o <;> rfl
theorem coll_app {α : Type} : ∀ (l m : List (Option α)), coll (l ++ m) = match coll l with | none => none | some xs => (coll m).map (xs ++ ·)
  | [], m => by simp [coll]
  | p :: r, m => by
    cases p with
    | none => rfl
    | some y =>
      simp only [List.cons_append, coll, coll_app r m]
      cases coll r with
      | none => rfl
      | some xs => cases coll m <;> simp
theorem coll_len {α : Type} : ∀ {l : List (Option α)} {xs : List α}, coll l = some xs → xs.length = l.length
  | [], xs, h => by simp [coll] at h; subst h; rfl
  | p :: r, xs, h => by
    cases p with
    | none => cases h
    | some y =>
      simp only [coll] at h
      cases hc : coll r with
      | none => rw [hc] at h; cases h
      | some ys =>
        rw [hc] at h
        simp only [Option.map_some, Option.some.injEq] at h
        subst h
        simp [coll_len hc]
theorem coll_mem {α : Type} : ∀ {l : List (Option α)} {xs : List α}, coll l = some xs → ∀ x ∈ xs, some x ∈ l
  | [], xs, h => by simp [coll] at h; subst h; simp
  | p :: r, xs, h => by
    cases p with
    | none => cases h
    | some y =>
      simp only [coll] at h
      cases hc : coll r with
      | none => rw [hc] at h; cases h
      | some ys =>
        rw [hc] at h
        simp only [Option.map_some, Option.some.injEq] at h
        subst h
        intro x hx
        rcases List.mem_cons.1 hx with rfl | hx
        · simp
        · exact List.mem_cons_of_mem _ (coll_mem hc x hx)
/-- The cells of a term made, where they are good. -/
def tgd (c : Option (Cc × F)) : Option (List Cc) := match c with | none => none | some p => if goodT (p.1 :: p.2.flat) = true then some (p.1 :: p.2.flat) else none
/-- What StepsOf tells. -/
def stR (l : List Cc) : Option (List (List Cc)) := match treeT l with | some (.cons x k _) => coll ((sh x k).map fun q => tgd q.2) | _ => none
end Go.Proofs.Ytjalakdpmglamaa.W
