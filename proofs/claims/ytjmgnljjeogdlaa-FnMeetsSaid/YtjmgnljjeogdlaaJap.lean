/-
  Some texts of this proof in one: TeNm, TeSm, TeSq, TeSs.
-/
import Derived.Test.YtjmgnljjeogdlaaJan
import Derived.Test.YtjmgnljjeogdlaaJao
/-
  The first redex contracted, and so on: the model. No program here.
-/
namespace Go.Proofs.Ytjmgnljjeogdlaa.W
set_option linter.unusedVariables false

/-- Terms one behind the other, the first redex contracted; none where there is none. -/
def fk : F → Option (Option F)
  | .nil => none
  | .cons y ky r => if redx y ky = true then some ((ctrO y ky).map fun p : Cc × F => F.cons p.1 p.2 r) else match fk ky with
    | some c => some (c.map fun ky' => F.cons y ky' r)
    | none => (fk r).map fun c => c.map fun r' => F.cons y ky r'
def fh (x : Cc) (k : F) : Option (Option (Cc × F)) := if redx x k = true then some (ctrO x k) else (fk k).map fun c => c.map fun k' => (x, k')

theorem fstR_cons (x : Cc) (l : List Cc) : fstR (x :: l) = if isRl (x :: l) = true then some 0 else (fstR l).map (· + 1) := by
  unfold fstR plUp
  rw [List.length_cons, List.range_succ_eq_map]
  by_cases h : isRl (x :: l) = true
  · rw [if_pos h, List.filter_cons, if_pos (by simpa using h)]; rfl
  · rw [if_neg h, List.filter_cons, if_neg (by simpa using h), List.filter_map, List.head?_map]
    rfl
theorem fstR_nil : fstR [] = none := rfl

theorem first_agree : ∀ (a : F) (r : List Cc), a.ok →
    (fk a = none ∧ fstR (a.flat ++ r) = (fstR r).map (· + a.flat.length)) ∨ (∃ c pos, fk a = some c ∧ fstR (a.flat ++ r) = some pos ∧ Place a.flat pos (c.map F.flat))
  | .nil, r, _ => .inl ⟨rfl, by simp [F.flat]⟩
  | .cons y ky s, r, ⟨h1, h2, h3, h4⟩ => by
    have e0 : (F.cons y ky s).flat ++ r = y :: (ky.flat ++ (s.flat ++ r)) := by simp [F.flat]
    have e3 : (F.cons y ky s).flat = (y :: ky.flat) ++ s.flat := by simp [F.flat]
    rw [e0, fstR_cons, (front h1 h2 h3 _).1]
    cases hr : redx y ky with
    | true =>
      refine .inr ⟨(ctrO y ky).map fun p : Cc × F => F.cons p.1 p.2 s, 0, by rw [fk, if_pos hr], by simp, [], y, ky, s.flat, by rw [e3]; simp, rfl, ⟨h1, h2, h3⟩, hr, ?_⟩
      cases ctrO y ky with
      | none => rfl
      | some p => simp [F.flat]
    | false =>
      rw [if_neg (by simp)]
      rcases first_agree ky (s.flat ++ r) h3 with ⟨i1, i2⟩ | ⟨c, pos, i1, i2, i3⟩
      · rw [i2]
        rcases first_agree s r h4 with ⟨j1, j2⟩ | ⟨c, pos, j1, j2, j3⟩
        · refine .inl ⟨by rw [fk, if_neg (by rw [hr]; simp), i1, j1]; rfl, ?_⟩
          rw [j2]
          simp only [Option.map_map]
          congr 1
          funext q
          simp [F.flat]; omega
        · refine .inr ⟨c.map fun r' => F.cons y ky r', pos + ky.flat.length + 1, by rw [fk, if_neg (by rw [hr]; simp), i1, j1]; rfl, by rw [j2]; rfl, ?_⟩
          have := j3.app (y :: ky.flat) []
          simp only [List.append_nil, List.length_cons] at this
          rw [e3, show pos + ky.flat.length + 1 = ky.flat.length + 1 + pos by omega]
          have e4 : ((c.map fun r' => F.cons y ky r').map F.flat) = (c.map F.flat).map fun m => (y :: ky.flat) ++ m := by cases c <;> simp [F.flat]
          rw [e4]
          exact this
      · refine .inr ⟨c.map fun ky' => F.cons y ky' s, pos + 1, by rw [fk, if_neg (by rw [hr]; simp), i1], by rw [i2]; rfl, ?_⟩
        have := i3.app [y] s.flat
        simp only [List.length_singleton] at this
        rw [show (F.cons y ky s).flat = [y] ++ (ky.flat ++ s.flat) by simp [F.flat], show pos + 1 = 1 + pos by omega]
        have e4 : ((c.map fun ky' => F.cons y ky' s).map F.flat) = (c.map F.flat).map fun m => [y] ++ (m ++ s.flat) := by cases c <;> simp [F.flat]
        rw [e4]
        exact this
/-- .. of one term. -/
theorem first_one {x : Cc} {k : F} (h : okT x k) : (fh x k = none ∧ fstR (x :: k.flat) = none) ∨ (∃ c pos, fh x k = some c ∧ fstR (x :: k.flat) = some pos ∧ Place (x :: k.flat) pos (c.map fun p : Cc × F => p.1 :: p.2.flat)) := by
  rcases first_agree (.cons x k .nil) [] ⟨h.1, h.2.1, h.2.2, trivial⟩ with ⟨i1, i2⟩ | ⟨c, pos, i1, i2, i3⟩
  · refine .inl ⟨?_, by simpa [F.flat, fstR_nil] using i2⟩
    unfold fk at i1
    unfold fh
    by_cases hr : redx x k = true
    · rw [if_pos hr] at i1; cases i1
    · rw [if_neg hr] at i1 ⊢
      cases hk : fk k with
      | none => rfl
      | some c => rw [hk] at i1; cases i1
  · have e1 : (F.cons x k .nil).flat = x :: k.flat := by simp [F.flat]
    rw [e1] at i2 i3
    rw [List.append_nil] at i2
    unfold fk at i1
    unfold fh
    by_cases hr : redx x k = true
    · rw [if_pos hr] at i1 ⊢
      simp only [Option.some.injEq] at i1
      subst i1
      refine .inr ⟨_, pos, rfl, i2, ?_⟩
      have e2 : ((ctrO x k).map fun p : Cc × F => p.1 :: p.2.flat) = ((ctrO x k).map fun p : Cc × F => F.cons p.1 p.2 .nil).map F.flat := by cases ctrO x k <;> simp [F.flat]
      rw [e2]; exact i3
    · rw [if_neg hr] at i1 ⊢
      cases hk : fk k with
      | none => rw [hk] at i1; simp [fk] at i1
      | some c' =>
        rw [hk] at i1
        simp only [Option.some.injEq] at i1
        subst i1
        refine .inr ⟨_, pos, rfl, i2, ?_⟩
        have e2 : ((c'.map fun k' => (x, k')).map fun p : Cc × F => p.1 :: p.2.flat) = (c'.map fun ky' => F.cons x ky' .nil).map F.flat := by cases c' <;> simp [F.flat]
        rw [e2]; exact i3

/-! ### what is made has the form of terms -/
theorem fit_ok : ∀ {a : F}, a.fit → (∀ c ∈ a.flat, goodC c = true) → a.ok
  | .nil, _, _ => trivial
  | .cons x k r, ⟨h1, h2, h3, h4, h5⟩, h => ⟨h x (by simp [F.flat]), h3, fit_ok h4 (fun c hc => h c (by simp [F.flat, hc])), fit_ok h5 (fun c hc => h c (by simp [F.flat, hc]))⟩
theorem ok_good : ∀ {a : F}, a.ok → ∀ c ∈ a.flat, goodC c = true
  | .nil, _, c, hc => by simp [F.flat] at hc
  | .cons x k r, ⟨h1, h2, h3, h4⟩, c, hc => by
    simp only [F.flat, List.mem_cons, List.mem_append] at hc
    rcases hc with rfl | hc | hc
    · exact h1
    · exact ok_good h3 c hc
    · exact ok_good h4 c hc
theorem okT_fit {x : Cc} {k : F} (h : okT x k) : (F.cons x k .nil).fit := F.ok_fit (a := .cons x k .nil) ⟨h.1, h.2.1, h.2.2, trivial⟩
/-- Good cells of a term's form are that term. -/
theorem good_back {x : Cc} {k : F} (hf : (F.cons x k .nil).fit) (hg : goodT (x :: k.flat) = true) : okT x k ∧ k.flat.length + 1 ≤ 600 := by
  unfold goodT at hg
  cases ht : treeT (x :: k.flat) with
  | none => rw [ht] at hg; cases hg
  | some t =>
    obtain ⟨e1, e2, -, e4, -⟩ := treeT_flat ht
    have hall : ∀ c ∈ (F.cons x k .nil).flat, goodC c = true := by
      have e5 : (F.cons x k .nil).flat = t.flat := by rw [← e1]; simp [F.flat]
      rw [e5]; exact ok_good e2
    have := fit_ok hf hall
    exact ⟨⟨this.1, this.2.1, this.2.2.1⟩, by simpa using e4⟩
theorem putO_fit {d z : Cc} {kd kz : F} (hd : okT d kd) (hz : okT z kz) {p : Cc × F} (h : putO d kd z kz = some p) : (F.cons p.1 p.2 .nil).fit := by
  unfold putO at h
  split at h
  · simp only [Option.some.injEq] at h
    subst h
    have h9 := sbf_fit 0 z kz (okT_fit hz) (.cons d kd .nil) 0 0 0 (okT_fit hd)
    rw [sbf_cons, binds_0] at h9
    exact h9
  · cases h
theorem ctrO_fit {x : Cc} {k : F} (hk : okT x k) (hr : redx x k = true) {p : Cc × F} (h : ctrO x k = some p) : (F.cons p.1 p.2 .nil).fit := by
  cases red_of hk hr with
  | app y d z kd kz hx hk' hy hd hz =>
    subst hk'
    have e1 : ctrO x (.cons y (.cons d kd .nil) (.cons z kz .nil)) = putO d kd z kz := by simp [ctrO, hx]
    rw [e1] at h
    exact putO_fit hd hz h
  | lett y d ky kd hx hk' hy hd =>
    subst hk'
    have e1 : ctrO x (.cons y ky (.cons d kd .nil)) = putO d kd y ky := by simp [ctrO, hx]
    rw [e1] at h
    exact putO_fit hd hy h
  | add y z hx hk' hy hz hyn hzn hs =>
    subst hk'
    have e1 : ctrO x (.cons y .nil (.cons z .nil .nil)) = some (⟨2, y.n + z.n⟩, .nil) := by simp [ctrO, hx]
    rw [e1] at h
    simp only [Option.some.injEq] at h
    subst h
    exact ⟨by simp [inB], fun h => by simp at h, rfl, trivial, trivial⟩
  | iff y z u kz ku hx hk' hy hz hu =>
    subst hk'
    have e1 : ctrO x (.cons y .nil (.cons z kz (.cons u ku .nil))) = some (if y.n = 0 then (z, kz) else (u, ku)) := by simp [ctrO, hx]
    rw [e1] at h
    simp only [Option.some.injEq] at h
    subst h
    split
    · exact okT_fit hz
    · exact okT_fit hu
theorem fk_fit : ∀ {a : F} {b : F}, a.ok → fk a = some (some b) → b.fit ∧ b.len = a.len
  | .nil, b, _, h => by simp [fk] at h
  | .cons y ky r, b, ⟨h1, h2, h3, h4⟩, h => by
    unfold fk at h
    have hy : (F.cons y ky r).fit := F.ok_fit (a := .cons y ky r) ⟨h1, h2, h3, h4⟩
    by_cases hr : redx y ky = true
    · rw [if_pos hr] at h
      cases hc : ctrO y ky with
      | none => rw [hc] at h; cases h
      | some p =>
        rw [hc] at h
        simp only [Option.map_some, Option.some.injEq] at h
        subst h
        obtain ⟨f1, f2, f3, f4, -⟩ := ctrO_fit ⟨h1, h2, h3⟩ hr hc
        exact ⟨⟨f1, f2, f3, f4, hy.2.2.2.2⟩, rfl⟩
    · rw [if_neg hr] at h
      cases hk : fk ky with
      | some c =>
        rw [hk] at h
        cases c with
        | none => cases h
        | some ky' =>
          simp only [Option.map_some, Option.some.injEq] at h
          subst h
          obtain ⟨f1, f2⟩ := fk_fit h3 hk
          exact ⟨⟨hy.1, hy.2.1, by rw [f2]; exact h2, f1, hy.2.2.2.2⟩, rfl⟩
      | none =>
        rw [hk] at h
        cases hs : fk r with
        | none => rw [hs] at h; cases h
        | some c =>
          rw [hs] at h
          cases c with
          | none => cases h
          | some r' =>
            simp only [Option.map_some, Option.some.injEq] at h
            subst h
            obtain ⟨f1, f2⟩ := fk_fit h4 hs
            exact ⟨⟨hy.1, hy.2.1, hy.2.2.1, hy.2.2.2.1, f1⟩, by simp [F.len, f2]⟩
theorem fh_fit {x : Cc} {k : F} (h : okT x k) {p : Cc × F} (hp : fh x k = some (some p)) : (F.cons p.1 p.2 .nil).fit := by
  unfold fh at hp
  by_cases hr : redx x k = true
  · rw [if_pos hr] at hp
    simp only [Option.some.injEq] at hp
    exact ctrO_fit h hr hp
  · rw [if_neg hr] at hp
    cases hk : fk k with
    | none => rw [hk] at hp; cases hp
    | some c =>
      rw [hk] at hp
      cases c with
      | none => cases hp
      | some k' =>
        simp only [Option.map_some, Option.some.injEq] at hp
        subst hp
        obtain ⟨f1, f2⟩ := fk_fit h.2.2 hk
        have hf := okT_fit h
        exact ⟨hf.1, hf.2.1, by rw [f2]; exact h.2.1, f1, trivial⟩

/-- So many steps at most, of the first redex each: what it comes to, and how many were made. -/
def nm : Nat → Nat → Cc × F → Option ((Cc × F) × Nat)
  | 0, n, p => some (p, n)
  | s + 1, n, p => match fh p.1 p.2 with
    | none => some (p, n)
    | some none => none
    | some (some q) => if goodT (q.1 :: q.2.flat) = true then nm s (n + 1) q else none
end Go.Proofs.Ytjmgnljjeogdlaa.W

/-
  All terms that one contraction leads to: the model. No program here.
-/
namespace Go.Proofs.Ytjmgnljjeogdlaa.W
set_option linter.unusedVariables false

/-- The contractions of one redex each in terms one behind the other, from the front: the place, and what it leads to. -/
def sk : F → List (Nat × Option F)
  | .nil => []
  | .cons y ky r => (if redx y ky = true then [(0, (ctrO y ky).map fun p : Cc × F => F.cons p.1 p.2 r)] else []) ++ ((sk ky).map fun q => (q.1 + 1, q.2.map fun ky' => F.cons y ky' r)) ++ ((sk r).map fun q => (q.1 + (ky.flat.length + 1), q.2.map fun r' => F.cons y ky r'))
theorem sk_cons (y : Cc) (ky r : F) : sk (.cons y ky r) = (if redx y ky = true then [(0, (ctrO y ky).map fun p : Cc × F => F.cons p.1 p.2 r)] else []) ++ ((sk ky).map fun q => (q.1 + 1, q.2.map fun ky' => F.cons y ky' r)) ++ ((sk r).map fun q => (q.1 + (ky.flat.length + 1), q.2.map fun r' => F.cons y ky r')) := rfl
/-- .. of one term. -/
def sh (x : Cc) (k : F) : List (Nat × Option (Cc × F)) := (if redx x k = true then [(0, ctrO x k)] else []) ++ (sk k).map fun q => (q.1 + 1, q.2.map fun k' => (x, k'))

def pls (l : List Cc) : List Nat := plUp l l.length
theorem pls_nil : pls [] = [] := rfl
theorem pls_cons (x : Cc) (l : List Cc) : pls (x :: l) = (if isRl (x :: l) = true then [0] else []) ++ (pls l).map (· + 1) := by
  unfold pls plUp
  rw [List.length_cons, List.range_succ_eq_map, List.filter_cons, List.filter_map]
  by_cases h : isRl (x :: l) = true
  · rw [if_pos h, if_pos (by simpa using h)]; rfl
  · rw [if_neg h, if_neg (by simpa using h)]; rfl

theorem steps_agree : ∀ (a : F) (r : List Cc), a.ok → pls (a.flat ++ r) = (sk a).map Prod.fst ++ (pls r).map (· + a.flat.length) ∧ ∀ q ∈ sk a, Place a.flat q.1 (q.2.map F.flat)
  | .nil, r, _ => ⟨by simp [F.flat, sk], fun q hq => by simp [sk] at hq⟩
  | .cons y ky s, r, ⟨h1, h2, h3, h4⟩ => by
    have e0 : (F.cons y ky s).flat ++ r = y :: (ky.flat ++ (s.flat ++ r)) := by simp [F.flat]
    have e3 : (F.cons y ky s).flat = (y :: ky.flat) ++ s.flat := by simp [F.flat]
    obtain ⟨i1, i2⟩ := steps_agree ky (s.flat ++ r) h3
    obtain ⟨j1, j2⟩ := steps_agree s r h4
    constructor
    · rw [e0, pls_cons, (front h1 h2 h3 _).1, i1, j1, e3]
      rw [sk_cons]
      by_cases hr : redx y ky = true
      · rw [if_pos hr, if_pos hr]
        simp [Function.comp_def, Nat.add_comm, Nat.add_left_comm]
      · rw [if_neg hr, if_neg hr]
        simp [Function.comp_def, Nat.add_comm, Nat.add_left_comm]
    · intro q hq
      rw [sk_cons] at hq
      simp only [List.mem_append, List.mem_map] at hq
      rcases hq with (hq | ⟨q', hq', rfl⟩) | ⟨q', hq', rfl⟩
      · by_cases hr : redx y ky = true
        · rw [if_pos hr] at hq
          simp only [List.mem_singleton] at hq
          subst hq
          refine ⟨[], y, ky, s.flat, by rw [e3]; simp, rfl, ⟨h1, h2, h3⟩, hr, ?_⟩
          cases ctrO y ky with
          | none => rfl
          | some p => simp [F.flat]
        · rw [if_neg hr] at hq; cases hq
      · have := (i2 q' hq').app [y] s.flat
        simp only [List.length_singleton] at this
        rw [show (F.cons y ky s).flat = [y] ++ (ky.flat ++ s.flat) by simp [F.flat], show q'.1 + 1 = 1 + q'.1 by omega]
        have e4 : ((q'.2.map fun ky' => F.cons y ky' s).map F.flat) = (q'.2.map F.flat).map fun m => [y] ++ (m ++ s.flat) := by cases q'.2 <;> simp [F.flat]
        rw [e4]
        exact this
      · have := (j2 q' hq').app (y :: ky.flat) []
        simp only [List.append_nil, List.length_cons] at this
        rw [e3, show q'.1 + (ky.flat.length + 1) = ky.flat.length + 1 + q'.1 by omega]
        have e4 : ((q'.2.map fun r' => F.cons y ky r').map F.flat) = (q'.2.map F.flat).map fun m => (y :: ky.flat) ++ m := by cases q'.2 <;> simp [F.flat]
        rw [e4]
        exact this
/-- .. of one term. -/
theorem steps_one {x : Cc} {k : F} (h : okT x k) : pls (x :: k.flat) = (sh x k).map Prod.fst ∧ ∀ q ∈ sh x k, Place (x :: k.flat) q.1 (q.2.map fun p : Cc × F => p.1 :: p.2.flat) := by
  obtain ⟨i1, i2⟩ := steps_agree (.cons x k .nil) [] ⟨h.1, h.2.1, h.2.2, trivial⟩
  have e1 : (F.cons x k .nil).flat = x :: k.flat := by simp [F.flat]
  have e2 : sk (.cons x k .nil) = (sh x k).map fun q => (q.1, q.2.map fun p : Cc × F => F.cons p.1 p.2 .nil) := by
    rw [sk_cons]
    unfold sh
    by_cases hr : redx x k = true
    · rw [if_pos hr, if_pos hr]; simp [sk, Function.comp_def]
    · rw [if_neg hr, if_neg hr]; simp [sk, Function.comp_def]
  rw [e1, e2] at i1 i2
  refine ⟨by simpa [pls_nil, Function.comp_def] using i1, fun q hq => ?_⟩
  have := i2 _ (List.mem_map_of_mem hq)
  have e3 : (q.2.map fun p : Cc × F => p.1 :: p.2.flat) = (q.2.map fun p : Cc × F => F.cons p.1 p.2 .nil).map F.flat := by cases q.2 <;> simp [F.flat]
  rw [e3]; exact this

/-- All of them, where there are all. -/
def coll {α : Type} : List (Option α) → Option (List α)
  | [] => some []
  | o :: r => match o with | none => none | some x => (coll r).map (x :: ·)
theorem coll_snoc {α : Type} : ∀ (l : List (Option α)) (o : Option α), coll (l ++ [o]) = match coll l with | none => none | some xs => match o with | none => none | some x => some (xs ++ [x])
  | [], o => by cases o <;> rfl
  | p :: r, o => by
    cases p with
    | none => rfl
    | some y =>
      simp only [List.cons_append, coll, coll_snoc r o]
      cases coll r with
      | none => rfl
      | some xs => cases o <;> rfl
theorem coll_app {α : Type} : ∀ (l m : List (Option α)), coll (l ++ m) = match coll l with | none => none | some xs => (coll m).map (xs ++ ·)
  | [], m => by simp [coll]
  | p :: r, m => by
    cases p with
    | none => rfl
    | some y =>
      simp only [List.cons_append, coll, coll_app r m]
      cases coll r with
      | none => rfl
      | some xs => cases coll m <;> simp
theorem coll_len {α : Type} : ∀ {l : List (Option α)} {xs : List α}, coll l = some xs → xs.length = l.length
  | [], xs, h => by simp [coll] at h; subst h; rfl
  | p :: r, xs, h => by
    cases p with
    | none => cases h
    | some y =>
      simp only [coll] at h
      cases hc : coll r with
      | none => rw [hc] at h; cases h
      | some ys =>
        rw [hc] at h
        simp only [Option.map_some, Option.some.injEq] at h
        subst h
        simp [coll_len hc]
theorem coll_mem {α : Type} : ∀ {l : List (Option α)} {xs : List α}, coll l = some xs → ∀ x ∈ xs, some x ∈ l
  | [], xs, h => by simp [coll] at h; subst h; simp
  | p :: r, xs, h => by
    cases p with
    | none => cases h
    | some y =>
      simp only [coll] at h
      cases hc : coll r with
      | none => rw [hc] at h; cases h
      | some ys =>
        rw [hc] at h
        simp only [Option.map_some, Option.some.injEq] at h
        subst h
        intro x hx
        rcases List.mem_cons.1 hx with rfl | hx
        · simp
        · exact List.mem_cons_of_mem _ (coll_mem hc x hx)
/-- The cells of a term made, where they are good. -/
def tgd (c : Option (Cc × F)) : Option (List Cc) := match c with | none => none | some p => if goodT (p.1 :: p.2.flat) = true then some (p.1 :: p.2.flat) else none
/-- What StepsOf tells. -/
def stR (l : List Cc) : Option (List (List Cc)) := match treeT l with | some (.cons x k _) => coll ((sh x k).map fun q => tgd q.2) | _ => none
end Go.Proofs.Ytjmgnljjeogdlaa.W

/-
  All steps by the specification: the model's other face, and a row of trees that grows. No program here but types.
-/
namespace Go.Proofs.Ytjmgnljjeogdlaa.W
open Go.ChangeShapes Go.WideShapes Go.ChangeAt Go.RowKit
set_option linter.unusedVariables false

def sv (a : F) : List (Option F) := (sk a).map fun q => q.2
def shv (x : Cc) (k : F) : List (Option (Cc × F)) := (sh x k).map fun q => q.2
/-- A term's own contraction. -/
def ownR (x : Cc) (k : F) : List (Option (Cc × F)) := if redx x k = true then [ctrO x k] else []
theorem shv_eq (x : Cc) (k : F) : shv x k = ownR x k ++ (sv k).map (Option.map fun k' => (x, k')) := by
  unfold shv sh sv ownR
  by_cases hr : redx x k = true
  · rw [if_pos hr, if_pos hr]; simp [Function.comp_def]
  · rw [if_neg hr, if_neg hr]; simp [Function.comp_def]
theorem sv_cons (y : Cc) (ky r : F) : sv (.cons y ky r) = (shv y ky).map (Option.map fun p : Cc × F => F.cons p.1 p.2 r) ++ (sv r).map (Option.map fun r' => F.cons y ky r') := by
  rw [shv_eq]
  unfold sv ownR
  rw [sk_cons]
  by_cases hr : redx y ky = true
  · rw [if_pos hr, if_pos hr]; simp [Function.comp_def]
  · rw [if_neg hr, if_neg hr]; simp [Function.comp_def]
theorem coll_map {α β : Type} (f : α → β) : ∀ l : List (Option α), coll (l.map (Option.map f)) = (coll l).map (List.map f)
  | [] => rfl
  | o :: r => by
    cases o with
    | none => rfl
    | some x =>
      simp only [List.map_cons, Option.map_some, coll, coll_map f r]
      cases coll r <;> simp
theorem sh_len {x : Cc} {k : F} (h : okT x k) : (shv x k).length ≤ k.flat.length + 1 := by
  have h1 := congrArg List.length (steps_one h).1
  have h2 := plUp_len (x :: k.flat) (x :: k.flat).length
  unfold pls at h1
  unfold shv
  simp only [List.length_map, List.length_cons] at h1 h2 ⊢
  omega
theorem shv_flat {x : Cc} {k : F} (hok : okT x k) (hl : k.flat.length + 1 ≤ 600) {p : Cc × F} (h : some p ∈ shv x k) : p.2.flat.length + 1 ≤ 1200 := by
  unfold shv at h
  obtain ⟨q, hq, he⟩ := List.mem_map.1 h
  obtain ⟨pre, y, ky, post, h1, h2, h3, h4, h5⟩ := (steps_one hok).2 q hq
  rw [he] at h5
  cases hc : ctrO y ky with
  | none => rw [hc] at h5; cases h5
  | some q' =>
    rw [hc] at h5
    simp only [Option.map_some, Option.some.injEq] at h5
    have e1 := congrArg List.length h1
    have e2 := congrArg List.length h5
    simp at e1 e2
    have := ctrO_len h3 h4 (by omega) hc
    omega
/-- Terms as a row. -/
def toF : List (Cc × F) → F
  | [] => .nil
  | p :: r => .cons p.1 p.2 (toF r)
theorem toF_app : ∀ a b : List (Cc × F), toF (a ++ b) = (toF a).app (toF b)
  | [], b => rfl
  | p :: r, b => by simp [toF, F.app, toF_app r b]
theorem toF_len : ∀ a : List (Cc × F), (toF a).len = a.length
  | [] => rfl
  | p :: r => by simp [toF, F.len, toF_len r]

/-- Where the trees of a growing row may lie. -/
def Qo (b0 : Nat) (P : Nat → Prop) (v : Value) (g : Nat) : Prop := (P g ∧ g < b0) ∨ (b0 ≤ g ∧ v.ownBlock ≠ some g)
/-- A growing row of trees. -/
structure OT (w : World) (b0 : Nat) (P : Nat → Prop) (v : Value) (L : List (Cc × F)) (cs : List Value) : Prop where
  kids : KidsAt w (Qo b0 P v) (toF L) cs
  own : w.ownsRow b0 55 3 v L.length cs
  nil : L = [] → v = .slice none 0 0
theorem OT.start (w : World) (b0 : Nat) (P : Nat → Prop) : OT w b0 P (.slice none 0 0) [] [] := ⟨rfl, World.ownsRow_nil _ _ _ _, fun _ => rfl⟩
theorem OT.far {w : World} {b0 : Nat} {P : Nat → Prop} {v : Value} {L : List (Cc × F)} {cs : List Value} (h : OT w b0 P v L cs) {g : Nat} (hq : Qo b0 P v g) : v.ownBlock ≠ some g := by
  rcases hq with h1 | h1
  · intro e; have := (h.own.lt g e).1; omega
  · exact h1.2
theorem OT.below {w w' : World} {b0 : Nat} {P : Nat → Prop} {v : Value} {L : List (Cc × F)} {cs : List Value} (h : OT w b0 P v L cs) (hb : Below w.heap.size w w') : OT w' b0 P v L cs :=
  ⟨h.kids.keep hb.size (fun g h1 h2 => ⟨hb.block g h2, h1⟩), tOwn_keep h.own (fun k _ hk => hb.block k hk), h.nil⟩
/-- A tree more. -/
theorem OT.more {wr w5 w6 : World} {b0 : Nat} {P R : Nat → Prop} {v v' s5 : Value} {L : List (Cc × F)} {cs : List Value} {B : Obj} {p : Cc × F} (h : OT wr b0 P v L cs) (hb : b0 ≤ wr.heap.size) (h5 : Below wr.heap.size wr w5) (hT : KidT w5 R p.2 s5)
    (hR : ∀ g, R g → g < w5.heap.size → Qo b0 P v g) (ho : w6.ownsRow b0 55 3 v' (L.length + 1) (cs ++ tC p.1 s5)) (hg : (w5.alloc B).grownBy w6 v.ownBlock) (hap : Apart (w5.alloc B) v v') :
    OT w6 b0 P v' (L ++ [p]) (cs ++ tC p.1 s5) ∧ Below b0 wr w6 ∧ (∀ g, g < w5.heap.size → v.ownBlock ≠ some g → w6.heap[g]? = w5.heap[g]?) := by
  have hs5 := h5.size
  have hs6 : w5.heap.size + 1 ≤ w6.heap.size := by have := hg.size; simpa using this
  have hk6 : ∀ g, g < w5.heap.size → v.ownBlock ≠ some g → w6.heap[g]? = w5.heap[g]? := fun g hlt hn => by
    rw [hg.block g (by simp; omega) (fun e => hn e.symm), heap_alloc_old _ _ hlt]
  have hq : ∀ g, g < w5.heap.size → Qo b0 P v g → v.ownBlock ≠ some g → Qo b0 P v' g := fun g hlt h1 hn => by
    rcases h1 with h1 | h1
    · exact .inl h1
    · refine .inr ⟨h1.1, fun e => ?_⟩
      rcases hap g e with h2 | h2
      · exact hn h2
      · simp at h2; omega
  refine ⟨⟨?_, ?_, fun e => by simp at e⟩, ⟨hg.os.trans h5.os, hg.tape.trans h5.tape, hg.output.trans h5.output, by omega, fun k hk => ?_⟩, hk6⟩
  · rw [toF_app]
    refine KidsAt.app (h.kids.keep (by omega) (fun g h1 h2 => ⟨?_, hq g (by omega) h1 (h.far h1)⟩)) ⟨s5, [], (List.append_nil _).symm, ?_, rfl⟩
    · rw [hk6 g (by omega) (h.far h1), h5.block g h2]
    · exact hT.keep (by omega) (fun g h1 h2 => ⟨hk6 g h2 (h.far (hR g h1 h2)), hq g h2 (hR g h1 h2) (h.far (hR g h1 h2))⟩)
  · rw [List.length_append, List.length_singleton]; exact ho
  · rw [hk6 k (by omega) (fun e => by have := (h.own.lt k e).1; omega), h5.block k (by omega)]
/-- .. as it is handed out. -/
theorem OT.kidT {w : World} {b0 : Nat} {P Q : Nat → Prop} {v : Value} {L : List (Cc × F)} {cs : List Value} (h : OT w b0 P v L cs) (hP : ∀ g, (P g ∧ g < b0) ∨ b0 ≤ g → Q g) : KidT w Q (toF L) v := by
  refine ⟨cs, h.kids.keep (Nat.le_refl _) (fun g h1 _ => ⟨rfl, hP g (h1.imp id (fun h => h.1))⟩), ?_⟩
  rw [toF_len]
  by_cases e : L = []
  · subst e; exact .inl ⟨rfl, h.nil rfl⟩
  · have hp : 0 < L.length := List.length_pos_iff.2 e
    obtain ⟨g, cap, e1, e2, e3, e4⟩ := tOwn_lies h.own hp
    exact .inr ⟨hp, g, cap, e1, hP g (.inr e2), e3, e4⟩
theorem kid_old {w : World} {P : Nat → Prop} {a : F} {s : Value} (h : KidT w P a s) : KidT w (fun g => P g ∧ g < w.heap.size) a s := h.weak (fun k h1 h2 => ⟨h1, h2⟩)

/-- What l4Steps tells. -/
def SO (w' : World) (P : Nat → Prop) (r : Option (List (Cc × F))) (e : Ending) : Prop :=
  match r with
  | none => e = .returned (.tuple #[.slice none 0 0, .bool false])
  | some L => ∃ s', e = .returned (.tuple #[s', .bool true]) ∧ KidT w' P (toF L) s'
def SGoal (k : F) : Prop := ∀ (x : Cc) (s : Value) (P : Nat → Prop) (w : World), okT x k → k.flat.length + 1 ≤ 600 → KidT w P k s →
    Calls Try.prog 45 #[.agg #[.int .i64 x.k, .int .i64 x.n, s]] w fun e w' => SO w' (fun g => P g ∨ w.heap.size ≤ g) (coll (shv x k)) e ∧ Below w.heap.size w w'
end Go.Proofs.Ytjmgnljjeogdlaa.W

/-
  All steps by the specification: a contract of l4Steps. Conditions: good terms.
-/
namespace Go.Proofs.Ytjmgnljjeogdlaa.W
open Go.ChangeShapes Go.WideShapes Go.ChangeAt Go.RowKit
set_option linter.unusedVariables false

theorem steps_none {X : Cc} {d r : F} {y : Cc} {ky : F} {OW : List (Option (Cc × F))} {D S : List (Option F)} (hS : S = D ++ (sv (.cons y ky r)).map (Option.map fun r' => d.app r')) (hn : coll (shv y ky) = none) : coll (OW ++ S.map (Option.map fun k' => (X, k'))) = none := by
  rw [hS, sv_cons, List.map_append, List.map_append, List.map_append, coll_app]
  cases coll OW with
  | none => rfl
  | some o =>
    simp only
    rw [coll_app]
    cases coll (D.map (Option.map fun k' => (X, k'))) with
    | none => rfl
    | some dd =>
      simp only
      rw [coll_app, coll_map, coll_map, coll_map, hn]
      rfl
theorem steps_next {d r : F} {y : Cc} {ky : F} {D S : List (Option F)} (hS : S = D ++ (sv (.cons y ky r)).map (Option.map fun r' => d.app r')) : S = (D ++ (shv y ky).map (Option.map fun p : Cc × F => d.app (.cons p.1 p.2 r))) ++ (sv r).map (Option.map fun r' => (d.app (.cons y ky .nil)).app r') := by
  rw [hS, sv_cons, List.map_append, List.append_assoc]
  congr 1
  simp [Function.comp_def, F.app_assoc, F.app]
theorem steps_some {X : Cc} {d r : F} {y : Cc} {ky : F} {OW : List (Option (Cc × F))} {D : List (Option F)} {Lo M : List (Cc × F)} (hL : coll (OW ++ D.map (Option.map fun k' => (X, k'))) = some Lo) (hM : coll (shv y ky) = some M) :
    coll (OW ++ (D ++ (shv y ky).map (Option.map fun p : Cc × F => d.app (.cons p.1 p.2 r))).map (Option.map fun k' => (X, k'))) = some (Lo ++ M.map fun p => (X, d.app (.cons p.1 p.2 r))) := by
  rw [List.map_append, ← List.append_assoc, coll_app, hL]
  simp only
  rw [coll_map, coll_map, hM]
  simp [Function.comp_def]

set_option maxRecDepth 20000 in
set_option maxHeartbeats 8000000 in
theorem l4Steps_any : ∀ k, SGoal k := by
  apply F.rec_kids
  intro k ih x s P w hok hl hT0
  have IH := hide ih
  have HOk := hide hok
  obtain ⟨P', hP'⟩ : ∃ P' : Nat → Prop, P' = fun g => P g ∧ g < w.heap.size := ⟨_, rfl⟩
  have HT : Hid (KidT w P' k s) := hide (by rw [hP']; exact kid_old hT0)
  have HPP : Hid (∀ g, P' g → P g ∧ g < w.heap.size) := hide (fun g h => by rw [hP'] at h; exact h)
  clear hP'
  have hkl3 : k.len ≤ 3 := by rw [hok.2.1]; exact ar_le _
  have hlen : (shv x k).length ≤ 600 := Nat.le_trans (sh_len hok) hl
  have HIs := hide (fun (w' : World) (hb : Below w.heap.size w w') => l4Is_any x k s _ w' hok.2.1 hok.2.2 (HT.out.below hb))
  have HC := hide (fun (w' : World) (hb : Below w.heap.size w w') => l4Contract_any x k s _ w' hok hl (HT.out.below hb))
  obtain ⟨i0, hi0, hz0, hz1, hz2⟩ := infoPartsT infoT
  have Hi := hide hi0
  clear hi0
  obtain ⟨sad, sc, rfl⟩ := hT0.form
  obtain ⟨KL, hKL⟩ : ∃ KL, KL = k.len := ⟨_, rfl⟩
  obtain ⟨R, hR⟩ : ∃ R, R = coll (shv x k) := ⟨_, rfl⟩
  rw [← hR]
  rw [← hKL] at HT HC HIs hkl3 ⊢
  have HKL := hide hKL
  obtain ⟨xk, xn⟩ := x
  rw [shv_eq] at hR hlen
  have HR := hide hR
  simp only at HC HIs ⊢
  clear ih hok hT0 hR hKL
  cases hrd : redx ⟨xk, xn⟩ k with
  | false =>
    rw [hrd] at HIs
    have hOW : ownR ⟨xk, xn⟩ k = [] := by unfold ownR; rw [if_neg (by rw [hrd]; simp)]
    obtain ⟨OW, hOWe⟩ : ∃ OW, OW = ownR ⟨xk, xn⟩ k := ⟨_, rfl⟩
    have HRe : Hid (R = coll (OW ++ (sv k).map (Option.map fun k' => ((⟨xk, xn⟩ : Cc), k')))) := hide (by rw [hOWe]; exact HR.out)
    have HLo : Hid (coll OW = some []) := hide (by rw [hOWe, hOW]; rfl)
    rw [← hOWe] at hlen
    clear HC hrd HR hOW hOWe
    go_enter Try.func45, Try.ntmps45
    go_wp2_with fail
    obtain ⟨w0, hw0⟩ : ∃ w0, w0 = w.alloc (.cells #[.int .i64 xk, .int .i64 xn, .slice sad KL sc] 55) := ⟨_, rfl⟩
    rw [← hw0]
    have hB0 : Below w.heap.size w w0 := by rw [hw0]; exact (Below.refl _ _).alloc (Nat.le_refl _) _
    have hbT : w0.heap[w.heap.size]? = some (.cells #[.int .i64 xk, .int .i64 xn, .slice sad KL sc] 55) := by rw [hw0]; exact heap_alloc_new _ _
    have hsz0 : w0.heap.size = w.heap.size + 1 := by rw [hw0]; simp
    clear hw0
    refine Calls.mono (HIs.out _ hB0) ?_
    rintro e w1 ⟨rfl, hb1⟩
    have hsz1 := hb1.size
    have hBw1 : Below w.heap.size w w1 := hB0.trans (hb1.mono hB0.size)
    have hT1 := (hb1.block w.heap.size (by omega)).trans hbT
    have t0 : w1.cell? ⟨w.heap.size, 0, none⟩ = some (.int .i64 xk) := (cell_of_blk hT1 0).trans rfl
    have t1 : w1.cell? ⟨w.heap.size, 1, none⟩ = some (.int .i64 xn) := (cell_of_blk hT1 1).trans rfl
    have t2 : w1.cell? ⟨w.heap.size, 2, none⟩ = some (.slice sad KL sc) := (cell_of_blk hT1 2).trans rfl
    have HT1 := hide hT1
    clear HIs hbT hT1
    go_wp2_with fail
    obtain ⟨Lo0, hLo0⟩ : ∃ Lo0 : List (Cc × F), Lo0 = [] := ⟨_, rfl⟩
    obtain ⟨cs0, hcs0⟩ : ∃ cs0 : List Value, cs0 = [] := ⟨_, rfl⟩
    have HOT : Hid (OT w1 (w.heap.size + 1) P' (.slice none 0 0) Lo0 cs0) := hide (by rw [hLo0, hcs0]; exact OT.start _ _ _)
    rw [← hLo0] at HLo
    have hszs : w.heap.size + 1 ≤ w1.heap.size := by omega
    have HTs := HT1
    have hBs := hBw1
    clear hLo0 hcs0 t0 t1 t2
    go_loopw [4, 29] (fun v i w' => ∃ (d r : F) (D : List (Option F)) (Lo : List (Cc × F)) (cs : List Value), k = d.app r ∧ i = .int .i64 (d.len : Int) ∧ sv k = D ++ (sv r).map (Option.map fun r' => d.app r') ∧ coll (OW ++ D.map (Option.map fun k' => ((⟨xk, xn⟩ : Cc), k'))) = some Lo ∧ OT w' (w.heap.size + 1) P' v Lo cs ∧ w.heap.size + 1 ≤ w'.heap.size ∧ w'.heap[w.heap.size]? = some (.cells #[.int .i64 xk, .int .i64 xn, .slice sad KL sc] 55 (0, 0)) ∧ Below w.heap.size w w') (fun _ i _ => KL - (intOf i).toNat)
    case atStart => exact ⟨.nil, k, [], Lo0, cs0, rfl, rfl, by simp [F.app], by rw [List.map_nil, List.append_nil]; exact HLo.out, HOT.out, hszs, HTs.out, hBs⟩
    case round =>
      obtain ⟨d, r, D, Lo, cs, hk, rfl, hsv, hLo, hot, hszr, hbTr, hBw⟩ := hrel
      have HSv := hide hsv
      have HLr := hide hLo
      have HOr := hide hot
      have HTr := hide hbTr
      obtain ⟨oa, oc, rfl⟩ := iOwn_form hot.own
      clear hsv hLo hot hbTr HOT HLo HTs
      cases r with
      | nil =>
        have hRn : R = some Lo := by rw [HRe.out, HSv.out]; simp only [sv, sk, List.map_nil, List.append_nil]; exact HLr.out
        subst hRn
        rw [F.app_nil] at hk
        subst hk
        have hKL := HKL.out
        rw [← hKL]
        obtain ⟨LN, hLN⟩ : ∃ LN, LN = Lo.length := ⟨_, rfl⟩
        rw [← hLN] at HOr ⊢
        clear hKL HRe hLN
        go_wp2_with fail
        exact bodyPost_ret (v := .tuple #[.slice oa LN oc, .bool true]) (by simp [results, Try.results45, go_sem]) rfl ⟨⟨_, rfl, HOr.out.kidT (fun g h => h.elim (fun h => .inl (HPP.out g h.1).1) (fun h => .inr (by omega)))⟩, hBw⟩
      | cons y ky r =>
        have hO := HOk.out.2.2
        rw [hk] at hO
        obtain ⟨gy, ly, oy, orr⟩ := ((F.app_ok _ _).1 hO).2
        have hfk : k.flat.length = d.flat.length + (1 + ky.flat.length + r.flat.length) := by rw [hk, F.app_flat]; simp [F.flat]; omega
        have hI := IH.out
        rw [hk] at hI
        have hkl2 : KL = d.len + (r.len + 1) := by rw [HKL.out, hk, F.app_len]; rfl
        have hlt' : (d.len : Int) < (KL : Int) := by omega
        have hd0 : (0 : Int) ≤ (d.len : Int) := by omega
        obtain ⟨g, cap, sy, he, hPg, hg, hTy, p0, p1, p2⟩ := KidT.kid (a := d) (k := ky) (r := r) (x := y) (s := .slice sad KL sc) (by rw [← hk]; exact HT.out)
        simp only [Value.slice.injEq] at he
        obtain ⟨rfl, -, rfl⟩ := he
        have q0 := (hBw.cell (p := ⟨g, d.len * 3, none⟩) hg).trans p0
        have q1 := (hBw.cell (p := ⟨g, d.len * 3 + 1, none⟩) hg).trans p1
        have q2 := (hBw.cell (p := ⟨g, d.len * 3 + 2, none⟩) hg).trans p2
        have HCl := hide (fun (w' : World) (hw' : Below w.heap.size w w') => F.all_at hI y sy _ w' ⟨gy, ly, oy⟩ (by omega) (hTy.below hw'))
        have HWi := hide (fun (z : Cc) (kz : F) (sz : Value) (Q : Nat → Prop) (w' : World) (hw' : Below w.heap.size w w') (hZ : KidT w' Q kz sz) => l4With_any ⟨xk, xn⟩ y z d ky r kz (.slice (some ⟨g, 0, none⟩) KL sc) sz _ Q w' (by rw [← hk]; have := HKL.out; omega) (by rw [← hk]; exact HT.out.below hw') hZ)
        obtain ⟨yad, yc, rfl⟩ := hTy.form
        have HSn := hide (hk.trans (F.app_snoc d ky r y))
        have HDl : Hid ((d.app (.cons y ky .nil)).len = d.len + 1) := hide (by rw [F.app_len]; rfl)
        have HNone : Hid (coll (shv y ky) = none → R = none) := hide (fun hv => by rw [HRe.out]; exact steps_none HSv.out hv)
        have HNext := hide (steps_next HSv.out)
        have HSome : Hid (∀ M, coll (shv y ky) = some M → _) := hide (fun M hv => steps_some (X := ⟨xk, xn⟩) (d := d) (r := r) HLr.out hv)
        have hlen2 : ∀ M, coll (shv y ky) = some M → Lo.length + M.length ≤ 600 := fun M hv => by
          have h1 := coll_len HLr.out
          have h2 := coll_len hv
          have h3 := hlen
          rw [HNext.out] at h3
          simp only [List.length_append, List.length_map] at h1 h3
          omega
        obtain ⟨DL, hDL⟩ : ∃ DL, DL = d.len := ⟨_, rfl⟩
        obtain ⟨kn, hkn⟩ : ∃ kn, kn = ky.len := ⟨_, rfl⟩
        obtain ⟨CM, hCM⟩ : ∃ CM, CM = coll (shv y ky) := ⟨_, rfl⟩
        rw [← hDL] at hlt' hd0 q0 q1 q2 HDl HWi ⊢
        rw [← hkn] at q2 HCl
        rw [← hCM] at HCl HNone HSome hlen2
        have HDL := hide hDL
        have hDL3 : DL ≤ 3 := by omega
        have hBa : ∀ o : Obj, Below w.heap.size w (wr.alloc o) := fun o => hBw.alloc hBw.size o
        clear p0 p1 p2 hTy hI hO gy ly oy orr hfk hk hkl2 hDL hkn hCM HRe hlen
        go_wp2_with fail
        refine Calls.mono (HCl.out _ (hBa _)) ?_
        rintro e w2 ⟨hso, hb2⟩
        have hsa : wr.heap.size + 1 ≤ w2.heap.size := by have := hb2.size; simpa using this
        have hb2' : Below wr.heap.size wr w2 := ((Below.refl _ wr).alloc (Nat.le_refl _) _).trans (hb2.mono (by simp))
        have hB2 : Below w.heap.size w w2 := hBw.trans (hb2'.mono hBw.size)
        have hT2 := (hb2'.block w.heap.size (by omega)).trans HTr.out
        have HO2 := hide (HOr.out.below hb2')
        clear q0 q1 q2 HCl
        cases CM with
        | none =>
          obtain rfl : e = .returned (.tuple #[.slice none 0 0, .bool false]) := hso
          have hRn := HNone.out rfl
          subst hRn
          go_wp2_with fail
          exact bodyPost_ret (v := .tuple #[.slice none 0 0, .bool false]) (by simp [results, Try.results45, go_sem]) rfl ⟨rfl, hB2⟩
        | some M =>
          obtain ⟨s2, rfl, hM2⟩ : ∃ s', e = .returned (.tuple #[s', .bool true]) ∧ KidT w2 _ (toF M) s' := hso
          have HSo := hide (HSome.out M rfl)
          have hlM := hlen2 M rfl
          obtain ⟨mad, mc, hmf⟩ := hM2.form
          rw [toF_len] at hmf
          subst hmf
          have HM2 : Hid (KidT w2 (fun g => (P' g ∧ g < w.heap.size) ∨ (wr.heap.size ≤ g ∧ g < w2.heap.size)) (toF M) (.slice mad M.length mc)) := hide (hM2.weak (fun g h1 h2 => h1.elim (fun h => .inl ⟨h, (HPP.out g h).2⟩) (fun h => .inr ⟨by have h' : (wr.alloc (.cells #[.int .i64 y.k, .int .i64 y.n, .slice yad kn yc] 55)).heap.size ≤ g := h; simp at h'; omega, h2⟩)))
          have HTt := hide hT2
          have hownlt : ∀ q, (Value.slice oa Lo.length oc).ownBlock = some q → q < wr.heap.size := fun q hq => (HOr.out.own.lt q hq).2
          have HOwn := hide hownlt
          clear hM2 hT2 HNone HSome hlen2 hownlt hb2
          obtain ⟨ML, hML⟩ : ∃ ML, ML = M.length := ⟨_, rfl⟩
          obtain ⟨LN, hLN⟩ : ∃ LN, LN = Lo.length := ⟨_, rfl⟩
          rw [← hML] at HM2 hlM ⊢
          rw [← hLN] at HO2 hlM HOwn HOr ⊢
          have HML := hide hML
          have HLN := hide hLN
          clear hML hLN
          obtain ⟨WS, hWS⟩ : ∃ WS, WS = wr.heap.size := ⟨_, rfl⟩
          rw [← hWS] at HM2 HOwn hsa hszr
          clear hWS
          go_wp2_with fail
          go_loopw [4, 43] (fun v i w' => ∃ (A B : List (Cc × F)) (cs : List Value), M = A ++ B ∧ i = .int .i64 (A.length : Int) ∧ OT w' (w.heap.size + 1) P' v (Lo ++ A.map fun p => ((⟨xk, xn⟩ : Cc), d.app (.cons p.1 p.2 r))) cs ∧ Below (w.heap.size + 1) w2 w' ∧ (∀ g, g < w.heap.size + 1 ∨ WS ≤ g → g < w2.heap.size → w'.heap[g]? = w2.heap[g]?) ∧ (∀ g, v.ownBlock = some g → g < WS ∨ w2.heap.size ≤ g)) (fun _ i _ => ML - (intOf i).toNat)
          case atStart => exact ⟨[], M, cs, rfl, rfl, by rw [List.map_nil, List.append_nil]; exact HO2.out, Below.refl _ _, fun _ _ _ => rfl, fun g hg => .inl (HOwn.out g hg)⟩
          case round =>
            obtain ⟨A, B, cs2, hM, rfl, hot, hBe, hkp, hap⟩ := hrel
            have HOt := hide hot
            have HKp := hide hkp
            have HAp := hide hap
            obtain ⟨oa2, oc2, rfl⟩ := iOwn_form hot.own
            have hsr := hBe.size
            have hBr2 : Below w.heap.size w wr := hB2.trans (hBe.mono (by omega))
            have hTq := (HKp.out w.heap.size (.inl (by omega)) (by omega)).trans HTt.out
            clear hot hkp hap HO2
            cases B with
            | nil =>
              rw [List.append_nil] at hM
              subst hM
              have hML := HML.out
              rw [← hML]
              obtain ⟨ON, hON⟩ : ∃ ON, ON = (Lo ++ M.map fun p => ((⟨xk, xn⟩ : Cc), d.app (.cons p.1 p.2 r))).length := ⟨_, rfl⟩
              rw [← hON] at HOt ⊢
              clear hML hON
              have HTq := hide hTq
              clear hTq
              go_wp2_with fail
              exact ⟨⟨d.app (.cons y ky .nil), r, _, _, cs2, HSn.out, by rw [HDl.out]; go_num, HNext.out, HSo.out, HOt.out, by omega, HTq.out, hBr2⟩, by simp [intOf]; omega⟩
            | cons p B =>
              have hMl : ML = A.length + (B.length + 1) := by rw [HML.out, hM]; simp
              have hlt2 : (A.length : Int) < (ML : Int) := by omega
              have hA0 : (0 : Int) ≤ (A.length : Int) := by omega
              have hMr : KidT wr (fun g => (P' g ∧ g < w.heap.size) ∨ (WS ≤ g ∧ g < w2.heap.size)) ((toF A).app (.cons p.1 p.2 (toF B))) (.slice mad ML mc) := by
                have h := HM2.out.keep (w' := wr) (P' := fun g => (P' g ∧ g < w.heap.size) ∨ (WS ≤ g ∧ g < w2.heap.size)) hsr (fun g h1 h2 => ⟨HKp.out g (h1.imp (fun h => by omega) (fun h => h.1)) h2, h1⟩)
                rw [hM, toF_app] at h
                exact h
              obtain ⟨gm, cpm, sz, hem, hPm, hgm, hTz, p0, p1, p2⟩ := KidT.kid hMr
              simp only [Value.slice.injEq] at hem
              obtain ⟨rfl, -, rfl⟩ := hem
              rw [toF_len] at p0 p1 p2
              obtain ⟨zad, zc, rfl⟩ := hTz.form
              have T0 : ∀ o : Obj, (wr.alloc o).cell? ⟨w.heap.size, 0, none⟩ = some (.int .i64 xk) := fun o => (cell_of_blk ((heap_alloc_old _ _ (by omega)).trans hTq) 0).trans rfl
              have T1 : ∀ o : Obj, (wr.alloc o).cell? ⟨w.heap.size, 1, none⟩ = some (.int .i64 xn) := fun o => (cell_of_blk ((heap_alloc_old _ _ (by omega)).trans hTq) 1).trans rfl
              have T2 : ∀ o : Obj, (wr.alloc o).cell? ⟨w.heap.size, 2, none⟩ = some (.slice (some ⟨g, 0, none⟩) KL sc) := fun o => (cell_of_blk ((heap_alloc_old _ _ (by omega)).trans hTq) 2).trans rfl
              have HWW := hide (fun o : Obj => HWi.out p.1 p.2 (.slice zad p.2.len zc) _ (wr.alloc o) (hBr2.alloc hBr2.size o) (hTz.below ((Below.refl _ _).alloc (Nat.le_refl _) o)))
              have HMs : Hid (M = (A ++ [p]) ++ B) := hide (by rw [hM]; simp)
              obtain ⟨AN, hAN⟩ : ∃ AN, AN = A.length := ⟨_, rfl⟩
              obtain ⟨PN, hPN⟩ : ∃ PN, PN = p.2.len := ⟨_, rfl⟩
              obtain ⟨ON, hON⟩ : ∃ ON, ON = (Lo ++ A.map fun p => ((⟨xk, xn⟩ : Cc), d.app (.cons p.1 p.2 r))).length := ⟨_, rfl⟩
              have hON6 : ON ≤ 600 := by rw [hON, List.length_append, List.length_map, ← HLN.out]; omega
              rw [← hAN] at hlt2 hA0 hMl p0 p1 p2 ⊢
              rw [← hPN] at HWW p2
              have HON := hide hON
              rw [← hON] at HOt HAp ⊢
              have HAN := hide hAN
              have hAN6 : AN ≤ 600 := by omega
              clear hM hMr hTz hAN hPN hON hTq HWi HM2
              go_wp2_with fail
              refine Calls.mono (HWW.out _) ?_
              rintro e w4 ⟨s4, rfl, hK4, hb4⟩
              have hs4 : wr.heap.size + 1 ≤ w4.heap.size := by have := hb4.size; simpa using this
              have hb4' : Below wr.heap.size wr w4 := ((Below.refl _ wr).alloc (Nat.le_refl _) _).trans (hb4.mono (by simp))
              have HOt4 := hide (HOt.out.below hb4')
              have HK4 := hide hK4
              obtain ⟨qad, qc, rfl⟩ := hK4.form
              obtain ⟨QN, hQN⟩ : ∃ QN, QN = (d.app (.cons p.1 p.2 r)).len := ⟨_, rfl⟩
              rw [← hQN] at HK4 ⊢
              clear hK4 hQN HWW T0 T1 T2 p0 p1 p2
              go_wp2_with (at_builtin; refine wpList_append_sep rfl _ _ 53 rfl (w.heap.size + 1) 55 i0 (.agg #[.int .i64 0, .int .i64 0, .slice none 0 0]) 3 40 Try.underlying53 Hi.out hz0 hz1 hz2 rfl (by decide) _ _ _ rfl ((show w4.ownsRow (w.heap.size + 1) 55 3 (.slice oa2 ON oc2) ON cs2 from by rw [HON.out] at HOt4 ⊢; exact HOt4.out.own).alloc _) ⟨w4.heap.size, 0, none⟩ 1 1 (tC ⟨xk, xn⟩ (.slice qad QN qc)) rfl rfl ?c1 ?c2 ?c3 ?c4 ?c5 ?_)
              case c1 => exact tC_cells (heap_alloc_new _ _)
              case c2 => exact tC_one _ _ rfl
              case c3 => unfold maxLen; omega
              case c4 => omega
              case c5 => simp; omega
              intro v' w6 hown6 hgr6 hap6
              have hom := HOt.out.more (p := ((⟨xk, xn⟩ : Cc), d.app (.cons p.1 p.2 r))) (by omega) hb4' HK4.out (fun g1 h1 h2 => ?hR) (by rw [← HON.out]; exact hown6) hgr6 hap6
              case hR =>
                have hfar : ∀ g1, WS ≤ g1 → g1 < w2.heap.size ∨ wr.heap.size ≤ g1 → (Value.slice oa2 ON oc2).ownBlock ≠ some g1 := fun g1 ha hb' e => by
                  have := (HOt.out.own.lt g1 e).2
                  rcases HAp.out g1 e with h | h <;> omega
                rcases h1 with (h1 | h1 | h1) | h1
                · exact .inl ⟨h1, by have := (HPP.out g1 h1).2; omega⟩
                · exact .inl ⟨h1.1, by omega⟩
                · exact .inr ⟨by omega, hfar g1 h1.1 (.inl h1.2)⟩
                · have h1' : wr.heap.size + 1 ≤ g1 := by simpa using h1
                  exact .inr ⟨by omega, hfar g1 (by omega) (.inr (by omega))⟩
              obtain ⟨ho6, hb6, hk6⟩ := hom
              obtain ⟨va, vc, rfl⟩ := iOwn_form hown6
              have HO6 := hide ho6
              have HK6 := hide hk6
              have HA6 := hide hap6
              clear ho6 hk6 hap6 hown6 hgr6
              go_wp2_with fail
              have hA := HAN.out
              refine ⟨⟨_, _, _, ⟨A ++ [p], ⟨B, HMs.out⟩, by rw [List.length_append, List.length_singleton, ← hA]; go_num, ⟨cs2 ++ tC (⟨xk, xn⟩ : Cc) (.slice qad QN qc), ?_⟩, hBe.trans hb6, fun g1 h1 h2 => ?_, fun g1 h1 => ?_⟩, rfl, rfl, rfl⟩, by simp [intOf]; omega⟩
              · rw [List.map_append, ← List.append_assoc]; exact HO6.out
              · rw [HK6.out g1 (by omega) (fun e => ?_), hb4'.block g1 (by omega)]
                · exact HKp.out g1 h1 h2
                · have hb0 := (HOt.out.own.lt g1 e).1
                  rcases HAp.out g1 e with h | h
                  · rcases h1 with h1 | h1 <;> omega
                  · omega
              · rcases HA6.out g1 h1 with h | h
                · exact HAp.out g1 h
                · simp at h; right; omega
  | true =>
    rw [hrd] at HIs
    have hOW : ownR ⟨xk, xn⟩ k = [ctrO ⟨xk, xn⟩ k] := by unfold ownR; rw [if_pos hrd]
    have hCe : ctrR ⟨xk, xn⟩ k = ctrO ⟨xk, xn⟩ k := by unfold ctrR; rw [if_pos hrd]
    rw [hCe] at HC
    obtain ⟨OW, hOWe⟩ : ∃ OW, OW = ownR ⟨xk, xn⟩ k := ⟨_, rfl⟩
    have HRe : Hid (R = coll (OW ++ (sv k).map (Option.map fun k' => ((⟨xk, xn⟩ : Cc), k')))) := hide (by rw [hOWe]; exact HR.out)
    rw [hOW] at hOWe
    rw [hOW] at hlen
    obtain ⟨C, hC⟩ : ∃ C, C = ctrO ⟨xk, xn⟩ k := ⟨_, rfl⟩
    rw [← hC] at HC hOWe hlen
    have HOWe := hide hOWe
    clear hrd HR hOW hOWe hC hCe
    go_enter Try.func45, Try.ntmps45
    go_wp2_with fail
    obtain ⟨w0, hw0⟩ : ∃ w0, w0 = w.alloc (.cells #[.int .i64 xk, .int .i64 xn, .slice sad KL sc] 55) := ⟨_, rfl⟩
    rw [← hw0]
    have hB0 : Below w.heap.size w w0 := by rw [hw0]; exact (Below.refl _ _).alloc (Nat.le_refl _) _
    have hbT : w0.heap[w.heap.size]? = some (.cells #[.int .i64 xk, .int .i64 xn, .slice sad KL sc] 55) := by rw [hw0]; exact heap_alloc_new _ _
    have hsz0 : w0.heap.size = w.heap.size + 1 := by rw [hw0]; simp
    clear hw0
    refine Calls.mono (HIs.out _ hB0) ?_
    rintro e w1 ⟨rfl, hb1⟩
    have hsz1 := hb1.size
    have hBw1 : Below w.heap.size w w1 := hB0.trans (hb1.mono hB0.size)
    have hT1 := (hb1.block w.heap.size (by omega)).trans hbT
    have t0 : w1.cell? ⟨w.heap.size, 0, none⟩ = some (.int .i64 xk) := (cell_of_blk hT1 0).trans rfl
    have t1 : w1.cell? ⟨w.heap.size, 1, none⟩ = some (.int .i64 xn) := (cell_of_blk hT1 1).trans rfl
    have t2 : w1.cell? ⟨w.heap.size, 2, none⟩ = some (.slice sad KL sc) := (cell_of_blk hT1 2).trans rfl
    have HT1 := hide hT1
    clear HIs hbT hT1
    go_wp2_with fail
    refine Calls.mono (HC.out _ hBw1) ?_
    rintro e w2 ⟨hto, hb2⟩
    have hBw2 : Below w.heap.size w w2 := hBw1.trans (hb2.mono hBw1.size)
    have hsz2 := hb2.size
    have HTs2 := hide ((hb2.block w.heap.size (by omega)).trans HT1.out)
    clear t0 t1 t2 HC
    cases C with
    | none =>
      obtain rfl : e = .returned (.tuple #[.agg #[.int .i64 0, .int .i64 0, .slice none 0 0], .bool false]) := hto
      have hRn : R = none := by rw [HRe.out, HOWe.out]; rfl
      subst hRn
      go_wp2_with fail
      exact bodyPost_ret (v := .tuple #[.slice none 0 0, .bool false]) (by simp [results, Try.results45, go_sem]) rfl ⟨rfl, hBw2.alloc hBw2.size _⟩
    | some p =>
      obtain ⟨s2, rfl, hK2⟩ : ∃ s', e = .returned (.tuple #[.agg #[.int .i64 p.1.k, .int .i64 p.1.n, s'], .bool true]) ∧ KidT w2 _ p.2 s' := hto
      obtain ⟨pad, pc2, hpf⟩ := hK2.form
      subst hpf
      obtain ⟨PN, hPN⟩ : ∃ PN, PN = p.2.len := ⟨_, rfl⟩
      have HK2 := hide hK2
      rw [← hPN] at HK2 ⊢
      clear hK2 hPN
      go_wp2_with (at_builtin; refine wpList_append_sep rfl _ _ 53 rfl (w.heap.size + 1) 55 i0 (.agg #[.int .i64 0, .int .i64 0, .slice none 0 0]) 3 40 Try.underlying53 Hi.out hz0 hz1 hz2 rfl (by decide) _ 0 [] rfl (World.ownsRow_nil _ _ _ _) ⟨w2.heap.size + 1, 0, none⟩ 1 1 (tC p.1 (.slice pad PN pc2)) rfl rfl ?c1 ?c2 ?c3 ?c4 ?c5 ?_)
      case c1 => exact tC_cells (by have := heap_alloc_new (w2.alloc (.cells #[.int .i64 p.1.k, .int .i64 p.1.n, .slice pad PN pc2] 55)) (.cells #[.int .i64 p.1.k, .int .i64 p.1.n, .slice pad PN pc2] 55); simpa using this)
      case c2 => exact tC_one _ _ rfl
      case c3 => unfold maxLen; omega
      case c4 => omega
      case c5 => simp; omega
      intro v' w6 hown6 hgr6 hap6
      have hba : Below w2.heap.size w2 (w2.alloc (.cells #[.int .i64 p.1.k, .int .i64 p.1.n, .slice pad PN pc2] 55)) := (Below.refl _ _).alloc (Nat.le_refl _) _
      have hom := (OT.start w2 (w.heap.size + 1) P').more (p := p) (by omega) hba (HK2.out.below hba) (fun g1 h1 h2 => ?hR) hown6 hgr6 hap6
      case hR =>
        rcases h1 with h1 | h1
        · exact .inl ⟨h1, by have := (HPP.out g1 h1).2; omega⟩
        · exact .inr ⟨by omega, by simp [Value.ownBlock]⟩
      obtain ⟨ho6, hb6, hk6⟩ := hom
      have hTs6 : w6.heap[w.heap.size]? = some (.cells #[.int .i64 xk, .int .i64 xn, .slice sad KL sc] 55 (0, 0)) := (hb6.block _ (by omega)).trans HTs2.out
      have hszs : w.heap.size + 1 ≤ w6.heap.size := by have := hb6.size; omega
      have hBs : Below w.heap.size w w6 := hBw2.trans (hb6.mono (by omega))
      have t2 : w6.cell? ⟨w.heap.size, 2, none⟩ = some (.slice sad KL sc) := (cell_of_blk hTs6 2).trans rfl
      obtain ⟨va, vc, rfl⟩ := iOwn_form hown6
      obtain ⟨Lo0, hLo0⟩ : ∃ Lo0 : List (Cc × F), Lo0 = [p] := ⟨_, rfl⟩
      obtain ⟨cs0, hcs0⟩ : ∃ cs0 : List Value, cs0 = [] ++ tC p.1 (.slice pad PN pc2) := ⟨_, rfl⟩
      have HOT : Hid (OT w6 (w.heap.size + 1) P' (.slice va (0 + 1) vc) Lo0 cs0) := hide (by rw [hLo0, hcs0]; exact ho6)
      have HLo : Hid (coll OW = some Lo0) := hide (by rw [HOWe.out, hLo0]; rfl)
      have HTs := hide hTs6
      have hlen' : (OW ++ (sv k).map (Option.map fun k' => ((⟨xk, xn⟩ : Cc), k'))).length ≤ 600 := by rw [HOWe.out]; exact hlen
      have hlen := hlen'
      clear hlen' ho6 hb6 hk6 hTs6 hown6 hgr6 hap6 hLo0 hcs0 HK2 HTs2 HOWe
      go_wp2_with fail
      go_loopw [4, 29] (fun v i w' => ∃ (d r : F) (D : List (Option F)) (Lo : List (Cc × F)) (cs : List Value), k = d.app r ∧ i = .int .i64 (d.len : Int) ∧ sv k = D ++ (sv r).map (Option.map fun r' => d.app r') ∧ coll (OW ++ D.map (Option.map fun k' => ((⟨xk, xn⟩ : Cc), k'))) = some Lo ∧ OT w' (w.heap.size + 1) P' v Lo cs ∧ w.heap.size + 1 ≤ w'.heap.size ∧ w'.heap[w.heap.size]? = some (.cells #[.int .i64 xk, .int .i64 xn, .slice sad KL sc] 55 (0, 0)) ∧ Below w.heap.size w w') (fun _ i _ => KL - (intOf i).toNat)
      case atStart => exact ⟨.nil, k, [], Lo0, cs0, rfl, rfl, by simp [F.app], by rw [List.map_nil, List.append_nil]; exact HLo.out, HOT.out, hszs, HTs.out, hBs⟩
      case round =>
        obtain ⟨d, r, D, Lo, cs, hk, rfl, hsv, hLo, hot, hszr, hbTr, hBw⟩ := hrel
        have HSv := hide hsv
        have HLr := hide hLo
        have HOr := hide hot
        have HTr := hide hbTr
        obtain ⟨oa, oc, rfl⟩ := iOwn_form hot.own
        clear hsv hLo hot hbTr HOT HLo HTs
        cases r with
        | nil =>
          have hRn : R = some Lo := by rw [HRe.out, HSv.out]; simp only [sv, sk, List.map_nil, List.append_nil]; exact HLr.out
          subst hRn
          rw [F.app_nil] at hk
          subst hk
          have hKL := HKL.out
          rw [← hKL]
          obtain ⟨LN, hLN⟩ : ∃ LN, LN = Lo.length := ⟨_, rfl⟩
          rw [← hLN] at HOr ⊢
          clear hKL HRe hLN
          go_wp2_with fail
          exact bodyPost_ret (v := .tuple #[.slice oa LN oc, .bool true]) (by simp [results, Try.results45, go_sem]) rfl ⟨⟨_, rfl, HOr.out.kidT (fun g h => h.elim (fun h => .inl (HPP.out g h.1).1) (fun h => .inr (by omega)))⟩, hBw⟩
        | cons y ky r =>
          have hO := HOk.out.2.2
          rw [hk] at hO
          obtain ⟨gy, ly, oy, orr⟩ := ((F.app_ok _ _).1 hO).2
          have hfk : k.flat.length = d.flat.length + (1 + ky.flat.length + r.flat.length) := by rw [hk, F.app_flat]; simp [F.flat]; omega
          have hI := IH.out
          rw [hk] at hI
          have hkl2 : KL = d.len + (r.len + 1) := by rw [HKL.out, hk, F.app_len]; rfl
          have hlt' : (d.len : Int) < (KL : Int) := by omega
          have hd0 : (0 : Int) ≤ (d.len : Int) := by omega
          obtain ⟨g, cap, sy, he, hPg, hg, hTy, p0, p1, p2⟩ := KidT.kid (a := d) (k := ky) (r := r) (x := y) (s := .slice sad KL sc) (by rw [← hk]; exact HT.out)
          simp only [Value.slice.injEq] at he
          obtain ⟨rfl, -, rfl⟩ := he
          have q0 := (hBw.cell (p := ⟨g, d.len * 3, none⟩) hg).trans p0
          have q1 := (hBw.cell (p := ⟨g, d.len * 3 + 1, none⟩) hg).trans p1
          have q2 := (hBw.cell (p := ⟨g, d.len * 3 + 2, none⟩) hg).trans p2
          have HCl := hide (fun (w' : World) (hw' : Below w.heap.size w w') => F.all_at hI y sy _ w' ⟨gy, ly, oy⟩ (by omega) (hTy.below hw'))
          have HWi := hide (fun (z : Cc) (kz : F) (sz : Value) (Q : Nat → Prop) (w' : World) (hw' : Below w.heap.size w w') (hZ : KidT w' Q kz sz) => l4With_any ⟨xk, xn⟩ y z d ky r kz (.slice (some ⟨g, 0, none⟩) KL sc) sz _ Q w' (by rw [← hk]; have := HKL.out; omega) (by rw [← hk]; exact HT.out.below hw') hZ)
          obtain ⟨yad, yc, rfl⟩ := hTy.form
          have HSn := hide (hk.trans (F.app_snoc d ky r y))
          have HDl : Hid ((d.app (.cons y ky .nil)).len = d.len + 1) := hide (by rw [F.app_len]; rfl)
          have HNone : Hid (coll (shv y ky) = none → R = none) := hide (fun hv => by rw [HRe.out]; exact steps_none HSv.out hv)
          have HNext := hide (steps_next HSv.out)
          have HSome : Hid (∀ M, coll (shv y ky) = some M → _) := hide (fun M hv => steps_some (X := ⟨xk, xn⟩) (d := d) (r := r) HLr.out hv)
          have hlen2 : ∀ M, coll (shv y ky) = some M → Lo.length + M.length ≤ 600 := fun M hv => by
            have h1 := coll_len HLr.out
            have h2 := coll_len hv
            have h3 := hlen
            rw [HNext.out] at h3
            simp only [List.length_append, List.length_map] at h1 h3
            omega
          obtain ⟨DL, hDL⟩ : ∃ DL, DL = d.len := ⟨_, rfl⟩
          obtain ⟨kn, hkn⟩ : ∃ kn, kn = ky.len := ⟨_, rfl⟩
          obtain ⟨CM, hCM⟩ : ∃ CM, CM = coll (shv y ky) := ⟨_, rfl⟩
          rw [← hDL] at hlt' hd0 q0 q1 q2 HDl HWi ⊢
          rw [← hkn] at q2 HCl
          rw [← hCM] at HCl HNone HSome hlen2
          have HDL := hide hDL
          have hDL3 : DL ≤ 3 := by omega
          have hBa : ∀ o : Obj, Below w.heap.size w (wr.alloc o) := fun o => hBw.alloc hBw.size o
          clear p0 p1 p2 hTy hI hO gy ly oy orr hfk hk hkl2 hDL hkn hCM HRe hlen
          go_wp2_with fail
          refine Calls.mono (HCl.out _ (hBa _)) ?_
          rintro e w2 ⟨hso, hb2⟩
          have hsa : wr.heap.size + 1 ≤ w2.heap.size := by have := hb2.size; simpa using this
          have hb2' : Below wr.heap.size wr w2 := ((Below.refl _ wr).alloc (Nat.le_refl _) _).trans (hb2.mono (by simp))
          have hB2 : Below w.heap.size w w2 := hBw.trans (hb2'.mono hBw.size)
          have hT2 := (hb2'.block w.heap.size (by omega)).trans HTr.out
          have HO2 := hide (HOr.out.below hb2')
          clear q0 q1 q2 HCl
          cases CM with
          | none =>
            obtain rfl : e = .returned (.tuple #[.slice none 0 0, .bool false]) := hso
            have hRn := HNone.out rfl
            subst hRn
            go_wp2_with fail
            exact bodyPost_ret (v := .tuple #[.slice none 0 0, .bool false]) (by simp [results, Try.results45, go_sem]) rfl ⟨rfl, hB2⟩
          | some M =>
            obtain ⟨s2, rfl, hM2⟩ : ∃ s', e = .returned (.tuple #[s', .bool true]) ∧ KidT w2 _ (toF M) s' := hso
            have HSo := hide (HSome.out M rfl)
            have hlM := hlen2 M rfl
            obtain ⟨mad, mc, hmf⟩ := hM2.form
            rw [toF_len] at hmf
            subst hmf
            have HM2 : Hid (KidT w2 (fun g => (P' g ∧ g < w.heap.size) ∨ (wr.heap.size ≤ g ∧ g < w2.heap.size)) (toF M) (.slice mad M.length mc)) := hide (hM2.weak (fun g h1 h2 => h1.elim (fun h => .inl ⟨h, (HPP.out g h).2⟩) (fun h => .inr ⟨by have h' : (wr.alloc (.cells #[.int .i64 y.k, .int .i64 y.n, .slice yad kn yc] 55)).heap.size ≤ g := h; simp at h'; omega, h2⟩)))
            have HTt := hide hT2
            have hownlt : ∀ q, (Value.slice oa Lo.length oc).ownBlock = some q → q < wr.heap.size := fun q hq => (HOr.out.own.lt q hq).2
            have HOwn := hide hownlt
            clear hM2 hT2 HNone HSome hlen2 hownlt hb2
            obtain ⟨ML, hML⟩ : ∃ ML, ML = M.length := ⟨_, rfl⟩
            obtain ⟨LN, hLN⟩ : ∃ LN, LN = Lo.length := ⟨_, rfl⟩
            rw [← hML] at HM2 hlM ⊢
            rw [← hLN] at HO2 hlM HOwn HOr ⊢
            have HML := hide hML
            have HLN := hide hLN
            clear hML hLN
            obtain ⟨WS, hWS⟩ : ∃ WS, WS = wr.heap.size := ⟨_, rfl⟩
            rw [← hWS] at HM2 HOwn hsa hszr
            clear hWS
            go_wp2_with fail
            go_loopw [4, 43] (fun v i w' => ∃ (A B : List (Cc × F)) (cs : List Value), M = A ++ B ∧ i = .int .i64 (A.length : Int) ∧ OT w' (w.heap.size + 1) P' v (Lo ++ A.map fun p => ((⟨xk, xn⟩ : Cc), d.app (.cons p.1 p.2 r))) cs ∧ Below (w.heap.size + 1) w2 w' ∧ (∀ g, g < w.heap.size + 1 ∨ WS ≤ g → g < w2.heap.size → w'.heap[g]? = w2.heap[g]?) ∧ (∀ g, v.ownBlock = some g → g < WS ∨ w2.heap.size ≤ g)) (fun _ i _ => ML - (intOf i).toNat)
            case atStart => exact ⟨[], M, cs, rfl, rfl, by rw [List.map_nil, List.append_nil]; exact HO2.out, Below.refl _ _, fun _ _ _ => rfl, fun g hg => .inl (HOwn.out g hg)⟩
            case round =>
              obtain ⟨A, B, cs2, hM, rfl, hot, hBe, hkp, hap⟩ := hrel
              have HOt := hide hot
              have HKp := hide hkp
              have HAp := hide hap
              obtain ⟨oa2, oc2, rfl⟩ := iOwn_form hot.own
              have hsr := hBe.size
              have hBr2 : Below w.heap.size w wr := hB2.trans (hBe.mono (by omega))
              have hTq := (HKp.out w.heap.size (.inl (by omega)) (by omega)).trans HTt.out
              clear hot hkp hap HO2
              cases B with
              | nil =>
                rw [List.append_nil] at hM
                subst hM
                have hML := HML.out
                rw [← hML]
                obtain ⟨ON, hON⟩ : ∃ ON, ON = (Lo ++ M.map fun p => ((⟨xk, xn⟩ : Cc), d.app (.cons p.1 p.2 r))).length := ⟨_, rfl⟩
                rw [← hON] at HOt ⊢
                clear hML hON
                have HTq := hide hTq
                clear hTq
                go_wp2_with fail
                exact ⟨⟨d.app (.cons y ky .nil), r, _, _, cs2, HSn.out, by rw [HDl.out]; go_num, HNext.out, HSo.out, HOt.out, by omega, HTq.out, hBr2⟩, by simp [intOf]; omega⟩
              | cons p B =>
                have hMl : ML = A.length + (B.length + 1) := by rw [HML.out, hM]; simp
                have hlt2 : (A.length : Int) < (ML : Int) := by omega
                have hA0 : (0 : Int) ≤ (A.length : Int) := by omega
                have hMr : KidT wr (fun g => (P' g ∧ g < w.heap.size) ∨ (WS ≤ g ∧ g < w2.heap.size)) ((toF A).app (.cons p.1 p.2 (toF B))) (.slice mad ML mc) := by
                  have h := HM2.out.keep (w' := wr) (P' := fun g => (P' g ∧ g < w.heap.size) ∨ (WS ≤ g ∧ g < w2.heap.size)) hsr (fun g h1 h2 => ⟨HKp.out g (h1.imp (fun h => by omega) (fun h => h.1)) h2, h1⟩)
                  rw [hM, toF_app] at h
                  exact h
                obtain ⟨gm, cpm, sz, hem, hPm, hgm, hTz, p0, p1, p2⟩ := KidT.kid hMr
                simp only [Value.slice.injEq] at hem
                obtain ⟨rfl, -, rfl⟩ := hem
                rw [toF_len] at p0 p1 p2
                obtain ⟨zad, zc, rfl⟩ := hTz.form
                have T0 : ∀ o : Obj, (wr.alloc o).cell? ⟨w.heap.size, 0, none⟩ = some (.int .i64 xk) := fun o => (cell_of_blk ((heap_alloc_old _ _ (by omega)).trans hTq) 0).trans rfl
                have T1 : ∀ o : Obj, (wr.alloc o).cell? ⟨w.heap.size, 1, none⟩ = some (.int .i64 xn) := fun o => (cell_of_blk ((heap_alloc_old _ _ (by omega)).trans hTq) 1).trans rfl
                have T2 : ∀ o : Obj, (wr.alloc o).cell? ⟨w.heap.size, 2, none⟩ = some (.slice (some ⟨g, 0, none⟩) KL sc) := fun o => (cell_of_blk ((heap_alloc_old _ _ (by omega)).trans hTq) 2).trans rfl
                have HWW := hide (fun o : Obj => HWi.out p.1 p.2 (.slice zad p.2.len zc) _ (wr.alloc o) (hBr2.alloc hBr2.size o) (hTz.below ((Below.refl _ _).alloc (Nat.le_refl _) o)))
                have HMs : Hid (M = (A ++ [p]) ++ B) := hide (by rw [hM]; simp)
                obtain ⟨AN, hAN⟩ : ∃ AN, AN = A.length := ⟨_, rfl⟩
                obtain ⟨PN, hPN⟩ : ∃ PN, PN = p.2.len := ⟨_, rfl⟩
                obtain ⟨ON, hON⟩ : ∃ ON, ON = (Lo ++ A.map fun p => ((⟨xk, xn⟩ : Cc), d.app (.cons p.1 p.2 r))).length := ⟨_, rfl⟩
                have hON6 : ON ≤ 600 := by rw [hON, List.length_append, List.length_map, ← HLN.out]; omega
                rw [← hAN] at hlt2 hA0 hMl p0 p1 p2 ⊢
                rw [← hPN] at HWW p2
                have HON := hide hON
                rw [← hON] at HOt HAp ⊢
                have HAN := hide hAN
                have hAN6 : AN ≤ 600 := by omega
                clear hM hMr hTz hAN hPN hON hTq HWi HM2
                go_wp2_with fail
                refine Calls.mono (HWW.out _) ?_
                rintro e w4 ⟨s4, rfl, hK4, hb4⟩
                have hs4 : wr.heap.size + 1 ≤ w4.heap.size := by have := hb4.size; simpa using this
                have hb4' : Below wr.heap.size wr w4 := ((Below.refl _ wr).alloc (Nat.le_refl _) _).trans (hb4.mono (by simp))
                have HOt4 := hide (HOt.out.below hb4')
                have HK4 := hide hK4
                obtain ⟨qad, qc, rfl⟩ := hK4.form
                obtain ⟨QN, hQN⟩ : ∃ QN, QN = (d.app (.cons p.1 p.2 r)).len := ⟨_, rfl⟩
                rw [← hQN] at HK4 ⊢
                clear hK4 hQN HWW T0 T1 T2 p0 p1 p2
                go_wp2_with (at_builtin; refine wpList_append_sep rfl _ _ 53 rfl (w.heap.size + 1) 55 i0 (.agg #[.int .i64 0, .int .i64 0, .slice none 0 0]) 3 40 Try.underlying53 Hi.out hz0 hz1 hz2 rfl (by decide) _ _ _ rfl ((show w4.ownsRow (w.heap.size + 1) 55 3 (.slice oa2 ON oc2) ON cs2 from by rw [HON.out] at HOt4 ⊢; exact HOt4.out.own).alloc _) ⟨w4.heap.size, 0, none⟩ 1 1 (tC ⟨xk, xn⟩ (.slice qad QN qc)) rfl rfl ?c1 ?c2 ?c3 ?c4 ?c5 ?_)
                case c1 => exact tC_cells (heap_alloc_new _ _)
                case c2 => exact tC_one _ _ rfl
                case c3 => unfold maxLen; omega
                case c4 => omega
                case c5 => simp; omega
                intro v' w6 hown6 hgr6 hap6
                have hom := HOt.out.more (p := ((⟨xk, xn⟩ : Cc), d.app (.cons p.1 p.2 r))) (by omega) hb4' HK4.out (fun g1 h1 h2 => ?hR) (by rw [← HON.out]; exact hown6) hgr6 hap6
                case hR =>
                  have hfar : ∀ g1, WS ≤ g1 → g1 < w2.heap.size ∨ wr.heap.size ≤ g1 → (Value.slice oa2 ON oc2).ownBlock ≠ some g1 := fun g1 ha hb' e => by
                    have := (HOt.out.own.lt g1 e).2
                    rcases HAp.out g1 e with h | h <;> omega
                  rcases h1 with (h1 | h1 | h1) | h1
                  · exact .inl ⟨h1, by have := (HPP.out g1 h1).2; omega⟩
                  · exact .inl ⟨h1.1, by omega⟩
                  · exact .inr ⟨by omega, hfar g1 h1.1 (.inl h1.2)⟩
                  · have h1' : wr.heap.size + 1 ≤ g1 := by simpa using h1
                    exact .inr ⟨by omega, hfar g1 (by omega) (.inr (by omega))⟩
                obtain ⟨ho6, hb6, hk6⟩ := hom
                obtain ⟨va, vc, rfl⟩ := iOwn_form hown6
                have HO6 := hide ho6
                have HK6 := hide hk6
                have HA6 := hide hap6
                clear ho6 hk6 hap6 hown6 hgr6
                go_wp2_with fail
                have hA := HAN.out
                refine ⟨⟨_, _, _, ⟨A ++ [p], ⟨B, HMs.out⟩, by rw [List.length_append, List.length_singleton, ← hA]; go_num, ⟨cs2 ++ tC (⟨xk, xn⟩ : Cc) (.slice qad QN qc), ?_⟩, hBe.trans hb6, fun g1 h1 h2 => ?_, fun g1 h1 => ?_⟩, rfl, rfl, rfl⟩, by simp [intOf]; omega⟩
                · rw [List.map_append, ← List.append_assoc]; exact HO6.out
                · rw [HK6.out g1 (by omega) (fun e => ?_), hb4'.block g1 (by omega)]
                  · exact HKp.out g1 h1 h2
                  · have hb0 := (HOt.out.own.lt g1 e).1
                    rcases HAp.out g1 e with h | h
                    · rcases h1 with h1 | h1 <;> omega
                    · omega
                · rcases HA6.out g1 h1 with h | h
                  · exact HAp.out g1 h
                  · simp at h; right; omega
end Go.Proofs.Ytjmgnljjeogdlaa.W
