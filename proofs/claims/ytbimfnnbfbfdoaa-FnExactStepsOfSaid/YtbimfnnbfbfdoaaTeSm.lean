/-
  All terms that one contraction leads to: the model. No program here.
-/
import Derived.Test.YtbimfnnbfbfdoaaTeNm
namespace Go.Proofs.Ytbimfnnbfbfdoaa.W
set_option linter.unusedVariables false

/-- The contractions of one redex each in terms one behind the other, from the front: the place, and what it leads to. -/
def sk : F → List (Nat × Option F)
  | .nil => []
  | .cons y ky r => (if redx y ky = true then [(0, (ctrO y ky).map fun p : Cc × F => F.cons p.1 p.2 r)] else []) ++ ((sk ky).map fun q => (q.1 + 1, q.2.map fun ky' => F.cons y ky' r)) ++ ((sk r).map fun q => (q.1 + (ky.flat.length + 1), q.2.map fun r' => F.cons y ky r'))
theorem sk_cons (y : Cc) (ky r : F) : sk (.cons y ky r) = (if redx y ky = true then [(0, (ctrO y ky).map fun p : Cc × F => F.cons p.1 p.2 r)] else []) ++ ((sk ky).map fun q => (q.1 + 1, q.2.map fun ky' => F.cons y ky' r)) ++ ((sk r).map fun q => (q.1 + (ky.flat.length + 1), q.2.map fun r' => F.cons y ky r')) := rfl
/-- .. of one term. -/
def sh (x : Cc) (k : F) : List (Nat × Option (Cc × F)) := (if redx x k = true then [(0, ctrO x k)] else []) ++ (sk k).map fun q => (q.1 + 1, q.2.map fun k' => (x, k'))

def pls (l : List Cc) : List Nat := plUp l l.length
theorem pls_nil : pls [] = [] := rfl
theorem pls_cons (x : Cc) (l : List Cc) : pls (x :: l) = (if isRl (x :: l) = true then [0] else []) ++ (pls l).map (· + 1) := by
  unfold pls plUp
  rw [List.length_cons, List.range_succ_eq_map, List.filter_cons, List.filter_map]
  by_cases h : isRl (x :: l) = true
  · rw [if_pos h, if_pos (by simpa using h)]; rfl
  · rw [if_neg h, if_neg (by simpa using h)]; rfl

theorem steps_agree : ∀ (a : F) (r : List Cc), a.ok → pls (a.flat ++ r) = (sk a).map Prod.fst ++ (pls r).map (· + a.flat.length) ∧ ∀ q ∈ sk a, Place a.flat q.1 (q.2.map F.flat)
  | .nil, r, _ => ⟨by simp [F.flat, sk], fun q hq => by simp [sk] at hq⟩
  | .cons y ky s, r, ⟨h1, h2, h3, h4⟩ => by
    have e0 : (F.cons y ky s).flat ++ r = y :: (ky.flat ++ (s.flat ++ r)) := by simp [F.flat]
    have e3 : (F.cons y ky s).flat = (y :: ky.flat) ++ s.flat := by simp [F.flat]
    obtain ⟨i1, i2⟩ := steps_agree ky (s.flat ++ r) h3
    obtain ⟨j1, j2⟩ := steps_agree s r h4
    constructor
    · rw [e0, pls_cons, (front h1 h2 h3 _).1, i1, j1, e3]
      rw [sk_cons]
      by_cases hr : redx y ky = true
      · rw [if_pos hr, if_pos hr]
        simp [Function.comp_def, Nat.add_comm, Nat.add_left_comm]
      · rw [if_neg hr, if_neg hr]
        simp [Function.comp_def, Nat.add_comm, Nat.add_left_comm]
    · intro q hq
      rw [sk_cons] at hq
      simp only [List.mem_append, List.mem_map] at hq
      rcases hq with (hq | ⟨q', hq', rfl⟩) | ⟨q', hq', rfl⟩
      · by_cases hr : redx y ky = true
        · rw [if_pos hr] at hq
          simp only [List.mem_singleton] at hq
          subst hq
          refine ⟨[], y, ky, s.flat, by rw [e3]; simp, rfl, ⟨h1, h2, h3⟩, hr, ?_⟩
          cases ctrO y ky with
          | none => rfl
          | some p => simp [F.flat]
        · rw [if_neg hr] at hq; cases hq
      · have := (i2 q' hq').app [y] s.flat
        simp only [List.length_singleton] at this
        rw [show (F.cons y ky s).flat = [y] ++ (ky.flat ++ s.flat) by simp [F.flat], show q'.1 + 1 = 1 + q'.1 by omega]
        have e4 : ((q'.2.map fun ky' => F.cons y ky' s).map F.flat) = (q'.2.map F.flat).map fun m => [y] ++ (m ++ s.flat) := by cases q'.2 <;> simp [F.flat]
        rw [e4]
        exact this
      · have := (j2 q' hq').app (y :: ky.flat) []
        simp only [List.append_nil, List.length_cons] at this
        rw [e3, show q'.1 + (ky.flat.length + 1) = ky.flat.length + 1 + q'.1 by omega]
        have e4 : ((q'.2.map fun r' => F.cons y ky r').map F.flat) = (q'.2.map F.flat).map fun m => (y :: ky.flat) ++ m := by cases q'.2 <;> simp [F.flat]
        rw [e4]
        exact this
/-- .. of one term. -/
theorem steps_one {x : Cc} {k : F} (h : okT x k) : pls (x :: k.flat) = (sh x k).map Prod.fst ∧ ∀ q ∈ sh x k, Place (x :: k.flat) q.1 (q.2.map fun p : Cc × F => p.1 :: p.2.flat) := by
  obtain ⟨i1, i2⟩ := steps_agree (.cons x k .nil) [] ⟨h.1, h.2.1, h.2.2, trivial⟩
  have e1 : (F.cons x k .nil).flat = x :: k.flat := by simp [F.flat]
  have e2 : sk (.cons x k .nil) = (sh x k).map fun q => (q.1, q.2.map fun p : Cc × F => F.cons p.1 p.2 .nil) := by
    rw [sk_cons]
    unfold sh
    by_cases hr : redx x k = true
    · rw [if_pos hr, if_pos hr]; simp [sk, Function.comp_def]
    · rw [if_neg hr, if_neg hr]; simp [sk, Function.comp_def]
  rw [e1, e2] at i1 i2
  refine ⟨by simpa [pls_nil, Function.comp_def] using i1, fun q hq => ?_⟩
  have := i2 _ (List.mem_map_of_mem hq)
  have e3 : (q.2.map fun p : Cc × F => p.1 :: p.2.flat) = (q.2.map fun p : Cc × F => F.cons p.1 p.2 .nil).map F.flat := by cases q.2 <;> simp [F.flat]
  rw [e3]; exact this

/-- All of them, where there are all. -/
def coll {α : Type} : List (Option α) → Option (List α)
  | [] => some []
  | o :: r => match o with | none => none | some x => (coll r).map (x :: ·)
theorem coll_snoc {α : Type} : ∀ (l : List (Option α)) (o : Option α), coll (l ++ [o]) = match coll l with | none => none | some xs => match o with | none => none | some x => some (xs ++ [x])
  | [], o => by cases o <;> rfl
  | p :: r, o => by
    cases p with
    | none => rfl
    | some y =>
      simp only [List.cons_append, coll, coll_snoc r o]
      cases coll r with
      | none => rfl
      | some xs => cases o <;> rfl
theorem coll_app {α : Type} : ∀ (l m : List (Option α)), coll (l ++ m) = match coll l with | none => none | some xs => (coll m).map (xs ++ ·)
  | [], m => by simp [coll]
  | p :: r, m => by
    cases p with
    | none => rfl
    | some y =>
      simp only [List.cons_append, coll, coll_app r m]
      cases coll r with
      | none => rfl
      | some xs => cases coll m <;> simp
theorem coll_len {α : Type} : ∀ {l : List (Option α)} {xs : List α}, coll l = some xs → xs.length = l.length
  | [], xs, h => by simp [coll] at h; subst h; rfl
  | p :: r, xs, h => by
    cases p with
    | none => cases h
    | some y =>
      simp only [coll] at h
      cases hc : coll r with
      | none => rw [hc] at h; cases h
      | some ys =>
        rw [hc] at h
        simp only [Option.map_some, Option.some.injEq] at h
        subst h
        simp [coll_len hc]
theorem coll_mem {α : Type} : ∀ {l : List (Option α)} {xs : List α}, coll l = some xs → ∀ x ∈ xs, some x ∈ l
  | [], xs, h => by simp [coll] at h; subst h; simp
  | p :: r, xs, h => by
    cases p with
    | none => cases h
    | some y =>
      simp only [coll] at h
      cases hc : coll r with
      | none => rw [hc] at h; cases h
      | some ys =>
        rw [hc] at h
        simp only [Option.map_some, Option.some.injEq] at h
        subst h
        intro x hx
        rcases List.mem_cons.1 hx with rfl | hx
        · simp
        · exact List.mem_cons_of_mem _ (coll_mem hc x hx)
/-- The cells of a term made, where they are good. -/
def tgd (c : Option (Cc × F)) : Option (List Cc) := match c with | none => none | some p => if goodT (p.1 :: p.2.flat) = true then some (p.1 :: p.2.flat) else none
/-- What StepsOf tells. -/
def stR (l : List Cc) : Option (List (List Cc)) := match treeT l with | some (.cons x k _) => coll ((sh x k).map fun q => tgd q.2) | _ => none
end Go.Proofs.Ytbimfnnbfbfdoaa.W
