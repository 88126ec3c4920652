/-
  The places of a term: the cell, how many are bound around, the kids, and where they stand; closed terms. No program here.
-/
import Derived.Test.YtnmkbpflbfhpnaaTeH
namespace Go.Proofs.Ytnmkbpflbfhpnaa.W
set_option linter.unusedVariables false

/-- The places of terms one behind the other: cell, how many are bound around, the kids. -/
def nd (pk : Int) (d : Nat) : Nat → F → List (Cc × Nat × F)
  | _, .nil => []
  | i, .cons x k r => (x, d + binds pk i, k) :: (nd x.k (d + binds pk i) 0 k ++ nd pk d (i + 1) r)
theorem nd_len : ∀ (a : F) (pk : Int) (d i : Nat), (nd pk d i a).length = a.flat.length
  | .nil, _, _, _ => rfl
  | .cons x k r, pk, d, i => by simp [nd, F.flat, nd_len k, nd_len r]
/-- How far behind the first one the kid of this number stands. -/
def ko : F → Nat → Nat
  | .nil, _ => 0
  | .cons _ _ _, 0 => 0
  | .cons _ k r, j + 1 => 1 + k.flat.length + ko r j
def kth : F → Nat → Option (Cc × F)
  | .nil, _ => none
  | .cons x k _, 0 => some (x, k)
  | .cons _ _ r, j + 1 => kth r j
theorem kth_lt : ∀ (a : F) (j : Nat), j < a.len → ∃ p, kth a j = some p
  | .nil, j, h => by simp [F.len] at h
  | .cons x k r, 0, _ => ⟨_, rfl⟩
  | .cons x k r, j + 1, h => kth_lt r j (by simp [F.len] at h; omega)
theorem ko_0 (a : F) : ko a 0 = 0 := by cases a <;> rfl
theorem ko_succ : ∀ (a : F) (j : Nat) (x : Cc) (k : F), kth a j = some (x, k) → ko a (j + 1) = ko a j + 1 + k.flat.length
  | .nil, j, x, k, h => by simp [kth] at h
  | .cons y l r, 0, x, k, h => by
    simp only [kth, Option.some.injEq, Prod.mk.injEq] at h
    simp [ko, ko_0, h.2]
  | .cons y l r, j + 1, x, k, h => by
    have := ko_succ r j x k h
    simp only [ko] at this ⊢
    omega
theorem ko_len : ∀ (a : F), ko a a.len = a.flat.length
  | .nil => rfl
  | .cons y l r => by simp [F.len, ko, ko_len r, F.flat]; omega
theorem ko_lt : ∀ (a : F) (j : Nat), j < a.len → ko a j < a.flat.length
  | .nil, j, h => by simp [F.len] at h
  | .cons y l r, 0, h => by simp [ko, F.flat]
  | .cons y l r, j + 1, h => by have := ko_lt r j (by simp [F.len] at h; omega); simp [ko, F.flat]; omega
theorem ko_mono (a : F) (j : Nat) (h : j ≤ a.len) : ko a j ≤ a.flat.length := by
  by_cases e : j = a.len
  · rw [e, ko_len]; exact Nat.le_refl _
  · have := ko_lt a j (by omega); omega
theorem nd_kth : ∀ (a : F) (pk : Int) (d i j : Nat) (x : Cc) (k : F), kth a j = some (x, k) → (nd pk d i a)[ko a j]? = some (x, d + binds pk (i + j), k)
  | .nil, _, _, _, j, x, k, h => by simp [kth] at h
  | .cons y l r, pk, d, i, 0, x, k, h => by
    simp only [kth, Option.some.injEq, Prod.mk.injEq] at h
    obtain ⟨rfl, rfl⟩ := h
    simp [nd, ko]
  | .cons y l r, pk, d, i, j + 1, x, k, h => by
    have := nd_kth r pk d (i + 1) j x k h
    simp only [nd, ko]
    rw [show 1 + l.flat.length + ko r j = (l.flat.length + ko r j) + 1 by omega, List.getElem?_cons_succ, List.getElem?_append_right (by rw [nd_len]; omega), nd_len, Nat.add_sub_cancel_left, this, show i + 1 + j = i + (j + 1) by omega]
theorem nd_kid : ∀ (a : F) (pk : Int) (d i p : Nat) (x : Cc) (e : Nat) (k : F) (j : Nat) (y : Cc) (l : F), (nd pk d i a)[p]? = some (x, e, k) → kth k j = some (y, l) → (nd pk d i a)[p + 1 + ko k j]? = some (y, e + binds x.k j, l)
  | .nil, _, _, _, p, x, e, k, j, y, l, h, _ => by simp [nd] at h
  | .cons z m r, pk, d, i, 0, x, e, k, j, y, l, h, hk => by
    simp only [nd, List.getElem?_cons_zero, Option.some.injEq, Prod.mk.injEq] at h
    obtain ⟨rfl, rfl, rfl⟩ := h
    have h1 := nd_kth m z.k (d + binds pk i) 0 j y l hk
    rw [Nat.zero_add] at h1
    have hlt : ko m j < (nd z.k (d + binds pk i) 0 m).length := (List.getElem?_eq_some_iff.1 h1).1
    simp only [nd]
    rw [show 0 + 1 + ko m j = ko m j + 1 by omega, List.getElem?_cons_succ, List.getElem?_append_left hlt, h1]
  | .cons z m r, pk, d, i, p + 1, x, e, k, j, y, l, h, hk => by
    simp only [nd, List.getElem?_cons_succ] at h ⊢
    rw [show p + 1 + 1 + ko k j = (p + 1 + ko k j) + 1 by omega, List.getElem?_cons_succ]
    by_cases hp : p < (nd z.k (d + binds pk i) 0 m).length
    · rw [List.getElem?_append_left hp] at h
      have h1 := nd_kid m _ _ _ p x e k j y l h hk
      have hlt := (List.getElem?_eq_some_iff.1 h1).1
      rw [List.getElem?_append_left hlt, h1]
    · rw [List.getElem?_append_right (by omega)] at h
      have h1 := nd_kid r _ _ _ _ x e k j y l h hk
      rw [List.getElem?_append_right (by omega), ← h1]
      congr 1
      omega
theorem nd_cell : ∀ (a : F) (pk : Int) (d i p : Nat) (x : Cc) (e : Nat) (k : F), (nd pk d i a)[p]? = some (x, e, k) → a.flat[p]? = some x
  | .nil, _, _, _, p, x, e, k, h => by simp [nd] at h
  | .cons z m r, pk, d, i, 0, x, e, k, h => by
    simp only [nd, List.getElem?_cons_zero, Option.some.injEq, Prod.mk.injEq] at h
    simp [F.flat, h.1]
  | .cons z m r, pk, d, i, p + 1, x, e, k, h => by
    simp only [nd, F.flat, List.getElem?_cons_succ] at h ⊢
    by_cases hp : p < (nd z.k (d + binds pk i) 0 m).length
    · rw [List.getElem?_append_left hp] at h
      rw [List.getElem?_append_left (by rwa [nd_len] at hp)]
      exact nd_cell m _ _ _ p x e k h
    · rw [List.getElem?_append_right (by omega), nd_len] at h
      rw [List.getElem?_append_right (by rw [nd_len] at hp; omega)]
      exact nd_cell r _ _ _ _ x e k h
/-- What stands at a place: its cell, its kids, and something behind them. -/
theorem nd_drop : ∀ (a : F) (pk : Int) (d i p : Nat) (x : Cc) (e : Nat) (k : F), (nd pk d i a)[p]? = some (x, e, k) → ∃ r, a.flat.drop p = x :: (k.flat ++ r)
  | .nil, _, _, _, p, x, e, k, h => by simp [nd] at h
  | .cons z m r, pk, d, i, 0, x, e, k, h => by
    simp only [nd, List.getElem?_cons_zero, Option.some.injEq, Prod.mk.injEq] at h
    obtain ⟨rfl, rfl, rfl⟩ := h
    exact ⟨r.flat, by simp [F.flat]⟩
  | .cons z m r, pk, d, i, p + 1, x, e, k, h => by
    simp only [nd, List.getElem?_cons_succ] at h
    by_cases hp : p < (nd z.k (d + binds pk i) 0 m).length
    · rw [List.getElem?_append_left hp] at h
      rw [nd_len] at hp
      obtain ⟨q, hq⟩ := nd_drop m _ _ _ p x e k h
      refine ⟨q ++ r.flat, ?_⟩
      simp only [F.flat, List.drop_succ_cons]
      rw [List.drop_append_of_le_length (by omega), hq]; simp
    · rw [List.getElem?_append_right (by omega), nd_len] at h
      rw [nd_len] at hp
      obtain ⟨q, hq⟩ := nd_drop r _ _ _ _ x e k h
      refine ⟨q, ?_⟩
      simp only [F.flat, List.drop_succ_cons]
      rw [List.drop_append, List.drop_eq_nil_of_le (by omega), List.nil_append, hq]
theorem nd_ok : ∀ (a : F) (pk : Int) (d i p : Nat) (x : Cc) (e : Nat) (k : F), a.ok → (nd pk d i a)[p]? = some (x, e, k) → goodC x = true ∧ k.len = ar x.k ∧ k.ok
  | .nil, _, _, _, p, x, e, k, _, h => by simp [nd] at h
  | .cons z m r, pk, d, i, 0, x, e, k, ⟨h1, h2, h3, h4⟩, h => by
    simp only [nd, List.getElem?_cons_zero, Option.some.injEq, Prod.mk.injEq] at h
    obtain ⟨rfl, rfl, rfl⟩ := h
    exact ⟨h1, h2, h3⟩
  | .cons z m r, pk, d, i, p + 1, x, e, k, ⟨h1, h2, h3, h4⟩, h => by
    simp only [nd, List.getElem?_cons_succ] at h
    by_cases hp : p < (nd z.k (d + binds pk i) 0 m).length
    · rw [List.getElem?_append_left hp] at h
      exact nd_ok m _ _ _ p x e k h3 h
    · rw [List.getElem?_append_right (by omega)] at h
      exact nd_ok r _ _ _ _ x e k h4 h
theorem nd_vars : ∀ (a : F) (pk : Int) (d i p : Nat) (x : Cc) (e : Nat) (k : F), (nd pk d i a)[p]? = some (x, e, k) → e ≤ d + a.flat.length
  | .nil, _, _, _, p, x, e, k, h => by simp [nd] at h
  | .cons z m r, pk, d, i, 0, x, e, k, h => by
    simp only [nd, List.getElem?_cons_zero, Option.some.injEq, Prod.mk.injEq] at h
    have : binds pk i ≤ 1 := by unfold binds; split <;> omega
    simp [F.flat]; omega
  | .cons z m r, pk, d, i, p + 1, x, e, k, h => by
    simp only [nd, List.getElem?_cons_succ] at h
    have hb : binds pk i ≤ 1 := by unfold binds; split <;> omega
    by_cases hp : p < (nd z.k (d + binds pk i) 0 m).length
    · rw [List.getElem?_append_left hp] at h
      have := nd_vars m _ _ _ p x e k h
      simp [F.flat]; omega
    · rw [List.getElem?_append_right (by omega)] at h
      have := nd_vars r _ _ _ _ x e k h
      simp [F.flat]; omega

theorem put_ne (l : List Int) (n : Int) : put l n ≠ [] := by
  unfold put
  split
  · rename_i h; intro e; rw [e] at h; simp at h
  · simp
theorem fre_ne : ∀ (a : F) (pk : Int) (d i : Nat) (o : List Int), o ≠ [] → fre pk d i a o ≠ []
  | .nil, _, _, _, o, h => h
  | .cons x k r, pk, d, i, o, h => by
    rw [fre]
    refine fre_ne r _ _ _ _ ?_
    split
    · exact put_ne _ _
    · exact fre_ne k _ _ _ _ h
/-- In a term with no free variables each variable is bound. -/
theorem nd_bound : ∀ (a : F) (pk : Int) (d i p : Nat) (x : Cc) (e : Nat) (k : F), a.ok → fre pk d i a [] = [] → (nd pk d i a)[p]? = some (x, e, k) → x.k = 1 → 0 ≤ x.n ∧ x.n < (e : Int)
  | .nil, _, _, _, p, x, e, k, _, _, h, _ => by simp [nd] at h
  | .cons z m r, pk, d, i, p, x, e, k, ⟨h1, h2, h3, h4⟩, hf, h, hx => by
    rw [fre] at hf
    have hin : (if z.k = 1 ∧ ((d + binds pk i : Nat) : Int) ≤ z.n then put [] (z.n - ((d + binds pk i : Nat) : Int)) else fre z.k (d + binds pk i) 0 m []) = [] := by
      apply Classical.byContradiction
      intro hne
      exact fre_ne r _ _ _ _ hne hf
    rw [hin] at hf
    by_cases hz : z.k = 1 ∧ ((d + binds pk i : Nat) : Int) ≤ z.n
    · rw [if_pos hz] at hin; exact absurd hin (put_ne _ _)
    · rw [if_neg hz] at hin
      match p, h with
      | 0, h =>
        simp only [nd, List.getElem?_cons_zero, Option.some.injEq, Prod.mk.injEq] at h
        obtain ⟨rfl, rfl, rfl⟩ := h
        refine ⟨?_, by omega⟩
        unfold goodC at h1
        rw [if_pos hx] at h1
        simp [inB] at h1; omega
      | p + 1, h =>
        simp only [nd, List.getElem?_cons_succ] at h
        by_cases hp : p < (nd z.k (d + binds pk i) 0 m).length
        · rw [List.getElem?_append_left hp] at h
          exact nd_bound m _ _ _ p x e k h3 hin h hx
        · rw [List.getElem?_append_right (by omega)] at h
          exact nd_bound r _ _ _ _ x e k h4 hf h hx

/-- A good term without free variables, as a tree. -/
def closedT (l : List Cc) : Option F := match treeT l with | some a => if freT a = [] then some a else none | none => none
/-- The places of a term. -/
def ndT (a : F) : List (Cc × Nat × F) := nd 0 0 0 a
/-- What is known of a closed term's places. -/
structure Cl (l : List Cc) (a : F) : Prop where
  flat : l = a.flat
  ok : a.ok
  one : a.len = 1
  le : l.length ≤ 600
  free : fre 0 0 0 a [] = []
theorem binds_0' (i : Nat) : binds 0 i = 0 := by unfold binds; rw [if_neg (by omega)]
theorem closedT_some {l : List Cc} {a : F} (h : closedT l = some a) : Cl l a ∧ treeT l = some a ∧ freT a = [] := by
  unfold closedT at h
  cases ht : treeT l with
  | none => rw [ht] at h; cases h
  | some b =>
    rw [ht] at h
    simp only at h
    by_cases hf : freT b = []
    · rw [if_pos hf] at h
      obtain rfl : b = a := by simpa using h
      obtain ⟨t1, t2, t3, t4, -⟩ := treeT_flat ht
      refine ⟨⟨t1, t2, t3, t4, ?_⟩, rfl, hf⟩
      obtain ⟨x, k, rfl⟩ := F.len_1 t3
      rw [fre_cons]
      simp only [fre, binds_0', Nat.add_zero]
      exact hf
    · rw [if_neg hf] at h; cases h
theorem Cl.len {l : List Cc} {a : F} (h : Cl l a) : (ndT a).length = l.length := by rw [ndT, nd_len, h.flat]
theorem Cl.pos {l : List Cc} {a : F} (h : Cl l a) : 0 < l.length := by
  obtain ⟨x, k, rfl⟩ := F.len_1 h.one
  rw [h.flat]; simp [F.flat]
theorem Cl.at {l : List Cc} {a : F} (h : Cl l a) {p : Nat} (hp : p < l.length) : ∃ e k, (ndT a)[p]? = some (l[p], e, k) := by
  have hp' : p < (ndT a).length := by rw [h.len]; exact hp
  have h1 : (ndT a)[p]? = some (ndT a)[p] := List.getElem?_eq_getElem hp'
  have h2 := nd_cell a 0 0 0 p (ndT a)[p].1 (ndT a)[p].2.1 (ndT a)[p].2.2 h1
  have h3 : l[p]? = some l[p] := List.getElem?_eq_getElem hp
  rw [← h.flat, h3] at h2
  simp only [Option.some.injEq] at h2
  exact ⟨_, _, by rw [h1, h2]⟩
theorem Cl.cell {l : List Cc} {a : F} (h : Cl l a) {p : Nat} {x : Cc} {e : Nat} {k : F} (hn : (ndT a)[p]? = some (x, e, k)) : ∃ hp : p < l.length, l[p] = x := by
  have := nd_cell a 0 0 0 p x e k hn
  rw [← h.flat] at this
  obtain ⟨hp, he⟩ := List.getElem?_eq_some_iff.1 this
  exact ⟨hp, he⟩
theorem Cl.good {l : List Cc} {a : F} (h : Cl l a) {p : Nat} {x : Cc} {e : Nat} {k : F} (hn : (ndT a)[p]? = some (x, e, k)) : goodC x = true ∧ k.len = ar x.k ∧ k.ok ∧ e ≤ 600 := by
  obtain ⟨h1, h2, h3⟩ := nd_ok a 0 0 0 p x e k h.ok hn
  have := nd_vars a 0 0 0 p x e k hn
  rw [← h.flat] at this
  have := h.le
  exact ⟨h1, h2, h3, by omega⟩
theorem Cl.bound {l : List Cc} {a : F} (h : Cl l a) {p : Nat} {x : Cc} {e : Nat} {k : F} (hn : (ndT a)[p]? = some (x, e, k)) (hx : x.k = 1) : 0 ≤ x.n ∧ x.n < (e : Int) := nd_bound a 0 0 0 p x e k h.ok h.free hn hx
theorem Cl.kid {l : List Cc} {a : F} (h : Cl l a) {p : Nat} {x : Cc} {e : Nat} {k : F} (hn : (ndT a)[p]? = some (x, e, k)) {j : Nat} (hj : j < ar x.k) : ∃ y m, kth k j = some (y, m) ∧ (ndT a)[p + 1 + ko k j]? = some (y, e + binds x.k j, m) := by
  obtain ⟨g1, g2, g3, -⟩ := h.good hn
  obtain ⟨⟨y, m⟩, hy⟩ := kth_lt k j (by omega)
  exact ⟨y, m, hy, nd_kid a 0 0 0 p x e k j y m hn hy⟩
theorem Cl.size {l : List Cc} {a : F} (h : Cl l a) {p : Nat} {x : Cc} {e : Nat} {k : F} (hn : (ndT a)[p]? = some (x, e, k)) : p + 1 + k.flat.length ≤ l.length ∧ sz (l.drop p) 1 0 = some (k.flat.length + 1) ∧ ∃ r, rt 1 (l.drop p) = some (.cons x k .nil, r) := by
  obtain ⟨r, hr⟩ := nd_drop a 0 0 0 p x e k hn
  obtain ⟨g1, g2, g3, -⟩ := h.good hn
  rw [← h.flat] at hr
  have hl := congrArg List.length hr
  simp at hl
  have hok : (F.cons x k .nil).ok := ⟨g1, g2, g3, trivial⟩
  have e1 : l.drop p = (F.cons x k .nil).flat ++ r := by rw [hr]; simp [F.flat]
  refine ⟨by omega, ?_, r, ?_⟩
  · have := sz_flat (.cons x k .nil) r 0 0 hok
    rw [← e1, sz_0] at this
    simp only [F.len, Nat.zero_add] at this
    rw [this]; simp [F.flat]
  · have := rt_back (.cons x k .nil) r hok
    rw [← e1] at this
    exact this
/-- The places of the kids of a place. -/
def kidsAt (p : Nat) (k : F) : List Int := (List.range k.len).map fun j => ((p + 1 + ko k j : Nat) : Int)
end Go.Proofs.Ytnmkbpflbfhpnaa.W
