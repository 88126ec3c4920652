/-
  Some texts of this proof in one: TeH, MaP, HnE.
-/
import Derived.Test.YtnmkbpflbfhpnaaGreatJ14
import Derived.Test.YtnmkbpflbfhpnaaGreatJ11
/-
  The program's marks and the specification's list tell the same variables. No program here.
-/
namespace Go.Proofs.YtnmkbpflbfhpnaaGreat.W
set_option linter.unusedVariables false

theorem mkd_lt (s : List Bool) (j : Nat) : ∀ x ∈ mkd s j, x < (j : Int) := by
  intro x hx
  unfold mkd at hx
  obtain ⟨i, hi, rfl⟩ := List.mem_map.1 hx
  have := List.mem_range.1 (List.mem_filter.1 hi).1
  show (i : Int) < (j : Int)
  omega
theorem putAt_all {l : List Int} {n : Int} (h : ∀ x ∈ l, x < n) (r : List Int) (hr : ∀ x, r[0]? = some x → ¬ x < n) : putAt (l ++ r) n = l.length := by
  refine putAt_is (by simp) (fun i hi hlt => ?_) (fun hlt => ?_)
  · rw [List.getElem_append_left hlt]; exact h _ (List.getElem_mem hlt)
  · rw [List.getElem_append_right (Nat.le_refl _)]
    refine hr _ ?_
    rw [List.getElem?_eq_getElem (by simp at hlt ⊢; omega)]
    simp
theorem put_snoc {l : List Int} {n m : Int} (h : n < m) (hl : ∀ x ∈ l, x < m) : put (l ++ [m]) n = put l n ++ [m] := by
  have hle := putAt_le l n
  have hp : putAt (l ++ [m]) n = putAt l n := by
    refine putAt_is (by simp; omega) (fun i hi hlt => ?_) (fun hlt => ?_)
    · rw [List.getElem_append_left (by omega)]; exact putAt_lt l n i hlt
    · by_cases hlt2 : putAt l n < l.length
      · rw [List.getElem_append_left hlt2]; exact putAt_ge l n hlt2
      · rw [List.getElem_append_right (by omega)]; simp; omega
  unfold put
  rw [hp]
  by_cases hlt2 : putAt l n < l.length
  · rw [List.getElem?_append_left hlt2]
    split
    · rfl
    · rw [List.take_append_of_le_length hle, List.drop_append_of_le_length hle]; simp
  · have he : putAt l n = l.length := by omega
    rw [he, List.getElem?_append_right (Nat.le_refl _), List.getElem?_eq_none (Nat.le_refl _)]
    have hmn : m ≠ n := by omega
    simp [hmn]
theorem set_getD_ne (s : List Bool) (j i : Nat) (h : i ≠ j) : (s.set j true).getD i false = s.getD i false := by
  simp [List.getD, Ne.symm h]
theorem set_getD_eq (s : List Bool) (j : Nat) (h : j < s.length) : (s.set j true).getD j false = true := by
  simp [List.getD, h]
theorem mkd_set_below (s : List Bool) (j : Nat) : ∀ m, m ≤ j → mkd (s.set j true) m = mkd s m
  | 0, _ => rfl
  | m + 1, h => by rw [mkd_succ, mkd_succ, mkd_set_below s j m (by omega), set_getD_ne s j m (by omega)]
theorem mkd_set (s : List Bool) (j : Nat) (hj : j < s.length) : ∀ m, j < m → mkd (s.set j true) m = put (mkd s m) (j : Int)
  | 0, h => by omega
  | m + 1, h => by
    by_cases e : m = j
    · subst e
      rw [mkd_succ, mkd_set_below s m m (Nat.le_refl _), set_getD_eq s m hj, if_pos rfl, mkd_succ]
      split
      · unfold put
        rw [putAt_all (mkd_lt s m) [(m : Int)] (fun x hx => by simp at hx; omega), List.getElem?_append_right (Nat.le_refl _)]
        simp
      · have hp := putAt_all (mkd_lt s m) [] (fun x hx => by cases hx)
        rw [List.append_nil] at hp
        unfold put
        rw [hp, List.getElem?_eq_none (Nat.le_refl _)]
        simp
    · rw [mkd_succ, mkd_succ, mkd_set s j hj m (by omega), set_getD_ne s j m e]
      split
      · exact (put_snoc (by omega) (mkd_lt s m)).symm
      · rfl

theorem bitS_mkd (s : List Bool) (hs : s.length = 100) (n : Int) (d : Nat) (hn : n ≤ 99) : mkd (bitS s n d) 100 = if (d : Int) ≤ n then put (mkd s 100) (n - (d : Int)) else mkd s 100 := by
  unfold bitS
  by_cases hd : (d : Int) ≤ n
  · rw [if_pos hd, if_pos hd]
    obtain ⟨j, hj⟩ := Int.eq_ofNat_of_zero_le (show 0 ≤ n - (d : Int) by omega)
    rw [hj, Int.toNat_natCast]
    exact mkd_set s j (by omega) 100 (by omega)
  · rw [if_neg hd, if_neg hd]

theorem bits_fre : ∀ (a : F) (pk : Int) (d i : Nat) (s : {s : List Bool // s.length = 100}), a.ok →
    mkd (wv (fun (s : {s : List Bool // s.length = 100}) n d => sameV s.1 n d) (fun s n d => ⟨bitS s.1 n d, by unfold bitS; split <;> simp [s.2]⟩) pk d i a s).2.1 100 = fre pk d i a (mkd s.1 100)
  | .nil, _, _, _, _, _ => rfl
  | .cons x k r, pk, d, i, s, h => by
    obtain ⟨g1, l1, o1, r1⟩ := ok_cons h
    by_cases hx : x.k = 1
    · have hk0 : k = .nil := F.len_0 (by rw [l1, hx]; rfl)
      have hn : 0 ≤ x.n ∧ x.n ≤ 99 := by
        unfold goodC at g1
        rw [if_pos hx] at g1
        simpa [inB] using g1
      simp only [wv, hx, if_true]
      rw [bits_fre r pk d (i + 1) _ r1, fre_cons]
      congr 1
      show mkd (bitS s.1 x.n (d + binds pk i)) 100 = fr1 (d + binds pk i) x k (mkd s.1 100)
      rw [bitS_mkd s.1 s.2 x.n _ hn.2]
      unfold fr1
      by_cases hd : ((d + binds pk i : Nat) : Int) ≤ x.n
      · rw [if_pos hd, if_pos ⟨hx, hd⟩]
      · rw [if_neg hd, if_neg (fun hc => hd hc.2), hk0]
        rfl
    · simp only [wv, hx, if_false]
      rw [bits_fre r pk d (i + 1) _ r1, bits_fre k x.k (d + binds pk i) 0 s o1, fre_cons]
      congr 1
      unfold fr1
      rw [if_neg (fun hc => hx hc.1)]

theorem mkd_none : ∀ m, mkd (List.replicate 100 false) m = []
  | 0 => rfl
  | m + 1 => by
    rw [mkd_succ, mkd_none m, if_neg]
    simp only [List.getD, List.getElem?_replicate]
    split <;> simp
theorem marked_bits (x : Cc) (k : F) (h : (F.cons x k .nil).ok) : marked (bits x k) = fr1 0 x k [] := by
  unfold marked bits w1
  rw [bits_fre _ _ _ _ _ h, mkd_none, fre_cons]
  rfl
end Go.Proofs.YtnmkbpflbfhpnaaGreat.W

/-
  The places of a term: the cell, how many are bound around, the kids, and where they stand; closed terms. No program here.
-/
namespace Go.Proofs.YtnmkbpflbfhpnaaGreat.W
set_option linter.unusedVariables false

/-- The places of terms one behind the other: cell, how many are bound around, the kids. -/
def nd (pk : Int) (d : Nat) : Nat → F → List (Cc × Nat × F)
  | _, .nil => []
  | i, .cons x k r => (x, d + binds pk i, k) :: (nd x.k (d + binds pk i) 0 k ++ nd pk d (i + 1) r)
theorem nd_len : ∀ (a : F) (pk : Int) (d i : Nat), (nd pk d i a).length = a.flat.length
  | .nil, _, _, _ => rfl
  | .cons x k r, pk, d, i => by simp [nd, F.flat, nd_len k, nd_len r]
/-- How far behind the first one the kid of this number stands. -/
def ko : F → Nat → Nat
  | .nil, _ => 0
  | .cons _ _ _, 0 => 0
  | .cons _ k r, j + 1 => 1 + k.flat.length + ko r j
def kth : F → Nat → Option (Cc × F)
  | .nil, _ => none
  | .cons x k _, 0 => some (x, k)
  | .cons _ _ r, j + 1 => kth r j
theorem kth_lt : ∀ (a : F) (j : Nat), j < a.len → ∃ p, kth a j = some p
  | .nil, j, h => by simp [F.len] at h
  | .cons x k r, 0, _ => ⟨_, rfl⟩
  | .cons x k r, j + 1, h => kth_lt r j (by simp [F.len] at h; omega)
theorem ko_0 (a : F) : ko a 0 = 0 := by cases a <;> rfl
theorem ko_succ : ∀ (a : F) (j : Nat) (x : Cc) (k : F), kth a j = some (x, k) → ko a (j + 1) = ko a j + 1 + k.flat.length
  | .nil, j, x, k, h => by simp [kth] at h
  | .cons y l r, 0, x, k, h => by
    simp only [kth, Option.some.injEq, Prod.mk.injEq] at h
    simp [ko, ko_0, h.2]
  | .cons y l r, j + 1, x, k, h => by
    have := ko_succ r j x k h
    simp only [ko] at this ⊢
    omega
theorem ko_len : ∀ (a : F), ko a a.len = a.flat.length
  | .nil => rfl
  | .cons y l r => by simp [F.len, ko, ko_len r, F.flat]; omega
theorem ko_lt : ∀ (a : F) (j : Nat), j < a.len → ko a j < a.flat.length
  | .nil, j, h => by simp [F.len] at h
  | .cons y l r, 0, h => by simp [ko, F.flat]
  | .cons y l r, j + 1, h => by have := ko_lt r j (by simp [F.len] at h; omega); simp [ko, F.flat]; omega
theorem ko_mono (a : F) (j : Nat) (h : j ≤ a.len) : ko a j ≤ a.flat.length := by
  by_cases e : j = a.len
  · rw [e, ko_len]; exact Nat.le_refl _
  · have := ko_lt a j (by omega); omega
theorem nd_kth : ∀ (a : F) (pk : Int) (d i j : Nat) (x : Cc) (k : F), kth a j = some (x, k) → (nd pk d i a)[ko a j]? = some (x, d + binds pk (i + j), k)
  | .nil, _, _, _, j, x, k, h => by simp [kth] at h
  | .cons y l r, pk, d, i, 0, x, k, h => by
    simp only [kth, Option.some.injEq, Prod.mk.injEq] at h
    obtain ⟨rfl, rfl⟩ := h
    simp [nd, ko]
  | .cons y l r, pk, d, i, j + 1, x, k, h => by
    have := nd_kth r pk d (i + 1) j x k h
    simp only [nd, ko]
    rw [show 1 + l.flat.length + ko r j = (l.flat.length + ko r j) + 1 by omega, List.getElem?_cons_succ, List.getElem?_append_right (by rw [nd_len]; omega), nd_len, Nat.add_sub_cancel_left, this, show i + 1 + j = i + (j + 1) by omega]
theorem nd_kid : ∀ (a : F) (pk : Int) (d i p : Nat) (x : Cc) (e : Nat) (k : F) (j : Nat) (y : Cc) (l : F), (nd pk d i a)[p]? = some (x, e, k) → kth k j = some (y, l) → (nd pk d i a)[p + 1 + ko k j]? = some (y, e + binds x.k j, l)
  | .nil, _, _, _, p, x, e, k, j, y, l, h, _ => by simp [nd] at h
  | .cons z m r, pk, d, i, 0, x, e, k, j, y, l, h, hk => by
    simp only [nd, List.getElem?_cons_zero, Option.some.injEq, Prod.mk.injEq] at h
    obtain ⟨rfl, rfl, rfl⟩ := h
    have h1 := nd_kth m z.k (d + binds pk i) 0 j y l hk
    rw [Nat.zero_add] at h1
    have hlt : ko m j < (nd z.k (d + binds pk i) 0 m).length := (List.getElem?_eq_some_iff.1 h1).1
    simp only [nd]
    rw [show 0 + 1 + ko m j = ko m j + 1 by omega, List.getElem?_cons_succ, List.getElem?_append_left hlt, h1]
  | .cons z m r, pk, d, i, p + 1, x, e, k, j, y, l, h, hk => by
    simp only [nd, List.getElem?_cons_succ] at h ⊢
    rw [show p + 1 + 1 + ko k j = (p + 1 + ko k j) + 1 by omega, List.getElem?_cons_succ]
    by_cases hp : p < (nd z.k (d + binds pk i) 0 m).length
    · rw [List.getElem?_append_left hp] at h
      have h1 := nd_kid m _ _ _ p x e k j y l h hk
      have hlt := (List.getElem?_eq_some_iff.1 h1).1
      rw [List.getElem?_append_left hlt, h1]
    · rw [List.getElem?_append_right (by omega)] at h
      have h1 := nd_kid r _ _ _ _ x e k j y l h hk
      rw [List.getElem?_append_right (by omega), ← h1]
      congr 1
      omega
theorem nd_cell : ∀ (a : F) (pk : Int) (d i p : Nat) (x : Cc) (e : Nat) (k : F), (nd pk d i a)[p]? = some (x, e, k) → a.flat[p]? = some x
  | .nil, _, _, _, p, x, e, k, h => by simp [nd] at h
  | .cons z m r, pk, d, i, 0, x, e, k, h => by
    simp only [nd, List.getElem?_cons_zero, Option.some.injEq, Prod.mk.injEq] at h
    simp [F.flat, h.1]
  | .cons z m r, pk, d, i, p + 1, x, e, k, h => by
    simp only [nd, F.flat, List.getElem?_cons_succ] at h ⊢
    by_cases hp : p < (nd z.k (d + binds pk i) 0 m).length
    · rw [List.getElem?_append_left hp] at h
      rw [List.getElem?_append_left (by rwa [nd_len] at hp)]
      exact nd_cell m _ _ _ p x e k h
    · rw [List.getElem?_append_right (by omega), nd_len] at h
      rw [List.getElem?_append_right (by rw [nd_len] at hp; omega)]
      exact nd_cell r _ _ _ _ x e k h
/-- What stands at a place: its cell, its kids, and something behind them. -/
theorem nd_drop : ∀ (a : F) (pk : Int) (d i p : Nat) (x : Cc) (e : Nat) (k : F), (nd pk d i a)[p]? = some (x, e, k) → ∃ r, a.flat.drop p = x :: (k.flat ++ r)
  | .nil, _, _, _, p, x, e, k, h => by simp [nd] at h
  | .cons z m r, pk, d, i, 0, x, e, k, h => by
    simp only [nd, List.getElem?_cons_zero, Option.some.injEq, Prod.mk.injEq] at h
    obtain ⟨rfl, rfl, rfl⟩ := h
    exact ⟨r.flat, by simp [F.flat]⟩
  | .cons z m r, pk, d, i, p + 1, x, e, k, h => by
    simp only [nd, List.getElem?_cons_succ] at h
    by_cases hp : p < (nd z.k (d + binds pk i) 0 m).length
    · rw [List.getElem?_append_left hp] at h
      rw [nd_len] at hp
      obtain ⟨q, hq⟩ := nd_drop m _ _ _ p x e k h
      refine ⟨q ++ r.flat, ?_⟩
      simp only [F.flat, List.drop_succ_cons]
      rw [List.drop_append_of_le_length (by omega), hq]; simp
    · rw [List.getElem?_append_right (by omega), nd_len] at h
      rw [nd_len] at hp
      obtain ⟨q, hq⟩ := nd_drop r _ _ _ _ x e k h
      refine ⟨q, ?_⟩
      simp only [F.flat, List.drop_succ_cons]
      rw [List.drop_append, List.drop_eq_nil_of_le (by omega), List.nil_append, hq]
theorem nd_ok : ∀ (a : F) (pk : Int) (d i p : Nat) (x : Cc) (e : Nat) (k : F), a.ok → (nd pk d i a)[p]? = some (x, e, k) → goodC x = true ∧ k.len = ar x.k ∧ k.ok
  | .nil, _, _, _, p, x, e, k, _, h => by simp [nd] at h
  | .cons z m r, pk, d, i, 0, x, e, k, ⟨h1, h2, h3, h4⟩, h => by
    simp only [nd, List.getElem?_cons_zero, Option.some.injEq, Prod.mk.injEq] at h
    obtain ⟨rfl, rfl, rfl⟩ := h
    exact ⟨h1, h2, h3⟩
  | .cons z m r, pk, d, i, p + 1, x, e, k, ⟨h1, h2, h3, h4⟩, h => by
    simp only [nd, List.getElem?_cons_succ] at h
    by_cases hp : p < (nd z.k (d + binds pk i) 0 m).length
    · rw [List.getElem?_append_left hp] at h
      exact nd_ok m _ _ _ p x e k h3 h
    · rw [List.getElem?_append_right (by omega)] at h
      exact nd_ok r _ _ _ _ x e k h4 h
theorem nd_vars : ∀ (a : F) (pk : Int) (d i p : Nat) (x : Cc) (e : Nat) (k : F), (nd pk d i a)[p]? = some (x, e, k) → e ≤ d + a.flat.length
  | .nil, _, _, _, p, x, e, k, h => by simp [nd] at h
  | .cons z m r, pk, d, i, 0, x, e, k, h => by
    simp only [nd, List.getElem?_cons_zero, Option.some.injEq, Prod.mk.injEq] at h
    have : binds pk i ≤ 1 := by unfold binds; split <;> omega
    simp [F.flat]; omega
  | .cons z m r, pk, d, i, p + 1, x, e, k, h => by
    simp only [nd, List.getElem?_cons_succ] at h
    have hb : binds pk i ≤ 1 := by unfold binds; split <;> omega
    by_cases hp : p < (nd z.k (d + binds pk i) 0 m).length
    · rw [List.getElem?_append_left hp] at h
      have := nd_vars m _ _ _ p x e k h
      simp [F.flat]; omega
    · rw [List.getElem?_append_right (by omega)] at h
      have := nd_vars r _ _ _ _ x e k h
      simp [F.flat]; omega

theorem put_ne (l : List Int) (n : Int) : put l n ≠ [] := by
  unfold put
  split
  · rename_i h; intro e; rw [e] at h; simp at h
  · simp
theorem fre_ne : ∀ (a : F) (pk : Int) (d i : Nat) (o : List Int), o ≠ [] → fre pk d i a o ≠ []
  | .nil, _, _, _, o, h => h
  | .cons x k r, pk, d, i, o, h => by
    rw [fre]
    refine fre_ne r _ _ _ _ ?_
    split
    · exact put_ne _ _
    · exact fre_ne k _ _ _ _ h
/-- In a term with no free variables each variable is bound. -/
theorem nd_bound : ∀ (a : F) (pk : Int) (d i p : Nat) (x : Cc) (e : Nat) (k : F), a.ok → fre pk d i a [] = [] → (nd pk d i a)[p]? = some (x, e, k) → x.k = 1 → 0 ≤ x.n ∧ x.n < (e : Int)
  | .nil, _, _, _, p, x, e, k, _, _, h, _ => by simp [nd] at h
  | .cons z m r, pk, d, i, p, x, e, k, ⟨h1, h2, h3, h4⟩, hf, h, hx => by
    rw [fre] at hf
    have hin : (if z.k = 1 ∧ ((d + binds pk i : Nat) : Int) ≤ z.n then put [] (z.n - ((d + binds pk i : Nat) : Int)) else fre z.k (d + binds pk i) 0 m []) = [] := by
      apply Classical.byContradiction
      intro hne
      exact fre_ne r _ _ _ _ hne hf
    rw [hin] at hf
    by_cases hz : z.k = 1 ∧ ((d + binds pk i : Nat) : Int) ≤ z.n
    · rw [if_pos hz] at hin; exact absurd hin (put_ne _ _)
    · rw [if_neg hz] at hin
      match p, h with
      | 0, h =>
        simp only [nd, List.getElem?_cons_zero, Option.some.injEq, Prod.mk.injEq] at h
        obtain ⟨rfl, rfl, rfl⟩ := h
        refine ⟨?_, by omega⟩
        unfold goodC at h1
        rw [if_pos hx] at h1
        simp [inB] at h1; omega
      | p + 1, h =>
        simp only [nd, List.getElem?_cons_succ] at h
        by_cases hp : p < (nd z.k (d + binds pk i) 0 m).length
        · rw [List.getElem?_append_left hp] at h
          exact nd_bound m _ _ _ p x e k h3 hin h hx
        · rw [List.getElem?_append_right (by omega)] at h
          exact nd_bound r _ _ _ _ x e k h4 hf h hx

/-- A good term without free variables, as a tree. -/
def closedT (l : List Cc) : Option F := match treeT l with | some a => if freT a = [] then some a else none | none => none
/-- The places of a term. -/
def ndT (a : F) : List (Cc × Nat × F) := nd 0 0 0 a
/-- What is known of a closed term's places. -/
structure Cl (l : List Cc) (a : F) : Prop where
  flat : l = a.flat
  ok : a.ok
  one : a.len = 1
  le : l.length ≤ 600
  free : fre 0 0 0 a [] = []
theorem binds_0' (i : Nat) : binds 0 i = 0 := by unfold binds; rw [if_neg (by omega)]
theorem closedT_some {l : List Cc} {a : F} (h : closedT l = some a) : Cl l a ∧ treeT l = some a ∧ freT a = [] := by
  unfold closedT at h
  cases ht : treeT l with
  | none => rw [ht] at h; cases h
  | some b =>
    rw [ht] at h
    simp only at h
    by_cases hf : freT b = []
    · rw [if_pos hf] at h
      obtain rfl : b = a := by simpa using h
      obtain ⟨t1, t2, t3, t4, -⟩ := treeT_flat ht
      refine ⟨⟨t1, t2, t3, t4, ?_⟩, rfl, hf⟩
      obtain ⟨x, k, rfl⟩ := F.len_1 t3
      rw [fre_cons]
      simp only [fre, binds_0', Nat.add_zero]
      exact hf
    · rw [if_neg hf] at h; cases h
theorem Cl.len {l : List Cc} {a : F} (h : Cl l a) : (ndT a).length = l.length := by rw [ndT, nd_len, h.flat]
theorem Cl.pos {l : List Cc} {a : F} (h : Cl l a) : 0 < l.length := by
  obtain ⟨x, k, rfl⟩ := F.len_1 h.one
  rw [h.flat]; simp [F.flat]
theorem Cl.at {l : List Cc} {a : F} (h : Cl l a) {p : Nat} (hp : p < l.length) : ∃ e k, (ndT a)[p]? = some (l[p], e, k) := by
  have hp' : p < (ndT a).length := by rw [h.len]; exact hp
  have h1 : (ndT a)[p]? = some (ndT a)[p] := List.getElem?_eq_getElem hp'
  have h2 := nd_cell a 0 0 0 p (ndT a)[p].1 (ndT a)[p].2.1 (ndT a)[p].2.2 h1
  have h3 : l[p]? = some l[p] := List.getElem?_eq_getElem hp
  rw [← h.flat, h3] at h2
  simp only [Option.some.injEq] at h2
  exact ⟨_, _, by rw [h1, h2]⟩
theorem Cl.cell {l : List Cc} {a : F} (h : Cl l a) {p : Nat} {x : Cc} {e : Nat} {k : F} (hn : (ndT a)[p]? = some (x, e, k)) : ∃ hp : p < l.length, l[p] = x := by
  have := nd_cell a 0 0 0 p x e k hn
  rw [← h.flat] at this
  obtain ⟨hp, he⟩ := List.getElem?_eq_some_iff.1 this
  exact ⟨hp, he⟩
theorem Cl.good {l : List Cc} {a : F} (h : Cl l a) {p : Nat} {x : Cc} {e : Nat} {k : F} (hn : (ndT a)[p]? = some (x, e, k)) : goodC x = true ∧ k.len = ar x.k ∧ k.ok ∧ e ≤ 600 := by
  obtain ⟨h1, h2, h3⟩ := nd_ok a 0 0 0 p x e k h.ok hn
  have := nd_vars a 0 0 0 p x e k hn
  rw [← h.flat] at this
  have := h.le
  exact ⟨h1, h2, h3, by omega⟩
theorem Cl.bound {l : List Cc} {a : F} (h : Cl l a) {p : Nat} {x : Cc} {e : Nat} {k : F} (hn : (ndT a)[p]? = some (x, e, k)) (hx : x.k = 1) : 0 ≤ x.n ∧ x.n < (e : Int) := nd_bound a 0 0 0 p x e k h.ok h.free hn hx
theorem Cl.kid {l : List Cc} {a : F} (h : Cl l a) {p : Nat} {x : Cc} {e : Nat} {k : F} (hn : (ndT a)[p]? = some (x, e, k)) {j : Nat} (hj : j < ar x.k) : ∃ y m, kth k j = some (y, m) ∧ (ndT a)[p + 1 + ko k j]? = some (y, e + binds x.k j, m) := by
  obtain ⟨g1, g2, g3, -⟩ := h.good hn
  obtain ⟨⟨y, m⟩, hy⟩ := kth_lt k j (by omega)
  exact ⟨y, m, hy, nd_kid a 0 0 0 p x e k j y m hn hy⟩
theorem Cl.size {l : List Cc} {a : F} (h : Cl l a) {p : Nat} {x : Cc} {e : Nat} {k : F} (hn : (ndT a)[p]? = some (x, e, k)) : p + 1 + k.flat.length ≤ l.length ∧ sz (l.drop p) 1 0 = some (k.flat.length + 1) ∧ ∃ r, rt 1 (l.drop p) = some (.cons x k .nil, r) := by
  obtain ⟨r, hr⟩ := nd_drop a 0 0 0 p x e k hn
  obtain ⟨g1, g2, g3, -⟩ := h.good hn
  rw [← h.flat] at hr
  have hl := congrArg List.length hr
  simp at hl
  have hok : (F.cons x k .nil).ok := ⟨g1, g2, g3, trivial⟩
  have e1 : l.drop p = (F.cons x k .nil).flat ++ r := by rw [hr]; simp [F.flat]
  refine ⟨by omega, ?_, r, ?_⟩
  · have := sz_flat (.cons x k .nil) r 0 0 hok
    rw [← e1, sz_0] at this
    simp only [F.len, Nat.zero_add] at this
    rw [this]; simp [F.flat]
  · have := rt_back (.cons x k .nil) r hok
    rw [← e1] at this
    exact this
/-- The places of the kids of a place. -/
def kidsAt (p : Nat) (k : F) : List Int := (List.range k.len).map fun j => ((p + 1 + ko k j : Nat) : Int)
end Go.Proofs.YtnmkbpflbfhpnaaGreat.W

/-
  Parts made by closures: contracts of handed and of its function literals. Conditions: parts of a good term whose variables are bound around it.
-/
namespace Go.Proofs.YtnmkbpflbfhpnaaGreat.W
open Go.ChangeShapes Go.WideShapes Go.ChangeAt Go.RowKit
set_option linter.unusedVariables false

theorem ent_h1 : Enters 51 := fun args w => by kernel_rfl
theorem ent_h2 : Enters 54 := fun args w => by kernel_rfl
theorem ent_h3 : Enters 56 := fun args w => by kernel_rfl
theorem ent_h4 : Enters 59 := fun args w => by kernel_rfl
theorem ent_h5 : Enters 61 := fun args w => by kernel_rfl
theorem ent_h6 : Enters 62 := fun args w => by kernel_rfl
theorem Sr.func {n : Int} {w : World} {v : Value} {ρ : Int → M} (h : Sr n w v ρ) (hn : n ≠ 0) : ∃ fid cap, v = .func (.func fid) #[] cap := by
  rcases h with h | ⟨fid, cap, h, -⟩
  · exact absurd h.2 hn
  · exact ⟨fid, cap, h⟩
theorem belD (w : World) : Below w.heap.size w w.drew := belowDrew (Below.refl _ _)

set_option maxRecDepth 20000 in
set_option maxHeartbeats 4000000 in
theorem h1_bd (bx ba : Nat) (T : TypeId) (q va : Value) (n : Int) (ρ : Int → M) (H : (Int → M) → M) (w : World) (h0n : 0 ≤ n) (hn : n ≤ 1000000) (hbx : bx < w.heap.size) (hba : ba < w.heap.size) (hcx : w.cell? ⟨bx, 0, none⟩ = some (.iface T q)) (hca : w.cell? ⟨ba, 0, none⟩ = some va) (hp : HdC (.iface T q) (n + 1) H) (ha : Sr n w va ρ) :
    Bdy w (.func (.func 51) #[] #[.pointer (some ⟨bx, 0, none⟩), .pointer (some ⟨ba, 0, none⟩)]) (fun b => H (extM ρ b)) := by
  refine ⟨_, _, rfl, ent_h1, fun vm m w' hw hm => ?_⟩
  have cx := (hw.cell (p := ⟨bx, 0, none⟩) hbx).trans hcx
  have ca := (hw.cell (p := ⟨ba, 0, none⟩) hba).trans hca
  have HP := hide hp
  unfold HdC at HP
  have HA := hide ((ha.below hw).below (belD w'))
  have HM := hide (hm.below (belD w'))
  have HW0 := hide (belD w')
  obtain ⟨fidm, capm, rfl⟩ := hm.form
  have hfa := ha.form
  clear hw hp ha hm hcx hca
  show Calls _ _ #[.func (.func fidm) #[] capm, .pointer (some ⟨bx, 0, none⟩), .pointer (some ⟨ba, 0, none⟩)] _ _
  rcases hfa with rfl | ⟨fida, capa, rfl⟩
  · go_enter Tryz.func51, Tryz.ntmps51
    go_wp2_with fail
    go_region_held3 (fun w1 => w1.cell? ⟨bx, 0, none⟩ = some (.iface T q) ∧ w1.cell? ⟨ba, 0, none⟩ = some (.nilFunc)) (go_keep)
      (first
        | ((with_reducible refine Calls.mono (with_any _ _ m n ρ _ hn HM.out HA.out) ?_); rintro e w1 ⟨v1, rfl, hs1, hx⟩; obtain ⟨fid1, cap1, rfl⟩ := hs1.func (by omega); have cx1 := (hx.cell (p := ⟨bx, 0, none⟩) (World.block_lt_of_cell? _ _ cx)).trans cx; have ca1 := (hx.cell (p := ⟨ba, 0, none⟩) (World.block_lt_of_cell? _ _ ca)).trans ca; have HS1 := hide hs1; have HW1 := hide (HW0.out.trans (hx.mono HW0.out.size)); clear hs1 hx)
        | ((with_reducible refine Calls.mono (HP.out _ _ _ HS1.out) ?_); rintro e w2 ⟨v2, rfl, hm2, hx⟩; have HM2 := hide hm2; obtain ⟨fid2, cap2, rfl⟩ := hm2.form; have cx2 := (hx.cell (p := ⟨bx, 0, none⟩) (World.block_lt_of_cell? _ _ cx1)).trans cx1; have ca2 := (hx.cell (p := ⟨ba, 0, none⟩) (World.block_lt_of_cell? _ _ ca1)).trans ca1; have HW2 := hide (HW1.out.trans (hx.mono HW1.out.size)); clear hm2 hx))
    go_wp2_with fail
    go_ret
    exact ⟨_, rfl, HM2.out, HW2.out⟩
  · go_enter Tryz.func51, Tryz.ntmps51
    go_wp2_with fail
    go_region_held3 (fun w1 => w1.cell? ⟨bx, 0, none⟩ = some (.iface T q) ∧ w1.cell? ⟨ba, 0, none⟩ = some (.func (.func fida) #[] capa)) (go_keep)
      (first
        | ((with_reducible refine Calls.mono (with_any _ _ m n ρ _ hn HM.out HA.out) ?_); rintro e w1 ⟨v1, rfl, hs1, hx⟩; obtain ⟨fid1, cap1, rfl⟩ := hs1.func (by omega); have cx1 := (hx.cell (p := ⟨bx, 0, none⟩) (World.block_lt_of_cell? _ _ cx)).trans cx; have ca1 := (hx.cell (p := ⟨ba, 0, none⟩) (World.block_lt_of_cell? _ _ ca)).trans ca; have HS1 := hide hs1; have HW1 := hide (HW0.out.trans (hx.mono HW0.out.size)); clear hs1 hx)
        | ((with_reducible refine Calls.mono (HP.out _ _ _ HS1.out) ?_); rintro e w2 ⟨v2, rfl, hm2, hx⟩; have HM2 := hide hm2; obtain ⟨fid2, cap2, rfl⟩ := hm2.form; have cx2 := (hx.cell (p := ⟨bx, 0, none⟩) (World.block_lt_of_cell? _ _ cx1)).trans cx1; have ca2 := (hx.cell (p := ⟨ba, 0, none⟩) (World.block_lt_of_cell? _ _ ca1)).trans ca1; have HW2 := hide (HW1.out.trans (hx.mono HW1.out.size)); clear hm2 hx))
    go_wp2_with fail
    go_ret
    exact ⟨_, rfl, HM2.out, HW2.out⟩

set_option maxHeartbeats 1000000 in
theorem h2_t3 (w : World) : T3 w (.func (.func 54) #[] #[]) (fun a b next => appM (appM a b) next) := by
  refine ⟨_, _, rfl, ent_h2, fun va vb vc a b c w' hw ha hb hc => ?_⟩
  have HA := hide ha
  have HB := hide hb
  have HC := hide hc
  obtain ⟨fida, capa, rfl⟩ := ha.form
  obtain ⟨fidb, capb, rfl⟩ := hb.form
  obtain ⟨fidc, capc, rfl⟩ := hc.form
  clear ha hb hc hw
  show Calls _ _ #[.func (.func fida) #[] capa, .func (.func fidb) #[] capb, .func (.func fidc) #[] capc] _ _
  go_enter Tryz.func54, Tryz.ntmps54
  go_wp2_with fail
  refine Calls.mono (makeApp_any _ _ _ _ _ HA.out HB.out) ?_
  rintro e w1 ⟨v1, rfl, hm1, hb1⟩
  have HM1 := hide hm1
  obtain ⟨fid1, cap1, rfl⟩ := hm1.form
  have HB1 := hide hb1
  clear hm1 hb1
  go_wp2_with fail
  refine Calls.mono (makeApp_any _ _ _ _ _ HM1.out (HC.out.below HB1.out)) ?_
  rintro e w2 ⟨v2, rfl, hm2, hb2⟩
  have HM2 := hide hm2
  obtain ⟨fid2, cap2, rfl⟩ := hm2.form
  have HB2 := hide hb2
  clear hm2 hb2
  go_wp2_with fail
  go_ret
  exact ⟨_, rfl, HM2.out, HB1.out.trans (HB2.out.mono HB1.out.size)⟩

set_option maxHeartbeats 1000000 in
theorem h3_t3 (w : World) : T3 w (.func (.func 56) #[] #[]) (fun a b next => appM next (addM a b)) := by
  refine ⟨_, _, rfl, ent_h3, fun va vb vc a b c w' hw ha hb hc => ?_⟩
  have HA := hide ha
  have HB := hide hb
  have HC := hide hc
  obtain ⟨fida, capa, rfl⟩ := ha.form
  obtain ⟨fidb, capb, rfl⟩ := hb.form
  obtain ⟨fidc, capc, rfl⟩ := hc.form
  clear ha hb hc hw
  show Calls _ _ #[.func (.func fida) #[] capa, .func (.func fidb) #[] capb, .func (.func fidc) #[] capc] _ _
  go_enter Tryz.func56, Tryz.ntmps56
  go_wp2_with fail
  refine Calls.mono (makeAdd_any _ _ _ _ _ HA.out HB.out) ?_
  rintro e w1 ⟨v1, rfl, hm1, hb1⟩
  have HM1 := hide hm1
  obtain ⟨fid1, cap1, rfl⟩ := hm1.form
  have HB1 := hide hb1
  clear hm1 hb1
  go_wp2_with fail
  refine Calls.mono (makeApp_any _ _ _ _ _ (HC.out.below HB1.out) HM1.out) ?_
  rintro e w2 ⟨v2, rfl, hm2, hb2⟩
  have HM2 := hide hm2
  obtain ⟨fid2, cap2, rfl⟩ := hm2.form
  have HB2 := hide hb2
  clear hm2 hb2
  go_wp2_with fail
  go_ret
  exact ⟨_, rfl, HM2.out, HB1.out.trans (HB2.out.mono HB1.out.size)⟩

set_option maxRecDepth 20000 in
set_option maxHeartbeats 8000000 in
theorem h4_t2 (bx ba : Nat) (T1 T2' : TypeId) (q1 q2 va : Value) (n : Int) (ρ : Int → M) (H1 H2 : (Int → M) → M) (w : World) (hbx : bx < w.heap.size) (hba : ba < w.heap.size) (hc1 : w.cell? ⟨bx, 1, none⟩ = some (.iface T1 q1)) (hc2 : w.cell? ⟨bx, 2, none⟩ = some (.iface T2' q2)) (hca : w.cell? ⟨ba, 0, none⟩ = some va) (hp1 : HdC (.iface T1 q1) n H1) (hp2 : HdC (.iface T2' q2) n H2) (ha : Sr n w va ρ) :
    T2 w (.func (.func 59) #[] #[.pointer (some ⟨bx, 0, none⟩), .pointer (some ⟨ba, 0, none⟩)]) (fun a next => ifM a (appM (H1 ρ) next) (appM (H2 ρ) next)) := by
  refine ⟨_, _, rfl, ent_h4, fun vs vn s m w' hw hs hm => ?_⟩
  have c1 := (hw.cell (p := ⟨bx, 1, none⟩) hbx).trans hc1
  have c2 := (hw.cell (p := ⟨bx, 2, none⟩) hbx).trans hc2
  have ca := (hw.cell (p := ⟨ba, 0, none⟩) hba).trans hca
  have HP1 := hide hp1
  have HP2 := hide hp2
  unfold HdC at HP1 HP2
  have HA := hide (ha.below hw)
  have HN := hide hm
  have HS := hide hs
  have HW0 := hide (belD w')
  obtain ⟨fidn, capn, rfl⟩ := hm.form
  obtain ⟨fids, caps, rfl⟩ := hs.form
  have hfa := ha.form
  clear hw hp1 hp2 ha hm hs hc1 hc2 hca
  show Calls _ _ #[.func (.func fids) #[] caps, .func (.func fidn) #[] capn, .pointer (some ⟨bx, 0, none⟩), .pointer (some ⟨ba, 0, none⟩)] _ _
  rcases hfa with rfl | ⟨fida, capa, rfl⟩
  · go_enter Tryz.func59, Tryz.ntmps59
    go_wp2_with fail
    go_region_held3 (fun w1 => w1.cell? ⟨bx, 1, none⟩ = some (.iface T1 q1) ∧ w1.cell? ⟨bx, 2, none⟩ = some (.iface T2' q2) ∧ w1.cell? ⟨ba, 0, none⟩ = some (.nilFunc)) (go_keep)
      (first
        | ((with_reducible refine Calls.mono (HP1.out _ _ _ (HA.out.below HW0.out)) ?_); rintro e w1 ⟨v1, rfl, hm, hx⟩; have HM1 := hide hm; obtain ⟨fid1, cap1, rfl⟩ := hm.form; have c1_1 := (hx.cell (p := ⟨bx, 1, none⟩) (World.block_lt_of_cell? _ _ c1)).trans c1; have c2_1 := (hx.cell (p := ⟨bx, 2, none⟩) (World.block_lt_of_cell? _ _ c2)).trans c2; have ca_1 := (hx.cell (p := ⟨ba, 0, none⟩) (World.block_lt_of_cell? _ _ ca)).trans ca; have HX1 := hide hx; have HW1 := hide (HW0.out.trans (hx.mono HW0.out.size)); clear hm hx)
        | ((with_reducible refine Calls.mono (makeApp_any (.func (.func fid1) #[] cap1) (.func (.func fidn) #[] capn) (H1 ρ) m _ HM1.out (HN.out.below HW1.out)) ?_); rintro e w2 ⟨v2, rfl, hm, hx⟩; have HM2 := hide hm; obtain ⟨fid2, cap2, rfl⟩ := hm.form; have c1_2 := (hx.cell (p := ⟨bx, 1, none⟩) (World.block_lt_of_cell? _ _ c1_1)).trans c1_1; have c2_2 := (hx.cell (p := ⟨bx, 2, none⟩) (World.block_lt_of_cell? _ _ c2_1)).trans c2_1; have ca_2 := (hx.cell (p := ⟨ba, 0, none⟩) (World.block_lt_of_cell? _ _ ca_1)).trans ca_1; have HX2 := hide hx; have HW2 := hide (HW1.out.trans (hx.mono HW1.out.size)); clear hm hx)
        | ((with_reducible refine Calls.mono (HP2.out _ _ _ (HA.out.below HW2.out)) ?_); rintro e w3 ⟨v3, rfl, hm, hx⟩; have HM3 := hide hm; obtain ⟨fid3, cap3, rfl⟩ := hm.form; have c1_3 := (hx.cell (p := ⟨bx, 1, none⟩) (World.block_lt_of_cell? _ _ c1_2)).trans c1_2; have c2_3 := (hx.cell (p := ⟨bx, 2, none⟩) (World.block_lt_of_cell? _ _ c2_2)).trans c2_2; have ca_3 := (hx.cell (p := ⟨ba, 0, none⟩) (World.block_lt_of_cell? _ _ ca_2)).trans ca_2; have HX3 := hide hx; have HW3 := hide (HW2.out.trans (hx.mono HW2.out.size)); clear hm hx)
        | ((with_reducible refine Calls.mono (makeApp_any (.func (.func fid3) #[] cap3) (.func (.func fidn) #[] capn) (H2 ρ) m _ HM3.out (HN.out.below HW3.out)) ?_); rintro e w4 ⟨v4, rfl, hm, hx⟩; have HM4 := hide hm; obtain ⟨fid4, cap4, rfl⟩ := hm.form; have c1_4 := (hx.cell (p := ⟨bx, 1, none⟩) (World.block_lt_of_cell? _ _ c1_3)).trans c1_3; have c2_4 := (hx.cell (p := ⟨bx, 2, none⟩) (World.block_lt_of_cell? _ _ c2_3)).trans c2_3; have ca_4 := (hx.cell (p := ⟨ba, 0, none⟩) (World.block_lt_of_cell? _ _ ca_3)).trans ca_3; have HX4 := hide hx; have HW4 := hide (HW3.out.trans (hx.mono HW3.out.size)); clear hm hx)
        | ((with_reducible refine Calls.mono (makeIf_any _ _ _ _ _ _ _ (HS.out.below HW4.out) ((HM2.out.below HX3.out).below HX4.out) HM4.out) ?_); rintro e w5 ⟨v5, rfl, hm, hx⟩; have HM5 := hide hm; obtain ⟨fid5, cap5, rfl⟩ := hm.form; have c1_5 := (hx.cell (p := ⟨bx, 1, none⟩) (World.block_lt_of_cell? _ _ c1_4)).trans c1_4; have c2_5 := (hx.cell (p := ⟨bx, 2, none⟩) (World.block_lt_of_cell? _ _ c2_4)).trans c2_4; have ca_5 := (hx.cell (p := ⟨ba, 0, none⟩) (World.block_lt_of_cell? _ _ ca_4)).trans ca_4; have HX5 := hide hx; have HW5 := hide (HW4.out.trans (hx.mono HW4.out.size)); clear hm hx))
    go_wp2_with fail
    go_ret
    exact ⟨_, rfl, HM5.out, HW5.out⟩
  · go_enter Tryz.func59, Tryz.ntmps59
    go_wp2_with fail
    go_region_held3 (fun w1 => w1.cell? ⟨bx, 1, none⟩ = some (.iface T1 q1) ∧ w1.cell? ⟨bx, 2, none⟩ = some (.iface T2' q2) ∧ w1.cell? ⟨ba, 0, none⟩ = some (.func (.func fida) #[] capa)) (go_keep)
      (first
        | ((with_reducible refine Calls.mono (HP1.out _ _ _ (HA.out.below HW0.out)) ?_); rintro e w1 ⟨v1, rfl, hm, hx⟩; have HM1 := hide hm; obtain ⟨fid1, cap1, rfl⟩ := hm.form; have c1_1 := (hx.cell (p := ⟨bx, 1, none⟩) (World.block_lt_of_cell? _ _ c1)).trans c1; have c2_1 := (hx.cell (p := ⟨bx, 2, none⟩) (World.block_lt_of_cell? _ _ c2)).trans c2; have ca_1 := (hx.cell (p := ⟨ba, 0, none⟩) (World.block_lt_of_cell? _ _ ca)).trans ca; have HX1 := hide hx; have HW1 := hide (HW0.out.trans (hx.mono HW0.out.size)); clear hm hx)
        | ((with_reducible refine Calls.mono (makeApp_any (.func (.func fid1) #[] cap1) (.func (.func fidn) #[] capn) (H1 ρ) m _ HM1.out (HN.out.below HW1.out)) ?_); rintro e w2 ⟨v2, rfl, hm, hx⟩; have HM2 := hide hm; obtain ⟨fid2, cap2, rfl⟩ := hm.form; have c1_2 := (hx.cell (p := ⟨bx, 1, none⟩) (World.block_lt_of_cell? _ _ c1_1)).trans c1_1; have c2_2 := (hx.cell (p := ⟨bx, 2, none⟩) (World.block_lt_of_cell? _ _ c2_1)).trans c2_1; have ca_2 := (hx.cell (p := ⟨ba, 0, none⟩) (World.block_lt_of_cell? _ _ ca_1)).trans ca_1; have HX2 := hide hx; have HW2 := hide (HW1.out.trans (hx.mono HW1.out.size)); clear hm hx)
        | ((with_reducible refine Calls.mono (HP2.out _ _ _ (HA.out.below HW2.out)) ?_); rintro e w3 ⟨v3, rfl, hm, hx⟩; have HM3 := hide hm; obtain ⟨fid3, cap3, rfl⟩ := hm.form; have c1_3 := (hx.cell (p := ⟨bx, 1, none⟩) (World.block_lt_of_cell? _ _ c1_2)).trans c1_2; have c2_3 := (hx.cell (p := ⟨bx, 2, none⟩) (World.block_lt_of_cell? _ _ c2_2)).trans c2_2; have ca_3 := (hx.cell (p := ⟨ba, 0, none⟩) (World.block_lt_of_cell? _ _ ca_2)).trans ca_2; have HX3 := hide hx; have HW3 := hide (HW2.out.trans (hx.mono HW2.out.size)); clear hm hx)
        | ((with_reducible refine Calls.mono (makeApp_any (.func (.func fid3) #[] cap3) (.func (.func fidn) #[] capn) (H2 ρ) m _ HM3.out (HN.out.below HW3.out)) ?_); rintro e w4 ⟨v4, rfl, hm, hx⟩; have HM4 := hide hm; obtain ⟨fid4, cap4, rfl⟩ := hm.form; have c1_4 := (hx.cell (p := ⟨bx, 1, none⟩) (World.block_lt_of_cell? _ _ c1_3)).trans c1_3; have c2_4 := (hx.cell (p := ⟨bx, 2, none⟩) (World.block_lt_of_cell? _ _ c2_3)).trans c2_3; have ca_4 := (hx.cell (p := ⟨ba, 0, none⟩) (World.block_lt_of_cell? _ _ ca_3)).trans ca_3; have HX4 := hide hx; have HW4 := hide (HW3.out.trans (hx.mono HW3.out.size)); clear hm hx)
        | ((with_reducible refine Calls.mono (makeIf_any _ _ _ _ _ _ _ (HS.out.below HW4.out) ((HM2.out.below HX3.out).below HX4.out) HM4.out) ?_); rintro e w5 ⟨v5, rfl, hm, hx⟩; have HM5 := hide hm; obtain ⟨fid5, cap5, rfl⟩ := hm.form; have c1_5 := (hx.cell (p := ⟨bx, 1, none⟩) (World.block_lt_of_cell? _ _ c1_4)).trans c1_4; have c2_5 := (hx.cell (p := ⟨bx, 2, none⟩) (World.block_lt_of_cell? _ _ c2_4)).trans c2_4; have ca_5 := (hx.cell (p := ⟨ba, 0, none⟩) (World.block_lt_of_cell? _ _ ca_4)).trans ca_4; have HX5 := hide hx; have HW5 := hide (HW4.out.trans (hx.mono HW4.out.size)); clear hm hx))
    go_wp2_with fail
    go_ret
    exact ⟨_, rfl, HM5.out, HW5.out⟩

set_option maxRecDepth 20000 in
set_option maxHeartbeats 8000000 in
theorem h5_t2 (bx ba : Nat) (T : TypeId) (q va : Value) (n : Int) (ρ : Int → M) (H : (Int → M) → M) (w : World) (h0n : 0 ≤ n) (hn : n ≤ 1000000) (hbx : bx < w.heap.size) (hba : ba < w.heap.size) (hc1 : w.cell? ⟨bx, 1, none⟩ = some (.iface T q)) (hca : w.cell? ⟨ba, 0, none⟩ = some va) (hp : HdC (.iface T q) (n + 1) H) (ha : Sr n w va ρ) :
    T2 w (.func (.func 61) #[] #[.pointer (some ⟨bx, 0, none⟩), .pointer (some ⟨ba, 0, none⟩)]) (fun a next => appM (H (extM ρ a)) next) := by
  refine ⟨_, _, rfl, ent_h5, fun vs vn s m w' hw hs hm => ?_⟩
  have c1 := (hw.cell (p := ⟨bx, 1, none⟩) hbx).trans hc1
  have ca := (hw.cell (p := ⟨ba, 0, none⟩) hba).trans hca
  have HP := hide hp
  unfold HdC at HP
  have HA := hide (ha.below hw)
  have HN := hide hm
  have HS := hide hs
  have HW0 := hide (belD w')
  obtain ⟨fidn, capn, rfl⟩ := hm.form
  obtain ⟨fids, caps, rfl⟩ := hs.form
  have hfa := ha.form
  clear hw hp ha hm hs hc1 hca
  show Calls _ _ #[.func (.func fids) #[] caps, .func (.func fidn) #[] capn, .pointer (some ⟨bx, 0, none⟩), .pointer (some ⟨ba, 0, none⟩)] _ _
  rcases hfa with rfl | ⟨fida, capa, rfl⟩
  · go_enter Tryz.func61, Tryz.ntmps61
    go_wp2_with fail
    go_region_held3 (fun w1 => w1.cell? ⟨bx, 1, none⟩ = some (.iface T q) ∧ w1.cell? ⟨ba, 0, none⟩ = some (.nilFunc)) (go_keep)
      (first
        | ((with_reducible refine Calls.mono (with_any _ _ s n ρ _ hn (HS.out.below HW0.out) (HA.out.below HW0.out)) ?_); rintro e w1 ⟨v1, rfl, hm, hx⟩; have HM1 := hide hm; obtain ⟨fid1, cap1, rfl⟩ := hm.func (by omega); have c1_1 := (hx.cell (p := ⟨bx, 1, none⟩) (World.block_lt_of_cell? _ _ c1)).trans c1; have ca_1 := (hx.cell (p := ⟨ba, 0, none⟩) (World.block_lt_of_cell? _ _ ca)).trans ca; have HX1 := hide hx; have HW1 := hide (HW0.out.trans (hx.mono HW0.out.size)); clear hm hx)
        | ((with_reducible refine Calls.mono (HP.out _ _ _ HM1.out) ?_); rintro e w2 ⟨v2, rfl, hm, hx⟩; have HM2 := hide hm; obtain ⟨fid2, cap2, rfl⟩ := hm.form; have c1_2 := (hx.cell (p := ⟨bx, 1, none⟩) (World.block_lt_of_cell? _ _ c1_1)).trans c1_1; have ca_2 := (hx.cell (p := ⟨ba, 0, none⟩) (World.block_lt_of_cell? _ _ ca_1)).trans ca_1; have HX2 := hide hx; have HW2 := hide (HW1.out.trans (hx.mono HW1.out.size)); clear hm hx)
        | ((with_reducible refine Calls.mono (makeApp_any _ _ _ _ _ HM2.out (HN.out.below HW2.out)) ?_); rintro e w3 ⟨v3, rfl, hm, hx⟩; have HM3 := hide hm; obtain ⟨fid3, cap3, rfl⟩ := hm.form; have c1_3 := (hx.cell (p := ⟨bx, 1, none⟩) (World.block_lt_of_cell? _ _ c1_2)).trans c1_2; have ca_3 := (hx.cell (p := ⟨ba, 0, none⟩) (World.block_lt_of_cell? _ _ ca_2)).trans ca_2; have HX3 := hide hx; have HW3 := hide (HW2.out.trans (hx.mono HW2.out.size)); clear hm hx))
    go_wp2_with fail
    go_ret
    exact ⟨_, rfl, HM3.out, HW3.out⟩
  · go_enter Tryz.func61, Tryz.ntmps61
    go_wp2_with fail
    go_region_held3 (fun w1 => w1.cell? ⟨bx, 1, none⟩ = some (.iface T q) ∧ w1.cell? ⟨ba, 0, none⟩ = some (.func (.func fida) #[] capa)) (go_keep)
      (first
        | ((with_reducible refine Calls.mono (with_any _ _ s n ρ _ hn (HS.out.below HW0.out) (HA.out.below HW0.out)) ?_); rintro e w1 ⟨v1, rfl, hm, hx⟩; have HM1 := hide hm; obtain ⟨fid1, cap1, rfl⟩ := hm.func (by omega); have c1_1 := (hx.cell (p := ⟨bx, 1, none⟩) (World.block_lt_of_cell? _ _ c1)).trans c1; have ca_1 := (hx.cell (p := ⟨ba, 0, none⟩) (World.block_lt_of_cell? _ _ ca)).trans ca; have HX1 := hide hx; have HW1 := hide (HW0.out.trans (hx.mono HW0.out.size)); clear hm hx)
        | ((with_reducible refine Calls.mono (HP.out _ _ _ HM1.out) ?_); rintro e w2 ⟨v2, rfl, hm, hx⟩; have HM2 := hide hm; obtain ⟨fid2, cap2, rfl⟩ := hm.form; have c1_2 := (hx.cell (p := ⟨bx, 1, none⟩) (World.block_lt_of_cell? _ _ c1_1)).trans c1_1; have ca_2 := (hx.cell (p := ⟨ba, 0, none⟩) (World.block_lt_of_cell? _ _ ca_1)).trans ca_1; have HX2 := hide hx; have HW2 := hide (HW1.out.trans (hx.mono HW1.out.size)); clear hm hx)
        | ((with_reducible refine Calls.mono (makeApp_any _ _ _ _ _ HM2.out (HN.out.below HW2.out)) ?_); rintro e w3 ⟨v3, rfl, hm, hx⟩; have HM3 := hide hm; obtain ⟨fid3, cap3, rfl⟩ := hm.form; have c1_3 := (hx.cell (p := ⟨bx, 1, none⟩) (World.block_lt_of_cell? _ _ c1_2)).trans c1_2; have ca_3 := (hx.cell (p := ⟨ba, 0, none⟩) (World.block_lt_of_cell? _ _ ca_2)).trans ca_2; have HX3 := hide hx; have HW3 := hide (HW2.out.trans (hx.mono HW2.out.size)); clear hm hx))
    go_wp2_with fail
    go_ret
    exact ⟨_, rfl, HM3.out, HW3.out⟩

set_option maxHeartbeats 1000000 in
theorem h6_mk (b : Nat) (a : F) (ha : a.len = 1) (w : World) (hb : b < w.heap.size) (hc : w.cell? ⟨b, 0, none⟩ = some (pvT a)) : Mk w (.func (.func 62) #[] #[.pointer (some ⟨b, 0, none⟩)]) (fun _ => a) := by
  refine ⟨_, _, rfl, ent_h6, fun _ => ha, fun u w' hw => ?_⟩
  have c := (hw.cell (p := ⟨b, 0, none⟩) hb).trans hc
  obtain ⟨T, q, hT⟩ := pvT_iface ha
  rw [hT] at c ⊢
  clear hc hw hT
  show Calls _ _ #[.int .i64 u, .pointer (some ⟨b, 0, none⟩)] _ _
  go_enter Tryz.func62, Tryz.ntmps62
  go_wp2_with fail
  go_ret
  exact ⟨rfl, Below.refl _ _⟩
end Go.Proofs.YtnmkbpflbfhpnaaGreat.W
