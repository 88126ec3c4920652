/-
  Some texts of this proof in one: TeH, MaP, RwG.
-/
import Derived.Test.YtdajalchdbgooaaJ04
import Derived.Test.YtdajalchdbgooaaJ00
import Derived.Laws.MakeOwn
import Derived.Laws.AppendOwn
import Derived.Deep.Slices
import Derived.Lib.SmallJoins
import Derived.ChangeOld
/-
  The program's marks and the specification's list tell the same variables. No program here.
-/
namespace Go.Proofs.Ytdajalchdbgooaa.W
set_option linter.unusedVariables false

theorem mkd_lt (s : List Bool) (j : Nat) : ∀ x ∈ mkd s j, x < (j : Int) := by
  intro x hx
  unfold mkd at hx
  obtain ⟨i, hi, rfl⟩ := List.mem_map.1 hx
  have := List.mem_range.1 (List.mem_filter.1 hi).1
  show (i : Int) < (j : Int)
  omega
theorem putAt_all {l : List Int} {n : Int} (h : ∀ x ∈ l, x < n) (r : List Int) (hr : ∀ x, r[0]? = some x → ¬ x < n) : putAt (l ++ r) n = l.length := by
  refine putAt_is (by simp) (fun i hi hlt => ?_) (fun hlt => ?_)
  · rw [List.getElem_append_left hlt]; exact h _ (List.getElem_mem hlt)
  · rw [List.getElem_append_right (Nat.le_refl _)]
    refine hr _ ?_
    rw [List.getElem?_eq_getElem (by simp at hlt ⊢; omega)]
    simp
theorem put_snoc {l : List Int} {n m : Int} (h : n < m) (hl : ∀ x ∈ l, x < m) : put (l ++ [m]) n = put l n ++ [m] := by
  have hle := putAt_le l n
  have hp : putAt (l ++ [m]) n = putAt l n := by
    refine putAt_is (by simp; omega) (fun i hi hlt => ?_) (fun hlt => ?_)
    · rw [List.getElem_append_left (by omega)]; exact putAt_lt l n i hlt
    · by_cases hlt2 : putAt l n < l.length
      · rw [List.getElem_append_left hlt2]; exact putAt_ge l n hlt2
      · rw [List.getElem_append_right (by omega)]; simp; omega
  unfold put
  rw [hp]
  by_cases hlt2 : putAt l n < l.length
  · rw [List.getElem?_append_left hlt2]
    split
    · rfl
    · rw [List.take_append_of_le_length hle, List.drop_append_of_le_length hle]; simp
  · have he : putAt l n = l.length := by omega
    rw [he, List.getElem?_append_right (Nat.le_refl _), List.getElem?_eq_none (Nat.le_refl _)]
    have hmn : m ≠ n := by omega
    simp [hmn]
theorem set_getD_ne (s : List Bool) (j i : Nat) (h : i ≠ j) : (s.set j true).getD i false = s.getD i false := by
  simp [List.getD, Ne.symm h]
theorem set_getD_eq (s : List Bool) (j : Nat) (h : j < s.length) : (s.set j true).getD j false = true := by
  simp [List.getD, h]
theorem mkd_set_below (s : List Bool) (j : Nat) : ∀ m, m ≤ j → mkd (s.set j true) m = mkd s m
  | 0, _ => rfl
  | m + 1, h => by rw [mkd_succ, mkd_succ, mkd_set_below s j m (by omega), set_getD_ne s j m (by omega)]
theorem mkd_set (s : List Bool) (j : Nat) (hj : j < s.length) : ∀ m, j < m → mkd (s.set j true) m = put (mkd s m) (j : Int)
  | 0, h => by omega
  | m + 1, h => by
    by_cases e : m = j
    · subst e
      rw [mkd_succ, mkd_set_below s m m (Nat.le_refl _), set_getD_eq s m hj, if_pos rfl, mkd_succ]
      split
      · unfold put
        rw [putAt_all (mkd_lt s m) [(m : Int)] (fun x hx => by simp at hx; omega), List.getElem?_append_right (Nat.le_refl _)]
        simp
      · have hp := putAt_all (mkd_lt s m) [] (fun x hx => by cases hx)
        rw [List.append_nil] at hp
        unfold put
        rw [hp, List.getElem?_eq_none (Nat.le_refl _)]
        simp
    · rw [mkd_succ, mkd_succ, mkd_set s j hj m (by omega), set_getD_ne s j m e]
      split
      · exact (put_snoc (by omega) (mkd_lt s m)).symm
      · rfl

theorem bitS_mkd (s : List Bool) (hs : s.length = 100) (n : Int) (d : Nat) (hn : n ≤ 99) : mkd (bitS s n d) 100 = if (d : Int) ≤ n then put (mkd s 100) (n - (d : Int)) else mkd s 100 := by
  unfold bitS
  by_cases hd : (d : Int) ≤ n
  · rw [if_pos hd, if_pos hd]
    obtain ⟨j, hj⟩ := Int.eq_ofNat_of_zero_le (show 0 ≤ n - (d : Int) by omega)
    rw [hj, Int.toNat_natCast]
    exact mkd_set s j (by omega) 100 (by omega)
  · rw [if_neg hd, if_neg hd]

theorem bits_fre : ∀ (a : F) (pk : Int) (d i : Nat) (s : {s : List Bool // s.length = 100}), a.ok →
    mkd (wv (fun (s : {s : List Bool // s.length = 100}) n d => sameV s.1 n d) (fun s n d => ⟨bitS s.1 n d, by unfold bitS; split <;> simp [s.2]⟩) pk d i a s).2.1 100 = fre pk d i a (mkd s.1 100)
  | .nil, _, _, _, _, _ => rfl
  | .cons x k r, pk, d, i, s, h => by
    obtain ⟨g1, l1, o1, r1⟩ := ok_cons h
    by_cases hx : x.k = 1
    · have hk0 : k = .nil := F.len_0 (by rw [l1, hx]; rfl)
      have hn : 0 ≤ x.n ∧ x.n ≤ 99 := by
        unfold goodC at g1
        rw [if_pos hx] at g1
        simpa [inB] using g1
      simp only [wv, hx, if_true]
      rw [bits_fre r pk d (i + 1) _ r1, fre_cons]
      congr 1
      show mkd (bitS s.1 x.n (d + binds pk i)) 100 = fr1 (d + binds pk i) x k (mkd s.1 100)
      rw [bitS_mkd s.1 s.2 x.n _ hn.2]
      unfold fr1
      by_cases hd : ((d + binds pk i : Nat) : Int) ≤ x.n
      · rw [if_pos hd, if_pos ⟨hx, hd⟩]
      · rw [if_neg hd, if_neg (fun hc => hd hc.2), hk0]
        rfl
    · simp only [wv, hx, if_false]
      rw [bits_fre r pk d (i + 1) _ r1, bits_fre k x.k (d + binds pk i) 0 s o1, fre_cons]
      congr 1
      unfold fr1
      rw [if_neg (fun hc => hx hc.1)]

theorem mkd_none : ∀ m, mkd (List.replicate 100 false) m = []
  | 0 => rfl
  | m + 1 => by
    rw [mkd_succ, mkd_none m, if_neg]
    simp only [List.getD, List.getElem?_replicate]
    split <;> simp
theorem marked_bits (x : Cc) (k : F) (h : (F.cons x k .nil).ok) : marked (bits x k) = fr1 0 x k [] := by
  unfold marked bits w1
  rw [bits_fre _ _ _ _ _ h, mkd_none, fre_cons]
  rfl
end Go.Proofs.Ytdajalchdbgooaa.W

/-
  The places of a term: the cell, how many are bound around, the kids, and where they stand; closed terms. No program here.
-/
namespace Go.Proofs.Ytdajalchdbgooaa.W
set_option linter.unusedVariables false

/-- The places of terms one behind the other: cell, how many are bound around, the kids. -/
def nd (pk : Int) (d : Nat) : Nat → F → List (Cc × Nat × F)
  | _, .nil => []
  | i, .cons x k r => (x, d + binds pk i, k) :: (nd x.k (d + binds pk i) 0 k ++ nd pk d (i + 1) r)
theorem nd_len : ∀ (a : F) (pk : Int) (d i : Nat), (nd pk d i a).length = a.flat.length
  | .nil, _, _, _ => rfl
  | .cons x k r, pk, d, i => by simp [nd, F.flat, nd_len k, nd_len r]
/-- How far behind the first one the kid of this number stands. -/
def ko : F → Nat → Nat
  | .nil, _ => 0
  | .cons _ _ _, 0 => 0
  | .cons _ k r, j + 1 => 1 + k.flat.length + ko r j
def kth : F → Nat → Option (Cc × F)
  | .nil, _ => none
  | .cons x k _, 0 => some (x, k)
  | .cons _ _ r, j + 1 => kth r j
theorem kth_lt : ∀ (a : F) (j : Nat), j < a.len → ∃ p, kth a j = some p
  | .nil, j, h => by simp [F.len] at h
  | .cons x k r, 0, _ => ⟨_, rfl⟩
  | .cons x k r, j + 1, h => kth_lt r j (by simp [F.len] at h; omega)
theorem ko_0 (a : F) : ko a 0 = 0 := by cases a <;> rfl
theorem ko_succ : ∀ (a : F) (j : Nat) (x : Cc) (k : F), kth a j = some (x, k) → ko a (j + 1) = ko a j + 1 + k.flat.length
  | .nil, j, x, k, h => by simp [kth] at h
  | .cons y l r, 0, x, k, h => by
    simp only [kth, Option.some.injEq, Prod.mk.injEq] at h
    simp [ko, ko_0, h.2]
  | .cons y l r, j + 1, x, k, h => by
    have := ko_succ r j x k h
    simp only [ko] at this ⊢
    omega
theorem ko_len : ∀ (a : F), ko a a.len = a.flat.length
  | .nil => rfl
  | .cons y l r => by simp [F.len, ko, ko_len r, F.flat]; omega
theorem ko_lt : ∀ (a : F) (j : Nat), j < a.len → ko a j < a.flat.length
  | .nil, j, h => by simp [F.len] at h
  | .cons y l r, 0, h => by simp [ko, F.flat]
  | .cons y l r, j + 1, h => by have := ko_lt r j (by simp [F.len] at h; omega); simp [ko, F.flat]; omega
theorem ko_mono (a : F) (j : Nat) (h : j ≤ a.len) : ko a j ≤ a.flat.length := by
  by_cases e : j = a.len
  · rw [e, ko_len]; exact Nat.le_refl _
  · have := ko_lt a j (by omega); omega
theorem nd_kth : ∀ (a : F) (pk : Int) (d i j : Nat) (x : Cc) (k : F), kth a j = some (x, k) → (nd pk d i a)[ko a j]? = some (x, d + binds pk (i + j), k)
  | .nil, _, _, _, j, x, k, h => by simp [kth] at h
  | .cons y l r, pk, d, i, 0, x, k, h => by
    simp only [kth, Option.some.injEq, Prod.mk.injEq] at h
    obtain ⟨rfl, rfl⟩ := h
    simp [nd, ko]
  | .cons y l r, pk, d, i, j + 1, x, k, h => by
    have := nd_kth r pk d (i + 1) j x k h
    simp only [nd, ko]
    rw [show 1 + l.flat.length + ko r j = (l.flat.length + ko r j) + 1 by omega, List.getElem?_cons_succ, List.getElem?_append_right (by rw [nd_len]; omega), nd_len, Nat.add_sub_cancel_left, this, show i + 1 + j = i + (j + 1) by omega]
theorem nd_kid : ∀ (a : F) (pk : Int) (d i p : Nat) (x : Cc) (e : Nat) (k : F) (j : Nat) (y : Cc) (l : F), (nd pk d i a)[p]? = some (x, e, k) → kth k j = some (y, l) → (nd pk d i a)[p + 1 + ko k j]? = some (y, e + binds x.k j, l)
  | .nil, _, _, _, p, x, e, k, j, y, l, h, _ => by simp [nd] at h
  | .cons z m r, pk, d, i, 0, x, e, k, j, y, l, h, hk => by
    simp only [nd, List.getElem?_cons_zero, Option.some.injEq, Prod.mk.injEq] at h
    obtain ⟨rfl, rfl, rfl⟩ := h
    have h1 := nd_kth m z.k (d + binds pk i) 0 j y l hk
    rw [Nat.zero_add] at h1
    have hlt : ko m j < (nd z.k (d + binds pk i) 0 m).length := (List.getElem?_eq_some_iff.1 h1).1
    simp only [nd]
    rw [show 0 + 1 + ko m j = ko m j + 1 by omega, List.getElem?_cons_succ, List.getElem?_append_left hlt, h1]
  | .cons z m r, pk, d, i, p + 1, x, e, k, j, y, l, h, hk => by
    simp only [nd, List.getElem?_cons_succ] at h ⊢
    rw [show p + 1 + 1 + ko k j = (p + 1 + ko k j) + 1 by omega, List.getElem?_cons_succ]
    by_cases hp : p < (nd z.k (d + binds pk i) 0 m).length
    · rw [List.getElem?_append_left hp] at h
      have h1 := nd_kid m _ _ _ p x e k j y l h hk
      have hlt := (List.getElem?_eq_some_iff.1 h1).1
      rw [List.getElem?_append_left hlt, h1]
    · rw [List.getElem?_append_right (by omega)] at h
      have h1 := nd_kid r _ _ _ _ x e k j y l h hk
      rw [List.getElem?_append_right (by omega), ← h1]
      congr 1
      omega
theorem nd_cell : ∀ (a : F) (pk : Int) (d i p : Nat) (x : Cc) (e : Nat) (k : F), (nd pk d i a)[p]? = some (x, e, k) → a.flat[p]? = some x
  | .nil, _, _, _, p, x, e, k, h => by simp [nd] at h
  | .cons z m r, pk, d, i, 0, x, e, k, h => by
    simp only [nd, List.getElem?_cons_zero, Option.some.injEq, Prod.mk.injEq] at h
    simp [F.flat, h.1]
  | .cons z m r, pk, d, i, p + 1, x, e, k, h => by
    simp only [nd, F.flat, List.getElem?_cons_succ] at h ⊢
    by_cases hp : p < (nd z.k (d + binds pk i) 0 m).length
    · rw [List.getElem?_append_left hp] at h
      rw [List.getElem?_append_left (by rwa [nd_len] at hp)]
      exact nd_cell m _ _ _ p x e k h
    · rw [List.getElem?_append_right (by omega), nd_len] at h
      rw [List.getElem?_append_right (by rw [nd_len] at hp; omega)]
      exact nd_cell r _ _ _ _ x e k h
/-- What stands at a place: its cell, its kids, and something behind them. -/
theorem nd_drop : ∀ (a : F) (pk : Int) (d i p : Nat) (x : Cc) (e : Nat) (k : F), (nd pk d i a)[p]? = some (x, e, k) → ∃ r, a.flat.drop p = x :: (k.flat ++ r)
  | .nil, _, _, _, p, x, e, k, h => by simp [nd] at h
  | .cons z m r, pk, d, i, 0, x, e, k, h => by
    simp only [nd, List.getElem?_cons_zero, Option.some.injEq, Prod.mk.injEq] at h
    obtain ⟨rfl, rfl, rfl⟩ := h
    exact ⟨r.flat, by simp [F.flat]⟩
  | .cons z m r, pk, d, i, p + 1, x, e, k, h => by
    simp only [nd, List.getElem?_cons_succ] at h
    by_cases hp : p < (nd z.k (d + binds pk i) 0 m).length
    · rw [List.getElem?_append_left hp] at h
      rw [nd_len] at hp
      obtain ⟨q, hq⟩ := nd_drop m _ _ _ p x e k h
      refine ⟨q ++ r.flat, ?_⟩
      simp only [F.flat, List.drop_succ_cons]
      rw [List.drop_append_of_le_length (by omega), hq]; simp
    · rw [List.getElem?_append_right (by omega), nd_len] at h
      rw [nd_len] at hp
      obtain ⟨q, hq⟩ := nd_drop r _ _ _ _ x e k h
      refine ⟨q, ?_⟩
      simp only [F.flat, List.drop_succ_cons]
      rw [List.drop_append, List.drop_eq_nil_of_le (by omega), List.nil_append, hq]
theorem nd_ok : ∀ (a : F) (pk : Int) (d i p : Nat) (x : Cc) (e : Nat) (k : F), a.ok → (nd pk d i a)[p]? = some (x, e, k) → goodC x = true ∧ k.len = ar x.k ∧ k.ok
  | .nil, _, _, _, p, x, e, k, _, h => by simp [nd] at h
  | .cons z m r, pk, d, i, 0, x, e, k, ⟨h1, h2, h3, h4⟩, h => by
    simp only [nd, List.getElem?_cons_zero, Option.some.injEq, Prod.mk.injEq] at h
    obtain ⟨rfl, rfl, rfl⟩ := h
    exact ⟨h1, h2, h3⟩
  | .cons z m r, pk, d, i, p + 1, x, e, k, ⟨h1, h2, h3, h4⟩, h => by
    simp only [nd, List.getElem?_cons_succ] at h
    by_cases hp : p < (nd z.k (d + binds pk i) 0 m).length
    · rw [List.getElem?_append_left hp] at h
      exact nd_ok m _ _ _ p x e k h3 h
    · rw [List.getElem?_append_right (by omega)] at h
      exact nd_ok r _ _ _ _ x e k h4 h
theorem nd_vars : ∀ (a : F) (pk : Int) (d i p : Nat) (x : Cc) (e : Nat) (k : F), (nd pk d i a)[p]? = some (x, e, k) → e ≤ d + a.flat.length
  | .nil, _, _, _, p, x, e, k, h => by simp [nd] at h
  | .cons z m r, pk, d, i, 0, x, e, k, h => by
    simp only [nd, List.getElem?_cons_zero, Option.some.injEq, Prod.mk.injEq] at h
    have : binds pk i ≤ 1 := by unfold binds; split <;> omega
    simp [F.flat]; omega
  | .cons z m r, pk, d, i, p + 1, x, e, k, h => by
    simp only [nd, List.getElem?_cons_succ] at h
    have hb : binds pk i ≤ 1 := by unfold binds; split <;> omega
    by_cases hp : p < (nd z.k (d + binds pk i) 0 m).length
    · rw [List.getElem?_append_left hp] at h
      have := nd_vars m _ _ _ p x e k h
      simp [F.flat]; omega
    · rw [List.getElem?_append_right (by omega)] at h
      have := nd_vars r _ _ _ _ x e k h
      simp [F.flat]; omega

theorem put_ne (l : List Int) (n : Int) : put l n ≠ [] := by
  unfold put
  split
  · rename_i h; intro e; rw [e] at h; simp at h
  · simp
theorem fre_ne : ∀ (a : F) (pk : Int) (d i : Nat) (o : List Int), o ≠ [] → fre pk d i a o ≠ []
  | .nil, _, _, _, o, h => h
  | .cons x k r, pk, d, i, o, h => by
    rw [fre]
    refine fre_ne r _ _ _ _ ?_
    split
    · exact put_ne _ _
    · exact fre_ne k _ _ _ _ h
/-- In a term with no free variables each variable is bound. -/
theorem nd_bound : ∀ (a : F) (pk : Int) (d i p : Nat) (x : Cc) (e : Nat) (k : F), a.ok → fre pk d i a [] = [] → (nd pk d i a)[p]? = some (x, e, k) → x.k = 1 → 0 ≤ x.n ∧ x.n < (e : Int)
  | .nil, _, _, _, p, x, e, k, _, _, h, _ => by simp [nd] at h
  | .cons z m r, pk, d, i, p, x, e, k, ⟨h1, h2, h3, h4⟩, hf, h, hx => by
    rw [fre] at hf
    have hin : (if z.k = 1 ∧ ((d + binds pk i : Nat) : Int) ≤ z.n then put [] (z.n - ((d + binds pk i : Nat) : Int)) else fre z.k (d + binds pk i) 0 m []) = [] := by
      apply Classical.byContradiction
      intro hne
      exact fre_ne r _ _ _ _ hne hf
    rw [hin] at hf
    by_cases hz : z.k = 1 ∧ ((d + binds pk i : Nat) : Int) ≤ z.n
    · rw [if_pos hz] at hin; exact absurd hin (put_ne _ _)
    · rw [if_neg hz] at hin
      match p, h with
      | 0, h =>
        simp only [nd, List.getElem?_cons_zero, Option.some.injEq, Prod.mk.injEq] at h
        obtain ⟨rfl, rfl, rfl⟩ := h
        refine ⟨?_, by omega⟩
        unfold goodC at h1
        rw [if_pos hx] at h1
        simp [inB] at h1; omega
      | p + 1, h =>
        simp only [nd, List.getElem?_cons_succ] at h
        by_cases hp : p < (nd z.k (d + binds pk i) 0 m).length
        · rw [List.getElem?_append_left hp] at h
          exact nd_bound m _ _ _ p x e k h3 hin h hx
        · rw [List.getElem?_append_right (by omega)] at h
          exact nd_bound r _ _ _ _ x e k h4 hf h hx

/-- A good term without free variables, as a tree. -/
def closedT (l : List Cc) : Option F := match treeT l with | some a => if freT a = [] then some a else none | none => none
/-- The places of a term. -/
def ndT (a : F) : List (Cc × Nat × F) := nd 0 0 0 a
/-- What is known of a closed term's places. -/
structure Cl (l : List Cc) (a : F) : Prop where
  flat : l = a.flat
  ok : a.ok
  one : a.len = 1
  le : l.length ≤ 600
  free : fre 0 0 0 a [] = []
theorem binds_0' (i : Nat) : binds 0 i = 0 := by unfold binds; rw [if_neg (by omega)]
theorem closedT_some {l : List Cc} {a : F} (h : closedT l = some a) : Cl l a ∧ treeT l = some a ∧ freT a = [] := by
  unfold closedT at h
  cases ht : treeT l with
  | none => rw [ht] at h; cases h
  | some b =>
    rw [ht] at h
    simp only at h
    by_cases hf : freT b = []
    · rw [if_pos hf] at h
      obtain rfl : b = a := by simpa using h
      obtain ⟨t1, t2, t3, t4, -⟩ := treeT_flat ht
      refine ⟨⟨t1, t2, t3, t4, ?_⟩, rfl, hf⟩
      obtain ⟨x, k, rfl⟩ := F.len_1 t3
      rw [fre_cons]
      simp only [fre, binds_0', Nat.add_zero]
      exact hf
    · rw [if_neg hf] at h; cases h
theorem Cl.len {l : List Cc} {a : F} (h : Cl l a) : (ndT a).length = l.length := by rw [ndT, nd_len, h.flat]
theorem Cl.pos {l : List Cc} {a : F} (h : Cl l a) : 0 < l.length := by
  obtain ⟨x, k, rfl⟩ := F.len_1 h.one
  rw [h.flat]; simp [F.flat]
theorem Cl.at {l : List Cc} {a : F} (h : Cl l a) {p : Nat} (hp : p < l.length) : ∃ e k, (ndT a)[p]? = some (l[p], e, k) := by
  have hp' : p < (ndT a).length := by rw [h.len]; exact hp
  have h1 : (ndT a)[p]? = some (ndT a)[p] := List.getElem?_eq_getElem hp'
  have h2 := nd_cell a 0 0 0 p (ndT a)[p].1 (ndT a)[p].2.1 (ndT a)[p].2.2 h1
  have h3 : l[p]? = some l[p] := List.getElem?_eq_getElem hp
  rw [← h.flat, h3] at h2
  simp only [Option.some.injEq] at h2
  exact ⟨_, _, by rw [h1, h2]⟩
theorem Cl.cell {l : List Cc} {a : F} (h : Cl l a) {p : Nat} {x : Cc} {e : Nat} {k : F} (hn : (ndT a)[p]? = some (x, e, k)) : ∃ hp : p < l.length, l[p] = x := by
  have := nd_cell a 0 0 0 p x e k hn
  rw [← h.flat] at this
  obtain ⟨hp, he⟩ := List.getElem?_eq_some_iff.1 this
  exact ⟨hp, he⟩
theorem Cl.good {l : List Cc} {a : F} (h : Cl l a) {p : Nat} {x : Cc} {e : Nat} {k : F} (hn : (ndT a)[p]? = some (x, e, k)) : goodC x = true ∧ k.len = ar x.k ∧ k.ok ∧ e ≤ 600 := by
  obtain ⟨h1, h2, h3⟩ := nd_ok a 0 0 0 p x e k h.ok hn
  have := nd_vars a 0 0 0 p x e k hn
  rw [← h.flat] at this
  have := h.le
  exact ⟨h1, h2, h3, by omega⟩
theorem Cl.bound {l : List Cc} {a : F} (h : Cl l a) {p : Nat} {x : Cc} {e : Nat} {k : F} (hn : (ndT a)[p]? = some (x, e, k)) (hx : x.k = 1) : 0 ≤ x.n ∧ x.n < (e : Int) := nd_bound a 0 0 0 p x e k h.ok h.free hn hx
theorem Cl.kid {l : List Cc} {a : F} (h : Cl l a) {p : Nat} {x : Cc} {e : Nat} {k : F} (hn : (ndT a)[p]? = some (x, e, k)) {j : Nat} (hj : j < ar x.k) : ∃ y m, kth k j = some (y, m) ∧ (ndT a)[p + 1 + ko k j]? = some (y, e + binds x.k j, m) := by
  obtain ⟨g1, g2, g3, -⟩ := h.good hn
  obtain ⟨⟨y, m⟩, hy⟩ := kth_lt k j (by omega)
  exact ⟨y, m, hy, nd_kid a 0 0 0 p x e k j y m hn hy⟩
theorem Cl.size {l : List Cc} {a : F} (h : Cl l a) {p : Nat} {x : Cc} {e : Nat} {k : F} (hn : (ndT a)[p]? = some (x, e, k)) : p + 1 + k.flat.length ≤ l.length ∧ sz (l.drop p) 1 0 = some (k.flat.length + 1) ∧ ∃ r, rt 1 (l.drop p) = some (.cons x k .nil, r) := by
  obtain ⟨r, hr⟩ := nd_drop a 0 0 0 p x e k hn
  obtain ⟨g1, g2, g3, -⟩ := h.good hn
  rw [← h.flat] at hr
  have hl := congrArg List.length hr
  simp at hl
  have hok : (F.cons x k .nil).ok := ⟨g1, g2, g3, trivial⟩
  have e1 : l.drop p = (F.cons x k .nil).flat ++ r := by rw [hr]; simp [F.flat]
  refine ⟨by omega, ?_, r, ?_⟩
  · have := sz_flat (.cons x k .nil) r 0 0 hok
    rw [← e1, sz_0] at this
    simp only [F.len, Nat.zero_add] at this
    rw [this]; simp [F.flat]
  · have := rt_back (.cons x k .nil) r hok
    rw [← e1] at this
    exact this
/-- The places of the kids of a place. -/
def kidsAt (p : Nat) (k : F) : List Int := (List.range k.len).map fun j => ((p + 1 + ko k j : Nat) : Int)
end Go.Proofs.Ytdajalchdbgooaa.W

/-
  Rows of things of so many cells each, wherever they lie; blocks of one's own that are being filled; rows that bear marks. No program here.
-/
namespace Go.Proofs.Ytdajalchdbgooaa.W
open Go.ChangeShapes Go.WideShapes Go.ChangeAt Go.RowKit
set_option linter.unusedVariables false

/-- A row of things of z cells each from a place of a block on. -/
def RAt {α : Type} (z : Nat) (f : α → Nat → Value) (w : World) (b o : Nat) (l : List α) : Prop :=
  b < w.heap.size ∧ ∀ i (h : i < l.length), ∀ r, r < z → w.cell? ⟨b, o + i * z + r, none⟩ = some (f l[i] r)
theorem RAt.below {α : Type} {z : Nat} {f : α → Nat → Value} {w w' : World} {b o : Nat} {l : List α} (h : RAt z f w b o l) (hb : Below w.heap.size w w') : RAt z f w' b o l :=
  ⟨Nat.lt_of_lt_of_le h.1 hb.size, fun i hi r hr => (hb.cell (p := ⟨b, o + i * z + r, none⟩) h.1).trans (h.2 i hi r hr)⟩
/-- A slice's row: none, or a row that lies in a block. -/
def RRow {α : Type} (z : Nat) (f : α → Nat → Value) (w : World) (ad : Option Addr) (l : List α) : Prop := l = [] ∨ ∃ b o, ad = some ⟨b, o, none⟩ ∧ RAt z f w b o l
theorem RRow.nil {α : Type} {z : Nat} {f : α → Nat → Value} {w : World} {ad : Option Addr} : RRow z f w ad [] := .inl rfl
theorem RRow.below {α : Type} {z : Nat} {f : α → Nat → Value} {w w' : World} {ad : Option Addr} {l : List α} (h : RRow z f w ad l) (hb : Below w.heap.size w w') : RRow z f w' ad l := by
  rcases h with h | ⟨b, o, h1, h2⟩
  · exact .inl h
  · exact .inr ⟨b, o, h1, h2.below hb⟩
/-- What a walk wants of one thing of a row. -/
theorem RRow.at {α : Type} {z : Nat} {f : α → Nat → Value} {w w' : World} {ad : Option Addr} {l : List α} (h : RRow z f w ad l) (hb : Below w.heap.size w w') {i : Nat} (hi : i < l.length) :
    ∃ b o, ad = some ⟨b, o, none⟩ ∧ b < w.heap.size ∧ ∀ r, r < z → w'.cell? ⟨b, o + i * z + r, none⟩ = some (f l[i] r) := by
  rcases h with rfl | ⟨b, o, h1, h2⟩
  · simp at hi
  · exact ⟨b, o, h1, h2.1, fun r hr => (h2.below hb).2 i hi r hr⟩
/-- The first j things of a block that is being filled. -/
def RFill {α : Type} (z : Nat) (f : α → Nat → Value) (cur : Array Value) (l : List α) (j : Nat) : Prop :=
  cur.size = l.length * z ∧ ∀ i (h : i < l.length), i < j → ∀ r, r < z → cur[i * z + r]? = some (f l[i] r)
/-- A row that fills a block of its own. -/
def RBlk {α : Type} (T : TypeId) (z : Nat) (f : α → Nat → Value) (w : World) (b : Nat) (l : List α) : Prop := ∃ cur, w.heap[b]? = some (.cells cur T (0, 0)) ∧ RFill z f cur l l.length
theorem RBlk.row {α : Type} {T : TypeId} {z : Nat} {f : α → Nat → Value} {w : World} {b : Nat} {l : List α} (h : RBlk T z f w b l) : RRow z f w (some ⟨b, 0, none⟩) l := by
  obtain ⟨cur, hh, hF⟩ := h
  refine .inr ⟨_, 0, rfl, (Array.getElem?_eq_some_iff.1 hh).1, fun i hi r hr => ?_⟩
  rw [cell_of_blk hh, Nat.zero_add]
  exact hF.2 i hi hi r hr
theorem RBlk.below {α : Type} {T : TypeId} {z : Nat} {f : α → Nat → Value} {w w' : World} {b : Nat} {l : List α} (h : RBlk T z f w b l) (hb : Below w.heap.size w w') : RBlk T z f w' b l := by
  obtain ⟨cur, hh, hF⟩ := h
  exact ⟨cur, (hb.block b (Array.getElem?_eq_some_iff.1 hh).1).trans hh, hF⟩
theorem RBlk.lt {α : Type} {T : TypeId} {z : Nat} {f : α → Nat → Value} {w : World} {b : Nat} {l : List α} (h : RBlk T z f w b l) : b < w.heap.size := by
  obtain ⟨cur, hh, hF⟩ := h
  exact (Array.getElem?_eq_some_iff.1 hh).1
theorem RBlk.grown {α : Type} {T : TypeId} {z : Nat} {f : α → Nat → Value} {w w' : World} {b : Nat} {l : List α} {row : Option Nat} (h : RBlk T z f w b l) (hg : w.grownBy w' row) (hne : row ≠ some b) : RBlk T z f w' b l := by
  obtain ⟨cur, hh, hF⟩ := h
  exact ⟨cur, (hg.block b (Array.getElem?_eq_some_iff.1 hh).1 (fun e => hne e.symm)).trans hh, hF⟩
theorem RBlk.own {α : Type} {T : TypeId} {z : Nat} {f : α → Nat → Value} {w : World} {b base : Nat} {l : List α} (h : RBlk T z f w b l) (hb : base ≤ b) (hl : l.length ≤ 1048576) : ∃ xs, w.ownsRow base T z (.slice (some ⟨b, 0, none⟩) l.length l.length) l.length xs := by
  obtain ⟨cur, hh, hF⟩ := h
  exact ⟨cur.toList.take (l.length * z), by simp [hF.1], .inr ⟨b, l.length, cur, rfl, hb, hh, Nat.le_refl _, by unfold maxLen; omega, hF.1, rfl⟩⟩

/-- The cells of a row of things of z cells each. -/
def rcells {α : Type} (z : Nat) (f : α → Nat → Value) : List α → List Value
  | [] => []
  | x :: l => (List.range z).map (f x) ++ rcells z f l
theorem rcells_len {α : Type} (z : Nat) (f : α → Nat → Value) : ∀ l : List α, (rcells z f l).length = l.length * z
  | [] => by simp [rcells]
  | x :: l => by simp [rcells, rcells_len z f l, Nat.add_mul]; omega
theorem rcells_app {α : Type} (z : Nat) (f : α → Nat → Value) : ∀ a b : List α, rcells z f (a ++ b) = rcells z f a ++ rcells z f b
  | [], b => rfl
  | x :: a, b => by simp [rcells, rcells_app z f a b]
theorem rcells_at {α : Type} (z : Nat) (f : α → Nat → Value) : ∀ (l : List α) (i : Nat) (h : i < l.length) (r : Nat), r < z → (rcells z f l)[i * z + r]? = some (f l[i] r)
  | [], i, h, r, hr => by simp at h
  | x :: l, 0, h, r, hr => by
    simp only [rcells, Nat.zero_mul, Nat.zero_add, List.getElem_cons_zero]
    rw [List.getElem?_append_left (by simpa using hr)]
    simp [hr]
  | x :: l, i + 1, h, r, hr => by
    simp only [rcells, List.getElem_cons_succ]
    rw [List.getElem?_append_right (by simp [Nat.add_mul]; omega)]
    rw [show (i + 1) * z + r - ((List.range z).map (f x)).length = i * z + r by simp [Nat.add_mul]; omega]
    exact rcells_at z f l i (by simpa using h) r hr
/-- A row of one's own as a row. -/
theorem RRow.ofOwn {α : Type} {z : Nat} {f : α → Nat → Value} {w : World} {base : Nat} {T : TypeId} {ad : Option Addr} {n c : Nat} {l : List α} (h : w.ownsRow base T z (.slice ad n c) n (rcells z f l)) (hn : n = l.length) : RRow z f w ad l := by
  subst hn
  rcases h.2 with ⟨h1, h2⟩ | ⟨g, cap, cur, h1, hg, hh, h2, h3, h4, h5⟩
  · left
    exact List.eq_nil_of_length_eq_zero h2
  · simp only [Value.slice.injEq] at h1
    obtain ⟨rfl, -, rfl⟩ := h1
    refine .inr ⟨g, 0, rfl, (Array.getElem?_eq_some_iff.1 hh).1, fun i hi r hr => ?_⟩
    have := rcells_at z f l i hi r hr
    rw [← h5] at this
    rw [cell_of_blk hh, Nat.zero_add]
    have hlt : i * z + r < l.length * z := by
      have : (i + 1) * z ≤ l.length * z := Nat.mul_le_mul_right _ hi
      rw [Nat.add_mul] at this; omega
    rw [List.getElem?_take_of_lt hlt] at this
    simpa using this
theorem own_form {w : World} {base n size : Nat} {e : TypeId} {v : Value} {xs : List Value} (h : w.ownsRow base e size v n xs) : ∃ ad c, v = .slice ad n c := by
  rcases h.2 with ⟨h1, h2⟩ | ⟨g, cap, cur, h1, _⟩
  · exact ⟨_, _, by rw [h1, h2]⟩
  · exact ⟨_, _, h1⟩
theorem own_grown {w w' : World} {base n size : Nat} {e : TypeId} {v : Value} {xs : List Value} {row : Option Nat} (h : w.ownsRow base e size v n xs) (hg : w.grownBy w' row) (hne : ∀ k, v.ownBlock = some k → row ≠ some k) : w'.ownsRow base e size v n xs :=
  h.kept hg (by
    cases hv : v.ownBlock with
    | none => exact .inl rfl
    | some k => exact .inr (fun e => hne k hv e.symm))
theorem own_keep {w w' : World} {base n size : Nat} {e : TypeId} {v : Value} {xs : List Value} (h : w.ownsRow base e size v n xs) (hk : ∀ k, base ≤ k → k < w.heap.size → w'.heap[k]? = w.heap[k]?) : w'.ownsRow base e size v n xs := by
  refine ⟨h.1, ?_⟩
  rcases h.2 with h2 | ⟨g, cap, cur, h1, hg, hh, h3⟩
  · exact .inl h2
  · exact .inr ⟨g, cap, cur, h1, hg, (hk g hg (Array.getElem?_eq_some_iff.1 hh).1).trans hh, h3⟩
theorem own_same {w w' : World} {base n size : Nat} {e : TypeId} {v : Value} {xs : List Value} (h : w.ownsRow base e size v n xs) (hk : ∀ k, v.ownBlock = some k → base ≤ k → k < w.heap.size → w'.heap[k]? = w.heap[k]?) : w'.ownsRow base e size v n xs := by
  refine ⟨h.1, ?_⟩
  rcases h.2 with h2 | ⟨g, cap, cur, h1, hg, hh, h3⟩
  · exact .inl h2
  · exact .inr ⟨g, cap, cur, h1, hg, (hk g (by rw [h1]; rfl) hg (Array.getElem?_eq_some_iff.1 hh).1).trans hh, h3⟩
theorem own_lower {w : World} {base base' n size : Nat} {e : TypeId} {v : Value} {xs : List Value} (h : w.ownsRow base e size v n xs) (hb : base' ≤ base) : w.ownsRow base' e size v n xs := by
  refine ⟨h.1, ?_⟩
  rcases h.2 with h2 | ⟨g, cap, cur, h1, hg, h3⟩
  · exact .inl h2
  · exact .inr ⟨g, cap, cur, h1, Nat.le_trans hb hg, h3⟩
theorem RRow.grown {α : Type} {z : Nat} {f : α → Nat → Value} {w w' : World} {ad : Option Addr} {l : List α} {row : Option Nat} (h : RRow z f w ad l) (hg : w.grownBy w' row) (hne : ∀ b o, ad = some ⟨b, o, none⟩ → row ≠ some b) : RRow z f w' ad l := by
  rcases h with h | ⟨b, o, h1, h2⟩
  · exact .inl h
  · refine .inr ⟨b, o, h1, Nat.lt_of_lt_of_le h2.1 hg.size, fun i hi r hr => ?_⟩
    exact (World.cell?_of_block (a := ⟨b, o + i * z + r, none⟩) (hg.block b h2.1 (fun e => hne b o h1 e.symm))).trans (h2.2 i hi r hr)

/-- A block that holds just these cells. -/
def Bx (w : World) (b : Nat) (cs : Array Value) (T : TypeId) : Prop := w.heap[b]? = some (.cells cs T (0, 0))
theorem Bx.c {w : World} {b : Nat} {cs : Array Value} {T : TypeId} (h : Bx w b cs T) : ∀ o, w.cell? ⟨b, o, none⟩ = cs[o]? := fun o => cell_of_blk h o
theorem Bx.f {w : World} {b : Nat} {cs : Array Value} {T : TypeId} (h : Bx w b cs T) : ∀ o, w.frozen? ⟨b, o, none⟩ = false := fun o => unfrozen_of_blk h o
theorem Bx.lt {w : World} {b : Nat} {cs : Array Value} {T : TypeId} (h : Bx w b cs T) : b < w.heap.size := (Array.getElem?_eq_some_iff.1 h).1
theorem Bx.below {w w' : World} {b B : Nat} {cs : Array Value} {T : TypeId} (h : Bx w b cs T) (hb : Below B w w') (hB : b < B) : Bx w' b cs T := (hb.block b hB).trans h
theorem Bx.new (w : World) (cs : Array Value) (T : TypeId) : Bx (w.alloc (.cells cs T)) w.heap.size cs T := heap_alloc_new w _
theorem Bx.alloc {w : World} {b : Nat} {cs : Array Value} {T : TypeId} (h : Bx w b cs T) (o : Obj) : Bx (w.alloc o) b cs T := (Below.heap_alloc w o b h.lt).trans h
theorem Bx.set {w : World} {b : Nat} {cs : Array Value} {T : TypeId} (h : Bx w b cs T) (i : Nat) (v : Value) : Bx (w.setCell ⟨b, i, none⟩ v) b (cs.setIfInBounds i v) T := blk_setCell h v
theorem Bx.setne {w : World} {b : Nat} {cs : Array Value} {T : TypeId} (h : Bx w b cs T) (b' i : Nat) (v : Value) (hn : b ≠ b') : Bx (w.setCell ⟨b', i, none⟩ v) b cs T := (Below.heap_setCell _ _ _ _ hn).trans h
theorem Bx.drew {w : World} {b : Nat} {cs : Array Value} {T : TypeId} (h : Bx w b cs T) : Bx w.drew b cs T := h
theorem RBlk.setne {α : Type} {T : TypeId} {z : Nat} {f : α → Nat → Value} {w : World} {b : Nat} {l : List α} (h : RBlk T z f w b l) (b' i : Nat) (v : Value) (hn : b ≠ b') : RBlk T z f (w.setCell ⟨b', i, none⟩ v) b l := by
  obtain ⟨cur, hh, hF⟩ := h
  exact ⟨cur, (Below.heap_setCell _ _ _ _ hn).trans hh, hF⟩

/-- A mark of a truth. -/
def mB (k : Nat) : Value := .bool (decide ((k : Int) % 3 = 0))
def mI (k : Nat) : Value := .int .i64 (k : Int)
/-- The row v of n things of z cells each bears the marks from k0 on. -/
def RMk (mv : Nat → Nat → Value) (w : World) (v : Value) (T : TypeId) (z k0 n : Nat) : Prop :=
  ∃ a c, v = .slice a n c ∧ (n = 0 ∨ ∃ g cur, a = some ⟨g, 0, none⟩ ∧ w.heap[g]? = some (.cells cur T (0, 0)) ∧ n * z ≤ cur.size ∧ ∀ i, i < n → ∀ r, r < z → cur[i * z + r]? = some (mv r (k0 + i * z + r)))
theorem RMk.below {mv : Nat → Nat → Value} {w w' : World} {v : Value} {T : TypeId} {z k0 n : Nat} (h : RMk mv w v T z k0 n) (hb : Below w.heap.size w w') : RMk mv w' v T z k0 n := by
  obtain ⟨a, c, h1, h2 | ⟨g, cur, h3, h4, h5⟩⟩ := h
  · exact ⟨a, c, h1, .inl h2⟩
  · exact ⟨a, c, h1, .inr ⟨g, cur, h3, (hb.block g (Array.getElem?_eq_some_iff.1 h4).1).trans h4, h5⟩⟩
theorem RMk.grown {mv : Nat → Nat → Value} {w w' : World} {v : Value} {T : TypeId} {z k0 n : Nat} {row : Option Nat} (h : RMk mv w v T z k0 n) (hg : w.grownBy w' row) (hne : ∀ k, v.ownBlock = some k → row ≠ some k) : RMk mv w' v T z k0 n := by
  obtain ⟨a, c, h1, h2 | ⟨g, cur, h3, h4, h5⟩⟩ := h
  · exact ⟨a, c, h1, .inl h2⟩
  · exact ⟨a, c, h1, .inr ⟨g, cur, h3, (hg.block g (Array.getElem?_eq_some_iff.1 h4).1 (fun e => hne g (by rw [h1, h3]; rfl) e.symm)).trans h4, h5⟩⟩
end Go.Proofs.Ytdajalchdbgooaa.W
