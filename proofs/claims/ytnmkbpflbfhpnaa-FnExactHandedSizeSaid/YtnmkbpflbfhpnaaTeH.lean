/-
  The program's marks and the specification's list tell the same variables. No program here.
-/
import Derived.Test.YtnmkbpflbfhpnaaTeI
namespace Go.Proofs.Ytnmkbpflbfhpnaa.W
set_option linter.unusedVariables false

theorem mkd_lt (s : List Bool) (j : Nat) : ∀ x ∈ mkd s j, x < (j : Int) := by
  intro x hx
  unfold mkd at hx
  obtain ⟨i, hi, rfl⟩ := List.mem_map.1 hx
  have := List.mem_range.1 (List.mem_filter.1 hi).1
  show (i : Int) < (j : Int)
  omega
theorem putAt_all {l : List Int} {n : Int} (h : ∀ x ∈ l, x < n) (r : List Int) (hr : ∀ x, r[0]? = some x → ¬ x < n) : putAt (l ++ r) n = l.length := by
  refine putAt_is (by simp) (fun i hi hlt => ?_) (fun hlt => ?_)
  · rw [List.getElem_append_left hlt]; exact h _ (List.getElem_mem hlt)
  · rw [List.getElem_append_right (Nat.le_refl _)]
    refine hr _ ?_
    rw [List.getElem?_eq_getElem (by simp at hlt ⊢; omega)]
    simp
theorem put_snoc {l : List Int} {n m : Int} (h : n < m) (hl : ∀ x ∈ l, x < m) : put (l ++ [m]) n = put l n ++ [m] := by
  have hle := putAt_le l n
  have hp : putAt (l ++ [m]) n = putAt l n := by
    refine putAt_is (by simp; omega) (fun i hi hlt => ?_) (fun hlt => ?_)
    · rw [List.getElem_append_left (by omega)]; exact putAt_lt l n i hlt
    · by_cases hlt2 : putAt l n < l.length
      · rw [List.getElem_append_left hlt2]; exact putAt_ge l n hlt2
      · rw [List.getElem_append_right (by omega)]; simp; omega
  unfold put
  rw [hp]
  by_cases hlt2 : putAt l n < l.length
  · rw [List.getElem?_append_left hlt2]
    split
    · rfl
    · rw [List.take_append_of_le_length hle, List.drop_append_of_le_length hle]; simp
  · have he : putAt l n = l.length := by omega
    rw [he, List.getElem?_append_right (Nat.le_refl _), List.getElem?_eq_none (Nat.le_refl _)]
    have hmn : m ≠ n := by omega
    simp [hmn]
theorem set_getD_ne (s : List Bool) (j i : Nat) (h : i ≠ j) : (s.set j true).getD i false = s.getD i false := by
  simp [List.getD, Ne.symm h]
theorem set_getD_eq (s : List Bool) (j : Nat) (h : j < s.length) : (s.set j true).getD j false = true := by
  simp [List.getD, h]
theorem mkd_set_below (s : List Bool) (j : Nat) : ∀ m, m ≤ j → mkd (s.set j true) m = mkd s m
  | 0, _ => rfl
  | m + 1, h => by rw [mkd_succ, mkd_succ, mkd_set_below s j m (by omega), set_getD_ne s j m (by omega)]
theorem mkd_set (s : List Bool) (j : Nat) (hj : j < s.length) : ∀ m, j < m → mkd (s.set j true) m = put (mkd s m) (j : Int)
  | 0, h => by omega
  | m + 1, h => by
    by_cases e : m = j
    · subst e
      rw [mkd_succ, mkd_set_below s m m (Nat.le_refl _), set_getD_eq s m hj, if_pos rfl, mkd_succ]
      split
      · unfold put
        rw [putAt_all (mkd_lt s m) [(m : Int)] (fun x hx => by simp at hx; omega), List.getElem?_append_right (Nat.le_refl _)]
        simp
      · have hp := putAt_all (mkd_lt s m) [] (fun x hx => by cases hx)
        rw [List.append_nil] at hp
        unfold put
        rw [hp, List.getElem?_eq_none (Nat.le_refl _)]
        simp
    · rw [mkd_succ, mkd_succ, mkd_set s j hj m (by omega), set_getD_ne s j m e]
      split
      · exact (put_snoc (by omega) (mkd_lt s m)).symm
      · rfl

theorem bitS_mkd (s : List Bool) (hs : s.length = 100) (n : Int) (d : Nat) (hn : n ≤ 99) : mkd (bitS s n d) 100 = if (d : Int) ≤ n then put (mkd s 100) (n - (d : Int)) else mkd s 100 := by
  unfold bitS
  by_cases hd : (d : Int) ≤ n
  · rw [if_pos hd, if_pos hd]
    obtain ⟨j, hj⟩ := Int.eq_ofNat_of_zero_le (show 0 ≤ n - (d : Int) by omega)
    rw [hj, Int.toNat_natCast]
    exact mkd_set s j (by omega) 100 (by omega)
  · rw [if_neg hd, if_neg hd]

theorem bits_fre : ∀ (a : F) (pk : Int) (d i : Nat) (s : {s : List Bool // s.length = 100}), a.ok →
    mkd (wv (fun (s : {s : List Bool // s.length = 100}) n d => sameV s.1 n d) (fun s n d => ⟨bitS s.1 n d, by unfold bitS; split <;> simp [s.2]⟩) pk d i a s).2.1 100 = fre pk d i a (mkd s.1 100)
  | .nil, _, _, _, _, _ => rfl
  | .cons x k r, pk, d, i, s, h => by
    obtain ⟨g1, l1, o1, r1⟩ := ok_cons h
    by_cases hx : x.k = 1
    · have hk0 : k = .nil := F.len_0 (by rw [l1, hx]; rfl)
      have hn : 0 ≤ x.n ∧ x.n ≤ 99 := by
        unfold goodC at g1
        rw [if_pos hx] at g1
        simpa [inB] using g1
      simp only [wv, hx, if_true]
      rw [bits_fre r pk d (i + 1) _ r1, fre_cons]
      congr 1
      show mkd (bitS s.1 x.n (d + binds pk i)) 100 = fr1 (d + binds pk i) x k (mkd s.1 100)
      rw [bitS_mkd s.1 s.2 x.n _ hn.2]
      unfold fr1
      by_cases hd : ((d + binds pk i : Nat) : Int) ≤ x.n
      · rw [if_pos hd, if_pos ⟨hx, hd⟩]
      · rw [if_neg hd, if_neg (fun hc => hd hc.2), hk0]
        rfl
    · simp only [wv, hx, if_false]
      rw [bits_fre r pk d (i + 1) _ r1, bits_fre k x.k (d + binds pk i) 0 s o1, fre_cons]
      congr 1
      unfold fr1
      rw [if_neg (fun hc => hx hc.1)]

theorem mkd_none : ∀ m, mkd (List.replicate 100 false) m = []
  | 0 => rfl
  | m + 1 => by
    rw [mkd_succ, mkd_none m, if_neg]
    simp only [List.getD, List.getElem?_replicate]
    split <;> simp
theorem marked_bits (x : Cc) (k : F) (h : (F.cons x k .nil).ok) : marked (bits x k) = fr1 0 x k [] := by
  unfold marked bits w1
  rw [bits_fre _ _ _ _ _ h, mkd_none, fre_cons]
  rfl
end Go.Proofs.Ytnmkbpflbfhpnaa.W
