/-
  Which names clash, as plain lists: what both sides' loops make of them. No program here.
-/
import Derived.Test.YtaniiolphghhiabLvI
namespace Go.Proofs.Ytaniiolphghhiab.W
open Go.ChangeShapes Go.WideShapes Go.ChangeAt Go.RowKit
set_option linter.unusedVariables false

/-- The names a and b, which are two, lie in one of these lists. -/
def clB (M : List (List Int)) (a b : Nat) : Bool := decide (a ≠ b) && M.any fun l => hb l a && hb l b
def clL (M : List (List Int)) : List (List Int) := (List.range 8).map fun a => lst (clB M a) 8
noncomputable def clR (D F : List (List Int)) : List (List Int) := if goodF D F = true then clL (lvR D F) else []
theorem clR_yes {D F : List (List Int)} (h : goodF D F = true) : clR D F = clL (lvR D F) := by simp [clR, h]
theorem clR_no {D F : List (List Int)} (h : goodF D F = false) : clR D F = [] := by simp [clR, h]
theorem clR_sm (D F : List (List Int)) : (clR D F).length ≤ 600 ∧ ∀ l ∈ clR D F, l.length ≤ 600 := by
  unfold clR
  split
  · exact mapLst_sm (by omega)
  · simp
/-- Behind the first k lists, and the first j names of the next one. -/
def clS (M : List (List Int)) (k j a b : Nat) : Bool := clB (M.take k) a b || (decide (a ≠ b) && (hb ((row M k).take j) a && hb (row M k) b))
/-- And of one more of its names the first i other ones. -/
def clT (M : List (List Int)) (k j i a b : Nat) : Bool := clS M k j a b || (decide (a ≠ b) && (hb ((row M k).take (j + 1)) a && hb ((row M k).take i) b))
theorem hb_nil (a : Nat) : hb [] a = false := by simp [hb]
theorem clB_none (a b : Nat) : clB [] a b = false := by simp [clB]
theorem clS_none (M : List (List Int)) (a b : Nat) : clS M 0 0 a b = false := by simp [clS, hb_nil, clB_none]
theorem clT_none (M : List (List Int)) (k j a b : Nat) : clT M k j 0 a b = clS M k j a b := by simp [clT, hb_nil]
theorem clS_next {M : List (List Int)} {k : Nat} (h : k < M.length) (a b : Nat) : clS M k (row M k).length a b = clS M (k + 1) 0 a b := by
  unfold clS
  rw [List.take_length, List.take_zero, hb_nil]
  unfold clB
  rw [List.take_add_one, List.getElem?_eq_getElem h, List.any_append, ← row_at h]
  simp only [Option.toList_some, List.any_cons, List.any_nil, Bool.or_false, Bool.false_and, Bool.and_false]
  cases decide (a ≠ b) <;> simp
theorem clS_all (M : List (List Int)) (a b : Nat) : clS M M.length 0 a b = clB M a b := by
  unfold clS
  rw [List.take_length, List.take_zero, hb_nil]
  simp
theorem hb_take {l : List Int} {j : Nat} (h : j < l.length) {c : Nat} (hc : l[j] = (c : Int)) (a : Nat) : hb (l.take (j + 1)) a = (hb (l.take j) a || decide (a = c)) := by
  rw [List.take_add_one, List.getElem?_eq_getElem h, Bool.eq_iff_iff]
  simp only [Bool.or_eq_true, hb_iff, List.mem_append, Option.toList_some, List.mem_singleton, decide_eq_true_eq, hc]
  constructor
  · rintro (h | h)
    · exact .inl h
    · exact .inr (by omega)
  · rintro (h | h)
    · exact .inl h
    · exact .inr (by omega)
theorem clS_step {M : List (List Int)} {k j : Nat} (h : j < (row M k).length) {c : Nat} (hc : (row M k)[j] = (c : Int)) (a b : Nat) : clS M k (j + 1) a b = (clS M k j a b || (decide (a = c) && (decide (a ≠ b) && hb (row M k) b))) := by
  unfold clS
  rw [hb_take h hc]
  cases clB (M.take k) a b <;> cases decide (a ≠ b) <;> cases hb (List.take j (row M k)) a <;> cases decide (a = c) <;> cases hb (row M k) b <;> rfl
theorem clT_all {M : List (List Int)} {k j : Nat} (h : j < (row M k).length) {c : Nat} (hc : (row M k)[j] = (c : Int)) (a b : Nat) : clT M k j (row M k).length a b = clS M k (j + 1) a b := by
  unfold clT
  rw [List.take_length, clS_step h hc, hb_take h hc]
  unfold clS
  cases clB (M.take k) a b <;> cases decide (a ≠ b) <;> cases hb (List.take j (row M k)) a <;> cases decide (a = c) <;> cases hb (row M k) b <;> rfl
theorem clT_step {M : List (List Int)} {k j i : Nat} (h : j < (row M k).length) {c : Nat} (hc : (row M k)[j] = (c : Int)) (hi : i < (row M k).length) {d : Nat} (hd : (row M k)[i] = (d : Int)) (a b : Nat) : clT M k j (i + 1) a b = (clT M k j i a b || (decide (a = c) && (decide (b = d) && decide (a ≠ b)))) := by
  have hd' : hb (row M k) d = true := hb_iff.2 (by rw [← hd]; exact List.getElem_mem hi)
  unfold clT
  rw [hb_take hi hd, hb_take h hc]
  unfold clS
  by_cases e : b = d
  · subst e
    rw [hd']
    cases clB (M.take k) a b <;> cases decide (a ≠ b) <;> cases hb (List.take j (row M k)) a <;> cases decide (a = c) <;> cases hb (List.take i (row M k)) b <;> simp
  · have e' : decide (b = d) = false := decide_eq_false e
    rw [e']
    simp
/-- Eight rows that these truths tell. -/
def RS (Ls : List (List Int)) (f : Nat → Nat → Bool) : Prop := Ls.length = 8 ∧ ∀ a, a < 8 → row Ls a = lst (f a) 8
theorem RS.to {Ls : List (List Int)} {f g : Nat → Nat → Bool} (h : RS Ls f) (e : ∀ a b, f a b = g a b) : RS Ls g := by
  have : f = g := funext fun a => funext fun b => e a b
  exact this ▸ h
theorem RS.start {f : Nat → Nat → Bool} (e : ∀ a b, f a b = false) : RS (List.replicate 8 []) f := ⟨by simp, fun a ha => by
  rw [row_at (by simpa using ha), List.getElem_replicate, lst_congr (g := fun _ => false) (fun n _ => e a n)]
  exact lst_none.symm⟩
theorem RS.set {Ls : List (List Int)} {f g : Nat → Nat → Bool} (h : RS Ls f) {c : Nat} (hc : c < 8) {l : List Int} (hl : l = lst (g c) 8) (e : ∀ a b, a ≠ c → g a b = f a b) : RS (Ls.set c l) g := ⟨by rw [List.length_set]; exact h.1, fun a ha => by
  rw [row_set (by rw [h.1]; exact hc)]
  split
  · rename_i e1; subst e1; exact hl
  · rename_i e1; rw [h.2 a ha]; exact lst_congr (fun n _ => (e a n e1).symm)⟩
theorem RS.r8 {Ls : List (List Int)} {f : Nat → Nat → Bool} (h : RS Ls f) (k : Nat) : R8 (row Ls k) := by
  by_cases hk : k < 8
  · rw [h.2 k hk]; exact lst_r8 _
  · rw [row_out (by rw [h.1]; exact hk)]; exact r8_nil
theorem RS.done {Ls M : List (List Int)} (h : RS Ls (clS M M.length 0)) : Ls = clL M := by
  refine List.ext_getElem (by rw [h.1]; simp [clL]) (fun k h1 h2 => ?_)
  have hk : k < 8 := by rw [← h.1]; exact h1
  rw [← row_at h1, h.2 k hk]
  simp only [clL, List.getElem_map, List.getElem_range]
  exact lst_congr (fun n _ => clS_all M k n)
/-- The program's step. -/
theorem RS.with {Ls M : List (List Int)} {k j c : Nat} (h : RS Ls (clS M k j)) (hj : j < (row M k).length) (hc : (row M k)[j] = (c : Int)) (h8 : c < 8) : RS (Ls.set c (orL (row Ls c) (woL (row M k) (lst (hb [(c : Int)]) 8)))) (clS M k (j + 1)) := by
  refine h.set h8 ?_ (fun a b ha => by rw [clS_step hj hc, decide_eq_false ha]; simp)
  rw [h.2 c h8]
  refine lst_congr (fun n hn => ?_)
  unfold woL
  rw [hb_lst, hb_lst, hb_lst, clS_step hj hc]
  have e1 : hb [(c : Int)] n = decide (c = n) := by rw [Bool.eq_iff_iff, hb_iff]; simp; omega
  rw [e1]
  by_cases e : c = n <;> simp [hn, e]
/-- The specification's step. -/
theorem RS.put {Ls M : List (List Int)} {k j i c d : Nat} (h : RS Ls (clT M k j i)) (hj : j < (row M k).length) (hc : (row M k)[j] = (c : Int)) (h8 : c < 8) (hi : i < (row M k).length) (hd : (row M k)[i] = (d : Int)) (hd8 : d < 8) (hne : c ≠ d) : RS (Ls.set c (putL (row Ls c) (d : Int))) (clT M k j (i + 1)) := by
  refine h.set h8 ?_ (fun a b ha => by rw [clT_step hj hc hi hd, decide_eq_false ha]; simp)
  rw [h.2 c h8, putL_lst hd8]
  refine lst_congr (fun n hn => ?_)
  rw [clT_step hj hc hi hd]
  by_cases e : n = d
  · subst e; simp [hne]
  · simp [e]
theorem RS.keep {Ls M : List (List Int)} {k j i c : Nat} (h : RS Ls (clT M k j i)) (hj : j < (row M k).length) (hc : (row M k)[j] = (c : Int)) (hi : i < (row M k).length) (hd : (row M k)[i] = (c : Int)) : RS Ls (clT M k j (i + 1)) :=
  h.to (fun a b => by
    rw [clT_step hj hc hi hd]
    by_cases e : a = c
    · subst e; by_cases e2 : b = a <;> simp [e2]
    · simp [e])
end Go.Proofs.Ytaniiolphghhiab.W
