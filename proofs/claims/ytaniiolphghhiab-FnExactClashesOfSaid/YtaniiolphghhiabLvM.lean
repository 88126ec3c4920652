/-
  Flows: which names are needed ahead, as plain lists: what the rounds of both sides make of them, and what no round changes any more. No program here.
-/
import Derived.Test.YtaniiolphghhiabGrM
namespace Go.Proofs.Ytaniiolphghhiab.W
open Go.ChangeShapes Go.WideShapes Go.ChangeAt Go.RowKit
set_option linter.unusedVariables false

/-- Whether a number is one of these. -/
def hb (l : List Int) (n : Nat) : Bool := decide ((n : Int) ∈ l)
theorem hb_iff {l : List Int} {n : Nat} : hb l n = true ↔ (n : Int) ∈ l := by simp [hb]
/-- A row of names: rising, below 8. -/
def R8 (l : List Int) : Prop := Ris l ∧ ∀ x ∈ l, 0 ≤ x ∧ x < 8
theorem lst_r8 (f : Nat → Bool) : R8 (lst f 8) := ⟨lst_ris f 8, fun x hx => by obtain ⟨k, rfl, hk, -⟩ := lst_mem.1 hx; omega⟩
theorem hb_lst {f : Nat → Bool} {n : Nat} : hb (lst f 8) n = (decide (n < 8) && f n) := by
  rw [Bool.eq_iff_iff, hb_iff, lst_mem]
  constructor
  · rintro ⟨k, h1, h2, h3⟩
    obtain rfl : n = k := by omega
    simp [h2, h3]
  · intro h
    simp only [Bool.and_eq_true, decide_eq_true_eq] at h
    exact ⟨n, rfl, h.1, h.2⟩
theorem r8_ext {a b : List Int} (ha : R8 a) (hb' : R8 b) (h : ∀ n, n < 8 → hb a n = hb b n) : a = b := by
  refine rise_ext _ _ ha.1 hb'.1 (fun x => ?_)
  constructor
  · intro hx
    obtain ⟨n, rfl⟩ : ∃ n : Nat, x = n := ⟨x.toNat, by have := ha.2 x hx; omega⟩
    have := ha.2 _ hx
    exact hb_iff.1 ((h n (by omega)) ▸ hb_iff.2 hx)
  · intro hx
    obtain ⟨n, rfl⟩ : ∃ n : Nat, x = n := ⟨x.toNat, by have := hb'.2 x hx; omega⟩
    have := hb'.2 _ hx
    exact hb_iff.1 ((h n (by omega)).symm ▸ hb_iff.2 hx)
theorem r8_lst {a : List Int} (ha : R8 a) : lst (hb a) 8 = a := r8_ext (lst_r8 _) ha (fun n hn => by rw [hb_lst]; simp [hn])
theorem lst_congr {f g : Nat → Bool} (h : ∀ n, n < 8 → f n = g n) : lst f 8 = lst g 8 :=
  r8_ext (lst_r8 _) (lst_r8 _) (fun n hn => by rw [hb_lst, hb_lst, h n hn])
theorem r8_nil : R8 [] := ⟨by simp, by simp⟩
theorem lst_none : lst (fun _ => false) 8 = [] := by decide
theorem r8_len {l : List Int} (h : R8 l) : l.length ≤ 8 := by
  have := rise_len l 0 8 h.1 (by omega) h.2
  omega
theorem RisL.ris {l : List Int} {n : Nat} (h : RisL l n) : Ris l := by
  have key : ∀ (a b : Nat) (hb : b < l.length) (hab : a < b), l[a]'(by omega) < l[b] := by
    intro a b
    induction b with
    | zero => intro _ h; omega
    | succ b ih =>
      intro hb hab
      have h1 := (h (b + 1) hb).2.2 (by omega)
      simp only [Nat.add_sub_cancel] at h1
      by_cases e : a = b
      · subst e; exact h1
      · have := ih (by omega) (by omega); omega
  rw [Ris, List.pairwise_iff_getElem]
  intro i j hi hj hij
  exact key i j hj hij
theorem RisL.r8 {l : List Int} (h : RisL l 8) : R8 l := ⟨h.ris, fun x hx => by have := h.mem hx; omega⟩
theorem putL_r8 {l : List Int} {n : Int} (h : R8 l) (h0 : 0 ≤ n) (h1 : n < 8) : R8 (putL l n) :=
  ⟨putL_ris n l h.1, fun x hx => by
    rcases (putL_mem n l x).1 hx with rfl | hx
    · exact ⟨h0, h1⟩
    · exact h.2 x hx⟩
theorem putL_lst {f : Nat → Bool} {n : Nat} (hn : n < 8) : putL (lst f 8) (n : Int) = lst (fun k => f k || decide (k = n)) 8 := by
  refine r8_ext (putL_r8 (lst_r8 f) (by omega) (by omega)) (lst_r8 _) (fun k hk => ?_)
  rw [hb_lst, Bool.eq_iff_iff, hb_iff, putL_mem, lst_mem]
  simp only [hk, decide_true, Bool.true_and, Bool.or_eq_true, decide_eq_true_eq]
  constructor
  · rintro (h | ⟨m, h1, h2, h3⟩)
    · exact .inr (by omega)
    · obtain rfl : k = m := by omega
      exact .inl h3
  · rintro (h | rfl)
    · exact .inr ⟨k, rfl, hk, h⟩
    · exact .inl rfl

/-- The rows of a flow's blocks: what block k uses lies at 2k, what it sets at 2k + 1. -/
def row (L : List (List Int)) (k : Nat) : List Int := L.getD k []
theorem row_at {L : List (List Int)} {k : Nat} (h : k < L.length) : row L k = L[k] := by simp [row, List.getD, h]
theorem row_out {L : List (List Int)} {k : Nat} (h : ¬ k < L.length) : row L k = [] := by
  simp only [row, List.getD]
  rw [List.getElem?_eq_none (by omega)]; rfl
theorem row_set {L : List (List Int)} {k : Nat} (h : k < L.length) (l : List Int) (j : Nat) : row (L.set k l) j = if j = k then l else row L j := by
  simp only [row, List.getD, List.getElem?_set]
  by_cases e : k = j
  · subst e; simp [h]
  · rw [if_neg e, if_neg (by omega)]
def fu (F : List (List Int)) (k : Nat) : List Int := row F (2 * k)
def fs (F : List (List Int)) (k : Nat) : List Int := row F (2 * k + 1)
/-- A good flow. -/
def GF (D F : List (List Int)) : Prop := GG D ∧ F.length = 2 * D.length ∧ ∀ i (h : i < F.length), RisL F[i] 8
theorem GF.r8 {D F : List (List Int)} (h : GF D F) (i : Nat) : R8 (row F i) := by
  by_cases hi : i < F.length
  · rw [row_at hi]; exact (h.2.2 i hi).r8
  · rw [row_out hi]; exact r8_nil

/-- What is in the rows of those to which block k goes on. -/
def ouB (D L : List (List Int)) (k n : Nat) : Bool := (row D k).any fun x => hb (row L x.toNat) n
def ou (D L : List (List Int)) (k : Nat) : List Int := lst (ouB D L k) 8
/-- What block k needs. -/
def niB (D F L : List (List Int)) (k n : Nat) : Bool := hb (fu F k) n || (ouB D L k n && !hb (fs F k) n)
def ni (D F L : List (List Int)) (k : Nat) : List Int := lst (niB D F L k) 8
def ous (D L : List (List Int)) : List (List Int) := (List.range D.length).map (ou D L)
def nx (D F L : List (List Int)) : List (List Int) := (List.range D.length).map (ni D F L)
theorem nx_len (D F L : List (List Int)) : (nx D F L).length = D.length := by simp [nx]
theorem ous_len (D L : List (List Int)) : (ous D L).length = D.length := by simp [ous]
theorem nx_row {D F L : List (List Int)} {k : Nat} (h : k < D.length) : row (nx D F L) k = ni D F L k := by
  rw [row_at (by rw [nx_len]; exact h)]; simp [nx]
theorem ouB_iff {D L : List (List Int)} (hg : GG D) {k n : Nat} : ouB D L k n = true ↔ ∃ x, Edge D k x ∧ hb (row L x) n = true := by
  unfold ouB
  rw [List.any_eq_true]
  constructor
  · rintro ⟨x, hx, h⟩
    by_cases hk : k < D.length
    · rw [row_at hk] at hx
      have := (hg.2.2 k hk).mem hx
      exact ⟨x.toNat, ⟨hk, by rw [Int.toNat_of_nonneg this.1]; exact hx⟩, h⟩
    · rw [row_out hk] at hx; cases hx
  · rintro ⟨x, ⟨hk, hx⟩, h⟩
    exact ⟨(x : Int), by rw [row_at hk]; exact hx, h⟩

/-- The name n is needed from block k on. -/
inductive Lv (D F : List (List Int)) : Nat → Nat → Prop
  | use {k n : Nat} : (n : Int) ∈ fu F k → Lv D F k n
  | back {k x n : Nat} : Edge D k x → Lv D F x n → ¬ (n : Int) ∈ fs F k → Lv D F k n
open Classical in
noncomputable def lv (D F : List (List Int)) (k n : Nat) : Bool := decide (Lv D F k n)
theorem lv_iff {D F : List (List Int)} {k n : Nat} : lv D F k n = true ↔ Lv D F k n := by simp [lv]
noncomputable def lvR (D F : List (List Int)) : List (List Int) := (List.range D.length).map fun k => lst (lv D F k) 8
theorem lvR_len (D F : List (List Int)) : (lvR D F).length = D.length := by simp [lvR]

/-- Rows on the way: nothing but what is needed, and nothing that the next round takes away. -/
structure LS (D F L : List (List Int)) : Prop where
  len : L.length = D.length
  r8 : ∀ k, R8 (row L k)
  low : ∀ k n, hb (row L k) n = true → Lv D F k n
  up : ∀ k n, hb (row L k) n = true → niB D F L k n = true
theorem LS.start (D F : List (List Int)) : LS D F (List.replicate D.length []) := by
  have h0 : ∀ k, row (List.replicate D.length []) k = [] := fun k => by
    by_cases h : k < (List.replicate D.length ([] : List Int)).length
    · rw [row_at h]; simp
    · exact row_out h
  exact ⟨by simp, fun k => by rw [h0]; exact r8_nil, fun k n h => by rw [h0] at h; simp [hb] at h, fun k n h => by rw [h0] at h; simp [hb] at h⟩
theorem niB_mono {D F L L' : List (List Int)} (h : ∀ k n, hb (row L k) n = true → hb (row L' k) n = true) {k n : Nat} (hn : niB D F L k n = true) : niB D F L' k n = true := by
  unfold niB at hn ⊢
  simp only [Bool.or_eq_true, Bool.and_eq_true] at hn ⊢
  rcases hn with h1 | ⟨h1, h2⟩
  · exact .inl h1
  · refine .inr ⟨?_, h2⟩
    unfold ouB at h1 ⊢
    rw [List.any_eq_true] at h1 ⊢
    obtain ⟨x, hx, h3⟩ := h1
    exact ⟨x, hx, h _ _ h3⟩
theorem niB_lv {D F L : List (List Int)} (hg : GG D) (h : LS D F L) {k n : Nat} (hn : niB D F L k n = true) : Lv D F k n := by
  unfold niB at hn
  simp only [Bool.or_eq_true, Bool.and_eq_true] at hn
  rcases hn with h1 | ⟨h1, h2⟩
  · exact .use (hb_iff.1 h1)
  · obtain ⟨x, he, hx⟩ := (ouB_iff hg).1 h1
    exact .back he (h.low _ _ hx) (fun hm => by rw [hb_iff.2 hm] at h2; cases h2)
theorem niB_lt {D F L : List (List Int)} (hf : GF D F) (h : ∀ k, R8 (row L k)) {k n : Nat} (hn : niB D F L k n = true) : n < 8 := by
  unfold niB at hn
  simp only [Bool.or_eq_true, Bool.and_eq_true] at hn
  rcases hn with h1 | ⟨h1, h2⟩
  · have := (hf.r8 (2 * k)).2 _ (hb_iff.1 h1); omega
  · obtain ⟨x, he, hx⟩ := (ouB_iff hf.1).1 h1
    have := (h x).2 _ (hb_iff.1 hx); omega
theorem hb_ni {D F L : List (List Int)} (hf : GF D F) (h : ∀ k, R8 (row L k)) (k n : Nat) : hb (ni D F L k) n = niB D F L k n := by
  unfold ni
  rw [hb_lst]
  by_cases hn : n < 8
  · simp [hn]
  · simp only [hn, decide_false, Bool.false_and]
    cases e : niB D F L k n with
    | false => rfl
    | true => exact absurd (niB_lt hf h e) hn
/-- Rows that no round changes are all that is needed. -/
theorem LS.done {D F L : List (List Int)} (hf : GF D F) (h : LS D F L) (hfix : ∀ k, k < D.length → ni D F L k = row L k) : L = lvR D F := by
  have hall : ∀ k n, Lv D F k n → k < D.length → hb (row L k) n = true := by
    intro k n hl
    induction hl with
    | @use k n hu =>
      intro hk
      rw [← hfix k hk, hb_ni hf h.r8]
      simp [niB, hb_iff.2 hu]
    | @back k x n he _ hs ih =>
      intro hk
      rw [← hfix k hk, hb_ni hf h.r8]
      have h1 : ouB D L k n = true := (ouB_iff hf.1).2 ⟨x, he, ih (he.lt hf.1).2⟩
      have h2 : hb (fs F k) n = false := by simp [hb, hs]
      simp [niB, h1, h2]
  apply List.ext_getElem
  · rw [h.len, lvR_len]
  · intro i h1 h2
    have hi : i < D.length := by rw [h.len] at h1; exact h1
    have e2 : (lvR D F)[i] = lst (lv D F i) 8 := by simp [lvR]
    rw [e2, ← row_at h1]
    refine r8_ext (h.r8 i) (lst_r8 _) (fun n hn => ?_)
    rw [hb_lst]
    simp only [hn, decide_true, Bool.true_and]
    rw [Bool.eq_iff_iff, lv_iff]
    exact ⟨h.low i n, fun hl => hall i n hl hi⟩
/-- How many names the rows have. -/
def tl (L : List (List Int)) : Nat := (L.map List.length).sum
theorem sub_len : ∀ {a b : List Int}, R8 a → R8 b → (∀ n, hb a n = true → hb b n = true) → a.length ≤ b.length ∧ (a.length = b.length → a = b) := by
  intro a b ha hb' h
  have hsub : a.Sublist b := by
    have : a = b.filter (fun x => decide (x ∈ a)) := by
      refine rise_ext _ _ ha.1 (hb'.1.filter _) (fun x => ?_)
      rw [List.mem_filter]
      constructor
      · intro hx
        obtain ⟨n, rfl⟩ : ∃ n : Nat, x = n := ⟨x.toNat, by have := ha.2 x hx; omega⟩
        exact ⟨hb_iff.1 (h n (hb_iff.2 hx)), by simpa using hx⟩
      · intro hx; simpa using hx.2
    rw [this]
    exact List.filter_sublist
  exact ⟨hsub.length_le, fun e => hsub.eq_of_length e⟩
theorem tl_le : ∀ {A B : List (List Int)}, A.length = B.length → (∀ k, R8 (row A k)) → (∀ k, R8 (row B k)) → (∀ k n, hb (row A k) n = true → hb (row B k) n = true) → tl A ≤ tl B ∧ (A ≠ B → tl A < tl B)
  | [], [], _, _, _, _ => ⟨Nat.le_refl _, fun h => absurd rfl h⟩
  | a :: A, b :: B, hl, ha, hb', h => by
    have h0 := sub_len (ha 0) (hb' 0) (h 0)
    have e0 : row (a :: A) 0 = a := rfl
    have e1 : row (b :: B) 0 = b := rfl
    rw [e0, e1] at h0
    have hr := tl_le (A := A) (B := B) (by simpa using hl) (fun k => ha (k + 1)) (fun k => hb' (k + 1)) (fun k => h (k + 1))
    have t1 : tl (a :: A) = a.length + tl A := by simp [tl]
    have t2 : tl (b :: B) = b.length + tl B := by simp [tl]
    refine ⟨by omega, fun hne => ?_⟩
    by_cases e : a = b
    · subst e
      have := hr.2 (fun e2 => hne (by rw [e2]))
      omega
    · have : a.length ≠ b.length := fun e2 => e (h0.2 e2)
      omega
theorem tl_max : ∀ {L : List (List Int)}, (∀ k, R8 (row L k)) → tl L ≤ 8 * L.length
  | [], _ => by simp [tl]
  | a :: L, h => by
    have := r8_len (h 0)
    have e : row (a :: L) 0 = a := rfl
    rw [e] at this
    have h2 := tl_max (L := L) (fun k => h (k + 1))
    have t1 : tl (a :: L) = a.length + tl L := by simp [tl]
    simp only [List.length_cons]
    omega
/-- One row brought up to date. -/
theorem LS.one {D F L : List (List Int)} (hf : GF D F) (h : LS D F L) {k : Nat} (hk : k < D.length) : LS D F (L.set k (ni D F L k)) ∧ tl L ≤ tl (L.set k (ni D F L k)) ∧ (ni D F L k ≠ row L k → tl L < tl (L.set k (ni D F L k))) := by
  have hk' : k < L.length := by rw [h.len]; exact hk
  have hr : ∀ j, R8 (row (L.set k (ni D F L k)) j) := fun j => by
    rw [row_set hk']; split
    · exact lst_r8 _
    · exact h.r8 j
  have hs : ∀ j n, hb (row L j) n = true → hb (row (L.set k (ni D F L k)) j) n = true := fun j n hn => by
    rw [row_set hk']; split
    · rename_i e; subst e; rw [hb_ni hf h.r8]; exact h.up j n hn
    · exact hn
  have ht := tl_le (A := L) (B := L.set k (ni D F L k)) (by simp) h.r8 hr hs
  refine ⟨⟨by simpa using h.len, hr, fun j n hn => ?_, fun j n hn => ?_⟩, ht.1, fun hne => ht.2 (fun e => hne ?_)⟩
  · rw [row_set hk'] at hn
    split at hn
    · rename_i e; subst e; rw [hb_ni hf h.r8] at hn; exact niB_lv hf.1 h hn
    · exact h.low j n hn
  · rw [row_set hk'] at hn
    split at hn
    · rename_i e; subst e; rw [hb_ni hf h.r8] at hn; exact niB_mono hs hn
    · exact niB_mono hs (h.up j n hn)
  · have := row_set hk' (ni D F L k) k
    rw [← e, if_pos rfl] at this
    exact this.symm
/-- All rows brought up to date at once. -/
theorem LS.all {D F L : List (List Int)} (hf : GF D F) (h : LS D F L) : LS D F (nx D F L) ∧ (nx D F L ≠ L → tl L < tl (nx D F L)) := by
  have hr : ∀ j, row (nx D F L) j = if j < D.length then ni D F L j else [] := fun j => by
    by_cases hj : j < D.length
    · rw [if_pos hj, nx_row hj]
    · rw [if_neg hj, row_out (by rw [nx_len]; exact hj)]
  have h8 : ∀ j, R8 (row (nx D F L) j) := fun j => by
    rw [hr]; split
    · exact lst_r8 _
    · exact r8_nil
  have hs : ∀ j n, hb (row L j) n = true → hb (row (nx D F L) j) n = true := fun j n hn => by
    have hj : j < D.length := by
      by_cases hj : j < L.length
      · rw [← h.len]; exact hj
      · rw [row_out hj] at hn; simp [hb] at hn
    rw [hr, if_pos hj, hb_ni hf h.r8]
    exact h.up j n hn
  have ht := tl_le (A := L) (B := nx D F L) (by rw [nx_len, h.len]) h.r8 h8 hs
  refine ⟨⟨nx_len _ _ _, h8, fun j n hn => ?_, fun j n hn => ?_⟩, fun hne => ht.2 (fun e => hne e.symm)⟩
  · rw [hr] at hn
    split at hn
    · rw [hb_ni hf h.r8] at hn; exact niB_lv hf.1 h hn
    · simp [hb] at hn
  · rw [hr] at hn
    split at hn
    · rw [hb_ni hf h.r8] at hn; exact niB_mono hs hn
    · simp [hb] at hn
theorem LS.fixed {D F L : List (List Int)} (h : LS D F L) (e : nx D F L = L) : ∀ k, k < D.length → ni D F L k = row L k := fun k hk => by rw [← nx_row hk, e]
end Go.Proofs.Ytaniiolphghhiab.W
