/-
  The model of good graphs and of what is reached: no program here.
-/
import Derived.Test.YtaniiolphghhiabGrP
namespace Go.Proofs.Ytaniiolphghhiab.W
open Go.ChangeShapes Go.WideShapes Go.ChangeAt Go.RowKit Go.Joins
set_option linter.unusedVariables false

/-- A rising row of numbers of blocks. -/
def RisL (l : List Int) (n : Nat) : Prop := ∀ i (h : i < l.length), 0 ≤ l[i] ∧ l[i] < (n : Int) ∧ ∀ h0 : 0 < i, l[i - 1] < l[i]
/-- A good graph. -/
def GG (L : List (List Int)) : Prop := 1 ≤ L.length ∧ L.length ≤ 12 ∧ ∀ i (h : i < L.length), RisL L[i] L.length
/-- A row of rising numbers. -/
abbrev Ris (l : List Int) : Prop := l.Pairwise (· < ·)
theorem RisL.le_len {l : List Int} {n : Nat} (h : RisL l n) : ∀ i (hi : i < l.length), (i : Int) ≤ l[i]
  | 0, hi => (h 0 hi).1
  | i + 1, hi => by
    have h1 := RisL.le_len h i (by omega)
    have h2 := (h (i + 1) hi).2.2 (by omega)
    simp only [Nat.add_sub_cancel] at h2
    omega
theorem RisL.len {l : List Int} {n : Nat} (h : RisL l n) : l.length ≤ n := by
  by_cases h0 : l.length = 0
  · omega
  · have h1 := h.le_len (l.length - 1) (by omega)
    have h2 := (h (l.length - 1) (by omega)).2.1
    omega
theorem RisL.mem {l : List Int} {n : Nat} (h : RisL l n) {x : Int} (hx : x ∈ l) : 0 ≤ x ∧ x < (n : Int) := by
  obtain ⟨i, hi, rfl⟩ := List.getElem_of_mem hx
  exact ⟨(h i hi).1, (h i hi).2.1⟩
theorem rise_ext : ∀ (a b : List Int), Ris a → Ris b → (∀ x, x ∈ a ↔ x ∈ b) → a = b
  | [], [], _, _, _ => rfl
  | [], y :: b, _, _, h => absurd ((h y).2 (by simp)) (by simp)
  | x :: a, [], _, _, h => absurd ((h x).1 (by simp)) (by simp)
  | x :: a, y :: b, ha, hb, h => by
    obtain ⟨ha1, ha2⟩ := List.pairwise_cons.1 ha
    obtain ⟨hb1, hb2⟩ := List.pairwise_cons.1 hb
    have e : x = y := by
      have h1 := (h x).1 (by simp)
      have h2 := (h y).2 (by simp)
      rcases List.mem_cons.1 h1 with h1 | h1
      · exact h1
      · rcases List.mem_cons.1 h2 with h2 | h2
        · exact h2.symm
        · have := hb1 x h1
          have := ha1 y h2
          omega
    subst e
    rw [rise_ext a b ha2 hb2 (fun z => ?_)]
    constructor
    · intro hz
      have := (h z).1 (by simp [hz])
      rcases List.mem_cons.1 this with e | e
      · have := ha1 z hz; omega
      · exact e
    · intro hz
      have := (h z).2 (by simp [hz])
      rcases List.mem_cons.1 this with e | e
      · have := hb1 z hz; omega
      · exact e
theorem rise_len : ∀ (l : List Int) (a b : Int), Ris l → a ≤ b → (∀ x ∈ l, a ≤ x ∧ x < b) → (l.length : Int) ≤ b - a
  | [], a, b, _, h, _ => by simp; omega
  | x :: l, a, b, hr, h, hx => by
    obtain ⟨h1, h2⟩ := List.pairwise_cons.1 hr
    have h3 := hx x (by simp)
    have := rise_len l (x + 1) b h2 (by omega) (fun y hy => ⟨by have := h1 y hy; omega, (hx y (by simp [hy])).2⟩)
    simp only [List.length_cons]
    omega
theorem putL_mem (n : Int) : ∀ (l : List Int) (x : Int), x ∈ putL l n ↔ x = n ∨ x ∈ l
  | [], x => by simp [putL]
  | y :: l, x => by
    unfold putL
    split
    · simp only [List.mem_cons, putL_mem n l x]
      constructor
      · rintro (h | h | h) <;> simp [h]
      · rintro (h | h | h) <;> simp [h]
    · split
      · rename_i h1 h2
        subst h2
        simp only [List.mem_cons]
        constructor
        · intro h; exact .inr h
        · rintro (h | h)
          · exact .inl h
          · exact h
      · simp only [List.mem_cons]
theorem putL_ris (n : Int) : ∀ (l : List Int), Ris l → Ris (putL l n)
  | [], _ => by simp [putL]
  | y :: l, h => by
    obtain ⟨h1, h2⟩ := List.pairwise_cons.1 h
    unfold putL
    split
    · rename_i hy
      refine List.pairwise_cons.2 ⟨fun z hz => ?_, putL_ris n l h2⟩
      rcases (putL_mem n l z).1 hz with e | e
      · omega
      · exact h1 z e
    · split
      · exact h
      · rename_i h3 h4
        refine List.pairwise_cons.2 ⟨fun z hz => ?_, h⟩
        rcases List.mem_cons.1 hz with e | e
        · omega
        · have := h1 z e; omega
theorem putL_len (n : Int) : ∀ (l : List Int), Ris l → (putL l n).length = if n ∈ l then l.length else l.length + 1
  | [], _ => by simp [putL]
  | y :: l, h => by
    obtain ⟨h1, h2⟩ := List.pairwise_cons.1 h
    have ih := putL_len n l h2
    unfold putL
    split
    · rename_i hy
      have : n ≠ y := by omega
      simp only [List.length_cons, ih, List.mem_cons, this, false_or]
      split <;> rfl
    · split
      · rename_i h3 h4
        subst h4
        simp
      · rename_i h3 h4
        have : n ∉ y :: l := by
          intro hm
          rcases List.mem_cons.1 hm with e | e
          · omega
          · have := h1 n e; omega
        rw [if_neg this]
        rfl
theorem putL_old (n : Int) (l : List Int) (hr : Ris l) (h : n ∈ l) : putL l n = l :=
  rise_ext _ _ (putL_ris n l hr) hr (fun x => by rw [putL_mem]; exact ⟨fun hx => hx.elim (fun e => e ▸ h) id, .inr⟩)

/-- x goes on to y. -/
def Edge (L : List (List Int)) (x y : Nat) : Prop := ∃ h : x < L.length, (y : Int) ∈ L[x]
theorem Edge.lt {L : List (List Int)} {x y : Nat} (hg : GG L) (h : Edge L x y) : x < L.length ∧ y < L.length := by
  obtain ⟨h1, h2⟩ := h
  have := (hg.2.2 x h1).mem h2
  exact ⟨h1, by omega⟩
/-- y is reached from s on ways that do not touch the block no. -/
inductive Rc (L : List (List Int)) (no : Int) (s : Nat) : Nat → Prop
  | start : (s : Int) ≠ no → Rc L no s s
  | step {x y : Nat} : Rc L no s x → Edge L x y → (y : Int) ≠ no → Rc L no s y
theorem Rc.lt {L : List (List Int)} {no : Int} {s x : Nat} (hg : GG L) (hs : s < L.length) (h : Rc L no s x) : x < L.length := by
  cases h with
  | start => exact hs
  | step _ h _ => exact (h.lt hg).2
theorem Rc.ne {L : List (List Int)} {no : Int} {s x : Nat} (h : Rc L no s x) : (x : Int) ≠ no := by
  cases h with
  | start h => exact h
  | step _ _ h => exact h
theorem Rc.first {L : List (List Int)} {no : Int} {s x : Nat} (h : Rc L no s x) : (s : Int) ≠ no := by
  induction h with
  | start h => exact h
  | step _ _ _ ih => exact ih
open Classical in
noncomputable def rc (L : List (List Int)) (no : Int) (s x : Nat) : Bool := decide (Rc L no s x)
theorem rc_iff {L : List (List Int)} {no : Int} {s x : Nat} : rc L no s x = true ↔ Rc L no s x := by simp [rc]
/-- The marked ones of the first n numbers, rising. -/
def lst (f : Nat → Bool) (n : Nat) : List Int := ((List.range n).filter f).map Int.ofNat
theorem lst_mem {f : Nat → Bool} {n : Nat} {x : Int} : x ∈ lst f n ↔ ∃ k : Nat, x = (k : Int) ∧ k < n ∧ f k = true := by
  simp only [lst, List.mem_map, List.mem_filter, List.mem_range]
  constructor
  · rintro ⟨k, ⟨h1, h2⟩, rfl⟩; exact ⟨k, rfl, h1, h2⟩
  · rintro ⟨k, rfl, h1, h2⟩; exact ⟨k, ⟨h1, h2⟩, rfl⟩
theorem lst_succ (f : Nat → Bool) (n : Nat) : lst f (n + 1) = lst f n ++ if f n = true then [(n : Int)] else [] := by
  unfold lst
  rw [List.range_succ, List.filter_append, List.map_append]
  by_cases h : f n = true <;> simp [h]
theorem lst_ris (f : Nat → Bool) : ∀ n, Ris (lst f n)
  | 0 => by simp [lst]
  | n + 1 => by
    rw [lst_succ]
    refine List.pairwise_append.2 ⟨lst_ris f n, by split <;> simp, fun a ha b hb => ?_⟩
    obtain ⟨k, rfl, h1, -⟩ := lst_mem.1 ha
    split at hb
    · simp at hb; omega
    · simp at hb
theorem lst_len (f : Nat → Bool) (n : Nat) : (lst f n).length ≤ n := by
  have := rise_len (lst f n) 0 (n : Int) (lst_ris f n) (by omega) (fun x hx => by obtain ⟨k, rfl, h1, -⟩ := lst_mem.1 hx; omega)
  omega
/-- What is reached, rising. -/
noncomputable def rl (L : List (List Int)) (no : Int) (s : Nat) : List Int := lst (rc L no s) 12
/-- A rising row that holds nothing but what is reached, holds the first one, and leaves nothing out. -/
theorem rl_unique {L : List (List Int)} {no : Int} {s : Nat} (hg : GG L) (hs : s < L.length) {o : List Int} (hr : Ris o) (hin : ∀ x ∈ o, ∃ k : Nat, x = (k : Int) ∧ Rc L no s k) (h0 : (s : Int) ≠ no → (s : Int) ∈ o)
    (hcl : ∀ x y : Nat, (x : Int) ∈ o → Edge L x y → (y : Int) ≠ no → (y : Int) ∈ o) : o = rl L no s := by
  refine rise_ext _ _ hr (lst_ris _ _) (fun x => ?_)
  constructor
  · intro hx
    obtain ⟨k, rfl, hk⟩ := hin x hx
    have := hg.2.1
    exact lst_mem.2 ⟨k, rfl, by have := hk.lt hg hs; omega, rc_iff.2 hk⟩
  · intro hx
    obtain ⟨k, rfl, -, hk⟩ := lst_mem.1 hx
    replace hk := rc_iff.1 hk
    clear hx
    induction hk with
    | start h => exact h0 h
    | step h1 h2 h3 ih => exact hcl _ _ (ih) h2 h3
end Go.Proofs.Ytaniiolphghhiab.W
