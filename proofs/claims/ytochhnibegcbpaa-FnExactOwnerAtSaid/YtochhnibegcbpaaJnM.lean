/-
  The model of chapter 11: who goes on to a block, frontiers, joins, owners: no program here.
-/
import Derived.Test.YtochhnibegcbpaaGrH
namespace Go.Proofs.Ytochhnibegcbpaa.W
open Go.ChangeShapes Go.WideShapes Go.ChangeAt Go.RowKit Go.Joins
set_option linter.unusedVariables false

/-- x is reached and goes on to y, by marks. -/
noncomputable def pB (L : List (List Int)) (y x : Nat) : Bool := eB L y x && rc L (-1) 0 x
/-- Those that are reached and go on to y, rising. -/
noncomputable def pdL (L : List (List Int)) (y : Nat) : List Int := lst (pB L y) L.length
noncomputable def pds (L : List (List Int)) : List (List Int) := (List.range L.length).map (pdL L)
theorem pds_len (L : List (List Int)) : (pds L).length = L.length := by simp [pds]
theorem pds_at (L : List (List Int)) {y : Nat} (h : y < (pds L).length) : (pds L)[y] = pdL L y := by simp [pds]
theorem pdL_len (L : List (List Int)) (y : Nat) : (pdL L y).length ≤ L.length := lst_len _ _
theorem pB_iff {L : List (List Int)} {y x : Nat} (h : x < L.length) : pB L y x = true ↔ Edge L x y ∧ Rc L (-1) 0 x := by
  unfold pB eB
  rw [Bool.and_eq_true, decide_eq_true_eq, rc_iff, getD_at h]
  constructor
  · rintro ⟨h1, h2⟩; exact ⟨⟨h, h1⟩, h2⟩
  · rintro ⟨⟨h0, h1⟩, h2⟩; exact ⟨h1, h2⟩
theorem pdL_mem {L : List (List Int)} {y : Nat} {x : Int} : x ∈ pdL L y ↔ ∃ k : Nat, x = (k : Int) ∧ k < L.length ∧ Edge L k y ∧ Rc L (-1) 0 k := by
  unfold pdL
  rw [lst_mem]
  constructor
  · rintro ⟨k, e, h1, h2⟩; exact ⟨k, e, h1, (pB_iff h1).1 h2⟩
  · rintro ⟨k, e, h1, h2⟩; exact ⟨k, e, h1, (pB_iff h1).2 h2⟩
/-- The row of block y behind the first j blocks and m of block j's: the program's. -/
noncomputable def pS (L : List (List Int)) (j : Nat) (l : List Int) (m y : Nat) : List Int := lst (pB L y) j ++ if rc L (-1) 0 j = true ∧ (y : Int) ∈ l.take m then [(j : Int)] else []
theorem pS_zero (L : List (List Int)) (j : Nat) (l : List Int) (y : Nat) : pS L j l 0 y = lst (pB L y) j := by simp [pS]
theorem pS_end (L : List (List Int)) {j : Nat} (h : j < L.length) (y : Nat) : pS L j L[j] L[j].length y = lst (pB L y) (j + 1) := by
  rw [pS, lst_succ, List.take_of_length_le (Nat.le_refl _)]
  congr 1
  simp only [pB, eB, getD_at h, Bool.and_eq_true, decide_eq_true_eq]
  by_cases h1 : rc L (-1) 0 j = true <;> by_cases h2 : (y : Int) ∈ L[j] <;> simp [h1, h2]
theorem take_mem {l : List Int} {m : Nat} (hm : m < l.length) (x : Int) : x ∈ l.take (m + 1) ↔ x ∈ l.take m ∨ x = l[m] := by
  rw [List.take_add_one, List.getElem?_eq_getElem hm, List.mem_append]
  simp
theorem take_not {l : List Int} {n m : Nat} (hr : RisL l n) (hm : m < l.length) : ¬ l[m] ∈ l.take m := by
  intro h
  obtain ⟨q, hq, e⟩ := List.getElem_of_mem h
  rw [List.length_take] at hq
  rw [List.getElem_take] at e
  have hlt : ∀ (d : Nat) (hd : q + d + 1 < l.length), l[q] < l[q + d + 1] := by
    intro d
    induction d with
    | zero => intro hd; exact (hr (q + 0 + 1) hd).2.2 (by omega)
    | succ d ih => intro hd; have h1 := ih (by omega); have h2 := (hr (q + (d + 1) + 1) hd).2.2 (by omega); exact Int.lt_trans h1 h2
  have := hlt (m - q - 1) (by omega)
  simp only [show q + (m - q - 1) + 1 = m by omega] at this
  omega
theorem pS_other (L : List (List Int)) {j : Nat} {l : List Int} {m y : Nat} (hm : m < l.length) (hy : l[m] ≠ (y : Int)) : pS L j l (m + 1) y = pS L j l m y := by
  unfold pS
  have : ((y : Int) ∈ l.take (m + 1)) ↔ (y : Int) ∈ l.take m := by
    rw [take_mem hm]
    exact ⟨fun h => h.elim id (fun h => absurd h.symm hy), .inl⟩
  simp only [this]
theorem pS_no (L : List (List Int)) {j : Nat} {l : List Int} {m y : Nat} (hr : rc L (-1) 0 j = false) : pS L j l (m + 1) y = pS L j l m y := by
  unfold pS
  simp [hr]
theorem pS_same (L : List (List Int)) {j : Nat} {l : List Int} {n m X : Nat} (hr : RisL l n) (hm : m < l.length) (hX : l[m] = (X : Int)) (hj : rc L (-1) 0 j = true) : pS L j l (m + 1) X = pS L j l m X ++ [(j : Int)] := by
  have hno : ¬ (X : Int) ∈ l.take m := by rw [← hX]; exact take_not hr hm
  unfold pS
  rw [if_neg (fun h : rc L (-1) 0 j = true ∧ (X : Int) ∈ l.take m => hno h.2), if_pos (show rc L (-1) 0 j = true ∧ (X : Int) ∈ l.take (m + 1) from ⟨hj, (take_mem hm _).2 (.inr hX.symm)⟩)]
  simp
theorem pS_len (L : List (List Int)) (j : Nat) (l : List Int) (m y : Nat) : (pS L j l m y).length ≤ j + 1 := by
  unfold pS
  have := lst_len (pB L y) j
  rw [List.length_append]
  split <;> simp <;> omega
/-- The row of block y, when the first i of R and m of the next one's have been looked at: the specification's. -/
def PD (L : List (List Int)) (R : List Int) (i : Nat) (l : List Int) (m y : Nat) (o : List Int) : Prop :=
  Ris o ∧ ∀ x : Int, x ∈ o ↔ (∃ q, ∃ h : q < R.length, q < i ∧ x = R[q] ∧ Edge L x.toNat y) ∨ (∃ h : i < R.length, x = R[i] ∧ (y : Int) ∈ l.take m)
theorem PD.zero (L : List (List Int)) (R : List Int) (l : List Int) (y : Nat) : PD L R 0 l 0 y [] := ⟨by simp, fun x => by
  constructor
  · intro h; simp at h
  · rintro (⟨q, h, h1, -⟩ | ⟨h, -, h2⟩)
    · omega
    · simp at h2⟩
theorem PD.row {L : List (List Int)} {R : List Int} {i y : Nat} {o : List Int} {l : List Int} (h : PD L R i l 0 y o) (l' : List Int) : PD L R i l' 0 y o := ⟨h.1, fun x => by rw [h.2]; simp⟩
theorem PD.next {L : List (List Int)} {R : List Int} {i y K : Nat} {o : List Int} {l : List Int} (h : PD L R i l l.length y o) (hi : i < R.length) (hK : R[i] = (K : Int)) (hKl : K < L.length) (hl : l = L[K]) : PD L R (i + 1) l 0 y o := ⟨h.1, fun x => by
  have he : (y : Int) ∈ l ↔ Edge L K y := by rw [hl]; exact ⟨fun h => ⟨hKl, h⟩, fun ⟨_, h⟩ => h⟩
  rw [h.2, List.take_of_length_le (Nat.le_refl _)]
  constructor
  · rintro (⟨q, hq, h1, h2⟩ | ⟨hq, h1, h2⟩)
    · exact .inl ⟨q, hq, by omega, h2⟩
    · exact .inl ⟨i, hi, by omega, h1, by rw [h1, hK]; exact he.1 h2⟩
  · rintro (⟨q, hq, h1, h2, h3⟩ | ⟨hq, h1, h2⟩)
    · by_cases e : q = i
      · subst e
        rw [h2, hK] at h3
        exact .inr ⟨hq, h2, he.2 h3⟩
      · exact .inl ⟨q, hq, by omega, h2, h3⟩
    · simp at h2⟩
theorem PD.skip {L : List (List Int)} {R : List Int} {i m y : Nat} {o : List Int} {l : List Int} (h : PD L R i l m y o) (hm : m < l.length) (hy : l[m] ≠ (y : Int)) : PD L R i l (m + 1) y o := ⟨h.1, fun x => by
  rw [h.2, take_mem hm]
  constructor
  · rintro (h | ⟨hq, h1, h2⟩)
    · exact .inl h
    · exact .inr ⟨hq, h1, .inl h2⟩
  · rintro (h | ⟨hq, h1, h2 | h2⟩)
    · exact .inl h
    · exact .inr ⟨hq, h1, h2⟩
    · exact absurd h2.symm hy⟩
theorem PD.put {L : List (List Int)} {R : List Int} {i m y : Nat} {o : List Int} {l : List Int} (h : PD L R i l m y o) (hi : i < R.length) (hm : m < l.length) (hy : l[m] = (y : Int)) : PD L R i l (m + 1) y (putL o R[i]) := ⟨putL_ris _ _ h.1, fun x => by
  rw [putL_mem, h.2, take_mem hm]
  constructor
  · rintro (h | h | ⟨hq, h1, h2⟩)
    · exact .inr ⟨hi, h, .inr hy.symm⟩
    · exact .inl h
    · exact .inr ⟨hq, h1, .inl h2⟩
  · rintro (h | ⟨hq, h1, h2 | h2⟩)
    · exact .inr (.inl h)
    · exact .inr (.inr ⟨hq, h1, h2⟩)
    · exact .inl h1⟩
theorem PD.len {L : List (List Int)} {R : List Int} {i m y : Nat} {o : List Int} {l : List Int} (hR : R = rl L (-1) 0) (h : PD L R i l m y o) : o.length ≤ 12 := by
  have := rise_len o 0 12 h.1 (by omega) (fun x hx => by
    have hm : x ∈ rl L (-1) 0 := by
      rcases (h.2 x).1 hx with ⟨q, hq, -, e, -⟩ | ⟨hq, e, -⟩
      · rw [← hR, e]; exact List.getElem_mem hq
      · rw [← hR, e]; exact List.getElem_mem hq
    obtain ⟨n, rfl, hn, -⟩ := lst_mem.1 hm
    omega)
  omega
theorem PD.done {L : List (List Int)} {R : List Int} {y : Nat} {o : List Int} {l : List Int} (hg : GG L) (hR : R = rl L (-1) 0) (h : PD L R R.length l 0 y o) : o = pdL L y := by
  refine rise_ext _ _ h.1 (lst_ris _ _) (fun x => ?_)
  rw [h.2, pdL_mem]
  constructor
  · rintro (⟨q, hq, -, e, hd⟩ | ⟨hq, -⟩)
    · have hm : x ∈ rl L (-1) 0 := by rw [← hR, e]; exact List.getElem_mem hq
      obtain ⟨n, rfl, hn, hr⟩ := lst_mem.1 hm
      have hr := rc_iff.1 hr
      exact ⟨n, rfl, hr.lt hg hg.1, by simpa using hd, hr⟩
    · omega
  · rintro ⟨k, rfl, hk, he, hr⟩
    have hm : (k : Int) ∈ R := by rw [hR]; exact lst_mem.2 ⟨k, rfl, by have := hg.2.1; omega, rc_iff.2 hr⟩
    obtain ⟨q, hq, e⟩ := List.getElem_of_mem hm
    exact .inl ⟨q, hq, hq, e.symm, by simpa using he⟩

/-- p, which goes on to t, is dominated by b, and b is t or does not dominate t. -/
noncomputable def cnd (L : List (List Int)) (t p b : Nat) : Bool := dm L p b && (decide (b = t) || !dm L t b)
def FrP (L : List (List Int)) (b t : Nat) : Prop := ∃ p : Nat, (p : Int) ∈ pdL L t ∧ cnd L t p b = true
open Classical in
noncomputable def fr (L : List (List Int)) (b t : Nat) : Bool := decide (FrP L b t)
theorem fr_iff {L : List (List Int)} {b t : Nat} : fr L b t = true ↔ FrP L b t := by simp [fr]
theorem FrP.reached {L : List (List Int)} {b t : Nat} (h : FrP L b t) : Rc L (-1) 0 b := by
  obtain ⟨p, -, h2⟩ := h
  unfold cnd at h2
  rw [Bool.and_eq_true] at h2
  exact (dm_iff.1 h2.1).reached
theorem FrP.lt {L : List (List Int)} (hg : GG L) {b t : Nat} (h : FrP L b t) : b < L.length ∧ t < L.length := by
  refine ⟨h.reached.lt hg hg.1, ?_⟩
  obtain ⟨p, h1, -⟩ := h
  obtain ⟨k, e, hk, he, -⟩ := pdL_mem.1 h1
  exact (he.lt hg).2
theorem FrP.to {L : List (List Int)} {b t : Nat} (h : FrP L b t) : Rc L (-1) 0 t := by
  obtain ⟨p, h1, -⟩ := h
  obtain ⟨k, e, hk, he, hr⟩ := pdL_mem.1 h1
  exact hr.step he (by omega)
/-- The frontier of b, rising. -/
noncomputable def frL (L : List (List Int)) (b : Nat) : List Int := lst (fr L b) 12
theorem frL_len (L : List (List Int)) (b : Nat) : (frL L b).length ≤ 12 := lst_len _ _
noncomputable def frs (L : List (List Int)) : List (List Int) := (List.range L.length).map (frL L)
theorem frs_len (L : List (List Int)) : (frs L).length = L.length := by simp [frs]
theorem frs_at (L : List (List Int)) {y : Nat} (h : y < (frs L).length) : (frs L)[y] = frL L y := by simp [frs]
theorem frL_mem {L : List (List Int)} (hg : GG L) {b : Nat} {x : Int} : x ∈ frL L b ↔ ∃ t : Nat, x = (t : Int) ∧ FrP L b t := by
  unfold frL
  rw [lst_mem]
  constructor
  · rintro ⟨k, e, -, h⟩; exact ⟨k, e, fr_iff.1 h⟩
  · rintro ⟨k, e, h⟩; exact ⟨k, e, by have := (h.lt hg).2; have := hg.2.1; omega, fr_iff.2 h⟩
/-- What is marked lies in frontiers, and nothing of the first j blocks is left out. -/
def FI (L : List (List Int)) (F : Nat → Nat → Bool) (j : Nat) : Prop :=
  (∀ b t, b < 12 → t < 12 → F b t = true → FrP L b t) ∧ ∀ t p b : Nat, t < j → b < 12 → (p : Int) ∈ pdL L t → cnd L t p b = true → F b t = true
/-- Besides: of block j nothing of its first m. -/
def FJ (L : List (List Int)) (F : Nat → Nat → Bool) (j m : Nat) : Prop :=
  FI L F j ∧ ∀ (q p b : Nat) (h : q < (pdL L j).length), q < m → (pdL L j)[q] = (p : Int) → b < 12 → cnd L j p b = true → F b j = true
/-- Besides: of the one at m nothing of the first k. -/
def FK (L : List (List Int)) (F : Nat → Nat → Bool) (j m p k : Nat) : Prop :=
  FJ L F j m ∧ ∀ b, b < k → b < 12 → cnd L j p b = true → F b j = true
theorem FI.zero (L : List (List Int)) : FI L (fun _ _ => false) 0 := ⟨fun b t _ _ h => by simp at h, fun t p b h => by omega⟩
theorem FI.start {L : List (List Int)} {F : Nat → Nat → Bool} {j : Nat} (h : FI L F j) : FJ L F j 0 := ⟨h, fun q p b _ h => by omega⟩
theorem FJ.start {L : List (List Int)} {F : Nat → Nat → Bool} {j m p : Nat} (h : FJ L F j m) : FK L F j m p 0 := ⟨h, fun b h => by omega⟩
theorem FJ.next {L : List (List Int)} {F : Nat → Nat → Bool} {j m : Nat} (h : FJ L F j m) (hm : m = (pdL L j).length) : FI L F (j + 1) := ⟨h.1.1, fun t p b ht hb hp hc => by
  by_cases e : t = j
  · subst e
    obtain ⟨q, hq, e⟩ := List.getElem_of_mem hp
    exact h.2 q p b hq (by omega) e hb hc
  · exact h.1.2 t p b (by omega) hb hp hc⟩
theorem FK.next {L : List (List Int)} {F : Nat → Nat → Bool} {j m p k : Nat} (h : FK L F j m p k) (hk : 12 ≤ k) (hm : ∀ hl : m < (pdL L j).length, (pdL L j)[m] = (p : Int)) : FJ L F j (m + 1) := ⟨h.1.1, fun q p' b hq hqm hp hb hc => by
  by_cases e : q = m
  · subst e
    have h1 := hm hq
    rw [h1] at hp
    obtain rfl : p = p' := by omega
    exact h.2 b (by omega) hb hc
  · exact h.1.2 q p' b hq (by omega) hp hb hc⟩
theorem FK.skip {L : List (List Int)} {F : Nat → Nat → Bool} {j m p k : Nat} (h : FK L F j m p k) (hc : cnd L j p k = false) : FK L F j m p (k + 1) := ⟨h.1, fun b hb h12 hcb => by
  by_cases e : b = k
  · subst e; rw [hc] at hcb; cases hcb
  · exact h.2 b (by omega) h12 hcb⟩
/-- One mark more. -/
def mk2 (F : Nat → Nat → Bool) (b t : Nat) : Nat → Nat → Bool := updR F b (upd (F b) t true)
theorem mk2_grows {F : Nat → Nat → Bool} {b t x y : Nat} (h : F x y = true) : mk2 F b t x y = true := by
  unfold mk2
  by_cases e : x = b
  · subst e
    rw [updR_same]
    by_cases e2 : y = t
    · subst e2; exact upd_same _ _ _
    · rw [upd_other _ _ _ e2]; exact h
  · rw [updR_other _ _ _ e]; exact h
theorem mk2_here (F : Nat → Nat → Bool) (b t : Nat) : mk2 F b t b t = true := by unfold mk2; rw [updR_same, upd_same]
theorem mk2_other {F : Nat → Nat → Bool} {b t x y : Nat} (h : mk2 F b t x y = true) : (x = b ∧ y = t) ∨ F x y = true := by
  unfold mk2 at h
  by_cases e : x = b
  · subst e
    rw [updR_same] at h
    by_cases e2 : y = t
    · exact .inl ⟨rfl, e2⟩
    · rw [upd_other _ _ _ e2] at h; exact .inr h
  · rw [updR_other _ _ _ e] at h; exact .inr h
theorem FK.put {L : List (List Int)} {F : Nat → Nat → Bool} {j m p k : Nat} (h : FK L F j m p k) (hp : (p : Int) ∈ pdL L j) (hc : cnd L j p k = true) : FK L (mk2 F k j) j m p (k + 1) :=
  ⟨⟨⟨fun b t hb ht hF => by
      rcases mk2_other hF with ⟨rfl, rfl⟩ | h1
      · exact ⟨p, hp, hc⟩
      · exact h.1.1.1 b t hb ht h1, fun t q b h1 h2 h3 h4 => mk2_grows (h.1.1.2 t q b h1 h2 h3 h4)⟩, fun q p' b h1 h2 h3 h4 h5 => mk2_grows (h.1.2 q p' b h1 h2 h3 h4 h5)⟩, fun b hb h12 hcb => by
    by_cases e : b = k
    · subst e; exact mk2_here _ _ _
    · exact mk2_grows (h.2 b (by omega) h12 hcb)⟩
theorem FI.done {L : List (List Int)} (hg : GG L) {F : Nat → Nat → Bool} (h : FI L F L.length) : dA F = dA (fr L) := by
  refine dA_congr (fun b t hb ht => ?_)
  rw [Bool.eq_iff_iff, fr_iff]
  constructor
  · exact h.1 b t hb ht
  · intro hf
    have hl := (hf.lt hg).2
    obtain ⟨p, h1, h2⟩ := hf
    exact h.2 t p b hl hb h1 h2

/-- The specification's row of a block: what lies in it lies in its frontier, rising, and what of the first y blocks (and m of the next one's) leads there is in it. -/
def SR (L : List (List Int)) (x y m : Nat) (o : List Int) : Prop :=
  Ris o ∧ (∀ z ∈ o, ∃ t : Nat, z = (t : Int) ∧ FrP L x t) ∧ (∀ t p : Nat, t < y → (p : Int) ∈ pdL L t → cnd L t p x = true → (t : Int) ∈ o) ∧ ∀ (q p : Nat) (h : q < (pdL L y).length), q < m → (pdL L y)[q] = (p : Int) → cnd L y p x = true → (y : Int) ∈ o
theorem SR.zero (L : List (List Int)) (x : Nat) : SR L x 0 0 [] := ⟨by simp, by simp, fun t p h => by omega, fun q p _ h => by omega⟩
theorem SR.skip {L : List (List Int)} {x y m p : Nat} {o : List Int} (h : SR L x y m o) (hm : ∀ hl : m < (pdL L y).length, (pdL L y)[m] = (p : Int)) (hc : cnd L y p x = false) : SR L x y (m + 1) o :=
  ⟨h.1, h.2.1, h.2.2.1, fun q p' hq hqm hp hcp => by
    by_cases e : q = m
    · subst e
      rw [hm hq] at hp
      obtain rfl : p = p' := by omega
      rw [hc] at hcp; cases hcp
    · exact h.2.2.2 q p' hq (by omega) hp hcp⟩
theorem SR.put {L : List (List Int)} {x y m p : Nat} {o : List Int} (h : SR L x y m o) (hl : m < (pdL L y).length) (hm : (pdL L y)[m] = (p : Int)) (hc : cnd L y p x = true) : SR L x y (m + 1) (putL o (y : Int)) := by
  refine ⟨putL_ris _ _ h.1, fun z hz => ?_, fun t p' ht hp hcp => (putL_mem _ _ _).2 (.inr (h.2.2.1 t p' ht hp hcp)), fun q p' hq hqm hp hcp => (putL_mem _ _ _).2 (.inl rfl)⟩
  rcases (putL_mem _ _ _).1 hz with e | e
  · exact ⟨y, e, p, by rw [← hm]; exact List.getElem_mem hl, hc⟩
  · exact h.2.1 z e
theorem SR.next {L : List (List Int)} {x y m : Nat} {o : List Int} (h : SR L x y m o) (hm : m = (pdL L y).length) : SR L x (y + 1) 0 o :=
  ⟨h.1, h.2.1, fun t p ht hp hc => by
    by_cases e : t = y
    · subst e
      obtain ⟨q, hq, e⟩ := List.getElem_of_mem hp
      exact h.2.2.2 q p hq (by omega) e hc
    · exact h.2.2.1 t p (by omega) hp hc, fun q p _ h => by omega⟩
theorem SR.len {L : List (List Int)} (hg : GG L) {x y m : Nat} {o : List Int} (h : SR L x y m o) : o.length ≤ 12 := by
  have := rise_len o 0 12 h.1 (by omega) (fun z hz => by
    obtain ⟨t, rfl, ht⟩ := h.2.1 z hz
    have := (ht.lt hg).2
    have := hg.2.1
    omega)
  omega
theorem SR.done {L : List (List Int)} (hg : GG L) {x : Nat} {o : List Int} (h : SR L x L.length 0 o) : o = frL L x := by
  refine rise_ext _ _ h.1 (lst_ris _ _) (fun z => ?_)
  rw [frL_mem hg]
  constructor
  · exact h.2.1 z
  · rintro ⟨t, rfl, ht⟩
    have hl := (ht.lt hg).2
    obtain ⟨p, h1, h2⟩ := ht
    exact h.2.2.1 t p hl h1 h2
theorem frL_none {L : List (List Int)} (hg : GG L) {x : Nat} (h : ¬ Rc L (-1) 0 x) : frL L x = [] := by
  refine List.eq_nil_iff_forall_not_mem.2 (fun z hz => ?_)
  obtain ⟨t, -, ht⟩ := (frL_mem hg).1 hz
  exact h ht.reached

/-- What lies in a frontier of one of the set, or of one that lies there so. -/
inductive JP (f : Nat → Nat → Bool) (S : List Int) : Nat → Prop
  | start {x y : Nat} : (x : Int) ∈ S → f x y = true → JP f S y
  | step {x y : Nat} : JP f S x → f x y = true → JP f S y
open Classical in
noncomputable def js (f : Nat → Nat → Bool) (S : List Int) (y : Nat) : Bool := decide (JP f S y)
theorem js_iff {f : Nat → Nat → Bool} {S : List Int} {y : Nat} : js f S y = true ↔ JP f S y := by simp [js]
/-- What lies in the frontier of one of these. -/
def aro (f : Nat → Nat → Bool) (xs : List Int) (y : Nat) : Bool := xs.any fun x => f x.toNat y
theorem aro_iff {f : Nat → Nat → Bool} {xs : List Int} {y : Nat} : aro f xs y = true ↔ ∃ x ∈ xs, f x.toNat y = true := by simp [aro]
theorem JP.least {f : Nat → Nat → Bool} {S : List Int} {P : Nat → Prop} (h1 : ∀ x y : Nat, (x : Int) ∈ S → f x y = true → P y) (h2 : ∀ x y : Nat, P x → f x y = true → P y) {y : Nat} (h : JP f S y) : P y := by
  induction h with
  | start ha hb => exact h1 _ _ ha hb
  | step _ hb ih => exact h2 _ _ ih hb
/-- Numbers of blocks. -/
def BlS (S : List Int) : Prop := ∀ x ∈ S, 0 ≤ x ∧ x < 12
/-- What is so far: joins, each from one that is so far, or of the set. -/
def JI (f : Nat → Nat → Bool) (S : List Int) (g : Nat → Bool) : Prop :=
  (∀ y, y < 12 → g y = true → JP f S y) ∧ (∀ x y : Nat, y < 12 → (x : Int) ∈ S → f x y = true → g y = true) ∧ ∀ y, y < 12 → g y = true → aro f (lst g 12 ++ S) y = true
theorem JI.start {f : Nat → Nat → Bool} {S : List Int} (hS : BlS S) : JI f S (aro f S) := by
  refine ⟨fun y _ h => ?_, fun x y _ hx h => aro_iff.2 ⟨x, hx, by simpa using h⟩, fun y _ h => ?_⟩
  · obtain ⟨x, hx, h2⟩ := aro_iff.1 h
    obtain ⟨k, rfl⟩ : ∃ k : Nat, x = (k : Int) := ⟨x.toNat, by have := (hS x hx).1; omega⟩
    exact .start hx (by simpa using h2)
  · obtain ⟨x, hx, h2⟩ := aro_iff.1 h
    exact aro_iff.2 ⟨x, List.mem_append.2 (.inr hx), h2⟩
theorem JI.next {f : Nat → Nat → Bool} {S : List Int} (hS : BlS S) {g : Nat → Bool} (h : JI f S g) : JI f S (aro f (lst g 12 ++ S)) := by
  have hgr : ∀ y, y < 12 → g y = true → aro f (lst g 12 ++ S) y = true := h.2.2
  refine ⟨fun y _ h2 => ?_, fun x y hy hx h2 => hgr y hy (h.2.1 x y hy hx h2), fun y hy h2 => ?_⟩
  · obtain ⟨x, hx, h3⟩ := aro_iff.1 h2
    rcases List.mem_append.1 hx with hx | hx
    · obtain ⟨k, rfl, hk, hg⟩ := lst_mem.1 hx
      exact .step (h.1 k hk hg) (by simpa using h3)
    · obtain ⟨k, rfl⟩ : ∃ k : Nat, x = (k : Int) := ⟨x.toNat, by have := (hS x hx).1; omega⟩
      exact .start hx (by simpa using h3)
  · obtain ⟨x, hx, h3⟩ := aro_iff.1 h2
    refine aro_iff.2 ⟨x, ?_, h3⟩
    rcases List.mem_append.1 hx with hx | hx
    · obtain ⟨k, rfl, hk, hg⟩ := lst_mem.1 hx
      exact List.mem_append.2 (.inl (lst_mem.2 ⟨k, rfl, hk, hgr k hk hg⟩))
    · exact List.mem_append.2 (.inr hx)
theorem JI.done {f : Nat → Nat → Bool} {S : List Int} (hf : ∀ x y, f x y = true → y < 12) {g : Nat → Bool} (h : JI f S g) (he : sA (aro f (lst g 12 ++ S)) = sA g) : sA g = sA (js f S) := by
  refine sA_congr (fun y hy => ?_)
  rw [Bool.eq_iff_iff, js_iff]
  constructor
  · exact h.1 y hy
  · intro hj
    exact (JP.least (P := fun y => y < 12 ∧ g y = true) (fun x y hx h2 => ⟨hf x y h2, h.2.1 x y (hf x y h2) hx h2⟩) (fun x y hx h2 => ⟨hf x y h2, by
      rw [← sA_inj he y (hf x y h2)]
      exact aro_iff.2 ⟨(x : Int), List.mem_append.2 (.inl (lst_mem.2 ⟨x, rfl, hx.1, hx.2⟩)), by simpa using h2⟩⟩) hj).2
/-- How many are not marked grows less where something is new. -/
theorem nF_less {g g2 : Nat → Bool} (h1 : ∀ y, y < 12 → g y = true → g2 y = true) (h2 : sA g2 ≠ sA g) : nF g2 12 < nF g 12 := by
  obtain ⟨d, hd, h3⟩ : ∃ d, d < 12 ∧ g2 d ≠ g d := Classical.byContradiction (fun hn => h2 (sA_congr (fun i hi => Classical.byContradiction (fun hh => hn ⟨i, hi, hh⟩))))
  have h4 : g2 d = true ∧ g d = false := by
    cases e : g d with
    | true => exact absurd (by rw [e, h1 d hd e]) h3
    | false =>
      rw [e] at h3
      cases e2 : g2 d with
      | true => exact ⟨rfl, rfl⟩
      | false => exact absurd e2 h3
  refine countP_lt _ (fun i hi hp => ?_) ⟨d, List.mem_range.2 hd, by simp [h4.2], by simp [h4.1]⟩
  simp only [Bool.not_eq_true'] at hp ⊢
  rw [Bool.eq_false_iff] at hp ⊢
  exact fun h => hp (h1 i (List.mem_range.1 hi) h)
theorem fr_lt {L : List (List Int)} (hg : GG L) (x y : Nat) (h : fr L x y = true) : y < 12 := by
  have := ((fr_iff.1 h).lt hg).2
  have := hg.2.1
  omega
end Go.Proofs.Ytochhnibegcbpaa.W
