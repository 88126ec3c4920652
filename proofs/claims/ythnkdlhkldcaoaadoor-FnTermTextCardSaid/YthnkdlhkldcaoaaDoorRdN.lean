/-
  The model of reading a term: numbers' texts read, words cut, cells told from words. No program here.
-/
import Derived.Test.YthnkdlhkldcaoaaDoorTxT
import Derived.Lib.Atoi
import Derived.Lib.AtoiAll
import Derived.Lib.Split
import Derived.Lib.IndexMore
namespace Go.Proofs.YthnkdlhkldcaoaaDoor.W
open Go.Lib
set_option linter.unusedVariables false

theorem digitVal_some {b : UInt8} {d : Nat} (h : digitVal b = some d) : d < 10 ∧ b.toNat = 48 + d := by
  unfold digitVal at h
  split at h
  · rename_i hb
    simp only [Option.some.injEq] at h
    omega
  · cases h
theorem digitVal_of (d : Nat) (h : d < 10) : digitVal (UInt8.ofNat (48 + d)) = some d := by
  have e : (UInt8.ofNat (48 + d)).toNat = 48 + d := by rw [UInt8.toNat_ofNat']; omega
  unfold digitVal
  rw [e, if_pos (by omega)]
  simp
theorem digit_byte {b : UInt8} {d : Nat} (h : digitVal b = some d) : b = UInt8.ofNat (48 + d) := by
  obtain ⟨h1, h2⟩ := digitVal_some h
  apply UInt8.toNat_inj.1
  rw [h2, UInt8.toNat_ofNat']
  omega
theorem decFrom_snoc (b : UInt8) : ∀ (l : List UInt8) (acc : Nat), decFrom acc (l ++ [b]) = (decFrom acc l).bind fun n => (digitVal b).map fun d => n * 10 + d
  | [], acc => by
    simp only [List.nil_append, decFrom, Option.bind_some]
    cases digitVal b <;> rfl
  | a :: l, acc => by
    simp only [List.cons_append, decFrom]
    cases digitVal a with
    | none => rfl
    | some d => exact decFrom_snoc b l _
theorem decFrom_le : ∀ (l : List UInt8) (acc n : Nat), decFrom acc l = some n → acc ≤ n
  | [], acc, n, h => by simp only [decFrom, Option.some.injEq] at h; omega
  | a :: l, acc, n, h => by
    simp only [decFrom] at h
    cases hd : digitVal a with
    | none => rw [hd] at h; cases h
    | some d =>
      rw [hd] at h
      have := decFrom_le l _ n h
      omega
theorem decFrom_lt : ∀ (l : List UInt8) (acc n : Nat), decFrom acc l = some n → n < (acc + 1) * 10 ^ l.length
  | [], acc, n, h => by simp only [decFrom, Option.some.injEq] at h; simp; omega
  | a :: l, acc, n, h => by
    simp only [decFrom] at h
    cases hd : digitVal a with
    | none => rw [hd] at h; cases h
    | some d =>
      rw [hd] at h
      have h1 := decFrom_lt l _ n h
      have h2 := (digitVal_some hd).1
      have h3 : (acc * 10 + d + 1) * 10 ^ l.length ≤ ((acc + 1) * 10) * 10 ^ l.length := Nat.mul_le_mul_right _ (by omega)
      rw [List.length_cons, Nat.pow_succ, Nat.mul_comm (10 ^ l.length) 10, ← Nat.mul_assoc]
      omega
/-- A number's digits spell it. -/
theorem dec_spells : ∀ u : Nat, decFrom 0 (decDigits u) = some u := by
  intro u
  induction u using Nat.strongRecOn with
  | _ u ih =>
    rw [decDigits]
    split
    · rename_i h
      show (match digitVal (UInt8.ofNat (48 + u)) with
        | some d => decFrom (0 * 10 + d) []
        | none => none) = some u
      rw [digitVal_of u h]
      simp [decFrom]
    · rename_i h
      rw [decFrom_snoc, ih (u / 10) (by omega)]
      simp only [Option.bind_some, digitVal_of (u % 10) (by omega), Option.map_some, Option.some.injEq]
      omega
theorem dec_head : ∀ u : Nat, ∃ b r, decDigits u = b :: r ∧ 48 ≤ b.toNat ∧ b.toNat ≤ 57 ∧ (b.toNat = 48 → u = 0) := by
  intro u
  induction u using Nat.strongRecOn with
  | _ u ih =>
    rw [decDigits]
    split
    · rename_i h
      have e : (UInt8.ofNat (48 + u)).toNat = 48 + u := by rw [UInt8.toNat_ofNat']; omega
      exact ⟨_, [], rfl, by rw [e]; omega, by rw [e]; omega, by rw [e]; omega⟩
    · rename_i h
      obtain ⟨b, r, e, h1, h2, h3⟩ := ih (u / 10) (by omega)
      rw [e]
      exact ⟨b, _, rfl, h1, h2, fun hb => by have := h3 hb; omega⟩
/-- What spells a number, with no 0 ahead, is the number's text. -/
theorem spells_dec : ∀ (k : Nat) (l : List UInt8) (n : Nat), l.length = k → decFrom 0 l = some n → l ≠ [] → (l.head? = some 48 → l.length = 1) → decDigits n = l := by
  intro k
  induction k with
  | zero => intro l n hk _ hn _; exact absurd (List.length_eq_zero_iff.1 hk) hn
  | succ k ih =>
    intro l n hk h hn h0
    obtain ⟨l', b, rfl⟩ : ∃ l' b, l = l' ++ [b] := ⟨l.dropLast, l.getLast hn, (List.dropLast_concat_getLast hn).symm⟩
    rw [decFrom_snoc] at h
    cases hl : decFrom 0 l' with
    | none => rw [hl] at h; cases h
    | some m =>
      rw [hl, Option.bind_some] at h
      cases hd : digitVal b with
      | none => rw [hd] at h; cases h
      | some d =>
        rw [hd, Option.map_some, Option.some.injEq] at h
        have hb := digit_byte hd
        have hd10 := (digitVal_some hd).1
        by_cases he : l' = []
        · subst he
          simp only [decFrom, Option.some.injEq] at hl
          rw [decDigits, dif_pos (by omega), List.nil_append, hb, show n = d by omega]
        · have hh : l'.head? ≠ some 48 := by
            intro e
            have h1 := h0 (by cases l' with
              | nil => cases e
              | cons a t => simpa using e)
            rw [List.length_append] at h1
            simp at h1
            exact he h1
          have hm := ih l' m (by simp at hk; exact hk) hl he (fun e => absurd e hh)
          have hm0 : m ≠ 0 := by
            rintro rfl
            rw [show decDigits 0 = [48] from by rw [decDigits, dif_pos (by omega)]; rfl] at hm
            rw [← hm] at hh
            exact hh rfl
          rw [decDigits, dif_neg (by omega), show n / 10 = m by omega, show n % 10 = d by omega, hm, hb]

/-- A number's text read, of at most seven digits. -/
def intL (l : List UInt8) : Option Int :=
  if 1 < l.length ∧ l.head? = some 45 then
    (if 1 ≤ l.tail.length ∧ l.tail.length ≤ 7 ∧ l.tail.head? ≠ some 48 then (decFrom 0 l.tail).map fun (n : Nat) => -(n : Int) else none)
  else (if 1 ≤ l.length ∧ l.length ≤ 7 ∧ (l.head? = some 48 → l.length = 1) then (decFrom 0 l).map fun (n : Nat) => (n : Int) else none)
theorem dec_lt {l : List UInt8} {n : Nat} (h : decFrom 0 l = some n) (hl : l.length ≤ 7) : n ≤ 9999999 := by
  have h1 := decFrom_lt l 0 n h
  have h2 : 10 ^ l.length ≤ 10 ^ 7 := Nat.pow_le_pow_right (by omega) hl
  omega
theorem intL_is {l : List UInt8} {n : Int} (h : intL l = some n) : itoa n = l ∧ -9999999 ≤ n ∧ n ≤ 9999999 := by
  unfold intL at h
  split at h
  · rename_i hneg
    split at h
    · rename_i hok
      cases hd : decFrom 0 l.tail with
      | none => rw [hd] at h; cases h
      | some m =>
        rw [hd, Option.map_some, Option.some.injEq] at h
        have hne : l.tail ≠ [] := fun e => by have := hok.1; rw [e] at this; simp at this
        have hs := spells_dec _ l.tail m rfl hd hne (fun e => absurd e hok.2.2)
        have hm0 : m ≠ 0 := by
          rintro rfl
          rw [show decDigits 0 = [48] from by rw [decDigits, dif_pos (by omega)]; rfl] at hs
          exact hok.2.2 (by rw [← hs]; rfl)
        have h9 := dec_lt hd hok.2.1
        refine ⟨?_, by omega, by omega⟩
        unfold itoa
        rw [if_pos (by omega), show n.natAbs = m by omega, hs]
        obtain ⟨a, t, rfl⟩ : ∃ a t, l = a :: t := by cases l with
          | nil => simp at hneg
          | cons a t => exact ⟨a, t, rfl⟩
        have := hneg.2
        simp only [List.head?_cons, Option.some.injEq] at this
        rw [this]; rfl
    · cases h
  · split at h
    · rename_i hok
      cases hd : decFrom 0 l with
      | none => rw [hd] at h; cases h
      | some m =>
        rw [hd, Option.map_some, Option.some.injEq] at h
        have hne : l ≠ [] := fun e => by have := hok.1; rw [e] at this; simp at this
        have hs := spells_dec _ l m rfl hd hne hok.2.2
        have h9 := dec_lt hd hok.2.1
        refine ⟨?_, by omega, by omega⟩
        unfold itoa
        rw [if_neg (by omega), show n.toNat = m by omega, hs]
    · cases h
theorem dec_len7 {u : Nat} (h : u ≤ 9999999) : 1 ≤ (decDigits u).length ∧ (decDigits u).length ≤ 7 := by
  rw [decDigits_length]
  have : ∀ (d n : Nat), n < 10 ^ (d + 1) → nDigits n ≤ d + 1 := by
    intro d
    induction d with
    | zero => intro n hn; rw [nDigits_small (by simpa using hn)]; omega
    | succ d ih =>
      intro n hn
      rw [nDigits]
      split
      · omega
      · have := ih (n / 10) (by rw [Nat.div_lt_iff_lt_mul (by omega)]; rw [Nat.pow_succ] at hn; exact hn)
        omega
  refine ⟨?_, this 6 _ (by omega)⟩
  rw [nDigits]
  split <;> omega
theorem intL_itoa {n : Int} (h1 : -9999999 ≤ n) (h2 : n ≤ 9999999) : intL (itoa n) = some n := by
  by_cases hn : n < 0
  · obtain ⟨b, r, e, g1, g2, g3⟩ := dec_head n.natAbs
    obtain ⟨k1, k2⟩ := dec_len7 (u := n.natAbs) (by omega)
    unfold itoa intL
    rw [if_pos hn]
    rw [if_pos (by simp; omega)]
    have hh : (decDigits n.natAbs).head? ≠ some 48 := by
      rw [e]
      intro hc
      simp only [List.head?_cons, Option.some.injEq] at hc
      rw [hc] at g3
      have := g3 rfl
      omega
    rw [if_pos (show 1 ≤ (45 :: decDigits n.natAbs).tail.length ∧ (45 :: decDigits n.natAbs).tail.length ≤ 7 ∧ (45 :: decDigits n.natAbs).tail.head? ≠ some 48 from ⟨k1, k2, hh⟩)]
    show (decFrom 0 (decDigits n.natAbs)).map (fun (n : Nat) => -(n : Int)) = some n
    rw [dec_spells, Option.map_some]
    congr 1
    omega
  · obtain ⟨b, r, e, g1, g2, g3⟩ := dec_head n.toNat
    obtain ⟨k1, k2⟩ := dec_len7 (u := n.toNat) (by omega)
    unfold itoa intL
    rw [if_neg hn]
    have hh : ¬ (1 < (decDigits n.toNat).length ∧ (decDigits n.toNat).head? = some 45) := by
      rintro ⟨-, hc⟩
      rw [e] at hc
      simp only [List.head?_cons, Option.some.injEq] at hc
      rw [hc] at g1
      exact absurd g1 (by decide)
    rw [if_neg hh]
    have h48 : (decDigits n.toNat).head? = some 48 → (decDigits n.toNat).length = 1 := by
      intro hc
      rw [e] at hc
      simp only [List.head?_cons, Option.some.injEq] at hc
      rw [hc] at g3
      have := g3 rfl
      rw [this, decDigits, dif_pos (by omega)]
      rfl
    rw [if_pos ⟨k1, k2, h48⟩, dec_spells, Option.map_some]
    congr 1
    omega
/-- Go's Atoi of a number's text. -/
theorem parse_dec : ∀ (l : List UInt8) (acc n : Nat), decFrom acc l = some n → n ≤ 9999999 → parseUint10 acc l = .ok n
  | [], acc, n, h, _ => by simp only [decFrom, Option.some.injEq] at h; rw [h]; rfl
  | a :: l, acc, n, h, hn => by
    simp only [decFrom] at h
    cases hd : digitVal a with
    | none => rw [hd] at h; cases h
    | some d =>
      rw [hd] at h
      obtain ⟨d1, d2⟩ := digitVal_some hd
      have h1 := decFrom_le l _ n h
      unfold parseUint10
      rw [if_pos (by omega), if_neg (by omega), if_neg (by omega), show a.toNat - 48 = d by omega]
      exact parse_dec l _ n h hn
theorem atoi_itoa {n : Int} (h1 : -9999999 ≤ n) (h2 : n ≤ 9999999) : atoiAll (itoa n) = .ok n := by
  by_cases hn : n < 0
  · obtain ⟨b, r, e, g1, g2, g3⟩ := dec_head n.natAbs
    have hp := parse_dec _ 0 _ (dec_spells n.natAbs) (by omega)
    unfold itoa
    rw [if_pos hn]
    simp only [atoiAll, parseMag]
    rw [if_pos (show ((45 : UInt8).toNat = 43 ∨ (45 : UInt8).toNat = 45) from Or.inr rfl), if_neg (by rw [e]; simp), hp]
    simp only
    rw [if_neg (fun h => h.1 rfl), if_neg (by omega), if_pos (show (45 : UInt8).toNat = 45 from rfl)]
    congr 1
    omega
  · obtain ⟨b, r, e, g1, g2, g3⟩ := dec_head n.toNat
    have hp := parse_dec _ 0 _ (dec_spells n.toNat) (by omega)
    unfold itoa
    rw [if_neg hn, e]
    simp only [atoiAll, parseMag]
    rw [if_neg (show ¬ (b.toNat = 43 ∨ b.toNat = 45) by omega), if_neg (by simp), ← e, hp]
    simp only
    rw [if_neg (by omega), if_neg (by omega), if_neg (by omega)]
    congr 1
    omega
theorem itoa_head (n : Int) : ∃ b r, itoa n = b :: r ∧ (b.toNat = 45 ∨ 48 ≤ b.toNat ∧ b.toNat ≤ 57) := by
  unfold itoa
  split
  · exact ⟨45, _, rfl, .inl rfl⟩
  · obtain ⟨b, r, e, g1, g2, g3⟩ := dec_head n.toNat
    exact ⟨b, r, e, .inr ⟨g1, g2⟩⟩

/-- A cell told from a word, its number of at most seven digits. -/
def dcell (l : List UInt8) : Option Cc :=
  if l = [92] then some ⟨3, 0⟩ else if l = [64] then some ⟨4, 0⟩ else if l = [43] then some ⟨5, 0⟩ else if l = [63] then some ⟨6, 0⟩ else if l = [61] then some ⟨7, 0⟩
  else if l.head? = some 118 then (intL l.tail).map fun n => ⟨1, n⟩ else (intL l).map fun n => ⟨2, n⟩
/-- A word's bytes. -/
def wdL (x : Cc) : List UInt8 := (wd x).data.toList
theorem dcell_is {l : List UInt8} {x : Cc} (h : dcell l = some x) : wdL x = l := by
  unfold dcell at h
  split at h
  · rename_i e; simp only [Option.some.injEq] at h; subst h; rw [e]; rfl
  split at h
  · rename_i e; simp only [Option.some.injEq] at h; subst h; rw [e]; rfl
  split at h
  · rename_i e; simp only [Option.some.injEq] at h; subst h; rw [e]; rfl
  split at h
  · rename_i e; simp only [Option.some.injEq] at h; subst h; rw [e]; rfl
  split at h
  · rename_i e; simp only [Option.some.injEq] at h; subst h; rw [e]; rfl
  split at h
  · rename_i e
    cases hi : intL l.tail with
    | none => rw [hi] at h; cases h
    | some n =>
      rw [hi, Option.map_some, Option.some.injEq] at h
      subst h
      obtain ⟨a, t, rfl⟩ : ∃ a t, l = a :: t := by cases l with
        | nil => cases e
        | cons a t => exact ⟨a, t, rfl⟩
      simp only [List.head?_cons, Option.some.injEq] at e
      have := (intL_is hi).1
      simp only [List.tail_cons] at this
      show ((⟨#[118]⟩ : ByteArray) ++ itB n).data.toList = a :: t
      rw [e, ← this]
      simp [itB]
  · cases hi : intL l with
    | none => rw [hi] at h; cases h
    | some n =>
      rw [hi, Option.map_some, Option.some.injEq] at h
      subst h
      show (itB n).data.toList = l
      rw [← (intL_is hi).1]
      simp [itB]
theorem dcell_of {x : Cc} (h : goodC x = true) : dcell (wdL x) = some x := by
  obtain ⟨h1, h2⟩ := good_n' h
  have hin := good_ar h
  have hg := h
  obtain ⟨k, n⟩ := x
  simp only [inB, Bool.and_eq_true, decide_eq_true_eq] at hin h1 h2
  have hx : k = 1 ∨ k = 2 ∨ k = 3 ∨ k = 4 ∨ k = 5 ∨ k = 6 ∨ k = 7 := by omega
  have hit := intL_itoa (n := n) (by omega) (by omega)
  obtain ⟨b, r, e, hb⟩ := itoa_head n
  rcases hx with rfl | rfl | rfl | rfl | rfl | rfl | rfl
  · have e1 : wdL ⟨1, n⟩ = 118 :: itoa n := by
      show ((⟨#[118]⟩ : ByteArray) ++ itB n).data.toList = _
      simp [itB]
    rw [e1]
    unfold dcell
    rw [if_neg (by simp), if_neg (by simp), if_neg (by simp), if_neg (by simp), if_neg (by simp), if_pos (by simp), List.tail_cons, hit]
    rfl
  · have e1 : wdL ⟨2, n⟩ = itoa n := by
      show (itB n).data.toList = _
      simp [itB]
    rw [e1]
    have hne : ∀ c : UInt8, (c.toNat ≠ 45 ∧ ¬ (48 ≤ c.toNat ∧ c.toNat ≤ 57)) → ∀ q, itoa n ≠ c :: q := by
      intro c hc q hq
      rw [e] at hq
      simp only [List.cons.injEq] at hq
      rw [hq.1] at hb
      rcases hb with hb | hb
      · exact hc.1 hb
      · exact hc.2 hb
    unfold dcell
    rw [if_neg (hne 92 (by decide) _), if_neg (hne 64 (by decide) _), if_neg (hne 43 (by decide) _), if_neg (hne 63 (by decide) _), if_neg (hne 61 (by decide) _), if_neg (by
      intro hc
      rw [e] at hc
      simp only [List.head?_cons, Option.some.injEq] at hc
      exact hne 118 (by decide) r (by rw [e, hc])), hit]
    rfl
  all_goals
    have h0 : n = 0 := by
      simp [goodC] at hg
      first | exact hg | exact hg.2 | omega
    subst h0
    rfl

/-- Words between blanks. -/
def cutL : List UInt8 → List (List UInt8)
  | [] => [[]]
  | b :: l => if b = 32 then [] :: cutL l else match cutL l with
    | [] => [[b]]
    | w :: ws => (b :: w) :: ws
theorem cutL_one : ∀ u : List UInt8, (∀ b ∈ u, b ≠ 32) → cutL u = [u]
  | [], _ => rfl
  | b :: u, h => by
    unfold cutL
    rw [if_neg (h b (by simp)), cutL_one u (fun c hc => h c (List.mem_cons_of_mem b hc))]
theorem cutL_app : ∀ (u r : List UInt8), (∀ b ∈ u, b ≠ 32) → cutL (u ++ 32 :: r) = u :: cutL r
  | [], r, _ => by simp [cutL]
  | b :: u, r, h => by
    rw [List.cons_append, cutL, if_neg (h b (by simp)), cutL_app u r (fun c hc => h c (List.mem_cons_of_mem b hc))]
theorem occ_one (s : List UInt8) (c : UInt8) (j : Nat) : occAt s [c] j = true ↔ s[j]? = some c := by
  unfold occAt
  rw [List.isPrefixOf_iff_prefix]
  constructor
  · rintro ⟨t, ht⟩
    have := congrArg (·[0]?) ht
    simpa using this.symm
  · intro h
    obtain ⟨hl, he⟩ := List.getElem?_eq_some_iff.1 h
    exact ⟨s.drop (j + 1), by rw [← he]; exact (List.drop_eq_getElem_cons hl).symm⟩
theorem splitK_cut : ∀ (k : Nat) (s : List UInt8), s.length ≤ k → splitK [32] 0 (count s [32]) s = cutL s := by
  intro k
  induction k with
  | zero =>
    intro s hs
    obtain rfl := List.length_eq_zero_iff.1 (Nat.le_zero.1 hs)
    decide
  | succ k ih =>
    intro s hs
    rcases index_spec s [32] with ⟨h1, h2⟩ | ⟨i, h1, h2, h3, h4⟩
    · rw [count_miss h1]
      refine (cutL_one s (fun b hb e => ?_)).symm
      obtain ⟨j, hj, hje⟩ := List.getElem_of_mem hb
      have h5 := h2 j (by omega)
      rw [(occ_one s 32 j).2 (by rw [List.getElem?_eq_getElem hj, hje, e])] at h5
      cases h5
    · have hi := (occ_one s 32 i).1 h3
      obtain ⟨hil, hie⟩ := List.getElem?_eq_some_iff.1 hi
      rw [count_hit (by simp) h1, Nat.add_comm 1, splitK, if_neg (by rw [h1, beq_iff_eq]; omega), h1]
      have hsp : s = s.take i ++ 32 :: s.drop (i + 1) := by rw [← hie]; simp
      have hfree : ∀ b ∈ s.take i, b ≠ 32 := by
        intro b hb e
        obtain ⟨j, hj, hje⟩ := List.getElem_of_mem hb
        have hji : j < i := by simp at hj; omega
        have h5 := h4 j hji
        rw [(occ_one s 32 j).2 (by rw [List.getElem?_eq_getElem (by omega)]; rw [List.getElem_take] at hje; rw [hje, e])] at h5
        cases h5
      have hc := cutL_app (s.take i) (s.drop (i + 1)) hfree
      rw [← hsp] at hc
      rw [hc]
      have hk : (s.drop (i + 1)).length ≤ k := by simp; omega
      have hh := ih (s.drop (i + 1)) hk
      simp only [Int.toNat_natCast, Nat.add_zero, List.length_singleton]
      rw [hh]

/-- A term read. -/
def rdT (s : ByteArray) : Option (List Cc) :=
  if s.size ≤ 2000 then
    (if (cutL s.data.toList).all (fun w => (dcell w).isSome) then (if goodT ((cutL s.data.toList).filterMap dcell) then some ((cutL s.data.toList).filterMap dcell) else none) else none)
  else none
theorem filterMap_of : ∀ {ws : List (List UInt8)} {l : List Cc}, ws.map dcell = l.map some → ws.all (fun w => (dcell w).isSome) = true ∧ ws.filterMap dcell = l
  | [], [], _ => ⟨rfl, rfl⟩
  | [], x :: l, h => by simp at h
  | w :: ws, [], h => by simp at h
  | w :: ws, x :: l, h => by
    simp only [List.map_cons, List.cons.injEq] at h
    obtain ⟨h1, h2⟩ := filterMap_of h.2
    refine ⟨by simp [h.1, h1], by rw [List.filterMap_cons, h.1]; simp [h2]⟩
theorem rdT_end {s : ByteArray} {l : List Cc} (hs : s.size ≤ 2000) (h : (cutL s.data.toList).map dcell = l.map some) : rdT s = if goodT l = true then some l else none := by
  obtain ⟨h1, h2⟩ := filterMap_of h
  unfold rdT
  rw [if_pos hs, if_pos h1, h2]
theorem rdT_long {s : ByteArray} (hs : ¬ s.size ≤ 2000) : rdT s = none := if_neg hs
theorem rdT_bad {s : ByteArray} {w : List UInt8} (hw : w ∈ cutL s.data.toList) (h : ∀ x, dcell w = some x → goodC x = false) : rdT s = none := by
  unfold rdT
  split
  · split
    · rename_i ha
      cases hd : dcell w with
      | none =>
        have := List.all_eq_true.1 ha w hw
        rw [hd] at this
        cases this
      | some x =>
        rw [if_neg]
        intro hg
        have := (goodT_all hg).2.2 x (List.mem_filterMap.2 ⟨w, hw, hd⟩)
        rw [h x hd] at this
        cases this
    · rfl
  · rfl
theorem rdT_good {s : ByteArray} {l : List Cc} (h : rdT s = some l) : goodT l = true := by
  unfold rdT at h
  split at h
  · split at h
    · split at h
      · rename_i hg
        simp only [Option.some.injEq] at h
        rw [← h]; exact hg
      · cases h
    · cases h
  · cases h
end Go.Proofs.YthnkdlhkldcaoaaDoor.W
