/-
  Plain mathematics of words: which word stands at a place of a text, and what is read of a whole text. No program is in it.
-/
import Derived.Test.YtmnicilgenpnfaaDoorLow
namespace Go.Proofs.YtmnicilgenpnfaaDoor.W
open Go.RowKit

structure Wd where
  kind : Int
  num : Int
  text : ByteArray
  len : Nat

def numL (l : List UInt8) : Int := l.foldl (fun n b => n * 10 + ((b.toNat : Int) - 48)) 0

/-- The word that stands in s at p. -/
def wordAt (s : ByteArray) (p : Nat) : Option Wd :=
  if 0 < runFrom digB s p then
    (if 9 < runFrom digB s p ∨ (1 < runFrom digB s p ∧ s.data.toList[p]? = some 48) then none
     else some ⟨1, numL ((s.data.toList.drop p).take (runFrom digB s p)), ⟨#[]⟩, runFrom digB s p⟩)
  else if 0 < runFrom letB s p then
    (if 8 < runFrom letB s p then none else some ⟨2, 0, s.extract p (p + runFrom letB s p), runFrom letB s p⟩)
  else if (best s p).size = 0 then none else some ⟨3, 0, best s p, (best s p).size⟩

theorem ba_get (s : ByteArray) (q : Nat) (h : q < s.size) : s.data.toList[q]? = some (s[q]'h) := by
  rw [List.getElem?_eq_getElem (by simpa using h)]; rfl

theorem num_step (s : ByteArray) (p q : Nat) (hp : p ≤ q) (hq : q < s.size) :
    numL ((s.data.toList.drop p).take (q + 1 - p)) = numL ((s.data.toList.drop p).take (q - p)) * 10 + (((s[q]'hq).toNat : Int) - 48) := by
  have e : q + 1 - p = (q - p) + 1 := by omega
  rw [e, List.take_add_one, List.getElem?_drop, show p + (q - p) = q by omega, ba_get s q hq]
  simp [numL, List.foldl_append]

theorem numL_bd (l : List UInt8) (hd : ∀ b ∈ l, digB b.toNat = true) (hl : l.length ≤ 9) : 0 ≤ numL l ∧ numL l ≤ 999999999 := by
  have key : ∀ (l : List UInt8), (∀ b ∈ l, digB b.toNat = true) → ∀ n : Int, 0 ≤ n → 0 ≤ l.foldl (fun n b => n * 10 + ((b.toNat : Int) - 48)) n ∧ l.foldl (fun n b => n * 10 + ((b.toNat : Int) - 48)) n < (n + 1) * 10 ^ l.length := by
    intro l
    induction l with
    | nil => intro _ n hn; simp; omega
    | cons b l ih =>
      intro hb n hn
      have h1 := hb b (by simp)
      simp [digB] at h1
      have := ih (fun c hc => hb c (by simp [hc])) (n * 10 + ((b.toNat : Int) - 48)) (by omega)
      refine ⟨this.1, ?_⟩
      simp only [List.foldl_cons, List.length_cons]
      refine Int.lt_of_lt_of_le this.2 ?_
      rw [Int.pow_succ, Int.mul_comm (10 ^ l.length) 10, ← Int.mul_assoc]
      refine Int.mul_le_mul_of_nonneg_right (by omega) ?_
      exact Int.le_of_lt (Int.pow_pos (by omega))
  have k := key l hd 0 (by omega)
  refine ⟨k.1, ?_⟩
  have h2 : (10 : Int) ^ l.length ≤ 10 ^ 9 := by exact_mod_cast Nat.pow_le_pow_right (by omega : 0 < 10) hl
  have k2 : numL l < (0 + 1) * 10 ^ l.length := k.2
  omega

theorem runFrom_get (p : Int → Bool) (s : ByteArray) (k i : Nat) (hi : i < runFrom p s k) : ∃ h : k + i < s.size, p (s[k + i]'h).toNat = true := by
  induction i generalizing k with
  | zero =>
    by_cases h : k < s.size
    · refine ⟨by omega, ?_⟩
      by_cases hp : p (s[k]'h).toNat = true
      · exact hp
      · rw [runFrom_no p s k h (by simpa using hp)] at hi; omega
    · rw [runFrom_end p s k (by omega)] at hi; omega
  | succ i ih =>
    by_cases h : k < s.size
    · by_cases hp : p (s[k]'h).toNat = true
      · rw [runFrom_yes p s k h hp] at hi
        obtain ⟨h1, h2⟩ := ih (k + 1) (by omega)
        refine ⟨by omega, ?_⟩
        have e : k + 1 + i = k + (i + 1) := by omega
        simp only [e] at h2
        exact h2
      · rw [runFrom_no p s k h (by simpa using hp)] at hi; omega
    · rw [runFrom_end p s k (by omega)] at hi; omega

theorem num_bd (s : ByteArray) (p j : Nat) (hj : j ≤ runFrom digB s p) (h9 : j ≤ 9) : 0 ≤ numL ((s.data.toList.drop p).take j) ∧ numL ((s.data.toList.drop p).take j) ≤ 999999999 := by
  refine numL_bd _ ?_ (by simp; omega)
  intro b hb
  obtain ⟨i, hi, rfl⟩ := List.getElem_of_mem hb
  have hi2 : i < j := by simp at hi; omega
  obtain ⟨h1, h2⟩ := runFrom_get digB s p i (by omega)
  have e : ((s.data.toList.drop p).take j)[i] = s[p + i]'h1 := by
    rw [List.getElem_take, List.getElem_drop]; rfl
  rw [e]; exact h2

/-! ### the text from a place on -/
theorem drop_ext (s : ByteArray) (p : Nat) (_hp : p ≤ s.size) : (s.extract p s.size).data.toList = s.data.toList.drop p := by
  rw [← Lib.toList_data, Lib.extract_toList]
  exact List.take_of_length_le (by simp)

theorem runFrom_shift (f : Int → Bool) (s : ByteArray) (p : Nat) (hp : p ≤ s.size) : runFrom f (s.extract p s.size) 0 = runFrom f s p := by
  unfold runFrom; rw [drop_ext s p hp]; rfl

theorem ext_ext (s : ByteArray) (p a b : Nat) (hp : p ≤ s.size) (_hb : p + b ≤ s.size) : (s.extract p s.size).extract a b = s.extract (p + a) (p + b) := by
  apply ByteArray.ext
  apply Array.toList_inj.1
  rw [← Lib.toList_data, ← Lib.toList_data, Lib.extract_toList, Lib.extract_toList, drop_ext s p hp, List.drop_drop]
  congr 1
  omega

theorem stands_shift (s x : ByteArray) (p : Nat) (hp : p ≤ s.size) : stands (s.extract p s.size) 0 x = stands s p x := by
  have hz : (s.extract p s.size).size = s.size - p := by simp
  unfold stands
  rw [hz]
  by_cases h : p + x.size ≤ s.size
  · rw [ext_ext s p 0 (0 + x.size) hp (by omega), decide_eq_true h, decide_eq_true (show 0 + x.size ≤ s.size - p by omega)]
    simp
  · rw [decide_eq_false h, decide_eq_false (show ¬ 0 + x.size ≤ s.size - p by omega)]
    simp

theorem best_shift (s : ByteArray) (p : Nat) (hp : p ≤ s.size) : best (s.extract p s.size) 0 = best s p := by
  unfold best bestTo
  have : longer (s.extract p s.size) 0 = longer s p := by
    funext b x; unfold longer; rw [stands_shift s x p hp]
  rw [this]

theorem word_shift (s : ByteArray) (p : Nat) (hp : p ≤ s.size) : wordAt (s.extract p s.size) 0 = wordAt s p := by
  have h1 := runFrom_le letB s p hp
  unfold wordAt
  rw [runFrom_shift digB s p hp, runFrom_shift letB s p hp, best_shift s p hp, drop_ext s p hp, ext_ext s p 0 (0 + runFrom letB s p) hp (by omega)]
  simp

/-! ### a word's length -/
theorem best_stands (s : ByteArray) (p : Nat) : (best s p).size = 0 ∨ stands s p (best s p) = true := by
  have : ∀ k, k ≤ sgs.length → (bestTo s p k).size = 0 ∨ stands s p (bestTo s p k) = true := by
    intro k
    induction k with
    | zero => intro _; left; rfl
    | succ k ih =>
      intro hk
      rw [bestTo_succ _ _ _ (by omega)]
      unfold longer
      split
      · right; exact (by assumption : _ ∧ _).2
      · exact ih (by omega)
  exact this 19 (by rw [sgs_len]; omega)

theorem best_le (s : ByteArray) (p : Nat) (hp : p ≤ s.size) : p + (best s p).size ≤ s.size := by
  rcases best_stands s p with h | h
  · omega
  · simp [stands] at h; omega

theorem word_len (s : ByteArray) (p : Nat) (hp : p ≤ s.size) (d : Wd) (h : wordAt s p = some d) : 1 ≤ d.len ∧ p + d.len ≤ s.size := by
  have h1 := runFrom_le digB s p hp
  have h2 := runFrom_le letB s p hp
  have h3 := best_le s p hp
  unfold wordAt at h
  split at h
  · split at h
    · cases h
    · cases h; dsimp only; omega
  · split at h
    · split at h
      · cases h
      · cases h; dsimp only; omega
    · split at h
      · cases h
      · cases h; dsimp only; omega

/-! ### reading -/
abbrev Toks := List (Wd × Nat)
def lexGo (s : ByteArray) : Nat → Nat → Toks → Toks × Nat × Bool
  | 0, _, out => (out, 0, true)
  | f + 1, p, out =>
    if h : p < s.size then
      if blkB (s[p]'h).toNat = true then lexGo s f (p + 1) out
      else match wordAt s p with
        | none => ([], p, false)
        | some d => if out.length = 120 then ([], p, false) else lexGo s f (p + d.len) (out ++ [(d, p)])
    else (out, 0, true)
def lexR (s : ByteArray) : Toks × Nat × Bool := lexGo s s.size 0 []

theorem lex_end (s : ByteArray) (f p : Nat) (out : Toks) (h : ¬ p < s.size) : lexGo s f p out = (out, 0, true) := by
  cases f <;> simp [lexGo, h]
theorem lex_blank (s : ByteArray) (f p : Nat) (out : Toks) (h : p < s.size) (hb : blkB (s[p]'h).toNat = true) (hf : s.size - p ≤ f) : lexGo s f p out = lexGo s (f - 1) (p + 1) out := by
  obtain ⟨g, rfl⟩ : ∃ g, f = g + 1 := ⟨f - 1, by omega⟩
  simp [lexGo, h, hb]
theorem lex_bad (s : ByteArray) (f p : Nat) (out : Toks) (h : p < s.size) (hb : blkB (s[p]'h).toNat = false) (hf : s.size - p ≤ f) (hw : wordAt s p = none) : lexGo s f p out = ([], p, false) := by
  obtain ⟨g, rfl⟩ : ∃ g, f = g + 1 := ⟨f - 1, by omega⟩
  simp [lexGo, h, hb, hw]
theorem lex_many (s : ByteArray) (f p : Nat) (out : Toks) (h : p < s.size) (hb : blkB (s[p]'h).toNat = false) (hf : s.size - p ≤ f) (hn : out.length = 120) : lexGo s f p out = ([], p, false) := by
  obtain ⟨g, rfl⟩ : ∃ g, f = g + 1 := ⟨f - 1, by omega⟩
  simp only [lexGo, h, dif_pos, hb, Bool.false_eq_true, if_false, hn, if_true]
  cases wordAt s p <;> rfl
theorem lex_word (s : ByteArray) (f p : Nat) (out : Toks) (h : p < s.size) (hb : blkB (s[p]'h).toNat = false) (hf : s.size - p ≤ f) (d : Wd) (hw : wordAt s p = some d) (hn : ¬ out.length = 120) : lexGo s f p out = lexGo s (f - 1) (p + d.len) (out ++ [(d, p)]) := by
  obtain ⟨g, rfl⟩ : ∃ g, f = g + 1 := ⟨f - 1, by omega⟩
  simp [lexGo, h, hb, hw, hn]
theorem lex_run (s : ByteArray) (k : Nat) : ∀ (f p : Nat) (out : Toks), runFrom blkB s p = k → s.size - p ≤ f → lexGo s f p out = lexGo s (f - k) (p + k) out := by
  induction k with
  | zero => intro f p out _ _; rfl
  | succ k ih =>
    intro f p out hr hf
    obtain ⟨h1, h2⟩ := runFrom_get blkB s p 0 (by omega)
    have h2' : blkB (s[p]'h1).toNat = true := h2
    rw [lex_blank s f p out h1 h2' hf]
    have h3 := runFrom_yes blkB s p h1 h2'
    rw [ih (f - 1) (p + 1) out (by omega) (by omega)]
    congr 1 <;> omega

def tokC (x : Wd × Nat) : List Value := [.int .i64 x.1.kind, .int .i64 x.1.num, .string x.1.text, .int .i64 x.2]
def toksC (l : Toks) : List Value := l.flatMap tokC
theorem toksC_len (l : Toks) : (toksC l).length = l.length * 4 := by
  induction l with
  | nil => rfl
  | cons a l ih => simp only [toksC, List.flatMap_cons, List.length_append, List.length_cons] at *; rw [ih]; simp [tokC]; omega
theorem toksC_snoc (l : Toks) (x : Wd × Nat) : toksC (l ++ [x]) = toksC l ++ tokC x := by simp [toksC]
end Go.Proofs.YtmnicilgenpnfaaDoor.W
