/-
  The model of good machines: bindings from one on, parts that may be done, values, frames. No program here.
-/
import Derived.Test.YtdajalchdbgooaaMaO
namespace Go.Proofs.Ytdajalchdbgooaa.W
set_option linter.unusedVariables false

def blw (n c : Int) : Bool := decide (0 ≤ n) && decide (n < c)
theorem blw_iff {n c : Int} : blw n c = true ↔ 0 ≤ n ∧ n < c := by unfold blw; simp
theorem blw_not {n c : Int} : blw n c = false ↔ n < 0 ∨ c ≤ n := by
  unfold blw
  rw [Bool.and_eq_false_iff]
  simp
/-- Each thing of a list, with its number, is so. -/
def allI {α : Type} (p : Nat → α → Bool) : Nat → List α → Bool
  | _, [] => true
  | i, x :: l => p i x && allI p (i + 1) l
theorem allI_at {α : Type} (p : Nat → α → Bool) : ∀ (l : List α) (i j : Nat) (h : j < l.length), allI p i l = true → p (i + j) l[j] = true
  | [], i, j, h, _ => by simp at h
  | x :: l, i, 0, h, ha => by
    simp only [allI, Bool.and_eq_true] at ha
    exact ha.1
  | x :: l, i, j + 1, h, ha => by
    simp only [allI, Bool.and_eq_true] at ha
    have := allI_at p l (i + 1) j (by simpa using h) ha.2
    rw [show i + 1 + j = i + (j + 1) by omega] at this
    simpa using this
theorem allI_bad {α : Type} (p : Nat → α → Bool) : ∀ (l : List α) (i j : Nat) (h : j < l.length), p (i + j) l[j] = false → allI p i l = false
  | [], i, j, h, _ => by simp at h
  | x :: l, i, 0, h, ha => by
    have ha' : p i x = false := ha
    simp only [allI, ha', Bool.false_and]
  | x :: l, i, j + 1, h, ha => by
    have := allI_bad p l (i + 1) j (by simpa using h) (by rw [show i + 1 + j = i + (j + 1) by omega]; simpa using ha)
    simp only [allI, this, Bool.and_false]
theorem allI_all {α : Type} (p : Nat → α → Bool) : ∀ (l : List α) (i : Nat), (∀ j (h : j < l.length), p (i + j) l[j] = true) → allI p i l = true
  | [], i, _ => rfl
  | x :: l, i, h => by
    simp only [allI, Bool.and_eq_true]
    refine ⟨h 0 (by simp), allI_all p l (i + 1) (fun j hj => ?_)⟩
    have := h (j + 1) (by simpa using hj)
    rw [show i + 1 + j = i + (j + 1) by omega]
    simpa using this

/-- A binding is good. -/
def bOk (nv i : Nat) (b : Bd) : Bool := blw b.val nv && (decide (b.up = -1) || blw b.up i)
theorem bOk_iff {nv i : Nat} {b : Bd} : bOk nv i b = true ↔ 0 ≤ b.val ∧ b.val < nv ∧ -1 ≤ b.up ∧ b.up < i := by
  unfold bOk
  rw [Bool.and_eq_true, Bool.or_eq_true, blw_iff, blw_iff, decide_eq_true_iff]
  omega
def bsOk (nv : Nat) (bs : List Bd) : Bool := allI (bOk nv) 0 bs
theorem bsOk_at {nv : Nat} {bs : List Bd} (h : bsOk nv bs = true) {i : Nat} (hi : i < bs.length) : 0 ≤ bs[i].val ∧ bs[i].val < nv ∧ -1 ≤ bs[i].up ∧ bs[i].up < i := by
  have := allI_at _ bs 0 i hi h
  rw [Nat.zero_add] at this
  exact bOk_iff.1 this

/-- How many bindings there are from one on, and the greatest number of their values. -/
def bwF (bs : List Bd) : Nat → Int → Int × Int
  | 0, _ => (0, -1)
  | f + 1, e => if e < 0 then (0, -1) else match bs[e.toNat]? with | none => (0, -1) | some b => ((bwF bs f b.up).1 + 1, max (bwF bs f b.up).2 b.val)
def bw (bs : List Bd) (e : Int) : Int × Int := bwF bs (e.toNat + 1) e
theorem bwF_neg (bs : List Bd) (f : Nat) (e : Int) (h : e < 0) : bwF bs f e = (0, -1) := by
  cases f with
  | zero => rfl
  | succ f => rw [bwF, if_pos h]
theorem bwF_fuel {nv : Nat} {bs : List Bd} (h : bsOk nv bs = true) : ∀ (f g : Nat) (e : Int), e < f → e < g → bwF bs f e = bwF bs g e
  | 0, g, e, hf, hg => by rw [bwF_neg _ _ _ (by omega), bwF_neg _ _ _ (by omega)]
  | f + 1, 0, e, hf, hg => by rw [bwF_neg _ _ _ (by omega), bwF_neg _ _ _ (by omega)]
  | f + 1, g + 1, e, hf, hg => by
    unfold bwF
    by_cases he : e < 0
    · rw [if_pos he, if_pos he]
    · rw [if_neg he, if_neg he]
      cases hb : bs[e.toNat]? with
      | none => rfl
      | some b =>
        obtain ⟨hi, hbe⟩ := List.getElem?_eq_some_iff.1 hb
        have := bsOk_at h hi
        rw [hbe] at this
        simp only
        rw [bwF_fuel h f g b.up (by omega) (by omega)]
theorem bw_neg (bs : List Bd) (e : Int) (h : e < 0) : bw bs e = (0, -1) := bwF_neg _ _ _ h
theorem bw_step {nv : Nat} {bs : List Bd} (h : bsOk nv bs = true) {i : Nat} (hi : i < bs.length) : bw bs (i : Int) = ((bw bs bs[i].up).1 + 1, max (bw bs bs[i].up).2 bs[i].val) := by
  have hb : bs[i]? = some bs[i] := List.getElem?_eq_getElem hi
  have := bsOk_at h hi
  unfold bw
  rw [Int.toNat_natCast, bwF, if_neg (by omega), Int.toNat_natCast, hb]
  simp only
  rw [bwF_fuel h i (bs[i].up.toNat + 1) bs[i].up (by omega) (by omega)]
theorem bw_bound {nv : Nat} {bs : List Bd} (h : bsOk nv bs = true) : ∀ (f : Nat) (e : Int), -1 ≤ e → e < f → e < bs.length → 0 ≤ (bw bs e).1 ∧ (bw bs e).1 ≤ e + 1 ∧ -1 ≤ (bw bs e).2 ∧ (bw bs e).2 < max nv 0
  | 0, e, h1, hf, hl => by rw [bw_neg _ _ (by omega)]; simp; omega
  | f + 1, e, h0, hf, hl => by
    by_cases he : e < 0
    · rw [bw_neg _ _ he]; simp; omega
    · obtain ⟨i, rfl⟩ := Int.eq_ofNat_of_zero_le (Int.not_lt.1 he)
      have hi : i < bs.length := by omega
      have h1 := bsOk_at h hi
      have := bw_bound h f bs[i].up (by omega) (by omega) (by omega)
      rw [bw_step h hi]
      simp only
      omega

/-- The rows of bindings as they are made. -/
def brow (bs : List Bd) : Nat → List (Int × Int)
  | 0 => [(0, -1)]
  | i + 1 => match bs[i]? with
    | none => brow bs i
    | some b => brow bs i ++ [(((brow bs i).getD (b.up + 1).toNat (0, -1)).1 + 1, max ((brow bs i).getD (b.up + 1).toNat (0, -1)).2 b.val)]
theorem brow_succ (bs : List Bd) (i : Nat) (hi : i < bs.length) : brow bs (i + 1) = brow bs i ++ [(((brow bs i).getD (bs[i].up + 1).toNat (0, -1)).1 + 1, max ((brow bs i).getD (bs[i].up + 1).toNat (0, -1)).2 bs[i].val)] := by
  rw [brow, List.getElem?_eq_getElem hi]
theorem brow_len (bs : List Bd) : ∀ i, i ≤ bs.length → (brow bs i).length = i + 1
  | 0, _ => rfl
  | i + 1, h => by rw [brow_succ bs i (by omega), List.length_append, brow_len bs i (by omega)]; rfl
theorem brow_le (bs : List Bd) : ∀ i, i ≤ bs.length → ∀ j (h : j < (brow bs i).length), 0 ≤ (brow bs i)[j].1 ∧ (brow bs i)[j].1 ≤ i
  | 0, _, j, h => by
    have : j = 0 := by simp [brow] at h; exact h
    subst this; simp [brow]
  | i + 1, hi, j, h => by
    have ih := brow_le bs i (by omega)
    have hl := brow_len bs i (by omega)
    simp only [brow_succ bs i (by omega)] at h ⊢
    by_cases hj : j < (brow bs i).length
    · rw [List.getElem_append_left hj]; have := ih j hj; omega
    · rw [List.getElem_append_right (by omega)]
      simp only [List.getElem_singleton]
      rw [List.getD_eq_getElem?_getD]
      cases hq : (brow bs i)[(bs[i].up + 1).toNat]? with
      | none => simp; omega
      | some q =>
        obtain ⟨h1, h2⟩ := List.getElem?_eq_some_iff.1 hq
        have := ih _ h1
        rw [h2] at this
        simp; omega
theorem brow_bw {nv : Nat} {bs : List Bd} (h : bsOk nv bs = true) : ∀ i, i ≤ bs.length → ∀ (e : Int), -1 ≤ e → e < i → (brow bs i)[(e + 1).toNat]? = some (bw bs e)
  | 0, _, e, h1, h2 => by
    obtain rfl : e = -1 := by omega
    rw [bw_neg _ _ (by omega)]; rfl
  | i + 1, hi, e, h1, h2 => by
    have hl := brow_len bs i (by omega)
    rw [brow_succ bs i (by omega)]
    by_cases he : e < i
    · rw [List.getElem?_append_left (by omega)]
      exact brow_bw h i (by omega) e h1 he
    · obtain rfl : e = i := by omega
      have hb := bsOk_at h (show i < bs.length by omega)
      rw [List.getElem?_append_right (by omega), show ((i : Int) + 1).toNat - (brow bs i).length = 0 by omega, List.getElem?_cons_zero, bw_step h (by omega), List.getD_eq_getElem?_getD, brow_bw h i (by omega) bs[i].up (by omega) (by omega)]
      rfl

/-- A part that may be done. -/
def pOk (a : F) (n : Nat) (bs : List Bd) (p e : Int) : Bool := blw p n && (decide (e = -1) || blw e bs.length) && decide ((bw bs e).1 = tV (ndT a) p.toNat)
theorem pOk_iff {a : F} {n : Nat} {bs : List Bd} {p e : Int} : pOk a n bs p e = true ↔ (0 ≤ p ∧ p < n) ∧ (-1 ≤ e ∧ e < bs.length) ∧ (bw bs e).1 = tV (ndT a) p.toNat := by
  unfold pOk
  rw [Bool.and_eq_true, Bool.and_eq_true, Bool.or_eq_true, blw_iff, blw_iff, decide_eq_true_iff, decide_eq_true_iff]
  omega
/-- The kind of the part at a place. -/
def kAt (l : List Cc) (p : Int) : Int := match l[p.toNat]? with | some x => x.k | none => 0
def vOk (a : F) (l : List Cc) (bs : List Bd) (i : Nat) (v : Vl) : Bool :=
  if v.fn = true then decide (v.num = 0) && pOk a l.length bs v.pl v.env && decide (kAt l v.pl = 3) && decide ((bw bs v.env).2 < (i : Int))
  else inB v.num (-1000000) 1000000 && decide (v.pl = 0) && decide (v.env = 0)
def fOk (a : F) (l : List Cc) (bs : List Bd) (nv : Nat) (f : Fm) : Bool :=
  pOk a l.length bs f.pl f.env && decide (kAt l f.pl = f.k) && (if f.k = 4 ∨ f.k = 5 then decide (f.val = -1) || blw f.val nv else decide (f.k = 6 ∨ f.k = 7) && decide (f.val = -1))
def nOk (a : F) (l : List Cc) (m : Mc) : Bool :=
  if m.done = true then decide (m.pl = -1) && decide (m.env = -1) && blw m.val m.vs.length else decide (m.val = -1) && pOk a l.length m.bs m.pl m.env
/-- A good machine of a closed term. -/
def gM (a : F) (l : List Cc) (m : Mc) : Bool :=
  decide (m.fs.length ≤ 500 ∧ m.vs.length ≤ 500 ∧ m.bs.length ≤ 500) && (bsOk m.vs.length m.bs && (allI (vOk a l m.bs) 0 m.vs && (allI (fun _ f => fOk a l m.bs m.vs.length f) 0 m.fs && nOk a l m)))
def goodM (l : List Cc) (m : Mc) : Bool := match closedT l with | some a => gM a l m | none => false
end Go.Proofs.Ytdajalchdbgooaa.W
