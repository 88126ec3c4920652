/-
  Some texts of this proof in one: TeR, TeIv, TeKm, TeRs.
-/
import Derived.Test.YtjmgnljjeogdlaaJab
import Derived.Test.YtjmgnljjeogdlaaJae
import Derived.Deep.RegionHeld3
/-
  Redexes of terms: of a tree, of the front of a row, all places in a row. No program here.
-/
namespace Go.Proofs.Ytjmgnljjeogdlaa.W
set_option linter.unusedVariables false

def k1 : F → Int
  | .cons y _ _ => y.k
  | .nil => 0
def n1 : F → Int
  | .cons y _ _ => y.n
  | .nil => 0
def tl : F → F
  | .cons _ _ r => r
  | .nil => .nil
/-- A redex: its first cell, and the terms behind it. -/
def redx (x : Cc) (k : F) : Bool :=
  if x.k = 4 then decide (k1 k = 3) else if x.k = 7 then true else if x.k = 5 then decide (k1 k = 2) && (decide (k1 (tl k) = 2) && inB (n1 k + n1 (tl k)) (-1000000) 1000000)
  else if x.k = 6 then decide (k1 k = 2) else false
/-- Whether some term of these, or within them, is a redex. -/
def anyR : F → Bool
  | .nil => false
  | .cons x k r => (redx x k || anyR k) || anyR r
theorem anyR_app : ∀ a b : F, anyR (a.app b) = (anyR a || anyR b)
  | .nil, b => rfl
  | .cons x k r, b => by simp [F.app, anyR, anyR_app r b, Bool.or_assoc]

def kOf (l : List Cc) (i : Nat) : Int := match l[i]? with | some c => c.k | none => 0
def nAt (l : List Cc) (i : Nat) : Int := match l[i]? with | some c => c.n | none => 0
theorem kOf_lt {l : List Cc} {i : Nat} (h : i < l.length) : kOf l i = l[i].k := by simp [kOf, h]
theorem nAt_lt {l : List Cc} {i : Nat} (h : i < l.length) : nAt l i = l[i].n := by simp [nAt, h]
/-- Whether the front of a row is a redex. -/
def isRl (l : List Cc) : Bool :=
  if kOf l 0 = 4 then decide (kOf l 1 = 3) else if kOf l 0 = 7 then true else if kOf l 0 = 5 then decide (kOf l 1 = 2) && (decide (kOf l 2 = 2) && inB (nAt l 1 + nAt l 2) (-1000000) 1000000)
  else if kOf l 0 = 6 then decide (kOf l 1 = 2) else false
/-- What isRedex asks of a row: it is long enough, and its numbers are in bounds. -/
structure RedOK (l : List Cc) : Prop where
  l0 : 0 < l.length
  l1 : kOf l 0 = 4 ∨ kOf l 0 = 5 ∨ kOf l 0 = 6 → 1 < l.length
  l2 : kOf l 0 = 5 → kOf l 1 = 2 → 2 < l.length
  n1 : kOf l 0 = 5 → kOf l 1 = 2 → -1000000 ≤ nAt l 1 ∧ nAt l 1 ≤ 1000000
  n2 : kOf l 0 = 5 → kOf l 1 = 2 → kOf l 2 = 2 → -1000000 ≤ nAt l 2 ∧ nAt l 2 ≤ 1000000

theorem num_n {x : Cc} (h : goodC x = true) (h2 : x.k = 2) : -1000000 ≤ x.n ∧ x.n ≤ 1000000 := by
  unfold goodC at h
  rw [if_neg (by omega), if_pos h2] at h
  simpa [inB] using h
theorem len_pos {k : F} (h : 0 < k.len) : ∃ y ky r, k = .cons y ky r := by
  cases k with
  | nil => simp [F.len] at h
  | cons y ky r => exact ⟨_, _, _, rfl⟩

/-- The front of a row that opens with a good term: a redex just if the term is one; and isRedex may be asked. -/
theorem front {x : Cc} {k : F} (hg : goodC x = true) (hl : k.len = ar x.k) (ho : k.ok) (q : List Cc) : isRl (x :: (k.flat ++ q)) = redx x k ∧ RedOK (x :: (k.flat ++ q)) := by
  have h0 : kOf (x :: (k.flat ++ q)) 0 = x.k := rfl
  by_cases h4 : x.k = 4
  · obtain ⟨y, ky, r, rfl⟩ := len_pos (k := k) (by rw [hl, h4]; decide)
    refine ⟨?_, ⟨by simp, fun _ => by simp [F.flat], ?_, ?_, ?_⟩⟩
    · unfold isRl redx
      rw [h0, if_pos h4, if_pos h4]
      rfl
    · intro h; rw [h0] at h; omega
    · intro h; rw [h0] at h; omega
    · intro h; rw [h0] at h; omega
  · by_cases h7 : x.k = 7
    · refine ⟨?_, ⟨by simp, ?_, ?_, ?_, ?_⟩⟩
      · unfold isRl redx
        rw [h0, if_neg h4, if_pos h7, if_neg h4, if_pos h7]
      · intro h; rw [h0] at h; omega
      · intro h; rw [h0] at h; omega
      · intro h; rw [h0] at h; omega
      · intro h; rw [h0] at h; omega
    · by_cases h5 : x.k = 5
      · obtain ⟨y, ky, r, rfl⟩ := len_pos (k := k) (by rw [hl, h5]; decide)
        obtain ⟨z, kz, r2, rfl⟩ := len_pos (k := r) (by have : ar x.k = 2 := (by rw [h5]; decide); simp [F.len] at hl; omega)
        obtain ⟨gy, ly, oy, gz, lz, oz, -⟩ := ho
        have e1 : kOf (x :: ((F.cons y ky (.cons z kz r2)).flat ++ q)) 1 = y.k := rfl
        have e1n : nAt (x :: ((F.cons y ky (.cons z kz r2)).flat ++ q)) 1 = y.n := rfl
        by_cases hy : y.k = 2
        · have : ky = .nil := F.len_0 (by rw [ly, hy]; decide)
          subst this
          have e2 : kOf (x :: ((F.cons y .nil (.cons z kz r2)).flat ++ q)) 2 = z.k := rfl
          have e2n : nAt (x :: ((F.cons y .nil (.cons z kz r2)).flat ++ q)) 2 = z.n := rfl
          refine ⟨?_, ⟨by simp, fun _ => by simp [F.flat], fun _ _ => by simp [F.flat], fun _ _ => by rw [e1n]; exact num_n gy hy, fun _ _ h => by rw [e2] at h; rw [e2n]; exact num_n gz h⟩⟩
          unfold isRl redx
          rw [h0, if_neg h4, if_neg h7, if_pos h5, if_neg h4, if_neg h7, if_pos h5, e1, e1n, e2, e2n]
          rfl
        · refine ⟨?_, ⟨by simp, fun _ => by simp [F.flat], ?_, ?_, ?_⟩⟩
          · unfold isRl redx
            rw [h0, if_neg h4, if_neg h7, if_pos h5, if_neg h4, if_neg h7, if_pos h5, e1]
            simp [k1, hy]
          · intro _ h; rw [e1] at h; exact absurd h hy
          · intro _ h; rw [e1] at h; exact absurd h hy
          · intro _ h; rw [e1] at h; exact absurd h hy
      · by_cases h6 : x.k = 6
        · obtain ⟨y, ky, r, rfl⟩ := len_pos (k := k) (by rw [hl, h6]; decide)
          refine ⟨?_, ⟨by simp, fun _ => by simp [F.flat], ?_, ?_, ?_⟩⟩
          · unfold isRl redx
            rw [h0, if_neg h4, if_neg h7, if_neg h5, if_pos h6, if_neg h4, if_neg h7, if_neg h5, if_pos h6]
            rfl
          · intro h; rw [h0] at h; omega
          · intro h; rw [h0] at h; omega
          · intro h; rw [h0] at h; omega
        · refine ⟨?_, ⟨by simp, ?_, ?_, ?_, ?_⟩⟩
          · unfold isRl redx
            rw [h0, if_neg h4, if_neg h7, if_neg h5, if_neg h6, if_neg h4, if_neg h7, if_neg h5, if_neg h6]
          · intro h; rw [h0] at h; omega
          · intro h; rw [h0] at h; omega
          · intro h; rw [h0] at h; omega
          · intro h; rw [h0] at h; omega

/-- Within good terms isRedex may be asked anywhere. -/
theorem redOK_in : ∀ (a : F) (r : List Cc) (i : Nat), a.ok → i < a.flat.length → RedOK ((a.flat ++ r).drop i)
  | .nil, r, i, _, h => by simp [F.flat] at h
  | .cons x k s, r, i, ⟨h1, h2, h3, h4⟩, hi => by
    show RedOK ((x :: (k.flat ++ s.flat) ++ r).drop i)
    rw [List.cons_append, List.append_assoc]
    cases i with
    | zero => exact (front h1 h2 h3 _).2
    | succ j =>
      rw [List.drop_succ_cons]
      by_cases hj : j < k.flat.length
      · exact redOK_in k (s.flat ++ r) j h3 hj
      · rw [show (k.flat ++ (s.flat ++ r)).drop j = (s.flat ++ r).drop (j - k.flat.length) by rw [List.drop_append, List.drop_eq_nil_of_le (by omega), List.nil_append]]
        exact redOK_in s r (j - k.flat.length) h4 (by simp [F.flat] at hi; omega)

/-- The places of the redexes among the first so many. -/
def plUp (l : List Cc) (k : Nat) : List Nat := (List.range k).filter fun i => isRl (l.drop i)
theorem plUp_succ (l : List Cc) (k : Nat) : plUp l (k + 1) = plUp l k ++ if isRl (l.drop k) = true then [k] else [] := by
  unfold plUp
  rw [List.range_succ, List.filter_append]
  congr 1
  by_cases h : isRl (l.drop k) = true
  · rw [if_pos h]; simp [h]
  · rw [if_neg h]; simp [h]
theorem plUp_len (l : List Cc) (k : Nat) : (plUp l k).length ≤ k := by
  unfold plUp
  exact Nat.le_trans (List.length_filter_le _ _) (by simp)
theorem plUp_pre (l : List Cc) (k : Nat) : ∀ m, plUp l k <+: plUp l (k + m)
  | 0 => List.prefix_refl _
  | m + 1 => by
    refine List.IsPrefix.trans (plUp_pre l k m) ?_
    rw [← Nat.add_assoc, plUp_succ]
    exact List.prefix_append _ _
/-- The first place of a redex. -/
def fstR (l : List Cc) : Option Nat := (plUp l l.length).head?
theorem plUp_any (l : List Cc) (k : Nat) : (plUp l k).head?.isSome = (List.range k).any fun i => isRl (l.drop i) := by
  unfold plUp
  rw [List.head?_filter, Bool.eq_iff_iff, List.find?_isSome, List.any_eq_true]
theorem any_cons (x : Cc) (l : List Cc) : ((List.range (x :: l).length).any fun i => isRl ((x :: l).drop i)) = (isRl (x :: l) || ((List.range l.length).any fun i => isRl (l.drop i))) := by
  rw [List.length_cons, List.range_succ_eq_map, List.any_cons, List.any_map]
  rfl
theorem any_flat : ∀ (a : F) (r : List Cc), a.ok → ((List.range (a.flat ++ r).length).any fun i => isRl ((a.flat ++ r).drop i)) = (anyR a || ((List.range r.length).any fun i => isRl (r.drop i)))
  | .nil, r, _ => rfl
  | .cons x k s, r, ⟨h1, h2, h3, h4⟩ => by
    have e : (F.cons x k s).flat ++ r = x :: (k.flat ++ (s.flat ++ r)) := by simp [F.flat]
    rw [e, any_cons, any_flat k _ h3, any_flat s r h4, (front h1 h2 h3 _).1]
    simp [anyR, Bool.or_assoc]
theorem fstR_any {a : F} (h : a.ok) : (fstR a.flat).isSome = anyR a := by
  unfold fstR
  rw [plUp_any]
  have := any_flat a [] h
  simpa using this
end Go.Proofs.Ytjmgnljjeogdlaa.W

/-
  Contracts of IsValue: the program's (isValueCell, IsValue) and the specification's (l4Value, IsValue). Conditions: at most 1048576 cells.
-/
namespace Go.Proofs.Ytjmgnljjeogdlaa.W
open Go.ChangeShapes Go.WideShapes Go.ChangeAt Go.RowKit
set_option linter.unusedVariables false

/-- A value, by its first cell's kind. -/
def isVal (k : Int) : Bool := decide (k = 3) || decide (k = 2)
/-- Whether what is read is a value. -/
def valT : Option F → Bool
  | some (.cons x _ _) => isVal x.k
  | _ => false
end Go.Proofs.Ytjmgnljjeogdlaa.W

/-
  What redexes come to: the model. No program here.
-/
namespace Go.Proofs.Ytjmgnljjeogdlaa.W
set_option linter.unusedVariables false

/-- A term with another in the place of its first variable, where there is room. -/
def putO (b : Cc) (kb : F) (z : Cc) (kz : F) : Option (Cc × F) := if kb.flat.length + 1 + us1 0 b kb * kz.flat.length ≤ 600 then some (sbr 0 z 0 b, sbk 0 z kz 0 b kb) else none
/-- What a redex comes to, where there is room. -/
def ctrO (x : Cc) : F → Option (Cc × F)
  | .nil => none
  | .cons y ky r =>
    if x.k = 4 then (match ky, r with | .cons b kb _, .cons z kz _ => putO b kb z kz | _, _ => none)
    else if x.k = 7 then (match r with | .cons b kb _ => putO b kb y ky | .nil => none)
    else if x.k = 5 then (match r with | .cons z _ _ => some (⟨2, y.n + z.n⟩, .nil) | .nil => none)
    else (match r with | .cons z kz (.cons u ku _) => some (if y.n = 0 then (z, kz) else (u, ku)) | _ => none)

/-- A good term, by its first cell and those behind it. -/
def okT (x : Cc) (k : F) : Prop := goodC x = true ∧ k.len = ar x.k ∧ k.ok

inductive Red (x : Cc) (k : F) : Prop
  | app (y b z : Cc) (kb kz : F) (hx : x.k = 4) (hk : k = .cons y (.cons b kb .nil) (.cons z kz .nil)) (hy : y.k = 3) (hb : okT b kb) (hz : okT z kz)
  | lett (y b : Cc) (ky kb : F) (hx : x.k = 7) (hk : k = .cons y ky (.cons b kb .nil)) (hy : okT y ky) (hb : okT b kb)
  | add (y z : Cc) (hx : x.k = 5) (hk : k = .cons y .nil (.cons z .nil .nil)) (hy : y.k = 2) (hz : z.k = 2) (hyn : -1000000 ≤ y.n ∧ y.n ≤ 1000000) (hzn : -1000000 ≤ z.n ∧ z.n ≤ 1000000) (hs : inB (y.n + z.n) (-1000000) 1000000 = true)
  | iff (y z u : Cc) (kz ku : F) (hx : x.k = 6) (hk : k = .cons y .nil (.cons z kz (.cons u ku .nil))) (hy : y.k = 2) (hz : okT z kz) (hu : okT u ku)

theorem red_of {x : Cc} {k : F} (h : okT x k) (hr : redx x k = true) : Red x k := by
  obtain ⟨hg, hl, ho⟩ := h
  unfold redx at hr
  by_cases h4 : x.k = 4
  · rw [if_pos h4] at hr
    rw [h4] at hl
    obtain ⟨y, ky, z, kz, rfl⟩ := F.len_2 (show k.len = 2 by rw [hl]; rfl)
    obtain ⟨gy, ly, oy, gz, lz, oz, -⟩ := ho
    have hy : y.k = 3 := of_decide_eq_true hr
    rw [hy] at ly
    obtain ⟨b, kb, rfl⟩ := F.len_1 (show ky.len = 1 by rw [ly]; rfl)
    obtain ⟨gb, lb, ob, -⟩ := oy
    exact .app y b z kb kz h4 rfl hy ⟨gb, lb, ob⟩ ⟨gz, lz, oz⟩
  · rw [if_neg h4] at hr
    by_cases h7 : x.k = 7
    · rw [h7] at hl
      obtain ⟨y, ky, b, kb, rfl⟩ := F.len_2 (show k.len = 2 by rw [hl]; rfl)
      obtain ⟨gy, ly, oy, gb, lb, ob, -⟩ := ho
      exact .lett y b ky kb h7 rfl ⟨gy, ly, oy⟩ ⟨gb, lb, ob⟩
    · rw [if_neg h7] at hr
      by_cases h5 : x.k = 5
      · rw [if_pos h5] at hr
        rw [h5] at hl
        obtain ⟨y, ky, z, kz, rfl⟩ := F.len_2 (show k.len = 2 by rw [hl]; rfl)
        obtain ⟨gy, ly, oy, gz, lz, oz, -⟩ := ho
        rw [Bool.and_eq_true, Bool.and_eq_true] at hr
        obtain ⟨hy0, hz0, hs⟩ := hr
        have hy : y.k = 2 := of_decide_eq_true hy0
        have hz : z.k = 2 := of_decide_eq_true hz0
        have ey : ky = .nil := F.len_0 (by rw [ly, hy]; rfl)
        have ez : kz = .nil := F.len_0 (by rw [lz, hz]; rfl)
        subst ey ez
        exact .add y z h5 rfl hy hz (num_n gy hy) (num_n gz hz) hs
      · rw [if_neg h5] at hr
        by_cases h6 : x.k = 6
        · rw [if_pos h6] at hr
          rw [h6] at hl
          obtain ⟨y, ky, z, kz, u, ku, rfl⟩ := F.len_3 (show k.len = 3 by rw [hl]; rfl)
          obtain ⟨gy, ly, oy, gz, lz, oz, gu, lu, ou, -⟩ := ho
          have hy : y.k = 2 := of_decide_eq_true hr
          have ey : ky = .nil := F.len_0 (by rw [ly, hy]; rfl)
          subst ey
          exact .iff y z u kz ku h6 rfl hy ⟨gz, lz, oz⟩ ⟨gu, lu, ou⟩
        · rw [if_neg h6] at hr; cases hr

/-! ### by value -/
/-- How many of its parts a term of this kind asks to be values. -/
def pc (k : Int) : Nat := if k = 4 ∨ k = 5 then 2 else if k = 7 ∨ k = 6 then 1 else 0
/-- The place of the redex that steps by value, among terms one behind the other. -/
def cpk : F → Nat → Nat → Option (Nat × Bool)
  | .nil, _, _ => none
  | .cons y ky r, m, at_ => if m = 0 then none else if isVal y.k = true then cpk r (m - 1) (at_ + (ky.flat.length + 1)) else some (match cpk ky (pc y.k) 1 with | some q => (at_ + q.1, q.2) | none => (at_, redx y ky))
def cpl (x : Cc) (k : F) : Nat × Bool := match cpk k (pc x.k) 1 with | some q => q | none => (0, redx x k)
/-- A term whose parts may have stepped, or which is contracted. -/
def hdO (c : Option (Option F)) (y : Cc) (ky : F) : Option (Cc × F) := match c with | some (some ky') => some (y, ky') | some none => none | none => if redx y ky = true then ctrO y ky else none
/-- Terms one behind the other, of which one has stepped by value. -/
def clk : F → Nat → Option (Option F)
  | .nil, _ => none
  | .cons y ky r, m => if m = 0 then none else if isVal y.k = true then (clk r (m - 1)).map (·.map (.cons y ky ·)) else
      some ((hdO (clk ky (pc y.k)) y ky).map fun p : Cc × F => F.cons p.1 p.2 r)
def cl (x : Cc) (k : F) : Option (Cc × F) := hdO (clk k (pc x.k)) x k

/-- What a place among cells tells: a redex there, and what is made where it is contracted. -/
def Place (l : List Cc) (at_ : Nat) (r : Option (List Cc)) : Prop :=
  ∃ pre y ky post, l = pre ++ (y :: (ky.flat ++ post)) ∧ pre.length = at_ ∧ okT y ky ∧ redx y ky = true ∧ r = (ctrO y ky).map fun p => pre ++ (p.1 :: (p.2.flat ++ post))
theorem Place.app {l : List Cc} {at_ : Nat} {r : Option (List Cc)} (h : Place l at_ r) (a b : List Cc) : Place (a ++ (l ++ b)) (a.length + at_) (r.map fun m => a ++ (m ++ b)) := by
  obtain ⟨pre, y, ky, post, h1, h2, h3, h4, h5⟩ := h
  refine ⟨a ++ pre, y, ky, post ++ b, by rw [h1]; simp, by simp [h2], h3, h4, ?_⟩
  rw [h5]
  cases ctrO y ky with
  | none => rfl
  | some p => simp

/-- Both ways to tell the step by value agree. -/
theorem step_agree : ∀ (a : F) (m at_ : Nat), a.ok →
    (cpk a m at_ = none ∧ clk a m = none) ∨
    (∃ q c, cpk a m at_ = some q ∧ clk a m = some c ∧ ((q.2 = false ∧ c = none) ∨ (q.2 = true ∧ ∃ pos, q.1 = at_ + pos ∧ Place a.flat pos (c.map F.flat))))
  | .nil, m, at_, _ => .inl ⟨rfl, rfl⟩
  | .cons y ky r, m, at_, ⟨h1, h2, h3, h4⟩ => by
    by_cases hm : m = 0
    · exact .inl ⟨by rw [cpk, if_pos hm], by rw [clk, if_pos hm]⟩
    · by_cases hv : isVal y.k = true
      · have e1 : cpk (.cons y ky r) m at_ = cpk r (m - 1) (at_ + (ky.flat.length + 1)) := by rw [cpk, if_neg hm, if_pos hv]
        have e2 : clk (.cons y ky r) m = (clk r (m - 1)).map (·.map (.cons y ky ·)) := by rw [clk, if_neg hm, if_pos hv]
        rw [e1, e2]
        rcases step_agree r (m - 1) (at_ + (ky.flat.length + 1)) h4 with ⟨i1, i2⟩ | ⟨q, c, i1, i2, i3⟩
        · exact .inl ⟨i1, by rw [i2]; rfl⟩
        · refine .inr ⟨q, c.map (.cons y ky ·), i1, by rw [i2]; rfl, ?_⟩
          rcases i3 with ⟨j1, j2⟩ | ⟨j1, pos, j2, j3⟩
          · exact .inl ⟨j1, by rw [j2]; rfl⟩
          · refine .inr ⟨j1, ky.flat.length + 1 + pos, by omega, ?_⟩
            have := j3.app (y :: ky.flat) []
            simp only [List.append_nil, List.length_cons] at this
            have e3 : (F.cons y ky r).flat = (y :: ky.flat) ++ r.flat := by simp [F.flat]
            rw [e3]
            have e4 : ((c.map (F.cons y ky ·)).map F.flat) = (c.map F.flat).map fun m => (y :: ky.flat) ++ m := by cases c <;> simp [F.flat]
            rw [e4]
            exact this
      · have e1 : cpk (.cons y ky r) m at_ = some (match cpk ky (pc y.k) 1 with | some q => (at_ + q.1, q.2) | none => (at_, redx y ky)) := by rw [cpk, if_neg hm, if_neg hv]
        have e2 : clk (.cons y ky r) m = some ((hdO (clk ky (pc y.k)) y ky).map fun p : Cc × F => F.cons p.1 p.2 r) := by rw [clk, if_neg hm, if_neg hv]
        refine .inr ⟨_, _, e1, e2, ?_⟩
        have e3 : (F.cons y ky r).flat = (y :: ky.flat) ++ r.flat := by simp [F.flat]
        rcases step_agree ky (pc y.k) 1 h3 with ⟨i1, i2⟩ | ⟨q, c, i1, i2, i3⟩
        · rw [i1, i2]
          cases hr : redx y ky with
          | false => exact .inl ⟨rfl, by simp [hdO, hr]⟩
          | true =>
            refine .inr ⟨rfl, 0, rfl, ?_⟩
            refine ⟨[], y, ky, r.flat, by rw [e3]; simp, rfl, ⟨h1, h2, h3⟩, hr, ?_⟩
            have e5 : hdO none y ky = ctrO y ky := by simp [hdO, hr]
            rw [e5]
            cases ctrO y ky with
            | none => rfl
            | some p => simp [F.flat]
        · rw [i1, i2]
          rcases i3 with ⟨j1, j2⟩ | ⟨j1, pos, j2, j3⟩
          · subst j2
            exact .inl ⟨j1, rfl⟩
          · refine .inr ⟨j1, 1 + pos, by simp only; omega, ?_⟩
            have := j3.app [y] r.flat
            simp only [List.length_singleton] at this
            rw [show (F.cons y ky r).flat = [y] ++ (ky.flat ++ r.flat) by simp [F.flat]]
            have e4 : (Option.map F.flat ((hdO (some c) y ky).map fun p : Cc × F => F.cons p.1 p.2 r)) = (c.map F.flat).map fun m => [y] ++ (m ++ r.flat) := by cases c <;> simp [F.flat, hdO]
            rw [e4]
            exact this

/-- .. of one term. -/
theorem step_one {x : Cc} {k : F} (h : okT x k) : ((cpl x k).2 = false ∧ cl x k = none) ∨ ((cpl x k).2 = true ∧ Place (x :: k.flat) (cpl x k).1 ((cl x k).map fun p => p.1 :: p.2.flat)) := by
  unfold cpl cl
  rcases step_agree k (pc x.k) 1 h.2.2 with ⟨i1, i2⟩ | ⟨q, c, i1, i2, i3⟩
  · rw [i1, i2]
    cases hr : redx x k with
    | false => exact .inl ⟨rfl, by simp [hdO, hr]⟩
    | true =>
      refine .inr ⟨rfl, [], x, k, [], by simp, rfl, h, hr, ?_⟩
      have e5 : hdO none x k = ctrO x k := by simp [hdO, hr]
      rw [e5]
      cases ctrO x k with
      | none => rfl
      | some p => simp
  · rw [i1, i2]
    rcases i3 with ⟨j1, j2⟩ | ⟨j1, pos, j2, j3⟩
    · subst j2; exact .inl ⟨j1, rfl⟩
    · refine .inr ⟨j1, ?_⟩
      have := j3.app [x] []
      simp only [List.length_singleton, List.append_nil] at this
      rw [j2]
      have e4 : (Option.map (fun p : Cc × F => p.1 :: p.2.flat) (hdO (some c) x k)) = (c.map F.flat).map fun m => [x] ++ m := by cases c <;> simp [hdO]
      rw [e4]
      exact this
end Go.Proofs.Ytjmgnljjeogdlaa.W

/-
  Redexes as the specification tells them: contracts of l4Is, l4Any, IsNormal. Conditions: good terms of at most 1048576 cells.
-/
namespace Go.Proofs.Ytjmgnljjeogdlaa.W
open Go.ChangeShapes Go.WideShapes Go.ChangeAt Go.RowKit
set_option linter.unusedVariables false

theorem belowDrw {B : Nat} {x y : World} (h : Below B x y) : Below B x y.drew := ⟨h.os, h.tape, h.output, h.size, h.block⟩

/-- The first kid, as a walk wants it. -/
theorem KidT.first {w : World} {P : Nat → Prop} {k r : F} {x : Cc} {ad : Option Addr} {n c : Nat} (h : KidT w P (.cons x k r) (.slice ad n c)) : ∃ g, ad = some ⟨g, 0, none⟩ ∧ g < w.heap.size ∧ n = r.len + 1 ∧
    w.cell? ⟨g, 0, none⟩ = some (.int .i64 x.k) ∧ w.cell? ⟨g, 1, none⟩ = some (.int .i64 x.n) ∧ ∃ sx, w.cell? ⟨g, 2, none⟩ = some sx ∧ KidT w P k sx := by
  obtain ⟨g, cap, sx, he, hP, hg, hTy, p0, p1, p2⟩ := KidT.kid (a := .nil) h
  simp only [F.len, Nat.zero_mul, Nat.zero_add] at p0 p1 p2
  simp only [Value.slice.injEq] at he
  exact ⟨g, he.1, hg, he.2.1, p0, p1, sx, p2, hTy⟩
/-- The second kid, as a walk wants it. -/
theorem KidT.second {w : World} {P : Nat → Prop} {k r ky : F} {x y : Cc} {g n c : Nat} (h : KidT w P (.cons y ky (.cons x k r)) (.slice (some ⟨g, 0, none⟩) n c)) :
    w.cell? ⟨g, 3, none⟩ = some (.int .i64 x.k) ∧ w.cell? ⟨g, 4, none⟩ = some (.int .i64 x.n) ∧ ∃ sx, w.cell? ⟨g, 5, none⟩ = some sx ∧ KidT w P k sx := by
  obtain ⟨g', cap, sx, he, hP, hg, hTy, p0, p1, p2⟩ := KidT.kid (a := .cons y ky .nil) h
  simp only [Value.slice.injEq, Option.some.injEq, Addr.mk.injEq] at he
  obtain ⟨⟨rfl, -, -⟩, -, -⟩ := he
  simp only [F.len, Nat.zero_add, Nat.one_mul] at p0 p1 p2
  exact ⟨p0, p1, sx, p2, hTy⟩

set_option maxRecDepth 20000 in
set_option maxHeartbeats 2000000 in
theorem l4Is_any (x : Cc) (k : F) (s : Value) (P : Nat → Prop) (w : World) (hl : k.len = ar x.k) (ho : k.ok) (hT : KidT w P k s) :
    Calls Try.prog 68 #[.agg #[.int .i64 x.k, .int .i64 x.n, s]] w fun e w' => e = .returned (.bool (redx x k)) ∧ Below w.heap.size w w' := by
  obtain ⟨sad, sc, rfl⟩ := hT.form
  obtain ⟨xk, xn⟩ := x
  simp only at *
  by_cases h4 : xk = 4
  · subst h4
    obtain ⟨y, ky, r, rfl⟩ := len_pos (k := k) (by rw [hl]; decide)
    obtain ⟨g, rfl, hg, -, p0, p1, sy, p2, hTy⟩ := hT.first
    obtain ⟨yad, yc, rfl⟩ := hTy.form
    have hr : redx ⟨4, xn⟩ (.cons y ky r) = decide (y.k = 3) := rfl
    rw [hr]
    obtain ⟨KL, hKL⟩ : ∃ KL, KL = (F.cons y ky r).len := ⟨_, rfl⟩
    rw [← hKL]
    have hK0 : (0 : Int) < (KL : Int) := by rw [hKL]; simp [F.len]
    clear hKL hT hTy hl ho hr
    go_enter Try.func68, Try.ntmps68
    go_wp2_with fail
    go_ret
    exact ⟨ret_bool (by rw [Bool.eq_iff_iff]; simp), (Below.refl _ _).alloc (Nat.le_refl _) _⟩
  · by_cases h7 : xk = 7
    · subst h7
      have hr : redx ⟨7, xn⟩ k = true := rfl
      rw [hr]
      obtain ⟨KL, hKL⟩ : ∃ KL, KL = k.len := ⟨_, rfl⟩
      rw [← hKL]
      clear hKL hT hl ho hr h4
      go_enter Try.func68, Try.ntmps68
      go_wp2_with fail
      go_ret
      exact ⟨rfl, (Below.refl _ _).alloc (Nat.le_refl _) _⟩
    · by_cases h5 : xk = 5
      · subst h5
        obtain ⟨y, ky, r, rfl⟩ := len_pos (k := k) (by rw [hl]; decide)
        obtain ⟨z, kz, r2, rfl⟩ := len_pos (k := r) (by have : ar 5 = 2 := (by decide); simp [F.len] at hl; omega)
        obtain ⟨g, rfl, hg, -, p0, p1, sy, p2, hTy⟩ := hT.first
        obtain ⟨q0, q1, sz, q2, hTz⟩ := hT.second
        obtain ⟨yad, yc, rfl⟩ := hTy.form
        obtain ⟨zad, zc, rfl⟩ := hTz.form
        obtain ⟨gy, ly, oy, gz, lz, oz, -⟩ := ho
        have hr : redx ⟨5, xn⟩ (.cons y ky (.cons z kz r2)) = (decide (y.k = 2) && (decide (z.k = 2) && inB (y.n + z.n) (-1000000) 1000000)) := rfl
        rw [hr]
        have hyn := num_n gy
        have hzn := num_n gz
        have hKL : (F.cons y ky (.cons z kz r2)).len = 2 := hl
        rw [hKL]
        obtain ⟨yn, hyn2⟩ : ∃ yn, yn = ky.len := ⟨_, rfl⟩
        obtain ⟨zn, hzn2⟩ : ∃ zn, zn = kz.len := ⟨_, rfl⟩
        rw [← hyn2] at p2
        rw [← hzn2] at q2
        clear hyn2 hzn2
        clear hKL hT hTy hTz hl hr h4 h7 gy ly oy gz lz oz
        have HB3 : ∀ w3, w3 = w.alloc (.cells #[.int .i64 5, .int .i64 xn, .slice (some ⟨g, 0, none⟩) 2 sc] 55) → Below w.heap.size w w3.drew ∧ w3.cell? ⟨w.heap.size, 2, none⟩ = some (.slice (some ⟨g, 0, none⟩) 2 sc) ∧
            w3.cell? ⟨g, 0, none⟩ = some (.int .i64 y.k) ∧ w3.cell? ⟨g, 1, none⟩ = some (.int .i64 y.n) ∧ w3.cell? ⟨g, 3, none⟩ = some (.int .i64 z.k) ∧ w3.cell? ⟨g, 4, none⟩ = some (.int .i64 z.n) := by
          rintro w3 rfl
          have hB3 : Below w.heap.size w (w.alloc (.cells #[.int .i64 5, .int .i64 xn, .slice (some ⟨g, 0, none⟩) 2 sc] 55)) := (Below.refl _ _).alloc (Nat.le_refl _) _
          exact ⟨belowDrw hB3, by simp, (hB3.cell (p := ⟨g, 0, none⟩) hg).trans p0, (hB3.cell (p := ⟨g, 1, none⟩) hg).trans p1, (hB3.cell (p := ⟨g, 3, none⟩) hg).trans q0, (hB3.cell (p := ⟨g, 4, none⟩) hg).trans q1⟩
        have HB3' := hide HB3
        have hng : ¬ g = w.heap.size := by omega
        clear HB3 p0 p1 p2 q0 q1 q2
        by_cases hy : y.k = 2
        · have hyb := hyn hy
          rw [decide_eq_true hy]
          rw [hy] at HB3'
          by_cases hz : z.k = 2
          · have hzb := hzn hz
            rw [decide_eq_true hz]
            rw [hz] at HB3'
            have hw : IntKind.i64.wrap (y.n + z.n) = y.n + z.n := by rw [IntWalk.i64_in _ ⟨by omega, by omega⟩]
            clear hyn hzn hy hz
            go_enter Try.func68, Try.ntmps68
            go_wp2_with fail
            obtain ⟨w3, hw3⟩ : ∃ w3, w3 = w.alloc (.cells #[.int .i64 5, .int .i64 xn, .slice (some ⟨g, 0, none⟩) 2 sc] 55) := ⟨_, rfl⟩
            rw [← hw3]
            obtain ⟨hB3, e5, e0, e1, e3, e4⟩ := HB3'.out w3 hw3
            have HB4 := hide hB3
            clear hw3 HB3' hB3
            go_region_held3 (fun w' => w'.cell? ⟨w.heap.size, 2, none⟩ = some (.slice (some ⟨g, 0, none⟩) 2 sc) ∧ w'.cell? ⟨g, 0, none⟩ = some (.int .i64 2) ∧ w'.cell? ⟨g, 1, none⟩ = some (.int .i64 y.n) ∧ w'.cell? ⟨g, 3, none⟩ = some (.int .i64 2) ∧ w'.cell? ⟨g, 4, none⟩ = some (.int .i64 z.n)) (go_keep)
              (first
                | (go_at_call 27; refine Calls.mono (l1In_any _ _ _ _) ?_; rintro e w' ⟨rfl, rfl⟩))
            go_wp2_with fail
            go_ret
            exact ⟨rfl, HB4.out⟩
          · rw [decide_eq_false hz]
            have hzb : (z.k == 2) = false := by simp [hz]
            clear hyn hzn hy
            go_enter Try.func68, Try.ntmps68
            go_wp2_with fail
            obtain ⟨w3, hw3⟩ : ∃ w3, w3 = w.alloc (.cells #[.int .i64 5, .int .i64 xn, .slice (some ⟨g, 0, none⟩) 2 sc] 55) := ⟨_, rfl⟩
            rw [← hw3]
            obtain ⟨hB3, e5, e0, e1, e3, e4⟩ := HB3'.out w3 hw3
            have HB4 := hide hB3
            clear hw3 HB3' hB3
            go_quiet (fail)
            go_wp2_with fail
            go_ret
            exact ⟨rfl, ⟨HB4.out.os, HB4.out.tape, HB4.out.output, HB4.out.size, HB4.out.block⟩⟩
        · rw [decide_eq_false hy]
          have hyb : (y.k == 2) = false := by simp [hy]
          clear hyn hzn
          go_enter Try.func68, Try.ntmps68
          go_wp2_with fail
          obtain ⟨w3, hw3⟩ : ∃ w3, w3 = w.alloc (.cells #[.int .i64 5, .int .i64 xn, .slice (some ⟨g, 0, none⟩) 2 sc] 55) := ⟨_, rfl⟩
          rw [← hw3]
          obtain ⟨hB3, e5, e0, e1, e3, e4⟩ := HB3'.out w3 hw3
          have HB4 := hide hB3
          clear hw3 HB3' hB3
          go_quiet (fail)
          go_wp2_with fail
          go_ret
          exact ⟨rfl, ⟨HB4.out.os, HB4.out.tape, HB4.out.output, HB4.out.size, HB4.out.block⟩⟩
      · by_cases h6 : xk = 6
        · subst h6
          obtain ⟨y, ky, r, rfl⟩ := len_pos (k := k) (by rw [hl]; decide)
          obtain ⟨g, rfl, hg, -, p0, p1, sy, p2, hTy⟩ := hT.first
          obtain ⟨yad, yc, rfl⟩ := hTy.form
          have hr : redx ⟨6, xn⟩ (.cons y ky r) = decide (y.k = 2) := rfl
          rw [hr]
          obtain ⟨KL, hKL⟩ : ∃ KL, KL = (F.cons y ky r).len := ⟨_, rfl⟩
          rw [← hKL]
          have hK0 : (0 : Int) < (KL : Int) := by rw [hKL]; simp [F.len]
          clear hKL hT hTy hl ho hr h4 h5 h7
          go_enter Try.func68, Try.ntmps68
          go_wp2_with fail
          go_ret
          exact ⟨ret_bool (by rw [Bool.eq_iff_iff]; simp), (Below.refl _ _).alloc (Nat.le_refl _) _⟩
        · have hr : redx ⟨xk, xn⟩ k = false := by unfold redx; rw [if_neg h4, if_neg h7, if_neg h5, if_neg h6]
          rw [hr]
          obtain ⟨KL, hKL⟩ : ∃ KL, KL = k.len := ⟨_, rfl⟩
          rw [← hKL]
          clear hKL hT hl ho hr
          go_enter Try.func68, Try.ntmps68
          go_wp2_with fail
          go_ret
          exact ⟨rfl, (Below.refl _ _).alloc (Nat.le_refl _) _⟩

/-- Whether what is read is normal. -/
def nrmT : Option F → Bool
  | some a => !anyR a
  | none => false
end Go.Proofs.Ytjmgnljjeogdlaa.W
