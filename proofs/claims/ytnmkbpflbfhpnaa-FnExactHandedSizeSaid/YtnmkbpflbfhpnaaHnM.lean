/-
  Which terms hand on, by what stands at each place and by what each part is: the same. No program here.
-/
import Derived.Test.YtnmkbpflbfhpnaaTeR
import Derived.Test.YtnmkbpflbfhpnaaTeIv
namespace Go.Proofs.Ytnmkbpflbfhpnaa.W
set_option linter.unusedVariables false

/-- What may stand where something must be ready, by its first cell. -/
def rdy (k : Int) : Bool := decide (k = 1) || (decide (k = 5) || isVal k)
/-- What is asked of one cell and the terms behind it. -/
def loc (xk : Int) (k : F) : Bool :=
  if xk = 7 then false else if xk = 6 then rdy (k1 k) else if xk = 5 then rdy (k1 k) && rdy (k1 (tl k)) else if xk = 4 then rdy (k1 (tl k)) else true
def allLoc : F → Bool
  | .nil => true
  | .cons x k r => loc x.k k && (allLoc k && allLoc r)
/-- Whether each of these is done at once. -/
def smp : F → Bool
  | .nil => true
  | .cons x k r => (if x.k = 5 then smp k else rdy x.k) && smp r
def smp1 (x : Cc) (k : F) : Bool := if x.k = 5 then smp k else rdy x.k
/-- Whether the first of these is done at once. -/
def smF : F → Bool
  | .nil => true
  | .cons x k _ => smp1 x k
def sloc (xk : Int) (k : F) : Bool :=
  if xk = 7 then false else if xk = 6 then smF k else if xk = 5 then smF k && smF (tl k) else if xk = 4 then smF (tl k) else true
def hs : F → Bool
  | .nil => true
  | .cons x k r => (sloc x.k k && hs k) && hs r
/-- Whether what is read hands on. -/
def hsT : Option F → Bool
  | some a => hs a
  | none => false
theorem hs_app : ∀ a b : F, hs (a.app b) = (hs a && hs b)
  | .nil, b => rfl
  | .cons x k r, b => by simp [F.app, hs, hs_app r b, Bool.and_assoc]
theorem smp_app : ∀ a b : F, smp (a.app b) = (smp a && smp b)
  | .nil, b => rfl
  | .cons x k r, b => by simp [F.app, smp, smp_app r b, Bool.and_assoc]

def rdyAll : F → Bool
  | .nil => true
  | .cons x _ r => rdy x.k && rdyAll r
theorem two_of {k : F} (h : k.len = 2) : ∃ y ky z kz, k = .cons y ky (.cons z kz .nil) := by
  cases k with
  | nil => simp [F.len] at h
  | cons y ky r =>
    obtain ⟨z, kz, rfl⟩ := F.len_1 (a := r) (by simp [F.len] at h; omega)
    exact ⟨y, ky, z, kz, rfl⟩
theorem smp_of : ∀ a : F, a.ok → allLoc a = true → rdyAll a = true → smp a = true
  | .nil, _, _, _ => rfl
  | .cons x k r, ⟨h1, h2, h3, h4⟩, hl, hr => by
    simp only [allLoc, Bool.and_eq_true] at hl
    simp only [rdyAll, Bool.and_eq_true] at hr
    simp only [smp, Bool.and_eq_true]
    refine ⟨?_, smp_of r h4 hl.2.2 hr.2⟩
    by_cases h5 : x.k = 5
    · rw [if_pos h5]
      refine smp_of k h3 hl.2.1 ?_
      obtain ⟨y, ky, z, kz, rfl⟩ := two_of (k := k) (by rw [h2, h5]; decide)
      have := hl.1
      rw [h5] at this
      simpa [loc, k1, tl, rdyAll] using this
    · rw [if_neg h5]; exact hr.1
theorem smp1_eq {x : Cc} {k r : F} (h : (F.cons x k r).ok) (hl : allLoc (.cons x k r) = true) : smp1 x k = rdy x.k := by
  obtain ⟨h1, h2, h3, h4⟩ := h
  unfold smp1
  by_cases h5 : x.k = 5
  · rw [if_pos h5]
    simp only [allLoc, Bool.and_eq_true] at hl
    have e : rdy x.k = true := by rw [h5]; decide
    rw [e]
    refine smp_of k h3 hl.2.1 ?_
    obtain ⟨y, ky, z, kz, rfl⟩ := two_of (k := k) (by rw [h2, h5]; decide)
    have := hl.1
    rw [h5] at this
    simpa [loc, k1, tl, rdyAll] using this
  · rw [if_neg h5]
theorem smF_eq {k : F} (h : k.ok) (hl : allLoc k = true) (hk : 0 < k.len) : smF k = rdy (k1 k) := by
  obtain ⟨y, ky, r, rfl⟩ := len_pos hk
  exact smp1_eq h hl
theorem tl_ok {k : F} (h : k.ok) : (tl k).ok := by
  cases k with
  | nil => exact h
  | cons y ky r => exact h.2.2.2
theorem tl_loc {k : F} (h : allLoc k = true) : allLoc (tl k) = true := by
  cases k with
  | nil => exact h
  | cons y ky r => simp only [allLoc, Bool.and_eq_true] at h; exact h.2.2
theorem tl_len (k : F) : (tl k).len = k.len - 1 := by
  cases k with
  | nil => rfl
  | cons y ky r => simp [tl, F.len]
theorem sloc_eq {x : Cc} {k : F} (h : k.ok) (hk : k.len = ar x.k) (hl : allLoc k = true) : sloc x.k k = loc x.k k := by
  unfold sloc loc
  by_cases h7 : x.k = 7
  · rw [if_pos h7, if_pos h7]
  · rw [if_neg h7, if_neg h7]
    by_cases h6 : x.k = 6
    · rw [if_pos h6, if_pos h6]
      exact smF_eq h hl (by rw [hk, h6]; decide)
    · rw [if_neg h6, if_neg h6]
      by_cases h5 : x.k = 5
      · have h2 : k.len = 2 := by rw [hk, h5]; decide
        rw [if_pos h5, if_pos h5, smF_eq h hl (by omega), smF_eq (tl_ok h) (tl_loc hl) (by rw [tl_len]; omega)]
      · rw [if_neg h5, if_neg h5]
        by_cases h4 : x.k = 4
        · have h2 : k.len = 2 := by rw [hk, h4]; decide
          rw [if_pos h4, if_pos h4, smF_eq (tl_ok h) (tl_loc hl) (by rw [tl_len]; omega)]
        · rw [if_neg h4, if_neg h4]
theorem hs_eq : ∀ a : F, a.ok → hs a = allLoc a
  | .nil, _ => rfl
  | .cons x k r, ⟨h1, h2, h3, h4⟩ => by
    simp only [hs, allLoc]
    rw [hs_eq k h3, hs_eq r h4]
    cases hl : allLoc k with
    | false => simp
    | true => rw [sloc_eq h3 h2 hl]; simp

/-- What is asked at the front of a row. -/
def locB (l : List Cc) : Bool := match rt 1 l with | some (.cons x k _, _) => loc x.k k | _ => true
theorem locB_front {x : Cc} {k : F} (hg : goodC x = true) (hl : k.len = ar x.k) (ho : k.ok) (q : List Cc) : locB (x :: (k.flat ++ q)) = loc x.k k := by
  unfold locB
  rw [rt_1 hg, ← hl, rt_back k q ho]
  rfl
theorem locB_cons (x : Cc) (l : List Cc) : ((List.range (x :: l).length).all fun i => locB ((x :: l).drop i)) = (locB (x :: l) && ((List.range l.length).all fun i => locB (l.drop i))) := by
  rw [List.length_cons, List.range_succ_eq_map, List.all_cons, List.all_map]
  rfl
theorem locB_flat : ∀ (a : F) (r : List Cc), a.ok → ((List.range (a.flat ++ r).length).all fun i => locB ((a.flat ++ r).drop i)) = (allLoc a && ((List.range r.length).all fun i => locB (r.drop i)))
  | .nil, r, _ => rfl
  | .cons x k s, r, ⟨h1, h2, h3, h4⟩ => by
    have e : (F.cons x k s).flat ++ r = x :: (k.flat ++ (s.flat ++ r)) := by simp [F.flat]
    rw [e, locB_cons, locB_flat k _ h3, locB_flat s r h4, locB_front h1 h2 h3 _]
    simp [allLoc, Bool.and_assoc]
theorem locB_all {a : F} (h : a.ok) : ((List.range a.flat.length).all fun i => locB (a.flat.drop i)) = hs a := by
  have := locB_flat a [] h
  rw [hs_eq a h]
  simpa using this
/-- Within good terms a term opens at each place. -/
theorem front_in : ∀ (a : F) (r : List Cc) (i : Nat), a.ok → i < a.flat.length → ∃ (x : Cc) (k : F) (q : List Cc), (a.flat ++ r).drop i = x :: (k.flat ++ q) ∧ goodC x = true ∧ k.len = ar x.k ∧ k.ok
  | .nil, r, i, _, h => by simp [F.flat] at h
  | .cons x k s, r, i, ⟨h1, h2, h3, h4⟩, hi => by
    show ∃ (x' : Cc) (k' : F) (q : List Cc), (x :: (k.flat ++ s.flat) ++ r).drop i = _ ∧ _
    rw [List.cons_append, List.append_assoc]
    cases i with
    | zero => exact ⟨x, k, _, rfl, h1, h2, h3⟩
    | succ j =>
      rw [List.drop_succ_cons]
      by_cases hj : j < k.flat.length
      · exact front_in k (s.flat ++ r) j h3 hj
      · rw [show (k.flat ++ (s.flat ++ r)).drop j = (s.flat ++ r).drop (j - k.flat.length) by rw [List.drop_append, List.drop_eq_nil_of_le (by omega), List.nil_append]]
        exact front_in s r (j - k.flat.length) h4 (by simp [F.flat] at hi; omega)
end Go.Proofs.Ytnmkbpflbfhpnaa.W
