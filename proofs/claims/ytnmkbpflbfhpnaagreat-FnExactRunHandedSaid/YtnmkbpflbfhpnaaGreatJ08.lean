/-
  Some texts of this proof in one: TeIv, TeKm, WkP.
-/
import Derived.Test.YtnmkbpflbfhpnaaGreatJ02
import Derived.Test.YtnmkbpflbfhpnaaGreatJ07
import Derived.Test.YtnmkbpflbfhpnaaGreatJ06
import Derived.Test.YtnmkbpflbfhpnaaGreatJ05
import Derived.Test.YtnmkbpflbfhpnaaGreatJ03
/-
  Contracts of IsValue: the program's (isValueCell, IsValue) and the specification's (l4Value, IsValue). Conditions: at most 1048576 cells.
-/
namespace Go.Proofs.YtnmkbpflbfhpnaaGreat.W
open Go.ChangeShapes Go.WideShapes Go.ChangeAt Go.RowKit
set_option linter.unusedVariables false

/-- A value, by its first cell's kind. -/
def isVal (k : Int) : Bool := decide (k = 3) || decide (k = 2)
/-- Whether what is read is a value. -/
def valT : Option F → Bool
  | some (.cons x _ _) => isVal x.k
  | _ => false
end Go.Proofs.YtnmkbpflbfhpnaaGreat.W

/-
  What redexes come to: the model. No program here.
-/
namespace Go.Proofs.YtnmkbpflbfhpnaaGreat.W
set_option linter.unusedVariables false

/-- A term with another in the place of its first variable, where there is room. -/
def putO (b : Cc) (kb : F) (z : Cc) (kz : F) : Option (Cc × F) := if kb.flat.length + 1 + us1 0 b kb * kz.flat.length ≤ 600 then some (sbr 0 z 0 b, sbk 0 z kz 0 b kb) else none
/-- What a redex comes to, where there is room. -/
def ctrO (x : Cc) : F → Option (Cc × F)
  | .nil => none
  | .cons y ky r =>
    if x.k = 4 then (match ky, r with | .cons b kb _, .cons z kz _ => putO b kb z kz | _, _ => none)
    else if x.k = 7 then (match r with | .cons b kb _ => putO b kb y ky | .nil => none)
    else if x.k = 5 then (match r with | .cons z _ _ => some (⟨2, y.n + z.n⟩, .nil) | .nil => none)
    else (match r with | .cons z kz (.cons u ku _) => some (if y.n = 0 then (z, kz) else (u, ku)) | _ => none)

/-- A good term, by its first cell and those behind it. -/
def okT (x : Cc) (k : F) : Prop := goodC x = true ∧ k.len = ar x.k ∧ k.ok

inductive Red (x : Cc) (k : F) : Prop
  | app (y b z : Cc) (kb kz : F) (hx : x.k = 4) (hk : k = .cons y (.cons b kb .nil) (.cons z kz .nil)) (hy : y.k = 3) (hb : okT b kb) (hz : okT z kz)
  | lett (y b : Cc) (ky kb : F) (hx : x.k = 7) (hk : k = .cons y ky (.cons b kb .nil)) (hy : okT y ky) (hb : okT b kb)
  | add (y z : Cc) (hx : x.k = 5) (hk : k = .cons y .nil (.cons z .nil .nil)) (hy : y.k = 2) (hz : z.k = 2) (hyn : -1000000 ≤ y.n ∧ y.n ≤ 1000000) (hzn : -1000000 ≤ z.n ∧ z.n ≤ 1000000) (hs : inB (y.n + z.n) (-1000000) 1000000 = true)
  | iff (y z u : Cc) (kz ku : F) (hx : x.k = 6) (hk : k = .cons y .nil (.cons z kz (.cons u ku .nil))) (hy : y.k = 2) (hz : okT z kz) (hu : okT u ku)

theorem red_of {x : Cc} {k : F} (h : okT x k) (hr : redx x k = true) : Red x k := by
  obtain ⟨hg, hl, ho⟩ := h
  unfold redx at hr
  by_cases h4 : x.k = 4
  · rw [if_pos h4] at hr
    rw [h4] at hl
    obtain ⟨y, ky, z, kz, rfl⟩ := F.len_2 (show k.len = 2 by rw [hl]; rfl)
    obtain ⟨gy, ly, oy, gz, lz, oz, -⟩ := ho
    have hy : y.k = 3 := of_decide_eq_true hr
    rw [hy] at ly
    obtain ⟨b, kb, rfl⟩ := F.len_1 (show ky.len = 1 by rw [ly]; rfl)
    obtain ⟨gb, lb, ob, -⟩ := oy
    exact .app y b z kb kz h4 rfl hy ⟨gb, lb, ob⟩ ⟨gz, lz, oz⟩
  · rw [if_neg h4] at hr
    by_cases h7 : x.k = 7
    · rw [h7] at hl
      obtain ⟨y, ky, b, kb, rfl⟩ := F.len_2 (show k.len = 2 by rw [hl]; rfl)
      obtain ⟨gy, ly, oy, gb, lb, ob, -⟩ := ho
      exact .lett y b ky kb h7 rfl ⟨gy, ly, oy⟩ ⟨gb, lb, ob⟩
    · rw [if_neg h7] at hr
      by_cases h5 : x.k = 5
      · rw [if_pos h5] at hr
        rw [h5] at hl
        obtain ⟨y, ky, z, kz, rfl⟩ := F.len_2 (show k.len = 2 by rw [hl]; rfl)
        obtain ⟨gy, ly, oy, gz, lz, oz, -⟩ := ho
        rw [Bool.and_eq_true, Bool.and_eq_true] at hr
        obtain ⟨hy0, hz0, hs⟩ := hr
        have hy : y.k = 2 := of_decide_eq_true hy0
        have hz : z.k = 2 := of_decide_eq_true hz0
        have ey : ky = .nil := F.len_0 (by rw [ly, hy]; rfl)
        have ez : kz = .nil := F.len_0 (by rw [lz, hz]; rfl)
        subst ey ez
        exact .add y z h5 rfl hy hz (num_n gy hy) (num_n gz hz) hs
      · rw [if_neg h5] at hr
        by_cases h6 : x.k = 6
        · rw [if_pos h6] at hr
          rw [h6] at hl
          obtain ⟨y, ky, z, kz, u, ku, rfl⟩ := F.len_3 (show k.len = 3 by rw [hl]; rfl)
          obtain ⟨gy, ly, oy, gz, lz, oz, gu, lu, ou, -⟩ := ho
          have hy : y.k = 2 := of_decide_eq_true hr
          have ey : ky = .nil := F.len_0 (by rw [ly, hy]; rfl)
          subst ey
          exact .iff y z u kz ku h6 rfl hy ⟨gz, lz, oz⟩ ⟨gu, lu, ou⟩
        · rw [if_neg h6] at hr; cases hr

/-! ### by value -/
/-- How many of its parts a term of this kind asks to be values. -/
def pc (k : Int) : Nat := if k = 4 ∨ k = 5 then 2 else if k = 7 ∨ k = 6 then 1 else 0
/-- The place of the redex that steps by value, among terms one behind the other. -/
def cpk : F → Nat → Nat → Option (Nat × Bool)
  | .nil, _, _ => none
  | .cons y ky r, m, at_ => if m = 0 then none else if isVal y.k = true then cpk r (m - 1) (at_ + (ky.flat.length + 1)) else some (match cpk ky (pc y.k) 1 with | some q => (at_ + q.1, q.2) | none => (at_, redx y ky))
def cpl (x : Cc) (k : F) : Nat × Bool := match cpk k (pc x.k) 1 with | some q => q | none => (0, redx x k)
/-- A term whose parts may have stepped, or which is contracted. -/
def hdO (c : Option (Option F)) (y : Cc) (ky : F) : Option (Cc × F) := match c with | some (some ky') => some (y, ky') | some none => none | none => if redx y ky = true then ctrO y ky else none
/-- Terms one behind the other, of which one has stepped by value. -/
def clk : F → Nat → Option (Option F)
  | .nil, _ => none
  | .cons y ky r, m => if m = 0 then none else if isVal y.k = true then (clk r (m - 1)).map (·.map (.cons y ky ·)) else
      some ((hdO (clk ky (pc y.k)) y ky).map fun p : Cc × F => F.cons p.1 p.2 r)
def cl (x : Cc) (k : F) : Option (Cc × F) := hdO (clk k (pc x.k)) x k

/-- What a place among cells tells: a redex there, and what is made where it is contracted. -/
def Place (l : List Cc) (at_ : Nat) (r : Option (List Cc)) : Prop :=
  ∃ pre y ky post, l = pre ++ (y :: (ky.flat ++ post)) ∧ pre.length = at_ ∧ okT y ky ∧ redx y ky = true ∧ r = (ctrO y ky).map fun p => pre ++ (p.1 :: (p.2.flat ++ post))
theorem Place.app {l : List Cc} {at_ : Nat} {r : Option (List Cc)} (h : Place l at_ r) (a b : List Cc) : Place (a ++ (l ++ b)) (a.length + at_) (r.map fun m => a ++ (m ++ b)) := by
  obtain ⟨pre, y, ky, post, h1, h2, h3, h4, h5⟩ := h
  refine ⟨a ++ pre, y, ky, post ++ b, by rw [h1]; simp, by simp [h2], h3, h4, ?_⟩
  rw [h5]
  cases ctrO y ky with
  | none => rfl
  | some p => simp

/-- Both ways to tell the step by value agree. -/
theorem step_agree : ∀ (a : F) (m at_ : Nat), a.ok →
    (cpk a m at_ = none ∧ clk a m = none) ∨
    (∃ q c, cpk a m at_ = some q ∧ clk a m = some c ∧ ((q.2 = false ∧ c = none) ∨ (q.2 = true ∧ ∃ pos, q.1 = at_ + pos ∧ Place a.flat pos (c.map F.flat))))
  | .nil, m, at_, _ => .inl ⟨rfl, rfl⟩
  | .cons y ky r, m, at_, ⟨h1, h2, h3, h4⟩ => by
    by_cases hm : m = 0
    · exact .inl ⟨by rw [cpk, if_pos hm], by rw [clk, if_pos hm]⟩
    · by_cases hv : isVal y.k = true
      · have e1 : cpk (.cons y ky r) m at_ = cpk r (m - 1) (at_ + (ky.flat.length + 1)) := by rw [cpk, if_neg hm, if_pos hv]
        have e2 : clk (.cons y ky r) m = (clk r (m - 1)).map (·.map (.cons y ky ·)) := by rw [clk, if_neg hm, if_pos hv]
        rw [e1, e2]
        rcases step_agree r (m - 1) (at_ + (ky.flat.length + 1)) h4 with ⟨i1, i2⟩ | ⟨q, c, i1, i2, i3⟩
        · exact .inl ⟨i1, by rw [i2]; rfl⟩
        · refine .inr ⟨q, c.map (.cons y ky ·), i1, by rw [i2]; rfl, ?_⟩
          rcases i3 with ⟨j1, j2⟩ | ⟨j1, pos, j2, j3⟩
          · exact .inl ⟨j1, by rw [j2]; rfl⟩
          · refine .inr ⟨j1, ky.flat.length + 1 + pos, by omega, ?_⟩
            have := j3.app (y :: ky.flat) []
            simp only [List.append_nil, List.length_cons] at this
            have e3 : (F.cons y ky r).flat = (y :: ky.flat) ++ r.flat := by simp [F.flat]
            rw [e3]
            have e4 : ((c.map (F.cons y ky ·)).map F.flat) = (c.map F.flat).map fun m => (y :: ky.flat) ++ m := by cases c <;> simp [F.flat]
            rw [e4]
            exact this
      · have e1 : cpk (.cons y ky r) m at_ = some (match cpk ky (pc y.k) 1 with | some q => (at_ + q.1, q.2) | none => (at_, redx y ky)) := by rw [cpk, if_neg hm, if_neg hv]
        have e2 : clk (.cons y ky r) m = some ((hdO (clk ky (pc y.k)) y ky).map fun p : Cc × F => F.cons p.1 p.2 r) := by rw [clk, if_neg hm, if_neg hv]
        refine .inr ⟨_, _, e1, e2, ?_⟩
        have e3 : (F.cons y ky r).flat = (y :: ky.flat) ++ r.flat := by simp [F.flat]
        rcases step_agree ky (pc y.k) 1 h3 with ⟨i1, i2⟩ | ⟨q, c, i1, i2, i3⟩
        · rw [i1, i2]
          cases hr : redx y ky with
          | false => exact .inl ⟨rfl, by simp [hdO, hr]⟩
          | true =>
            refine .inr ⟨rfl, 0, rfl, ?_⟩
            refine ⟨[], y, ky, r.flat, by rw [e3]; simp, rfl, ⟨h1, h2, h3⟩, hr, ?_⟩
            have e5 : hdO none y ky = ctrO y ky := by simp [hdO, hr]
            rw [e5]
            cases ctrO y ky with
            | none => rfl
            | some p => simp [F.flat]
        · rw [i1, i2]
          rcases i3 with ⟨j1, j2⟩ | ⟨j1, pos, j2, j3⟩
          · subst j2
            exact .inl ⟨j1, rfl⟩
          · refine .inr ⟨j1, 1 + pos, by simp only; omega, ?_⟩
            have := j3.app [y] r.flat
            simp only [List.length_singleton] at this
            rw [show (F.cons y ky r).flat = [y] ++ (ky.flat ++ r.flat) by simp [F.flat]]
            have e4 : (Option.map F.flat ((hdO (some c) y ky).map fun p : Cc × F => F.cons p.1 p.2 r)) = (c.map F.flat).map fun m => [y] ++ (m ++ r.flat) := by cases c <;> simp [F.flat, hdO]
            rw [e4]
            exact this

/-- .. of one term. -/
theorem step_one {x : Cc} {k : F} (h : okT x k) : ((cpl x k).2 = false ∧ cl x k = none) ∨ ((cpl x k).2 = true ∧ Place (x :: k.flat) (cpl x k).1 ((cl x k).map fun p => p.1 :: p.2.flat)) := by
  unfold cpl cl
  rcases step_agree k (pc x.k) 1 h.2.2 with ⟨i1, i2⟩ | ⟨q, c, i1, i2, i3⟩
  · rw [i1, i2]
    cases hr : redx x k with
    | false => exact .inl ⟨rfl, by simp [hdO, hr]⟩
    | true =>
      refine .inr ⟨rfl, [], x, k, [], by simp, rfl, h, hr, ?_⟩
      have e5 : hdO none x k = ctrO x k := by simp [hdO, hr]
      rw [e5]
      cases ctrO x k with
      | none => rfl
      | some p => simp
  · rw [i1, i2]
    rcases i3 with ⟨j1, j2⟩ | ⟨j1, pos, j2, j3⟩
    · subst j2; exact .inl ⟨j1, rfl⟩
    · refine .inr ⟨j1, ?_⟩
      have := j3.app [x] []
      simp only [List.length_singleton, List.append_nil] at this
      rw [j2]
      have e4 : (Option.map (fun p : Cc × F => p.1 :: p.2.flat) (hdO (some c) x k)) = (c.map F.flat).map fun m => [x] ++ m := by cases c <;> simp [hdO]
      rw [e4]
      exact this
end Go.Proofs.YtnmkbpflbfhpnaaGreat.W

/-
  Terms whose variables may be up to 900000: what development and its like make on the way. No program here.
-/
namespace Go.Proofs.YtnmkbpflbfhpnaaGreat.V
open Go.Proofs.YtnmkbpflbfhpnaaGreat.W
def goodC (x : Cc) : Bool :=
  if x.k = 1 then inB x.n 0 900000 else if x.k = 2 then inB x.n (-1000000) 1000000 else decide (x.n = 0) && inB x.k 3 7
end Go.Proofs.YtnmkbpflbfhpnaaGreat.V
namespace Go.Proofs.YtnmkbpflbfhpnaaGreat.W
def F.okw : F → Prop
  | .nil => True
  | .cons x k r => V.goodC x = true ∧ k.len = ar x.k ∧ k.okw ∧ r.okw
end Go.Proofs.YtnmkbpflbfhpnaaGreat.W
namespace Go.Proofs.YtnmkbpflbfhpnaaGreat.V
open Go.Proofs.YtnmkbpflbfhpnaaGreat.W
set_option linter.unusedVariables false
theorem F.app_okw : ∀ a b : F, (a.app b).okw ↔ a.okw ∧ b.okw
  | .nil, b => by simp [F.app, F.okw]
  | .cons x k r, b => by simp [F.app, F.okw, F.app_okw r b, and_assoc]
theorem ok_cons {x : Cc} {k r : F} (h : (F.cons x k r).okw) : goodC x = true ∧ k.len = ar x.k ∧ k.okw ∧ r.okw := h
theorem good_n {x : Cc} (h : goodC x = true) : -1000000 ≤ x.n ∧ x.n ≤ 1000000 := by
  unfold goodC at h
  unfold inB at h
  split at h
  · simp at h; omega
  · split at h
    · simp at h; omega
    · simp at h; omega
theorem good_ar {x : Cc} (h : goodC x = true) : inB x.k 1 7 = true := by
  unfold goodC at h
  split at h
  · rename_i h1; rw [h1]; rfl
  · split at h
    · rename_i h1; rw [h1]; rfl
    · unfold inB at h ⊢; simp at h ⊢; omega
def okT (x : Cc) (k : F) : Prop := goodC x = true ∧ k.len = ar x.k ∧ k.okw
theorem F.okw_fit : ∀ {a : F}, a.okw → a.fit
  | .nil, _ => trivial
  | .cons x k r, h => by
    obtain ⟨h1, h2, h3, h4⟩ := ok_cons h
    refine ⟨good_ar h1, fun h => ?_, h2, F.okw_fit h3, F.okw_fit h4⟩
    unfold goodC at h1
    rw [if_neg (by omega), if_neg (by omega)] at h1
    simp at h1
    exact h1.1
theorem good_w {x : Cc} (h : W.goodC x = true) : goodC x = true := by
  unfold W.goodC at h
  unfold goodC
  by_cases h1 : x.k = 1
  · rw [if_pos h1] at h ⊢; unfold inB at h ⊢; simp at h ⊢; omega
  · rw [if_neg h1] at h ⊢; exact h
theorem ok_w : ∀ {a : F}, a.ok → a.okw
  | .nil, _ => trivial
  | .cons x k r, h => ⟨good_w h.1, h.2.1, ok_w h.2.2.1, ok_w h.2.2.2⟩
end Go.Proofs.YtnmkbpflbfhpnaaGreat.V
