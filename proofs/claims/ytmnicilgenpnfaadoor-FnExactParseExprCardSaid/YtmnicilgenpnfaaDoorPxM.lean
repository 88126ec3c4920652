/-
  The model of ParseExpr: tokens read by strengths. No program here.
-/
import Derived.Test.YtmnicilgenpnfaaDoorTokS
import Derived.Test.YtmnicilgenpnfaaDoorExP
import Derived.Test.YtmnicilgenpnfaaDoorStr
namespace Go.Proofs.YtmnicilgenpnfaaDoor.W
set_option linter.unusedVariables false

/-- How a reader ends: what is read, and where it stands; or where it stands that cannot stand there, and whether it is too deep. -/
inductive Rz where
  | ok (e : E) (p : Nat)
  | bad (p : Nat) (t : Bool)
/-- Is the next token this sign? -/
def sqAt (l : List T.Tk) (p : Nat) (s : List UInt8) : Bool := match l[p]? with
  | none => false
  | some x => decide (x.k = 3) && decide (x.t.data.toList = s)
/-- The strength of the sign of two that is next; 0 where none is. -/
def stAt (l : List T.Tk) (p : Nat) : Int := match l[p]? with
  | none => 0
  | some x => if x.k = 3 then strN x.t else 0
def txAt (l : List T.Tk) (p : Nat) : ByteArray := match l[p]? with
  | none => ⟨#[]⟩
  | some x => x.t
/-- How strong what stands to the right must be. -/
def nxS (n : Int) : Int := if n = 7 then n else n + 1

mutual
/-- What stands ahead of signs. -/
def rOne (l : List T.Tk) : Nat → Nat → Nat → Rz
  | 0, _, p => .bad p false
  | f + 1, d, p => match l[p]? with
    | none => .bad p false
    | some x => if x.k = 1 then .ok (.leaf ⟨1, x.n, ⟨#[]⟩⟩) (p + 1) else if x.k = 2 then .ok (.leaf ⟨2, 0, x.t⟩) (p + 1)
      else if sqAt l p [45] then rAhead l f 3 d p else if sqAt l p [33] then rAhead l f 4 d p else if sqAt l p [40] then rBr l f d p else .bad p false
/-- A sign ahead of something. -/
def rAhead (l : List T.Tk) : Nat → Int → Nat → Nat → Rz
  | 0, _, _, p => .bad p false
  | f + 1, k, d, p => if 100 ≤ d then .bad (p + 1) true else match rOne l f (d + 1) (p + 1) with
    | .ok e q => .ok (.one ⟨k, 0, ⟨#[]⟩⟩ e) q
    | .bad q t => .bad q t
/-- Brackets. -/
def rBr (l : List T.Tk) : Nat → Nat → Nat → Rz
  | 0, _, p => .bad p false
  | f + 1, d, p => if 100 ≤ d then .bad (p + 1) true else match rFrom l f 1 (d + 1) (p + 1) with
    | .ok e q => if sqAt l q [41] then .ok e (q + 1) else .bad q false
    | .bad q t => .bad q t
/-- An expression of such a strength at least. -/
def rFrom (l : List T.Tk) : Nat → Int → Nat → Nat → Rz
  | 0, _, _, p => .bad p false
  | f + 1, least, d, p => match rOne l f d p with
    | .ok e q => rLoop l f least d e q
    | .bad q t => .bad q t
/-- .. whose left part is read. -/
def rLoop (l : List T.Tk) : Nat → Int → Nat → E → Nat → Rz
  | 0, _, _, e, p => .bad p false
  | f + 1, least, d, e, p => if stAt l p < least then .ok e p else match rFrom l f (nxS (stAt l p)) d (p + 1) with
    | .ok e2 q => rLoop l f least d (.two ⟨5, 0, txAt l p⟩ e e2) q
    | .bad q t => .bad q t
end

theorem sqAt_lt {l : List T.Tk} {p : Nat} {s : List UInt8} (h : sqAt l p s = true) : p < l.length := by
  unfold sqAt at h
  cases e : l[p]? with
  | none => rw [e] at h; cases h
  | some x => exact (List.getElem?_eq_some_iff.1 e).1
theorem stAt_lt {l : List T.Tk} {p : Nat} (h : 1 ≤ stAt l p) : p < l.length := by
  unfold stAt at h
  cases e : l[p]? with
  | none => rw [e] at h; simp at h
  | some x => exact (List.getElem?_eq_some_iff.1 e).1
theorem nxS_one {n : Int} (h : 1 ≤ n) : 1 ≤ nxS n := by unfold nxS; split <;> omega

/-- Enough steps: three for each token that is left, and three more. -/
def fuelOf (l : List T.Tk) (p : Nat) : Nat := 4 * (l.length - p) + 4
/-- Where it stands afterwards, and how much is read. -/
def After (l : List T.Tk) (p : Nat) (z : Rz) : Prop := match z with
  | .ok e q => p < q ∧ q ≤ l.length ∧ e.flat.length ≤ q - p
  | .bad q t => p ≤ q ∧ q ≤ l.length
def After' (l : List T.Tk) (e : E) (p : Nat) (z : Rz) : Prop := match z with
  | .ok e' q => p ≤ q ∧ q ≤ l.length ∧ e'.flat.length ≤ e.flat.length + (q - p)
  | .bad q t => p ≤ q ∧ q ≤ l.length
theorem after_all (l : List T.Tk) : ∀ f : Nat,
    (∀ d p, p ≤ l.length → After l p (rOne l f d p)) ∧ (∀ k d p, p < l.length → After l p (rAhead l f k d p)) ∧ (∀ d p, p < l.length → After l p (rBr l f d p)) ∧
    (∀ least d p, 1 ≤ least → p ≤ l.length → After l p (rFrom l f least d p)) ∧ (∀ least d e p, 1 ≤ least → p ≤ l.length → After' l e p (rLoop l f least d e p)) := by
  intro f
  induction f with
  | zero =>
    refine ⟨?_, ?_, ?_, ?_, ?_⟩
    · intro d p h; unfold rOne; exact ⟨Nat.le_refl _, h⟩
    · intro k d p h; unfold rAhead; exact ⟨Nat.le_refl _, by omega⟩
    · intro d p h; unfold rBr; exact ⟨Nat.le_refl _, by omega⟩
    · intro least d p _ h; unfold rFrom; exact ⟨Nat.le_refl _, h⟩
    · intro least d e p _ h; unfold rLoop; exact ⟨Nat.le_refl _, h⟩
  | succ f ih =>
    obtain ⟨i1, i2, i3, i4, i5⟩ := ih
    refine ⟨?_, ?_, ?_, ?_, ?_⟩
    · intro d p h
      unfold rOne
      cases e : l[p]? with
      | none => exact ⟨Nat.le_refl _, h⟩
      | some x =>
        have hp := (List.getElem?_eq_some_iff.1 e).1
        simp only
        split
        · exact ⟨by omega, by omega, by simp [E.flat]⟩
        · split
          · exact ⟨by omega, by omega, by simp [E.flat]⟩
          · split
            · exact i2 3 d p hp
            · split
              · exact i2 4 d p hp
              · split
                · exact i3 d p hp
                · exact ⟨Nat.le_refl _, h⟩
    · intro k d p h
      unfold rAhead
      split
      · exact ⟨by omega, by omega⟩
      · have h1 := i1 (d + 1) (p + 1) (by omega)
        cases e : rOne l f (d + 1) (p + 1) with
        | ok a q =>
          rw [e] at h1
          obtain ⟨a1, a2, a3⟩ := h1
          refine ⟨by omega, a2, ?_⟩
          simp only [E.flat, List.length_cons]
          omega
        | bad q t => rw [e] at h1; exact ⟨by have := h1.1; omega, h1.2⟩
    · intro d p h
      unfold rBr
      split
      · exact ⟨by omega, by omega⟩
      · have h1 := i4 1 (d + 1) (p + 1) (by omega) (by omega)
        cases e : rFrom l f 1 (d + 1) (p + 1) with
        | ok a q =>
          rw [e] at h1
          obtain ⟨a1, a2, a3⟩ := h1
          simp only
          split
          · rename_i hs
            have := sqAt_lt hs
            exact ⟨by omega, by omega, by omega⟩
          · exact ⟨by omega, a2⟩
        | bad q t => rw [e] at h1; exact ⟨by have := h1.1; omega, h1.2⟩
    · intro least d p hl h
      unfold rFrom
      have h1 := i1 d p h
      cases e : rOne l f d p with
      | ok a q =>
        rw [e] at h1
        obtain ⟨a1, a2, a3⟩ := h1
        have h2 := i5 least d a q hl a2
        simp only
        cases e2 : rLoop l f least d a q with
        | ok b r => rw [e2] at h2; exact ⟨by have := h2.1; omega, h2.2.1, by have := h2.2.2; have := h2.1; omega⟩
        | bad r t => rw [e2] at h2; exact ⟨by have := h2.1; omega, h2.2⟩
      | bad q t => rw [e] at h1; exact h1
    · intro least d a p hl h
      unfold rLoop
      split
      · exact ⟨Nat.le_refl _, h, by omega⟩
      · rename_i hs
        have hp := stAt_lt (l := l) (p := p) (by omega)
        have h1 := i4 (nxS (stAt l p)) d (p + 1) (nxS_one (by omega)) (by omega)
        cases e : rFrom l f (nxS (stAt l p)) d (p + 1) with
        | ok b q =>
          rw [e] at h1
          obtain ⟨a1, a2, a3⟩ := h1
          have h2 := i5 least d (.two ⟨5, 0, txAt l p⟩ a b) q hl a2
          simp only
          have hfl : (E.two ⟨5, 0, txAt l p⟩ a b).flat.length = a.flat.length + b.flat.length + 1 := by simp [E.flat]
          cases e2 : rLoop l f least d (.two ⟨5, 0, txAt l p⟩ a b) q with
          | ok c r =>
            rw [e2] at h2
            obtain ⟨b1, b2, b3⟩ := h2
            rw [hfl] at b3
            exact ⟨by omega, b2, by omega⟩
          | bad r t => rw [e2] at h2; exact ⟨by have := h2.1; omega, h2.2⟩
        | bad q t => rw [e] at h1; exact ⟨by have := h1.1; omega, h1.2⟩
end Go.Proofs.YtmnicilgenpnfaaDoor.W
