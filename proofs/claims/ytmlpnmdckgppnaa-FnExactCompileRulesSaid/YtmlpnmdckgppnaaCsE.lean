/-
  What the specification's answer has told behind the first asks, and behind the first kids: as lists. No program here.
-/
import Derived.Test.YtmlpnmdckgppnaaCsD
namespace Go.Proofs.Ytmlpnmdckgppnaa.W
open Go.ChangeShapes Go.WideShapes Go.ChangeAt Go.RowKit
set_option linter.unusedVariables false

theorem kidA_app (p : List Int) : ∀ (a b : F) (i : Nat), kidA p i (a.app b) = kidA p i a ++ kidA p (i + a.len) b
  | .nil, b, i => by simp [F.app, kidA, F.len]
  | .cons x k r, b, i => by
    have h := kidA_app p r b (i + 1)
    have e : i + (F.cons x k r).len = i + 1 + r.len := by simp [F.len]; omega
    rw [e]
    simp only [F.app, kidA]
    split
    · exact h
    · rw [h]; rfl
/-- What one kid more asks. -/
theorem kidA_snoc (p : List Int) (a : F) (x : Pt) (k : F) : kidA p 0 (a.app (.cons x k .nil)) = if x.kd = 1 then kidA p 0 a else kidA p 0 a ++ [⟨p ++ [(a.len : Int)], x, k⟩] := by
  rw [kidA_app]
  simp only [kidA, Nat.zero_add]
  split
  · simp
  · rfl
theorem ansK_app (p : List Int) (c : Int) : ∀ (a b : List Ak), ansK p c (a ++ b) = (ansK p c a).bind fun x => (ansK p c b).map (x ++ ·)
  | [], b => by simp [ansK]
  | a :: q, b => by
    have h := ansK_app p c q b
    simp only [List.cons_append, ansK]
    split
    · split
      · rw [h]
        cases ansK p c q with
        | none => rfl
        | some x => cases ansK p c b <;> simp [List.append_assoc]
      · rfl
    · exact h
theorem ansK_one {p : List Int} {c : Int} (a : Ak) : ansK p c [a] = if a.p = p then (if a.x.con = c then some (kidA p 0 a.k) else none) else some [] := by
  simp only [ansK]
  split
  · split <;> simp
  · rfl
theorem take_one {q : List Ak} {i : Nat} (h : i < q.length) : q.take (i + 1) = q.take i ++ [q[i]] := by
  rw [List.take_add_one, List.getElem?_eq_getElem h]; rfl
theorem ansK_other {p : List Int} {c : Int} {q : List Ak} {i : Nat} (h : i < q.length) (hp : q[i].p ≠ p) {o : List Ak} (e : ansK p c (q.take i) = some o) : ansK p c (q.take (i + 1)) = some o := by
  rw [take_one h, ansK_app, e, ansK_one, if_neg hp]; simp
theorem ansK_same {p : List Int} {c : Int} {q : List Ak} {i : Nat} (h : i < q.length) (hp : q[i].p = p) (hc : q[i].x.con = c) {o : List Ak} (e : ansK p c (q.take i) = some o) : ansK p c (q.take (i + 1)) = some (o ++ kidA p 0 q[i].k) := by
  rw [take_one h, ansK_app, e, ansK_one, if_pos hp, if_pos hc]; simp
theorem ansK_bad {p : List Int} {c : Int} {q : List Ak} {i : Nat} (h : i < q.length) (hp : q[i].p = p) (hc : q[i].x.con ≠ c) : ansK p c q = none := by
  have e : q = q.take (i + 1) ++ q.drop (i + 1) := (List.take_append_drop _ _).symm
  rw [e, ansK_app, take_one h, ansK_app, ansK_one, if_pos hp, if_neg hc]
  cases ansK p c (q.take i) <;> rfl
theorem ansR_other {p : List Int} {q : List Ak} {i : Nat} (h : i < q.length) (hp : q[i].p ≠ p) : ansR p (q.take (i + 1)) = ansR p (q.take i) ++ [q[i]] := by
  unfold ansR
  rw [take_one h, List.filter_append]
  simp [hp]
theorem ansR_same {p : List Int} {q : List Ak} {i : Nat} (h : i < q.length) (hp : q[i].p = p) : ansR p (q.take (i + 1)) = ansR p (q.take i) := by
  unfold ansR
  rw [take_one h, List.filter_append]
  simp [hp]
theorem qsz_take (q : List Ak) (i : Nat) : qsz (q.take i) ≤ qsz q := by
  have := qsz_app (q.take i) (q.drop i)
  rw [List.take_append_drop] at this
  omega
/-- What is told is never more than what is asked. -/
theorem ans_sz {p : List Int} {c : Int} : ∀ {q o : List Ak}, ansK p c q = some o → qsz o + qsz (ansR p q) ≤ qsz q
  | [], o, e => by
    simp only [ansK, Option.some.injEq] at e
    subst e
    simp [ansR, qsz]
  | a :: q, o, e => by
    unfold ansK at e
    rw [qsz_cons]
    by_cases hp : a.p = p
    · rw [if_pos hp] at e
      have hr : ansR p (a :: q) = ansR p q := by unfold ansR; rw [List.filter_cons, if_neg (by simpa using hp)]
      rw [hr]
      split at e
      · cases e2 : ansK p c q with
        | none => rw [e2] at e; cases e
        | some o2 =>
          rw [e2] at e
          simp only [Option.map_some, Option.some.injEq] at e
          subst e
          have h := ans_sz e2
          have h2 := kidA_sz p a.k 0
          rw [qsz_app]
          simp only [Ak.sz]
          omega
      · cases e
    · rw [if_neg hp] at e
      have hr : ansR p (a :: q) = a :: ansR p q := by unfold ansR; rw [List.filter_cons, if_pos (by simpa using hp)]
      rw [hr, qsz_cons]
      have h := ans_sz e
      omega
theorem ans_len3 {p : List Int} {c : Int} {q o : List Ak} (e : ansK p c q = some o) (j : Nat) : (o ++ ansR p (q.take j)).length ≤ qsz q := by
  have h1 := ans_sz e
  have h2 : ansR p q = ansR p (q.take j) ++ ansR p (q.drop j) := by unfold ansR; rw [← List.filter_append, List.take_append_drop]
  have h3 := qsz_len (o ++ ansR p q)
  rw [qsz_app] at h3
  have h4 : (ansR p q).length = (ansR p (q.take j)).length + (ansR p (q.drop j)).length := by rw [← List.length_append, ← h2]
  rw [List.length_append] at h3 ⊢
  omega
theorem ans_len1 {p : List Int} {c : Int} {q o : List Ak} {i : Nat} {f a b : F} (e : ansK p c (q.take i) = some (o ++ kidA p 0 f)) (hf : f = a.app b) : (o ++ kidA p 0 a).length ≤ qsz q := by
  have h1 := ans_sz e
  have h2 := qsz_take q i
  have h3 := qsz_len (o ++ kidA p 0 f)
  rw [hf, kidA_app, ← List.append_assoc, List.length_append] at h3
  rw [hf, kidA_app, ← List.append_assoc] at h1
  omega
theorem goodC_con {D : List Int} {x : Pt} (h : goodC D x = true) (hx : x.kd ≠ 1) : 0 ≤ x.con := by
  unfold goodC at h
  rw [if_neg hx] at h
  simp only [Bool.and_eq_true, decide_eq_true_eq] at h
  exact h.2.1
theorem ansS_of {p : List Int} {c : Int} {q o : List Ak} (e : ansK p c q = some o) : ansS p c q = some (o ++ ansR p q) := by simp [ansS, e]
theorem ansS_none {p : List Int} {c : Int} {q : List Ak} (e : ansK p c q = none) : ansS p c q = none := by simp [ansS, e]
end Go.Proofs.Ytmlpnmdckgppnaa.W
