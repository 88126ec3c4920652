/-
  The specification's askings in memory: paths, patterns and rules with both, kept while other blocks are written. No program here.
-/
import Derived.Test.YtmlpnmdckgppnaaCsA
namespace Go.Proofs.Ytmlpnmdckgppnaa.W
open Go.ChangeShapes Go.WideShapes Go.ChangeAt Go.RowKit
set_option linter.unusedVariables false

/-- Paths as the cells of a row. -/
def PaC (O : Nat → Prop) (w : World) (xs : List Value) (q : List Ak) : Prop := xs.length = q.length ∧ ∀ i (h : i < q.length), ∃ pv, xs[i]? = some pv ∧ St O w (fun w' => IV w' pv q[i].p ∧ CapOk pv)
/-- Patterns as the cells of a row. -/
def TrC (O : Nat → Prop) (w : World) (xs : List Value) (q : List Ak) : Prop := xs.length = q.length * 2 ∧ ∀ i (h : i < q.length), ∃ s, xs[i * 2]? = some (.int .i64 (tcon q[i].x)) ∧ xs[i * 2 + 1]? = some s ∧ KidT w (fun k => ¬ O k) q[i].k s
theorem PaC.later {O O' : Nat → Prop} {w w' : World} {xs : List Value} {q : List Ak} (h : PaC O w xs q) (ho : Off O w w') (hO : ∀ i, O' i → O i ∨ w.heap.size ≤ i) : PaC O' w' xs q :=
  ⟨h.1, fun i hi => by
    obtain ⟨pv, h1, h2⟩ := h.2 i hi
    exact ⟨pv, h1, h2.later ho hO⟩⟩
theorem KidT.later {O O' : Nat → Prop} {w w' : World} {a : F} {s : Value} (h : KidT w (fun k => ¬ O k) a s) (ho : Off O w w') (hO : ∀ i, O' i → O i ∨ w.heap.size ≤ i) : KidT w' (fun k => ¬ O' k) a s :=
  h.keep ho.size (fun k hk hlt => ⟨ho.block k hlt hk, fun hc => by
    rcases hO k hc with h | h
    · exact hk h
    · omega⟩)
theorem TrC.later {O O' : Nat → Prop} {w w' : World} {xs : List Value} {q : List Ak} (h : TrC O w xs q) (ho : Off O w w') (hO : ∀ i, O' i → O i ∨ w.heap.size ≤ i) : TrC O' w' xs q :=
  ⟨h.1, fun i hi => by
    obtain ⟨s, h1, h2, h3⟩ := h.2 i hi
    exact ⟨s, h1, h2, h3.later ho hO⟩⟩
theorem PaC.nil (O : Nat → Prop) (w : World) : PaC O w [] [] := ⟨rfl, fun i h => by simp at h⟩
theorem TrC.nil (O : Nat → Prop) (w : World) : TrC O w [] [] := ⟨rfl, fun i h => by simp at h⟩
theorem PaC.snoc {O : Nat → Prop} {w : World} {xs : List Value} {q : List Ak} {a : Ak} {pv : Value} (h : PaC O w xs q) (ha : St O w (fun w' => IV w' pv a.p ∧ CapOk pv)) : PaC O w (xs ++ [pv]) (q ++ [a]) := by
  have hl := h.1
  refine ⟨by simp [hl], fun i hi => ?_⟩
  by_cases hi1 : i < q.length
  · obtain ⟨p, h1, h2⟩ := h.2 i hi1
    exact ⟨p, by rw [List.getElem?_append_left (by omega)]; exact h1, by rw [List.getElem_append_left hi1]; exact h2⟩
  · have hi2 : i = q.length := by simp at hi; omega
    subst hi2
    exact ⟨pv, by rw [List.getElem?_append_right (by omega), hl, Nat.sub_self]; rfl, by rw [List.getElem_append_right (Nat.le_refl _)]; simpa using ha⟩
theorem TrC.snoc {O : Nat → Prop} {w : World} {xs : List Value} {q : List Ak} {a : Ak} {s : Value} (h : TrC O w xs q) (ha : KidT w (fun k => ¬ O k) a.k s) : TrC O w (xs ++ [.int .i64 (tcon a.x), s]) (q ++ [a]) := by
  have hl := h.1
  refine ⟨by simp [hl]; omega, fun i hi => ?_⟩
  by_cases hi1 : i < q.length
  · obtain ⟨t, h1, h2, h3⟩ := h.2 i hi1
    exact ⟨t, by rw [List.getElem?_append_left (by omega), List.getElem_append_left hi1]; exact h1, by rw [List.getElem?_append_left (by omega)]; exact h2, by rw [List.getElem_append_left hi1]; exact h3⟩
  · have hi2 : i = q.length := by simp at hi; omega
    subst hi2
    refine ⟨s, ?_, ?_, ?_⟩
    · rw [List.getElem?_append_right (by omega), hl, Nat.sub_self, List.getElem_append_right (Nat.le_refl _)]; simp
    · rw [List.getElem?_append_right (by omega), show q.length * 2 + 1 - xs.length = 1 by omega]; rfl
    · rw [List.getElem_append_right (Nat.le_refl _)]; simpa using ha
/-- A rule with all that it asks, as the specification holds it. -/
def SqS (O : Nat → Prop) (w : World) (v : Value) (r : Aq) : Prop :=
  ∃ pv tv xs ys, v = .agg #[.int .i64 r.rule, pv, tv] ∧ RowX O w pv r.q.length 1 xs ∧ PaC O w xs r.q ∧ RowX O w tv r.q.length 2 ys ∧ TrC O w ys r.q ∧ CapOk pv ∧ CapOk tv
theorem SqS.later {O O' : Nat → Prop} {w w' : World} {v : Value} {r : Aq} (h : SqS O w v r) (ho : Off O w w') (hO : ∀ i, O' i → O i ∨ w.heap.size ≤ i) : SqS O' w' v r := by
  obtain ⟨pv, tv, xs, ys, e, h1, h2, h3, h4, h5⟩ := h
  exact ⟨pv, tv, xs, ys, e, h1.later ho hO, h2.later ho hO, h3.later ho hO, h4.later ho hO, h5⟩
theorem SqS.below {O : Nat → Prop} {w w' : World} {v : Value} {r : Aq} (h : SqS O w v r) (hb : Below w.heap.size w w') : SqS O w' v r := h.later (Off.of_below hb) (fun i hi => .inl hi)
/-- A pattern, as the specification holds it. -/
def Tr1 (O : Nat → Prop) (w : World) (v : Value) (x : Pt) (k : F) : Prop := ∃ s, v = .agg #[.int .i64 (tcon x), s] ∧ KidT w (fun g => ¬ O g) k s
/-- Rules as the cells of a row. -/
def SqC (O : Nat → Prop) (w : World) (xs : List Value) (l : List Aq) : Prop :=
  xs.length = l.length * 3 ∧ ∀ i (h : i < l.length), ∃ pv tv, xs[i * 3]? = some (.int .i64 l[i].rule) ∧ xs[i * 3 + 1]? = some pv ∧ xs[i * 3 + 2]? = some tv ∧ SqS O w (.agg #[.int .i64 l[i].rule, pv, tv]) l[i]
theorem SqC.nil (O : Nat → Prop) (w : World) : SqC O w [] [] := ⟨rfl, fun i h => by simp at h⟩
theorem SqC.later {O O' : Nat → Prop} {w w' : World} {xs : List Value} {l : List Aq} (h : SqC O w xs l) (ho : Off O w w') (hO : ∀ i, O' i → O i ∨ w.heap.size ≤ i) : SqC O' w' xs l :=
  ⟨h.1, fun i hi => by
    obtain ⟨pv, tv, h1, h2, h3, h4⟩ := h.2 i hi
    exact ⟨pv, tv, h1, h2, h3, h4.later ho hO⟩⟩
theorem SqC.snoc {O : Nat → Prop} {w : World} {xs : List Value} {l : List Aq} {r : Aq} {pv tv : Value} (h : SqC O w xs l) (ha : SqS O w (.agg #[.int .i64 r.rule, pv, tv]) r) : SqC O w (xs ++ [.int .i64 r.rule, pv, tv]) (l ++ [r]) := by
  have hl := h.1
  refine ⟨by simp [hl]; omega, fun i hi => ?_⟩
  by_cases hi1 : i < l.length
  · obtain ⟨p, t, h1, h2, h3, h4⟩ := h.2 i hi1
    exact ⟨p, t, by rw [List.getElem?_append_left (by omega), List.getElem_append_left hi1]; exact h1, by rw [List.getElem?_append_left (by omega)]; exact h2, by rw [List.getElem?_append_left (by omega)]; exact h3, by rw [List.getElem_append_left hi1]; exact h4⟩
  · have hi2 : i = l.length := by simp at hi; omega
    subst hi2
    refine ⟨pv, tv, ?_, ?_, ?_, ?_⟩
    · rw [List.getElem?_append_right (by omega), hl, Nat.sub_self, List.getElem_append_right (Nat.le_refl _)]; simp
    · rw [List.getElem?_append_right (by omega), show l.length * 3 + 1 - xs.length = 1 by omega]; rfl
    · rw [List.getElem?_append_right (by omega), show l.length * 3 + 2 - xs.length = 2 by omega]; rfl
    · rw [List.getElem_append_right (Nat.le_refl _)]; simpa using ha
/-- Rules that are kept. -/
def SqR (O : Nat → Prop) (w : World) (v : Value) (l : List Aq) : Prop := ∃ xs, RowX O w v l.length 3 xs ∧ SqC O w xs l
theorem SqR.later {O O' : Nat → Prop} {w w' : World} {v : Value} {l : List Aq} (h : SqR O w v l) (ho : Off O w w') (hO : ∀ i, O' i → O i ∨ w.heap.size ≤ i) : SqR O' w' v l := by
  obtain ⟨xs, h1, h2⟩ := h
  exact ⟨xs, h1.later ho hO, h2.later ho hO⟩
theorem SqR.below {O : Nat → Prop} {w w' : World} {v : Value} {l : List Aq} (h : SqR O w v l) (hb : Below w.heap.size w w') : SqR O w' v l := h.later (Off.of_below hb) (fun i hi => .inl hi)
theorem SqR.form {O : Nat → Prop} {w : World} {v : Value} {l : List Aq} (h : SqR O w v l) : ∃ ad c, v = .slice ad l.length c ∧ l.length ≤ c := by
  obtain ⟨xs, h1, -⟩ := h
  exact h1.form
/-- What a walk wants of one rule. -/
theorem SqR.at {O : Nat → Prop} {w : World} {ad : Option Addr} {n c : Nat} {l : List Aq} (hn : n = l.length) (h : SqR O w (.slice ad n c) l) {j : Nat} (hj : j < l.length) :
    ∃ b o pv tv, ad = some ⟨b, o, none⟩ ∧ b < w.heap.size ∧ w.cell? ⟨b, o + j * 3, none⟩ = some (.int .i64 l[j].rule) ∧ w.cell? ⟨b, o + j * 3 + 1, none⟩ = some pv ∧ w.cell? ⟨b, o + j * 3 + 2, none⟩ = some tv ∧ SqS O w (.agg #[.int .i64 l[j].rule, pv, tv]) l[j] := by
  subst hn
  obtain ⟨xs, h1, hl, hv⟩ := h
  obtain ⟨pv, tv, e1, e2, e3, e4⟩ := hv j hj
  obtain ⟨b, o, a1, a2, a3⟩ := h1.at e1
  obtain ⟨b', o', a1', -, a3'⟩ := h1.at e2
  obtain ⟨b2, o2, a12, -, a32⟩ := h1.at e3
  rw [a1] at a1' a12
  simp only [Option.some.injEq, Addr.mk.injEq, and_true] at a1' a12
  obtain ⟨rfl, rfl⟩ := a1'
  obtain ⟨rfl, rfl⟩ := a12
  exact ⟨b, o, pv, tv, a1, a2, a3, by rwa [← Nat.add_assoc] at a3', by rwa [← Nat.add_assoc] at a32, e4⟩
end Go.Proofs.Ytmlpnmdckgppnaa.W
