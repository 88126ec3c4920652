/-
  Rows that are kept while others are written into: asks, askings, and rows of askings. No program here.
-/
import Derived.Test.YtmlpnmdckgppnaaCrG
import Derived.Test.YtmlpnmdckgppnaaCrB
namespace Go.Proofs.Ytmlpnmdckgppnaa.W
open Go.ChangeShapes Go.WideShapes Go.ChangeAt Go.RowKit
set_option linter.unusedVariables false

/-- v is a row of n things of z cells each, outside of these blocks. -/
def RowX (O : Nat → Prop) (w : World) (v : Value) (n z : Nat) (xs : List Value) : Prop :=
  ∃ ad c, v = .slice ad n c ∧ n ≤ c ∧ xs.length = n * z ∧ (n = 0 ∨ ∃ b o, ad = some ⟨b, o, none⟩ ∧ b < w.heap.size ∧ ¬ O b ∧ ∀ j x, xs[j]? = some x → w.cell? ⟨b, o + j, none⟩ = some x)
theorem RowX.later {O O' : Nat → Prop} {w w' : World} {v : Value} {n z : Nat} {xs : List Value} (h : RowX O w v n z xs) (ho : Off O w w') (hO : ∀ i, O' i → O i ∨ w.heap.size ≤ i) : RowX O' w' v n z xs := by
  obtain ⟨ad, c, h1, h2, h3, h4⟩ := h
  refine ⟨ad, c, h1, h2, h3, ?_⟩
  rcases h4 with h4 | ⟨b, o, h5, h6, h7, h8⟩
  · exact .inl h4
  · refine .inr ⟨b, o, h5, Nat.lt_of_lt_of_le h6 ho.size, fun hc => ?_, fun j x hx => ?_⟩
    · rcases hO b hc with e | e
      · exact h7 e
      · omega
    · exact (World.cell?_of_block (a := ⟨b, o + j, none⟩) (ho.block b h6 h7)).trans (h8 j x hx)
theorem RowX.below {O : Nat → Prop} {w w' : World} {v : Value} {n z : Nat} {xs : List Value} (h : RowX O w v n z xs) (hb : Below w.heap.size w w') : RowX O w' v n z xs := h.later (Off.of_below hb) (fun i hi => .inl hi)
theorem RowX.form {O : Nat → Prop} {w : World} {v : Value} {n z : Nat} {xs : List Value} (h : RowX O w v n z xs) : ∃ ad c, v = .slice ad n c ∧ n ≤ c := by
  obtain ⟨ad, c, h1, h2, -⟩ := h
  exact ⟨ad, c, h1, h2⟩
theorem RowX.nil (O : Nat → Prop) (w : World) (z : Nat) : RowX O w (.slice none 0 0) 0 z [] := ⟨none, 0, rfl, Nat.le_refl _, by simp, .inl rfl⟩
theorem RowX.ofOwn {O : Nat → Prop} {w : World} {base : Nat} {T : TypeId} {z : Nat} {v : Value} {n : Nat} {xs : List Value} (h : w.ownsRow base T z v n xs) (hO : ∀ k, v.ownBlock = some k → ¬ O k) : RowX O w v n z xs := by
  rcases h.2 with ⟨h1, h2⟩ | ⟨g, cap, cur, h1, hg, hh, h2, h3, h4, h5⟩
  · subst h2
    exact ⟨none, 0, h1, Nat.le_refl _, h.1, .inl rfl⟩
  · refine ⟨_, cap, h1, h2, h.1, .inr ⟨g, 0, rfl, (Array.getElem?_eq_some_iff.1 hh).1, hO g (by rw [h1]; rfl), fun j x hx => ?_⟩⟩
    rw [cell_of_blk hh, Nat.zero_add]
    rw [← h5] at hx
    have hlt : j < n * z := by
      have := (List.getElem?_eq_some_iff.1 hx).1
      simp only [List.length_take] at this
      omega
    rw [List.getElem?_take_of_lt hlt] at hx
    simpa using hx
/-- What a walk wants of one cell. -/
theorem RowX.at {O : Nat → Prop} {w : World} {ad : Option Addr} {c n z : Nat} {xs : List Value} (h : RowX O w (.slice ad n c) n z xs) {j : Nat} {x : Value} (hx : xs[j]? = some x) : ∃ b o, ad = some ⟨b, o, none⟩ ∧ b < w.heap.size ∧ w.cell? ⟨b, o + j, none⟩ = some x := by
  obtain ⟨ad', c', h1, h2, h3, h4⟩ := h
  simp only [Value.slice.injEq] at h1
  obtain ⟨rfl, -, rfl⟩ := h1
  rcases h4 with h4 | ⟨b, o, h5, h6, h7, h8⟩
  · rw [h4, Nat.zero_mul] at h3
    rw [List.eq_nil_of_length_eq_zero h3] at hx
    simp at hx
  · exact ⟨b, o, h5, h6, h8 j x hx⟩
theorem AVs.one {O : Nat → Prop} {w : World} {xs : List Value} {q : List Ak} (h : AVs O w xs q) : ∀ x ∈ xs, x.oneCell' = true := by
  intro x hx
  obtain ⟨j, hj, rfl⟩ := List.getElem_of_mem hx
  obtain ⟨hl, hv⟩ := h
  obtain ⟨pv, cv, h1, h2, h3⟩ := hv (j / 2) (by omega)
  obtain ⟨⟨pa, pc, e1, -⟩, ⟨ca, cc, e2, -⟩, -⟩ := h3.here
  by_cases e : j % 2 = 0
  · rw [show j / 2 * 2 = j by omega, List.getElem?_eq_getElem hj] at h1
    simp only [Option.some.injEq] at h1
    rw [h1, e1]; rfl
  · rw [show j / 2 * 2 + 1 = j by omega, List.getElem?_eq_getElem hj] at h2
    simp only [Option.some.injEq] at h2
    rw [h2, e2]; rfl
/-- Asks that are kept. -/
def AkS (O : Nat → Prop) (w : World) (v : Value) (q : List Ak) : Prop := ∃ xs, RowX O w v q.length 2 xs ∧ AVs O w xs q
theorem AkS.later {O O' : Nat → Prop} {w w' : World} {v : Value} {q : List Ak} (h : AkS O w v q) (ho : Off O w w') (hO : ∀ i, O' i → O i ∨ w.heap.size ≤ i) : AkS O' w' v q := by
  obtain ⟨xs, h1, h2⟩ := h
  exact ⟨xs, h1.later ho hO, h2.later ho hO⟩
theorem AkS.below {O : Nat → Prop} {w w' : World} {v : Value} {q : List Ak} (h : AkS O w v q) (hb : Below w.heap.size w w') : AkS O w' v q := h.later (Off.of_below hb) (fun i hi => .inl hi)
theorem AkS.akv {O : Nat → Prop} {w : World} {v : Value} {q : List Ak} (h : AkS O w v q) : AkV w v q := by
  obtain ⟨xs, ⟨ad, c, h1, h2, h3, h4⟩, hl, hv⟩ := h
  refine ⟨ad, c, h1, h2, ?_⟩
  rcases h4 with h4 | ⟨b, o, h5, h6, h7, h8⟩
  · exact .inl (List.eq_nil_of_length_eq_zero h4)
  · refine .inr ⟨b, o, h5, h6, fun i hi => ?_⟩
    obtain ⟨pv, cv, e1, e2, e3⟩ := hv i hi
    exact ⟨pv, cv, h8 _ _ e1, by have := h8 _ _ e2; rwa [← Nat.add_assoc] at this, e3.here⟩
theorem AkS.form {O : Nat → Prop} {w : World} {v : Value} {q : List Ak} (h : AkS O w v q) : ∃ ad c, v = .slice ad q.length c ∧ q.length ≤ c := by
  obtain ⟨xs, h1, -⟩ := h
  exact h1.form
/-- Askings as the cells of a row. -/
def QVs (O : Nat → Prop) (w : World) (xs : List Value) (l : List Aq) : Prop :=
  xs.length = l.length * 2 ∧ ∀ i (h : i < l.length), ∃ av, xs[i * 2]? = some (.int .i64 l[i].rule) ∧ xs[i * 2 + 1]? = some av ∧ AkS O w av l[i].q
theorem QVs.nil (O : Nat → Prop) (w : World) : QVs O w [] [] := ⟨rfl, fun i h => by simp at h⟩
theorem QVs.later {O O' : Nat → Prop} {w w' : World} {xs : List Value} {l : List Aq} (h : QVs O w xs l) (ho : Off O w w') (hO : ∀ i, O' i → O i ∨ w.heap.size ≤ i) : QVs O' w' xs l :=
  ⟨h.1, fun i hi => by
    obtain ⟨av, h1, h2, h3⟩ := h.2 i hi
    exact ⟨av, h1, h2, h3.later ho hO⟩⟩
theorem QVs.below {O : Nat → Prop} {w w' : World} {xs : List Value} {l : List Aq} (h : QVs O w xs l) (hb : Below w.heap.size w w') : QVs O w' xs l := h.later (Off.of_below hb) (fun i hi => .inl hi)
theorem QVs.snoc {O : Nat → Prop} {w : World} {xs : List Value} {l : List Aq} {a : Aq} {av : Value} (h : QVs O w xs l) (ha : AkS O w av a.q) : QVs O w (xs ++ [.int .i64 a.rule, av]) (l ++ [a]) := by
  refine ⟨by simp [h.1]; omega, fun i hi => ?_⟩
  have hl := h.1
  by_cases hi1 : i < l.length
  · obtain ⟨v, h1, h2, h3⟩ := h.2 i hi1
    refine ⟨v, ?_, by rw [List.getElem?_append_left (by omega)]; exact h2, ?_⟩
    · rw [List.getElem?_append_left (by omega), List.getElem_append_left hi1]; exact h1
    · rw [List.getElem_append_left hi1]; exact h3
  · have hi2 : i = l.length := by simp at hi; omega
    subst hi2
    refine ⟨av, ?_, ?_, ?_⟩
    · rw [List.getElem?_append_right (by omega), hl, Nat.sub_self, List.getElem_append_right (Nat.le_refl _)]; simp
    · rw [List.getElem?_append_right (by omega), show l.length * 2 + 1 - xs.length = 1 by omega]; rfl
    · rw [List.getElem_append_right (Nat.le_refl _)]; simpa using ha
/-- Askings that are kept. -/
def AqS (O : Nat → Prop) (w : World) (v : Value) (l : List Aq) : Prop := ∃ xs, RowX O w v l.length 2 xs ∧ QVs O w xs l
theorem AqS.later {O O' : Nat → Prop} {w w' : World} {v : Value} {l : List Aq} (h : AqS O w v l) (ho : Off O w w') (hO : ∀ i, O' i → O i ∨ w.heap.size ≤ i) : AqS O' w' v l := by
  obtain ⟨xs, h1, h2⟩ := h
  exact ⟨xs, h1.later ho hO, h2.later ho hO⟩
theorem AqS.below {O : Nat → Prop} {w w' : World} {v : Value} {l : List Aq} (h : AqS O w v l) (hb : Below w.heap.size w w') : AqS O w' v l := h.later (Off.of_below hb) (fun i hi => .inl hi)
theorem AqS.form {O : Nat → Prop} {w : World} {v : Value} {l : List Aq} (h : AqS O w v l) : ∃ ad c, v = .slice ad l.length c ∧ l.length ≤ c := by
  obtain ⟨xs, h1, -⟩ := h
  exact h1.form
/-- What a walk wants of one asking. -/
theorem AqS.at {O : Nat → Prop} {w : World} {ad : Option Addr} {c : Nat} {l : List Aq} (h : AqS O w (.slice ad l.length c) l) {j : Nat} (hj : j < l.length) :
    ∃ b o av, ad = some ⟨b, o, none⟩ ∧ b < w.heap.size ∧ w.cell? ⟨b, o + j * 2, none⟩ = some (.int .i64 l[j].rule) ∧ w.cell? ⟨b, o + j * 2 + 1, none⟩ = some av ∧ AkS O w av l[j].q := by
  obtain ⟨xs, h1, hl, hv⟩ := h
  obtain ⟨av, e1, e2, e3⟩ := hv j hj
  obtain ⟨b, o, a1, a2, a3⟩ := h1.at e1
  obtain ⟨b', o', a1', a2', a3'⟩ := h1.at e2
  rw [a1] at a1'
  simp only [Option.some.injEq, Addr.mk.injEq, and_true] at a1'
  obtain ⟨rfl, rfl⟩ := a1'
  exact ⟨b, o, av, a1, a2, a3, by rwa [← Nat.add_assoc] at a3', e3⟩
/-- Rows of askings that are kept. -/
def SdS (O : Nat → Prop) (w : World) (v : Value) (Ls : List (List Aq)) : Prop :=
  ∃ xs, RowX O w v Ls.length 1 xs ∧ ∀ i (h : i < Ls.length), ∃ x, xs[i]? = some x ∧ AqS O w x Ls[i]
theorem SdS.later {O O' : Nat → Prop} {w w' : World} {v : Value} {Ls : List (List Aq)} (h : SdS O w v Ls) (ho : Off O w w') (hO : ∀ i, O' i → O i ∨ w.heap.size ≤ i) : SdS O' w' v Ls := by
  obtain ⟨xs, h1, h2⟩ := h
  refine ⟨xs, h1.later ho hO, fun i hi => ?_⟩
  obtain ⟨x, e1, e2⟩ := h2 i hi
  exact ⟨x, e1, e2.later ho hO⟩
theorem SdS.form {O : Nat → Prop} {w : World} {v : Value} {Ls : List (List Aq)} (h : SdS O w v Ls) : ∃ ad c, v = .slice ad Ls.length c ∧ Ls.length ≤ c := by
  obtain ⟨xs, h1, -⟩ := h
  exact h1.form
/-- The answer told by the number of the first ask of the path. -/
theorem ansF_fi {p : List Int} {c : Int} : ∀ (q pre : List Ak) (j : Nat), pre.length = j →
    (fiA p q j = -1 ∧ ansF p c pre q = some (pre ++ q)) ∨ ∃ i, ∃ h : i < q.length, fiA p q j = ((j + i : Nat) : Int) ∧ q[i].p = p ∧ ansF p c pre q = if q[i].x.con = c then some (kidA q[i].p 0 q[i].k ++ (pre ++ q.take i) ++ q.drop (i + 1)) else none
  | [], pre, j, _ => .inl ⟨rfl, by simp [ansF]⟩
  | a :: q, pre, j, hj => by
    unfold fiA ansF
    by_cases e : a.p = p
    · rw [if_pos e, if_pos e]
      exact .inr ⟨0, by simp, rfl, e, by simp⟩
    · rw [if_neg e, if_neg e]
      rcases ansF_fi q (pre ++ [a]) (j + 1) (by simp [hj]) with ⟨h1, h2⟩ | ⟨i, hi, h1, h2, h3⟩
      · exact .inl ⟨h1, by rw [h2]; simp⟩
      · refine .inr ⟨i + 1, by simpa using hi, by rw [h1]; congr 1; omega, by simpa using h2, ?_⟩
        rw [h3]
        simp
theorem fiA_ge {p : List Int} : ∀ (q : List Ak) (j : Nat), fiA p q j = -1 ∨ ∃ i, i < q.length ∧ fiA p q j = ((j + i : Nat) : Int)
  | [], j => .inl rfl
  | a :: q, j => by
    unfold fiA
    by_cases e : a.p = p
    · rw [if_pos e]; exact .inr ⟨0, by simp, rfl⟩
    · rw [if_neg e]
      rcases fiA_ge q (j + 1) with h | ⟨i, hi, h⟩
      · exact .inl h
      · exact .inr ⟨i + 1, by simpa using hi, by rw [h]; congr 1; omega⟩
/-- Some of the asks of a row. -/
theorem AVs.cut {O : Nat → Prop} {w : World} {xs : List Value} {q : List Ak} (h : AVs O w xs q) (i n : Nat) (hin : i + n ≤ q.length) : AVs O w ((xs.drop (i * 2)).take (n * 2)) ((q.drop i).take n) := by
  have hl := h.1
  refine ⟨by simp; omega, fun j hj => ?_⟩
  have hj' : j < n := by simp at hj; omega
  obtain ⟨pv, cv, h1, h2, h3⟩ := h.2 (i + j) (by omega)
  refine ⟨pv, cv, ?_, ?_, ?_⟩
  · rw [List.getElem?_take_of_lt (by omega), List.getElem?_drop, show i * 2 + j * 2 = (i + j) * 2 by omega]; exact h1
  · rw [List.getElem?_take_of_lt (by omega), List.getElem?_drop, show i * 2 + (j * 2 + 1) = (i + j) * 2 + 1 by omega]; exact h2
  · rw [List.getElem_take, List.getElem_drop]; exact h3
theorem AVs.app {O : Nat → Prop} {w : World} {xs ys : List Value} {q r : List Ak} (h : AVs O w xs q) (k : AVs O w ys r) : AVs O w (xs ++ ys) (q ++ r) := by
  have h1 := h.1
  have k1 := k.1
  refine ⟨by simp [h1, k1, Nat.add_mul], fun i hi => ?_⟩
  by_cases e : i < q.length
  · obtain ⟨pv, cv, a, b, d⟩ := h.2 i e
    refine ⟨pv, cv, by rw [List.getElem?_append_left (by omega)]; exact a, by rw [List.getElem?_append_left (by omega)]; exact b, ?_⟩
    rw [List.getElem_append_left e]; exact d
  · have hi2 : i - q.length < r.length := by simp at hi; omega
    obtain ⟨pv, cv, a, b, d⟩ := k.2 (i - q.length) hi2
    refine ⟨pv, cv, ?_, ?_, ?_⟩
    · rw [List.getElem?_append_right (by omega), h1, show i * 2 - q.length * 2 = (i - q.length) * 2 by omega]; exact a
    · rw [List.getElem?_append_right (by omega), h1, show i * 2 + 1 - q.length * 2 = (i - q.length) * 2 + 1 by omega]; exact b
    · rw [List.getElem_append_right (by omega)]; exact d
end Go.Proofs.Ytmlpnmdckgppnaa.W
