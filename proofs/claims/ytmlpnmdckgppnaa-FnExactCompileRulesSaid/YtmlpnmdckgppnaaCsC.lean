/-
  Appends of slices that are kept: nothing, or cells that lie somewhere; what the specification's askings hand to them. No program here but the types.
-/
import Derived.Test.YtmlpnmdckgppnaaCsB
namespace Go.Proofs.Ytmlpnmdckgppnaa.W
open Go.ChangeShapes Go.WideShapes Go.ChangeAt Go.RowKit
set_option linter.unusedVariables false

/-- What an append is handed: nothing, or cells that lie somewhere. -/
def ScX (w : World) (u : Value) (m z : Nat) (vs : List Value) : Prop :=
  vs.length = m * z ∧ (∀ x ∈ vs, x.oneCell' = true) ∧ ((u = .slice none 0 0 ∧ m = 0) ∨ ∃ ad c, u = .slice (some ad) m c ∧ ∀ j x, vs[j]? = some x → w.cell? (ad.add j) = some x)
theorem wpList_append_scx {P : Program} {w : World} {ops : Array Oper} {rest : List Oper} {o : Oper} {a : Act} {Q : Exit → Act → World → Prop} (hgd : o.guard = none) (s x : Operand) (t : TypeId)
    (ho : o.op = .call { callee := .builtin .append, args := #[s, x], argTypes := #[t, t] })
    (base : Nat) (e : TypeId) (i : TypeInfo) (z : Value) (size bytes : Nat) (ht : P.underlying t = some (.slice e)) (hi : P.info? e = some i) (hz : i.zero = some z)
    (hsize : i.size = size) (hby : i.bytes = bytes) (hzs : z.cells.size = size) (hsz : 0 < size)
    (v : Value) (n : Nat) (xs : List Value) (hs : a.eval s = v) (hown : w.ownsRow base e size v n xs) (u : Value) (m : Nat) (vs : List Value) (hx : a.eval x = u) (hu : ScX w u m size vs)
    (h63 : n + m ≤ maxLen) (hbytes : (n + m) * bytes ≤ 140737488355328) (hbase : base ≤ w.heap.size)
    (h : ∀ v' w', w'.ownsRow base e size v' (n + m) (xs ++ vs) → w.grownBy w' v.ownBlock → Apart w v v' → wpList P ops Q rest (a.put o.dst v') w') : wpList P ops Q (o :: rest) a w := by
  refine wpList_plain hgd fun K hK => ?_
  obtain ⟨hl, h1, ⟨rfl, rfl⟩ | ⟨ad, c, rfl, hnews⟩⟩ := hu
  · have h0 : vs = [] := List.length_eq_zero_iff.1 (by rw [hl]; simp)
    subst h0
    have hr := run_append_owned_none (P := P) (w := w) base t o.type e i size ht hi v n xs hown
    unfold Oper.wp execOp
    simp only [ho, resolve, invoke, builtin, Sem.run_bind, Sem.run_pure, Result.andThen_ok, List.map_toArray, List.map_cons, List.map_nil, hs, hx, hr]
    exact hK _ _ (h v w (by simpa using hown) (World.grownBy.refl _ _) (fun g hg => .inl hg))
  · obtain ⟨v', w', hr, g2, g3, g4⟩ := run_append_sep (P := P) w base t o.type e i z size bytes ht hi hz hsize hby hzs hsz v n xs hown ad m c vs hl hnews h1 h63 hbytes hbase
    unfold Oper.wp execOp
    simp only [ho, resolve, invoke, builtin, Sem.run_bind, Sem.run_pure, Result.andThen_ok, List.map_toArray, List.map_cons, List.map_nil, hs, hx, hr]
    exact hK _ _ (h v' w' g2 g3 g4)
theorem RowX.scx {O : Nat → Prop} {w : World} {v : Value} {n z : Nat} {xs : List Value} (h : RowX O w v n z xs) (hc : CapOk v) (h1 : ∀ x ∈ xs, x.oneCell' = true) : ScX w v n z xs := by
  obtain ⟨ad, c, rfl, h2, h3, h4⟩ := h
  obtain ⟨ad', n', c', e, -, h6⟩ := hc
  simp only [Value.slice.injEq] at e
  obtain ⟨rfl, rfl, rfl⟩ := e
  refine ⟨h3, h1, ?_⟩
  cases ad with
  | none =>
    obtain ⟨e1, e2⟩ := h6 rfl
    subst e1; subst e2
    exact .inl ⟨rfl, rfl⟩
  | some a =>
    refine .inr ⟨a, c, rfl, fun j x hx => ?_⟩
    rcases h4 with h4 | ⟨b, o, e, -, -, h5⟩
    · subst h4
      have := (List.getElem?_eq_some_iff.1 hx).1
      omega
    · simp only [Option.some.injEq] at e
      subst e
      rw [Addr.add_lit]; exact h5 j x hx
theorem PaC.one {O : Nat → Prop} {w : World} {xs : List Value} {q : List Ak} (h : PaC O w xs q) : ∀ x ∈ xs, x.oneCell' = true := by
  intro x hx
  obtain ⟨j, hj, rfl⟩ := List.getElem_of_mem hx
  obtain ⟨pv, h1, h2⟩ := h.2 j (by rw [← h.1]; exact hj)
  rw [List.getElem?_eq_getElem hj] at h1
  simp only [Option.some.injEq] at h1
  obtain ⟨⟨ad, c, e, -⟩, -⟩ := h2.here
  rw [h1, e]; rfl
theorem KidT.slice {w : World} {P : Nat → Prop} {a : F} {s : Value} (h : KidT w P a s) : ∃ ad n c, s = .slice ad n c := by
  obtain ⟨ck, -, ⟨-, e⟩ | ⟨-, g, cap, e, -⟩⟩ := h
  · exact ⟨_, _, _, e⟩
  · exact ⟨_, _, _, e⟩
theorem TrC.one {O : Nat → Prop} {w : World} {xs : List Value} {q : List Ak} (h : TrC O w xs q) : ∀ x ∈ xs, x.oneCell' = true := by
  intro x hx
  obtain ⟨j, hj, rfl⟩ := List.getElem_of_mem hx
  have hl := h.1
  obtain ⟨s, h1, h2, h3⟩ := h.2 (j / 2) (by omega)
  by_cases e : j % 2 = 0
  · rw [show j / 2 * 2 = j by omega, List.getElem?_eq_getElem hj] at h1
    simp only [Option.some.injEq] at h1
    rw [h1]; rfl
  · rw [show j / 2 * 2 + 1 = j by omega, List.getElem?_eq_getElem hj] at h2
    simp only [Option.some.injEq] at h2
    obtain ⟨ad, n, c, e3⟩ := h3.slice
    rw [h2, e3]; rfl
theorem own_cap {w : World} {base n z : Nat} {T : TypeId} {v : Value} {xs : List Value} (h : w.ownsRow base T z v n xs) : CapOk v := by
  rcases h.2 with ⟨e, e2⟩ | ⟨g, cap, cur, e, -, -, h2, -⟩
  · exact ⟨none, 0, 0, e, Nat.le_refl _, fun _ => ⟨rfl, rfl⟩⟩
  · exact ⟨_, n, cap, e, h2, fun h => by cases h⟩
end Go.Proofs.Ytmlpnmdckgppnaa.W
