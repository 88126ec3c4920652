/-
  New rows of numbers, and appends to them, in drawn regions. No condition but those that each theorem states.
-/
import Derived.Test.YtmlpnmdckgppnaaCsE
namespace Go.Proofs.Ytmlpnmdckgppnaa.W
open Go.ChangeShapes Go.WideShapes Go.ChangeAt Go.RowKit
set_option linter.unusedVariables false

theorem infoI : (Try.prog.info? 3).map (fun i => (i.zero, i.size, i.bytes)) = some (some (.int .i64 0), 1, 8) := by kernel_rfl
theorem wp_slice0I {w : World} {o : Oper} {a : Act} {K : Act → World → Prop} {Q : Exit → Act → World → Prop} (ho : o.op = .buildSlice 22 0 #[])
    (h : ∀ B w', w.heap.size ≤ B → Bx w' B #[] 3 → Below w.heap.size w w' → K (a.put o.dst (.slice (some ⟨B, 0, none⟩) 0 0)) w') : o.wp Try.prog a w K Q := by
  unfold Oper.wp execOp
  simp only [ho]
  go_simp
  exact h _ _ (Nat.le_refl _) (Bx.new _ _ _) ((Below.refl _ _).alloc (Nat.le_refl _) _)
theorem wp_slice1I {w : World} {o : Oper} {a : Act} {K : Act → World → Prop} {Q : Exit → Act → World → Prop} (x : Operand) (ho : o.op = .buildSlice 22 1 #[(0, x)]) (n : Int) (hx : a.eval x = .int .i64 n)
    (h : ∀ B w', w.heap.size ≤ B → Bx w' B #[.int .i64 n] 3 → Below w.heap.size w w' → K (a.put o.dst (.slice (some ⟨B, 0, none⟩) 1 1)) w') : o.wp Try.prog a w K Q := by
  unfold Oper.wp execOp
  simp only [ho, List.map_toArray, List.map_cons, List.map_nil, hx]
  go_simp
  exact h _ _ (Nat.le_refl _) (Bx.new _ _ _) ((Below.refl _ _).alloc (Nat.le_refl _) _)
/-- An append to a row of numbers of one's own. -/
theorem wp_appI {w : World} {o : Oper} {a : Act} {K : Act → World → Prop} {Q : Exit → Act → World → Prop} (s x : Operand) (ho : o.op = .call { callee := .builtin .append, args := #[s, x], argTypes := #[22, 22] })
    (base : Nat) (v : Value) (n : Nat) (xs : List Value) (hs : a.eval s = v) (hown : w.ownsRow base 3 1 v n xs) (u : Value) (m : Nat) (vs : List Value) (hx : a.eval x = u) (hu : ScX w u m 1 vs) (hnm : n + m ≤ 1048576) (hbase : base ≤ w.heap.size)
    (h : ∀ v' w', w'.ownsRow base 3 1 v' (n + m) (xs ++ vs) → w.grownBy w' v.ownBlock → Apart w v v' → K (a.put o.dst v') w') : o.wp Try.prog a w K Q := by
  obtain ⟨i, hi, hz, hs1, hs2⟩ := infoPartsT infoI
  obtain ⟨hl, h1, ⟨rfl, rfl⟩ | ⟨ad, c, rfl, hnews⟩⟩ := hu
  · have h0 : vs = [] := List.length_eq_zero_iff.1 (by rw [hl])
    subst h0
    have hr := run_append_owned_none (P := Try.prog) (w := w) base 22 o.type 3 i 1 Try.underlying22 hi v n xs hown
    unfold Oper.wp execOp
    simp only [ho, resolve, invoke, builtin, Sem.run_bind, Sem.run_pure, Result.andThen_ok, List.map_toArray, List.map_cons, List.map_nil, hs, hx, hr]
    exact h v w (by simpa using hown) (World.grownBy.refl _ _) (fun g hg => .inl hg)
  · obtain ⟨v', w', hr, g2, g3, g4⟩ := run_append_sep (P := Try.prog) w base 22 o.type 3 i (.int .i64 0) 1 8 Try.underlying22 hi hz hs1 hs2 rfl (by decide) v n xs hown ad m c vs hl hnews h1 (by unfold maxLen; omega) (by omega) hbase
    unfold Oper.wp execOp
    simp only [ho, resolve, invoke, builtin, Sem.run_bind, Sem.run_pure, Result.andThen_ok, List.map_toArray, List.map_cons, List.map_nil, hs, hx, hr]
    exact h v' w' g2 g3 g4
/-- Numbers as cells. -/
def nC (p : List Int) : List Value := p.map fun x => .int .i64 x
theorem nC_len (p : List Int) : (nC p).length = p.length := by simp [nC]
theorem nC_app (p q : List Int) : nC p ++ nC q = nC (p ++ q) := by simp [nC]
theorem nC_one (p : List Int) : ∀ x ∈ nC p, x.oneCell' = true := by
  intro x hx
  obtain ⟨y, -, rfl⟩ := List.mem_map.1 hx
  rfl
theorem iv_scx {w : World} {va : Option Addr} {np vc : Nat} {p : List Int} (h : IV w (.slice va np vc) p) (hc : CapOk (.slice va np vc)) : ScX w (.slice va np vc) np 1 (nC p) := by
  obtain ⟨ad, c, e, hr, -⟩ := h
  simp only [Value.slice.injEq] at e
  obtain ⟨rfl, rfl, rfl⟩ := e
  refine ⟨by rw [nC_len, Nat.mul_one], nC_one p, ?_⟩
  cases va with
  | none =>
    obtain ⟨ad, n, c, e, -, h6⟩ := hc
    simp only [Value.slice.injEq] at e
    obtain ⟨rfl, rfl, rfl⟩ := e
    obtain ⟨e1, e2⟩ := h6 rfl
    exact .inl ⟨by rw [e1, e2], e1⟩
  | some a =>
    refine .inr ⟨a, vc, rfl, fun j x hx => ?_⟩
    have hj : j < p.length := by have := (List.getElem?_eq_some_iff.1 hx).1; rwa [nC_len] at this
    obtain ⟨b, o, e2, -, hcell⟩ := IRow.iat hr (Below.refl _ _) hj
    simp only [Option.some.injEq] at e2
    subst e2
    rw [Addr.add_lit, hcell]
    simpa [nC, hj] using hx
theorem rowX_iv {O : Nat → Prop} {w : World} {v : Value} {n : Nat} {p : List Int} (hn : n = p.length) (h : RowX O w v n 1 (nC p)) (hl : n ≤ 1048576) : IV w v p := by
  subst hn
  obtain ⟨ad, c, rfl, h2, h3, h4⟩ := h
  refine ⟨ad, c, rfl, ?_, hl⟩
  rcases h4 with h4 | ⟨b, o, h5, h6, h7, h8⟩
  · exact .inl (List.eq_nil_of_length_eq_zero h4)
  · refine .inr ⟨b, o, h5, h6, fun i hi r hr => ?_⟩
    obtain rfl : r = 0 := by omega
    rw [Nat.mul_one, Nat.add_zero]
    exact h8 i _ (by simp [nC, hi])
theorem own_st {O : Nat → Prop} {w : World} {base n : Nat} {v : Value} {p : List Int} (h : w.ownsRow base 3 1 v n (nC p)) (hO : ∀ g, O g → g < base) (hn : n = p.length) (hl : n ≤ 1048576) : St O w (fun w' => IV w' v p ∧ CapOk v) := fun w' ho =>
  ⟨rowX_iv hn ((RowX.ofOwn (O := O) h (fun g hg hg2 => by have h1 := own_ge h g hg; have h2 := hO g hg2; omega)).later ho (fun i h => .inl h)) hl, own_cap h⟩
end Go.Proofs.Ytmlpnmdckgppnaa.W
