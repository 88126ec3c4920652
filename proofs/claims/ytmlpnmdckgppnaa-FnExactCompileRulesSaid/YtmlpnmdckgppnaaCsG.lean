/-
  What the specification's nodes are made of: the sides as lists, a node more behind nodes. No program here but the types.
-/
import Derived.Test.YtmlpnmdckgppnaaCsF
import Derived.Test.YtmlpnmdckgppnaaCrO
namespace Go.Proofs.Ytmlpnmdckgppnaa.W
open Go.ChangeShapes Go.WideShapes Go.ChangeAt Go.RowKit
set_option linter.unusedVariables false
set_option linter.unusedSimpArgs false

theorem infoQ : (Try.prog.info? 53).map (fun i => (i.zero, i.size, i.bytes)) = some (some (.agg #[.int .i64 0, .slice none 0 0, .slice none 0 0]), 3, 56) := by kernel_rfl
theorem ansAllS_app (p : List Int) (c : Int) : ∀ (a b : List Aq), ansAllS p c (a ++ b) = ansAllS p c a ++ ansAllS p c b
  | [], b => rfl
  | r :: a, b => by
    have ih := ansAllS_app p c a b
    simp only [List.cons_append, ansAllS]
    split <;> simp [ih]
theorem ansAllS_take {p : List Int} {c : Int} {l : List Aq} {j : Nat} (h : j < l.length) : ansAllS p c (l.take (j + 1)) = ansAllS p c (l.take j) ++ match ansS p c l[j].q with
    | some q => [⟨l[j].rule, q⟩]
    | none => [] := by
  rw [List.take_add_one, List.getElem?_eq_getElem h, Option.toList_some, ansAllS_app]
  congr 1
theorem ansAllS_few (p : List Int) (c : Int) : ∀ l : List Aq, (ansAllS p c l).length ≤ l.length
  | [] => by simp [ansAllS]
  | a :: l => by
    have := ansAllS_few p c l
    unfold ansAllS
    split <;> simp <;> omega
theorem sdOk_side {D : List Int} {n : Nat} {r : Aq} {l : List Aq} {a : Ak} {q : List Ak} (h : SdOk D (n + 1) (r :: l)) (hq : r.q = a :: q) (c : Nat) : SdOk D n (ansAllS a.p (c : Int) (r :: l)) := by
  rw [← ansAll_same h.lok]
  have h1 := ansAll_lt (c := (c : Int)) (l := l) hq
  have h2 := ansAll_few a.p (c : Int) (r :: l)
  have h3 := h.sz
  have h4 := h.few
  have h5 := h.len
  exact ⟨by omega, by omega, by omega, ansAll_ok h.lok, ansAll_okD h.ok⟩
theorem cmpS_some {D : List Int} {m n : Nat} {l : List Aq} {ns r : List Nd} (hs : SdOk D n l) (hn : ns.length ≤ 200) (h : cmpS m n l ns = some r) : ns.length < r.length ∧ r.length ≤ 200 ∧ tot r + ns.length + 1 ≤ tot ns + r.length := by
  obtain ⟨h1, h2, h3⟩ := cmp_same m n l ns hs.lok hs.sz hn
  have h4 := cmpP_tot D m n l ns hs
  rw [h] at h3
  split at h3
  · cases h3
  · simp only [Option.some.injEq] at h3
    subst h3
    exact ⟨h1, by omega, h4⟩
theorem cmpS_full {m n : Nat} {l : List Aq} {ns : List Nd} (h : ns.length = 200) : cmpS m (n + 1) l ns = none := by unfold cmpS; rw [if_pos h]
theorem cmpS_nil {m n : Nat} {ns : List Nd} (h : ¬ ns.length = 200) : cmpS m (n + 1) [] ns = some (ns ++ [⟨-1, [], []⟩]) := by unfold cmpS; rw [if_neg h]
theorem cmpS_done {m n : Nat} {rl : Int} {l : List Aq} {ns : List Nd} (h : ¬ ns.length = 200) : cmpS m (n + 1) (⟨rl, []⟩ :: l) ns = some (ns ++ [⟨rl, [], []⟩]) := by unfold cmpS; rw [if_neg h]
theorem cmpS_more {m n : Nat} {rl : Int} {a : Ak} {q : List Ak} {l : List Aq} {ns : List Nd} (h : ¬ ns.length = 200) : cmpS m (n + 1) (⟨rl, a :: q⟩ :: l) ns = sdS (cmpS m n) ns.length a.p (⟨rl, a :: q⟩ :: l) m 0 (ns ++ [⟨-2, a.p, []⟩]) := by unfold cmpS; rw [if_neg h]
theorem sdS_end {g : List Aq → List Nd → Option (List Nd)} {i : Nat} {p : List Int} {l : List Aq} {c : Nat} {ns : List Nd} : sdS g i p l 0 c ns = some ns := rfl
theorem sdS_none {g : List Aq → List Nd → Option (List Nd)} {i : Nat} {p : List Int} {l : List Aq} {m c : Nat} {ns : List Nd} (h : g (ansAllS p (c : Int) l) (setN i ns) = none) : sdS g i p l (m + 1) c ns = none := by unfold sdS; rw [h]
theorem sdS_some {g : List Aq → List Nd → Option (List Nd)} {i : Nat} {p : List Int} {l : List Aq} {m c : Nat} {ns r : List Nd} (h : g (ansAllS p (c : Int) l) (setN i ns) = some r) : sdS g i p l (m + 1) c ns = sdS g i p l m (c + 1) r := by rw [sdS, h]
/-- What stands at each round of l8Compile. -/
structure SpI (base : Nat) (O : Nat → Prop) (w : World) (B3 : Nat) (dv : Value) (at0 : Nat) (gs : List Aq → List Nd → Option (List Nd)) (R : Option (List Nd)) (p : List Int) (L : List Aq) (nD j : Nat) (O1 : Nat → Prop) (v1 : Value) (xs1 : List Value) (ns1 : List Nd) (w' : World) : Prop where
  nv : NVx base O1 w' v1 xs1 ns1
  eq : sdS gs at0 p L (nD - j) j ns1 = R
  off : Off O w w'
  oo : ∀ i, O1 i → O i ∨ w.heap.size ≤ i
  nb : ¬ O1 B3
  bx : Bx w' B3 #[dv] 31
  lt : at0 < ns1.length
  le : ns1.length ≤ 200
  tt : tot ns1 + 1 ≤ ns1.length
/-- What l8Compile tells. -/
def LcP (base : Nat) (O : Nat → Prop) (w : World) (v : Value) (b : Bool) (xs : List Value) : Option (List Nd) → Prop
  | some r => b = true ∧ NVx base O w v xs r
  | none => b = false ∧ v = .slice none 0 0
theorem iv_nil (w : World) : IV w (.slice none 0 0) [] := ⟨none, 0, rfl, .inl rfl, by simp⟩
theorem owi_nil (base : Nat) (w : World) : OwI base (.slice none 0 0) [] w := World.ownsRow_nil _ _ _ _
theorem nC_rc : ∀ p : List Int, nC p = rcells 1 iC p
  | [] => rfl
  | x :: p => by
    have h := nC_rc p
    simp only [nC, List.map_cons, rcells] at h ⊢
    rw [← h]; rfl
theorem cap_nil : CapOk (.slice none 0 0) := ⟨none, 0, 0, rfl, Nat.le_refl _, fun _ => ⟨rfl, rfl⟩⟩
/-- An append of one node of one's own make. -/
theorem wpList_append_node {ops : Array Oper} {rest : List Oper} {o : Oper} {a : Act} {w : World} {Q : Exit → Act → World → Prop} (hgd : o.guard = none) (s x : Operand)
    (ho : o.op = .call { callee := .builtin .append, args := #[s, x], argTypes := #[28, 28] }) {base : Nat} {O : Nat → Prop} {v : Value} {xs : List Value} {ns : List Nd} {rl : Int} {ph : List Int} {pv : Value} (n : Nat) (hn : n = ns.length)
    (hs : a.eval s = v) (hN : NVx base O w v xs ns) (hb : base ≤ w.heap.size) (hx : a.eval x = .slice (some ⟨w.heap.size, 0, none⟩) 1 1) (hp : St O w (OwI base pv ph)) (hpO : ∀ g, pv.ownBlock = some g → ¬ O g) (hpn : ∀ i b g, i < ns.length → xs[i * 3 + 1]? = some b → b.ownBlock = some g → pv.ownBlock = some g → False) (hns : n ≤ 200)
    (h : ∀ ad c xs' O' w', NVx base O' w' (.slice ad (n + 1) c) xs' (ns ++ [⟨rl, ph, []⟩]) → Off O w w' → (∀ i, O' i → O i ∨ w.heap.size ≤ i) → wpList Try.prog ops Q rest (a.put o.dst (.slice ad (n + 1) c)) w') :
    wpList Try.prog ops Q (o :: rest) a (w.alloc (.cells #[.int .i64 rl, pv, .slice none 0 0] 65)) := by
  obtain ⟨i0, hi0, hz0, hz1, hz2⟩ := infoPartsT infoNd
  obtain ⟨pa, pc, rfl⟩ := own_form hp.here
  have hb35 : Below w.heap.size w (w.alloc (.cells #[.int .i64 rl, .slice pa ph.length pc, .slice none 0 0] 65)) := (Below.refl _ _).alloc (Nat.le_refl _) _
  refine wpList_append_sep hgd s x 28 ho base 65 i0 (.agg #[.int .i64 0, .slice none 0 0, .slice none 0 0]) 3 56 Try.underlying28 hi0 hz0 hz1 hz2 rfl (by decide) v ns.length xs hs (hN.own.alloc _) ⟨w.heap.size, 0, none⟩ 1 1 [.int .i64 rl, .slice pa ph.length pc, .slice none 0 0] hx rfl (threeC_cells (heap_alloc_new w _)) (fun u hu => by simp only [List.mem_cons, List.not_mem_nil, or_false] at hu; rcases hu with rfl | rfl | rfl <;> rfl) (by unfold maxLen; omega) (by omega) (by simp; omega) ?_
  intro v4 w4 hown4 hgrow hap
  obtain ⟨W5, hW5⟩ : ∃ W5, W5 = w.alloc (.cells #[.int .i64 rl, .slice pa ph.length pc, .slice none 0 0] 65) := ⟨_, rfl⟩
  rw [← hW5] at hgrow hap hb35
  have hs5 := hb35.size
  have hN5 := hN.below hb35
  have hN6 := hN5.snoc (rl := rl) hown4 hgrow hap (hp.later (Off.of_below hb35) (fun i h => .inl h)) hpO hpn
  have hof24 : Off O w w4 := (Off.of_below hb35).trans (Off.of_grown hgrow (fun k hk => hN5.row k hk)) (fun i hi => .inl hi)
  have hO4 : ∀ i, ObO O v4 i → O i ∨ w.heap.size ≤ i := fun i hi => by
    rcases hi with hi | hi
    · exact .inl hi
    · rcases hap i hi with hi | hi
      · exact .inl (hN5.row i hi)
      · exact .inr (by omega)
  obtain ⟨a4, c4, e4⟩ := own_form hown4
  subst e4
  subst hn
  exact h a4 c4 _ _ w4 hN6 hof24 hO4
end Go.Proofs.Ytmlpnmdckgppnaa.W
