/-
  Nodes in memory: a row of nodes whose next ones are rows of their own. No program here but the types.
-/
import Derived.Test.YtmlpnmdckgppnaaCrL
import Derived.Laws.OwnMore
namespace Go.Proofs.Ytmlpnmdckgppnaa.W
open Go.ChangeShapes Go.WideShapes Go.ChangeAt Go.RowKit
set_option linter.unusedVariables false
set_option linter.unusedSimpArgs false

/-- Rows of different types do not lie in one block. -/
theorem own_apart {w : World} {b1 b2 n1 n2 z1 z2 : Nat} {T1 T2 : TypeId} {v1 v2 : Value} {xs1 xs2 : List Value} (h1 : w.ownsRow b1 T1 z1 v1 n1 xs1) (h2 : w.ownsRow b2 T2 z2 v2 n2 xs2) (hT : T1 ≠ T2) {g : Nat} (e1 : v1.ownBlock = some g) (e2 : v2.ownBlock = some g) : False := by
  rcases h1.2 with ⟨rfl, _⟩ | ⟨g1, c1, cur1, rfl, _, k1, _⟩
  · simp [Value.ownBlock] at e1
  · rcases h2.2 with ⟨rfl, _⟩ | ⟨g2, c2, cur2, rfl, _, k2, _⟩
    · simp [Value.ownBlock] at e2
    · simp only [Value.ownBlock, Option.some.injEq] at e1 e2
      subst e1; subst e2
      rw [k1] at k2
      simp only [Option.some.injEq, Obj.cells.injEq] at k2
      exact hT k2.2.1
/-- A row of numbers of one's own. -/
def OwI (base : Nat) (v : Value) (p : List Int) (w : World) : Prop := w.ownsRow base 3 1 v p.length (rcells 1 iC p)
theorem own_down {w : World} {base base' n z : Nat} {T : TypeId} {v : Value} {xs : List Value} (h : w.ownsRow base T z v n xs) (hb : base' ≤ base) : w.ownsRow base' T z v n xs := by
  obtain ⟨h1, h2⟩ := h
  rcases h2 with h2 | ⟨g, cap, cur, e, hge, rest⟩
  · exact ⟨h1, .inl h2⟩
  · exact ⟨h1, .inr ⟨g, cap, cur, e, by omega, rest⟩⟩
theorem own_stO {O : Nat → Prop} {w : World} {base n z : Nat} {T : TypeId} {v : Value} {xs : List Value} (h : w.ownsRow base T z v n xs) (hO : ∀ g, v.ownBlock = some g → ¬ O g) : St O w (fun w' => w'.ownsRow base T z v n xs) :=
  fun w' ho => own_same h (fun k h1 h2 h3 => ho.block k h3 (hO k h1))
/-- A row of nodes; O: its block and those of the next ones. The paths lie in blocks of their own. -/
structure NVx (base : Nat) (O : Nat → Prop) (w : World) (v : Value) (xs : List Value) (ns : List Nd) : Prop where
  own : w.ownsRow base 65 3 v ns.length xs
  row : ∀ g, v.ownBlock = some g → O g
  ge : ∀ g, O g → base ≤ g ∧ g < w.heap.size
  el : ∀ i (h : i < ns.length), ∃ pv nv, xs[i * 3]? = some (.int .i64 ns[i].rule) ∧ xs[i * 3 + 1]? = some pv ∧ xs[i * 3 + 2]? = some nv ∧ St O w (OwI base pv ns[i].path) ∧ w.ownsRow base 3 1 nv ns[i].next.length (rcells 1 iC ns[i].next) ∧ ∀ g, nv.ownBlock = some g → O g
  ap : ∀ i j, i < ns.length → j < ns.length → i ≠ j → ∀ a b g, xs[i * 3 + 2]? = some a → xs[j * 3 + 2]? = some b → a.ownBlock = some g → b.ownBlock = some g → False
  pn : ∀ i pv g, i < ns.length → xs[i * 3 + 1]? = some pv → pv.ownBlock = some g → ¬ O g
  pp : ∀ i j, i < ns.length → j < ns.length → i ≠ j → ∀ a b g, xs[i * 3 + 1]? = some a → xs[j * 3 + 1]? = some b → a.ownBlock = some g → b.ownBlock = some g → False
theorem NVx.pathOwn {base : Nat} {O : Nat → Prop} {w : World} {v : Value} {xs : List Value} {ns : List Nd} (h : NVx base O w v xs ns) {i : Nat} (hi : i < ns.length) {pv : Value} (e : xs[i * 3 + 1]? = some pv) : OwI base pv ns[i].path w := by
  obtain ⟨pv', nv, -, h2, -, h4, -⟩ := h.el i hi
  rw [e] at h2
  simp only [Option.some.injEq] at h2
  subst h2
  exact h4.here
theorem NVx.nil (base : Nat) (w : World) : NVx base (fun _ => False) w (.slice none 0 0) [] [] :=
  ⟨World.ownsRow_nil _ _ _ _, fun g h => by simp [Value.ownBlock] at h, fun g h => h.elim, fun i h => by simp at h, fun i j h => by simp at h, fun i pv g h => by simp at h, fun i j h => by simp at h⟩
theorem NVx.below {base : Nat} {O : Nat → Prop} {w w' : World} {v : Value} {xs : List Value} {ns : List Nd} (h : NVx base O w v xs ns) (hb : Below w.heap.size w w') : NVx base O w' v xs ns :=
  ⟨own_keep h.own (fun k _ hk => hb.block k hk), h.row, fun g hg => ⟨(h.ge g hg).1, Nat.lt_of_lt_of_le (h.ge g hg).2 hb.size⟩, fun i hi => by
    obtain ⟨pv, nv, h1, h2, h3, h4, h5, h6⟩ := h.el i hi
    exact ⟨pv, nv, h1, h2, h3, h4.later (Off.of_below hb) (fun i h => .inl h), own_keep h5 (fun k _ hk => hb.block k hk), h6⟩, h.ap, h.pn, h.pp⟩
/-- A node more. -/
theorem NVx.snoc {base : Nat} {O : Nat → Prop} {w w' : World} {v v' : Value} {xs : List Value} {ns : List Nd} {rl : Int} {ph : List Int} {pv : Value} (h : NVx base O w v xs ns)
    (ho : w'.ownsRow base 65 3 v' (ns.length + 1) (xs ++ [.int .i64 rl, pv, .slice none 0 0])) (hg : w.grownBy w' v.ownBlock) (ha : Apart w v v') (hp : St O w (OwI base pv ph)) (hpO : ∀ g, pv.ownBlock = some g → ¬ O g) (hpn : ∀ i b g, i < ns.length → xs[i * 3 + 1]? = some b → b.ownBlock = some g → pv.ownBlock = some g → False) :
    NVx base (ObO O v') w' v' (xs ++ [.int .i64 rl, pv, .slice none 0 0]) (ns ++ [⟨rl, ph, []⟩]) := by
  have hof : Off O w w' := Off.of_grown hg (fun k hk => h.row k hk)
  have hO : ∀ i, ObO O v' i → O i ∨ w.heap.size ≤ i := fun i hi => by
    rcases hi with hi | hi
    · exact .inl hi
    · rcases ha i hi with hi | hi
      · exact .inl (h.row i hi)
      · exact .inr hi
  have hxl : xs.length = ns.length * 3 := h.own.1
  have hc1 : ∀ i a, i < (ns ++ [(⟨rl, ph, []⟩ : Nd)]).length → (xs ++ [Value.int .i64 rl, pv, .slice none 0 0])[i * 3 + 1]? = some a → (i < ns.length ∧ xs[i * 3 + 1]? = some a) ∨ (i = ns.length ∧ a = pv) := fun i a hi e => by
    by_cases hi1 : i < ns.length
    · rw [List.getElem?_append_left (by omega)] at e
      exact .inl ⟨hi1, e⟩
    · have hi2 : i = ns.length := by simp at hi; omega
      subst hi2
      rw [List.getElem?_append_right (by omega), show ns.length * 3 + 1 - xs.length = 1 by omega] at e
      exact .inr ⟨rfl, by simpa using e.symm⟩
  refine ⟨by simpa using ho, fun g hg => .inr hg, fun g hgg => ?_, fun i hi => ?_, fun i j hi hj hij a b g e1 e2 e3 e4 => ?_, fun i a g hi e1 e2 hg2 => ?_, fun i j hi hj hij a b g e1 e2 e3 e4 => ?_⟩
  · rcases hgg with hgg | hgg
    · exact ⟨(h.ge g hgg).1, Nat.lt_of_lt_of_le (h.ge g hgg).2 hg.size⟩
    · exact ho.lt g hgg
  · by_cases hi1 : i < ns.length
    · obtain ⟨pv', nv, h1, h2, h3, h4, h5, h6⟩ := h.el i hi1
      refine ⟨pv', nv, by rw [List.getElem?_append_left (by omega), List.getElem_append_left hi1]; exact h1, by rw [List.getElem?_append_left (by omega)]; exact h2, by rw [List.getElem?_append_left (by omega)]; exact h3, ?_, ?_, fun g hg => .inl (h6 g hg)⟩
      · rw [List.getElem_append_left hi1]; exact h4.later hof hO
      · rw [List.getElem_append_left hi1]
        exact own_grown h5 hg (fun k hk hv => own_apart h.own h5 (by decide) hv hk)
    · have hi2 : i = ns.length := by simp at hi; omega
      subst hi2
      refine ⟨pv, .slice none 0 0, ?_, ?_, ?_, ?_, ?_, fun g hg => by simp [Value.ownBlock] at hg⟩
      · rw [List.getElem?_append_right (by omega), hxl, Nat.sub_self, List.getElem_append_right (Nat.le_refl _)]; simp
      · rw [List.getElem?_append_right (by omega), show ns.length * 3 + 1 - xs.length = 1 by omega]; rfl
      · rw [List.getElem?_append_right (by omega), show ns.length * 3 + 2 - xs.length = 2 by omega]; rfl
      · rw [List.getElem_append_right (Nat.le_refl _)]; simpa using hp.later hof hO
      · rw [List.getElem_append_right (Nat.le_refl _)]; simpa [rcells] using World.ownsRow_nil w' base 3 1
  · have hcase : ∀ i a g, i < (ns ++ [(⟨rl, ph, []⟩ : Nd)]).length → (xs ++ [Value.int .i64 rl, pv, .slice none 0 0])[i * 3 + 2]? = some a → a.ownBlock = some g → i < ns.length ∧ xs[i * 3 + 2]? = some a := fun i a g hi e he => by
      by_cases hi1 : i < ns.length
      · rw [List.getElem?_append_left (by omega)] at e
        exact ⟨hi1, e⟩
      · have hi2 : i = ns.length := by simp at hi; omega
        subst hi2
        rw [List.getElem?_append_right (by omega), show ns.length * 3 + 2 - xs.length = 2 by omega] at e
        simp at e
        subst e
        simp [Value.ownBlock] at he
    obtain ⟨c1, c2⟩ := hcase i a g hi e1 e3
    obtain ⟨d1, d2⟩ := hcase j b g hj e2 e4
    exact h.ap i j c1 d1 hij a b g c2 d2 e3 e4
  · have hlt : g < w.heap.size ∧ ¬ O g := by
      rcases hc1 i a hi e1 with ⟨h1, h2⟩ | ⟨-, rfl⟩
      · exact ⟨((h.pathOwn h1 h2).lt g e2).2, h.pn i a g h1 h2 e2⟩
      · exact ⟨(hp.here.lt g e2).2, hpO g e2⟩
    rcases hO g hg2 with h1 | h1
    · exact hlt.2 h1
    · omega
  · rcases hc1 i a hi e1 with ⟨h1, h2⟩ | ⟨h1, rfl⟩
    · rcases hc1 j b hj e2 with ⟨h3, h4⟩ | ⟨h3, rfl⟩
      · exact h.pp i j h1 h3 hij a b g h2 h4 e3 e4
      · exact hpn i a g h1 h2 e3 e4
    · rcases hc1 j b hj e2 with ⟨h3, h4⟩ | ⟨h3, rfl⟩
      · exact hpn j b g h3 h4 e4 e3
      · exact hij (h1.trans h3.symm)
/-- What stays when a cell of another block is written. -/
theorem own_setne {w : World} {base n z : Nat} {T : TypeId} {v : Value} {xs : List Value} (h : w.ownsRow base T z v n xs) {g : Nat} (hne : v.ownBlock ≠ some g) (i : Nat) (u : Value) : (w.setCell ⟨g, i, none⟩ u).ownsRow base T z v n xs :=
  own_same h (fun k hk _ _ => Below.heap_setCell _ _ _ _ (fun e => hne (by rw [hk, e])))
/-- A next one more behind a node. -/
theorem NVx.nextAt {base : Nat} {O : Nat → Prop} {w w1 : World} {gv cv : Nat} {xs : List Value} {ns : List Nd} {i : Nat} {nv nv' : Value} (hi : i < ns.length) (h : NVx base O w (.slice (some ⟨gv, 0, none⟩) ns.length cv) xs ns)
    (hx : xs[i * 3 + 2]? = some nv) (ho : w1.ownsRow base 3 1 nv' (ns[i].next.length + 1) (rcells 1 iC (ns[i].next ++ [(ns.length : Int)]))) (hg : w.grownBy w1 nv.ownBlock) (ha : Apart w nv nv') :
    NVx base (ObO O nv') (w1.setCell ⟨gv, i * 3 + 2, none⟩ nv') (.slice (some ⟨gv, 0, none⟩) ns.length cv) (xs.set (i * 3 + 2) nv') (setN i ns) ∧ Off O w (w1.setCell ⟨gv, i * 3 + 2, none⟩ nv') := by
  obtain ⟨pv0, nv0, a1, a2, a3, a4, a5, a6⟩ := h.el i hi
  rw [hx] at a3
  simp only [Option.some.injEq] at a3
  subst a3
  have hgO : O gv := h.row gv rfl
  have hof1 : Off O w w1 := Off.of_grown hg (fun k hk => a6 k hk)
  have hof : Off O w (w1.setCell ⟨gv, i * 3 + 2, none⟩ nv') := ⟨hof1.os, hof1.tape, hof1.output, by simpa [World.setCell] using hof1.size, fun k hk hn => (Below.heap_setCell _ _ _ _ (fun e => hn (by rw [e]; exact hgO))).trans (hof1.block k hk hn)⟩
  have hO : ∀ k, ObO O nv' k → O k ∨ w.heap.size ≤ k := fun k hk => by
    rcases hk with hk | hk
    · exact .inl hk
    · rcases ha k hk with hk | hk
      · exact .inl (a6 k hk)
      · exact .inr hk
  have hw1 : w1.ownsRow base 65 3 (.slice (some ⟨gv, 0, none⟩) ns.length cv) ns.length xs := own_grown h.own hg (fun k hk hv => own_apart h.own a5 (by decide) hk hv)
  have hsz : (w1.setCell ⟨gv, i * 3 + 2, none⟩ nv').heap.size = w1.heap.size := by simp [World.setCell]
  have hxl : xs.length = ns.length * 3 := h.own.1
  have hlen : (setN i ns).length = ns.length := setN_length i ns
  have hne' : nv'.ownBlock ≠ some gv := fun e => own_apart hw1 ho (by decide) rfl e
  have hget : ∀ j (hj : j < ns.length), (setN i ns)[j]'(by rw [hlen]; exact hj) = if j = i then { ns[j] with next := ns[j].next ++ [(ns.length : Int)] } else ns[j] := fun j hj => by
    unfold setN
    rw [List.getElem_modify]
    by_cases e : i = j
    · rw [if_pos e, if_pos e.symm]
    · rw [if_neg e, if_neg (fun h => e h.symm)]
  refine ⟨⟨by rw [hlen]; exact (hw1.stored _ _).1, fun g hgg => .inl (h.row g hgg), fun g hgg => ?_, fun j hj => ?_, fun j k hj hk hjk a b g e1 e2 e3 e4 => ?_, fun j a g hj e1 e2 hg2 => ?_, fun j k hj hk hjk a b g e1 e2 e3 e4 => ?_⟩, hof⟩
  · rw [hsz]
    rcases hgg with hgg | hgg
    · exact ⟨(h.ge g hgg).1, Nat.lt_of_lt_of_le (h.ge g hgg).2 hg.size⟩
    · exact ho.lt g hgg
  · have hj' : j < ns.length := by rw [hlen] at hj; exact hj
    obtain ⟨pv, nw, b1, b2, b3, b4, b5, b6⟩ := h.el j hj'
    by_cases e : j = i
    · subst e
      refine ⟨pv, nv', ?_, ?_, ?_, ?_, ?_, fun g hg => .inr hg⟩
      · rw [List.getElem?_set_ne (by omega), hget j hj', if_pos rfl]; exact b1
      · rw [List.getElem?_set_ne (by omega)]; exact b2
      · rw [List.getElem?_set_self (by omega)]
      · rw [hget j hj', if_pos rfl]; exact b4.later hof hO
      · rw [hget j hj', if_pos rfl]
        have := own_setne ho hne' (j * 3 + 2) nv'
        simpa using this
    · refine ⟨pv, nw, ?_, ?_, ?_, ?_, ?_, fun g hg => .inl (b6 g hg)⟩
      · rw [List.getElem?_set_ne (by omega), hget j hj', if_neg e]; exact b1
      · rw [List.getElem?_set_ne (by omega)]; exact b2
      · rw [List.getElem?_set_ne (by omega)]; exact b3
      · rw [hget j hj', if_neg e]; exact b4.later hof hO
      · rw [hget j hj', if_neg e]
        exact own_setne (own_grown b5 hg (fun k hk hv => h.ap j i hj' hi e nw nv k b3 hx hk hv)) (fun e2 => own_apart h.own b5 (by decide) rfl e2) _ _
  · rw [hlen] at hj hk
    have hcase : ∀ j a, j < ns.length → (xs.set (i * 3 + 2) nv')[j * 3 + 2]? = some a → (j = i ∧ a = nv') ∨ (j ≠ i ∧ xs[j * 3 + 2]? = some a) := fun j a hj e => by
      by_cases e2 : j = i
      · subst e2
        rw [List.getElem?_set_self (by omega)] at e
        exact .inl ⟨rfl, by simpa using e.symm⟩
      · rw [List.getElem?_set_ne (by omega)] at e
        exact .inr ⟨e2, e⟩
    have hno : ∀ j a, j < ns.length → j ≠ i → xs[j * 3 + 2]? = some a → a.ownBlock = some g → nv'.ownBlock = some g → False := fun j a hj hji e he he' => by
      rcases ha g he' with h1 | h1
      · exact h.ap j i hj hi hji a nv g e hx he h1
      · obtain ⟨pv, nw, -, -, b3, -, b5, -⟩ := h.el j hj
        rw [e] at b3
        simp only [Option.some.injEq] at b3
        subst b3
        have := (b5.lt g he).2
        omega
    rcases hcase j a hj e1 with ⟨rfl, rfl⟩ | ⟨n1, f1⟩
    · rcases hcase k b hk e2 with ⟨rfl, rfl⟩ | ⟨n2, f2⟩
      · exact hjk rfl
      · exact hno k b hk n2 f2 e4 e3
    · rcases hcase k b hk e2 with ⟨rfl, rfl⟩ | ⟨n2, f2⟩
      · exact hno j a hj n1 f1 e3 e4
      · exact h.ap j k hj hk hjk a b g f1 f2 e3 e4
  · rw [hlen] at hj
    rw [List.getElem?_set_ne (by omega)] at e1
    have h1 := ((h.pathOwn hj e1).lt g e2).2
    have h2 := h.pn j a g hj e1 e2
    rcases hO g hg2 with h3 | h3
    · exact h2 h3
    · omega
  · rw [hlen] at hj hk
    rw [List.getElem?_set_ne (by omega)] at e1 e2
    exact h.pp j k hj hk hjk a b g e1 e2 e3 e4
end Go.Proofs.Ytmlpnmdckgppnaa.W
