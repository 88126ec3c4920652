/-
  Rows of things of so many cells each, wherever they lie; blocks of one's own that are being filled; rows that bear marks. No program here.
-/
import Derived.Test.YtmlpnmdckgppnaaLow
import Derived.Laws.MakeOwn
import Derived.Laws.AppendOwn
import Derived.Deep.Slices
import Derived.Lib.SmallJoins
import Derived.ChangeOld
namespace Go.Proofs.Ytmlpnmdckgppnaa.W
open Go.ChangeShapes Go.WideShapes Go.ChangeAt Go.RowKit
set_option linter.unusedVariables false

/-- A row of things of z cells each from a place of a block on. -/
def RAt {α : Type} (z : Nat) (f : α → Nat → Value) (w : World) (b o : Nat) (l : List α) : Prop :=
  b < w.heap.size ∧ ∀ i (h : i < l.length), ∀ r, r < z → w.cell? ⟨b, o + i * z + r, none⟩ = some (f l[i] r)
theorem RAt.below {α : Type} {z : Nat} {f : α → Nat → Value} {w w' : World} {b o : Nat} {l : List α} (h : RAt z f w b o l) (hb : Below w.heap.size w w') : RAt z f w' b o l :=
  ⟨Nat.lt_of_lt_of_le h.1 hb.size, fun i hi r hr => (hb.cell (p := ⟨b, o + i * z + r, none⟩) h.1).trans (h.2 i hi r hr)⟩
/-- A slice's row: none, or a row that lies in a block. -/
def RRow {α : Type} (z : Nat) (f : α → Nat → Value) (w : World) (ad : Option Addr) (l : List α) : Prop := l = [] ∨ ∃ b o, ad = some ⟨b, o, none⟩ ∧ RAt z f w b o l
theorem RRow.nil {α : Type} {z : Nat} {f : α → Nat → Value} {w : World} {ad : Option Addr} : RRow z f w ad [] := .inl rfl
theorem RRow.below {α : Type} {z : Nat} {f : α → Nat → Value} {w w' : World} {ad : Option Addr} {l : List α} (h : RRow z f w ad l) (hb : Below w.heap.size w w') : RRow z f w' ad l := by
  rcases h with h | ⟨b, o, h1, h2⟩
  · exact .inl h
  · exact .inr ⟨b, o, h1, h2.below hb⟩
/-- What a walk wants of one thing of a row. -/
theorem RRow.at {α : Type} {z : Nat} {f : α → Nat → Value} {w w' : World} {ad : Option Addr} {l : List α} (h : RRow z f w ad l) (hb : Below w.heap.size w w') {i : Nat} (hi : i < l.length) :
    ∃ b o, ad = some ⟨b, o, none⟩ ∧ b < w.heap.size ∧ ∀ r, r < z → w'.cell? ⟨b, o + i * z + r, none⟩ = some (f l[i] r) := by
  rcases h with rfl | ⟨b, o, h1, h2⟩
  · simp at hi
  · exact ⟨b, o, h1, h2.1, fun r hr => (h2.below hb).2 i hi r hr⟩
/-- The first j things of a block that is being filled. -/
def RFill {α : Type} (z : Nat) (f : α → Nat → Value) (cur : Array Value) (l : List α) (j : Nat) : Prop :=
  cur.size = l.length * z ∧ ∀ i (h : i < l.length), i < j → ∀ r, r < z → cur[i * z + r]? = some (f l[i] r)
/-- A row that fills a block of its own. -/
def RBlk {α : Type} (T : TypeId) (z : Nat) (f : α → Nat → Value) (w : World) (b : Nat) (l : List α) : Prop := ∃ cur, w.heap[b]? = some (.cells cur T (0, 0)) ∧ RFill z f cur l l.length
theorem RBlk.row {α : Type} {T : TypeId} {z : Nat} {f : α → Nat → Value} {w : World} {b : Nat} {l : List α} (h : RBlk T z f w b l) : RRow z f w (some ⟨b, 0, none⟩) l := by
  obtain ⟨cur, hh, hF⟩ := h
  refine .inr ⟨_, 0, rfl, (Array.getElem?_eq_some_iff.1 hh).1, fun i hi r hr => ?_⟩
  rw [cell_of_blk hh, Nat.zero_add]
  exact hF.2 i hi hi r hr
theorem RBlk.below {α : Type} {T : TypeId} {z : Nat} {f : α → Nat → Value} {w w' : World} {b : Nat} {l : List α} (h : RBlk T z f w b l) (hb : Below w.heap.size w w') : RBlk T z f w' b l := by
  obtain ⟨cur, hh, hF⟩ := h
  exact ⟨cur, (hb.block b (Array.getElem?_eq_some_iff.1 hh).1).trans hh, hF⟩
theorem RBlk.lt {α : Type} {T : TypeId} {z : Nat} {f : α → Nat → Value} {w : World} {b : Nat} {l : List α} (h : RBlk T z f w b l) : b < w.heap.size := by
  obtain ⟨cur, hh, hF⟩ := h
  exact (Array.getElem?_eq_some_iff.1 hh).1
theorem RBlk.grown {α : Type} {T : TypeId} {z : Nat} {f : α → Nat → Value} {w w' : World} {b : Nat} {l : List α} {row : Option Nat} (h : RBlk T z f w b l) (hg : w.grownBy w' row) (hne : row ≠ some b) : RBlk T z f w' b l := by
  obtain ⟨cur, hh, hF⟩ := h
  exact ⟨cur, (hg.block b (Array.getElem?_eq_some_iff.1 hh).1 (fun e => hne e.symm)).trans hh, hF⟩
theorem RBlk.own {α : Type} {T : TypeId} {z : Nat} {f : α → Nat → Value} {w : World} {b base : Nat} {l : List α} (h : RBlk T z f w b l) (hb : base ≤ b) (hl : l.length ≤ 1048576) : ∃ xs, w.ownsRow base T z (.slice (some ⟨b, 0, none⟩) l.length l.length) l.length xs := by
  obtain ⟨cur, hh, hF⟩ := h
  exact ⟨cur.toList.take (l.length * z), by simp [hF.1], .inr ⟨b, l.length, cur, rfl, hb, hh, Nat.le_refl _, by unfold maxLen; omega, hF.1, rfl⟩⟩

/-- The cells of a row of things of z cells each. -/
def rcells {α : Type} (z : Nat) (f : α → Nat → Value) : List α → List Value
  | [] => []
  | x :: l => (List.range z).map (f x) ++ rcells z f l
theorem rcells_len {α : Type} (z : Nat) (f : α → Nat → Value) : ∀ l : List α, (rcells z f l).length = l.length * z
  | [] => by simp [rcells]
  | x :: l => by simp [rcells, rcells_len z f l, Nat.add_mul]; omega
theorem rcells_app {α : Type} (z : Nat) (f : α → Nat → Value) : ∀ a b : List α, rcells z f (a ++ b) = rcells z f a ++ rcells z f b
  | [], b => rfl
  | x :: a, b => by simp [rcells, rcells_app z f a b]
theorem rcells_at {α : Type} (z : Nat) (f : α → Nat → Value) : ∀ (l : List α) (i : Nat) (h : i < l.length) (r : Nat), r < z → (rcells z f l)[i * z + r]? = some (f l[i] r)
  | [], i, h, r, hr => by simp at h
  | x :: l, 0, h, r, hr => by
    simp only [rcells, Nat.zero_mul, Nat.zero_add, List.getElem_cons_zero]
    rw [List.getElem?_append_left (by simpa using hr)]
    simp [hr]
  | x :: l, i + 1, h, r, hr => by
    simp only [rcells, List.getElem_cons_succ]
    rw [List.getElem?_append_right (by simp [Nat.add_mul]; omega)]
    rw [show (i + 1) * z + r - ((List.range z).map (f x)).length = i * z + r by simp [Nat.add_mul]; omega]
    exact rcells_at z f l i (by simpa using h) r hr
/-- A row of one's own as a row. -/
theorem RRow.ofOwn {α : Type} {z : Nat} {f : α → Nat → Value} {w : World} {base : Nat} {T : TypeId} {ad : Option Addr} {n c : Nat} {l : List α} (h : w.ownsRow base T z (.slice ad n c) n (rcells z f l)) (hn : n = l.length) : RRow z f w ad l := by
  subst hn
  rcases h.2 with ⟨h1, h2⟩ | ⟨g, cap, cur, h1, hg, hh, h2, h3, h4, h5⟩
  · left
    exact List.eq_nil_of_length_eq_zero h2
  · simp only [Value.slice.injEq] at h1
    obtain ⟨rfl, -, rfl⟩ := h1
    refine .inr ⟨g, 0, rfl, (Array.getElem?_eq_some_iff.1 hh).1, fun i hi r hr => ?_⟩
    have := rcells_at z f l i hi r hr
    rw [← h5] at this
    rw [cell_of_blk hh, Nat.zero_add]
    have hlt : i * z + r < l.length * z := by
      have : (i + 1) * z ≤ l.length * z := Nat.mul_le_mul_right _ hi
      rw [Nat.add_mul] at this; omega
    rw [List.getElem?_take_of_lt hlt] at this
    simpa using this
theorem own_form {w : World} {base n size : Nat} {e : TypeId} {v : Value} {xs : List Value} (h : w.ownsRow base e size v n xs) : ∃ ad c, v = .slice ad n c := by
  rcases h.2 with ⟨h1, h2⟩ | ⟨g, cap, cur, h1, _⟩
  · exact ⟨_, _, by rw [h1, h2]⟩
  · exact ⟨_, _, h1⟩
theorem own_grown {w w' : World} {base n size : Nat} {e : TypeId} {v : Value} {xs : List Value} {row : Option Nat} (h : w.ownsRow base e size v n xs) (hg : w.grownBy w' row) (hne : ∀ k, v.ownBlock = some k → row ≠ some k) : w'.ownsRow base e size v n xs :=
  h.kept hg (by
    cases hv : v.ownBlock with
    | none => exact .inl rfl
    | some k => exact .inr (fun e => hne k hv e.symm))
theorem own_keep {w w' : World} {base n size : Nat} {e : TypeId} {v : Value} {xs : List Value} (h : w.ownsRow base e size v n xs) (hk : ∀ k, base ≤ k → k < w.heap.size → w'.heap[k]? = w.heap[k]?) : w'.ownsRow base e size v n xs := by
  refine ⟨h.1, ?_⟩
  rcases h.2 with h2 | ⟨g, cap, cur, h1, hg, hh, h3⟩
  · exact .inl h2
  · exact .inr ⟨g, cap, cur, h1, hg, (hk g hg (Array.getElem?_eq_some_iff.1 hh).1).trans hh, h3⟩
theorem own_same {w w' : World} {base n size : Nat} {e : TypeId} {v : Value} {xs : List Value} (h : w.ownsRow base e size v n xs) (hk : ∀ k, v.ownBlock = some k → base ≤ k → k < w.heap.size → w'.heap[k]? = w.heap[k]?) : w'.ownsRow base e size v n xs := by
  refine ⟨h.1, ?_⟩
  rcases h.2 with h2 | ⟨g, cap, cur, h1, hg, hh, h3⟩
  · exact .inl h2
  · exact .inr ⟨g, cap, cur, h1, hg, (hk g (by rw [h1]; rfl) hg (Array.getElem?_eq_some_iff.1 hh).1).trans hh, h3⟩
theorem own_lower {w : World} {base base' n size : Nat} {e : TypeId} {v : Value} {xs : List Value} (h : w.ownsRow base e size v n xs) (hb : base' ≤ base) : w.ownsRow base' e size v n xs := by
  refine ⟨h.1, ?_⟩
  rcases h.2 with h2 | ⟨g, cap, cur, h1, hg, h3⟩
  · exact .inl h2
  · exact .inr ⟨g, cap, cur, h1, Nat.le_trans hb hg, h3⟩
theorem RRow.grown {α : Type} {z : Nat} {f : α → Nat → Value} {w w' : World} {ad : Option Addr} {l : List α} {row : Option Nat} (h : RRow z f w ad l) (hg : w.grownBy w' row) (hne : ∀ b o, ad = some ⟨b, o, none⟩ → row ≠ some b) : RRow z f w' ad l := by
  rcases h with h | ⟨b, o, h1, h2⟩
  · exact .inl h
  · refine .inr ⟨b, o, h1, Nat.lt_of_lt_of_le h2.1 hg.size, fun i hi r hr => ?_⟩
    exact (World.cell?_of_block (a := ⟨b, o + i * z + r, none⟩) (hg.block b h2.1 (fun e => hne b o h1 e.symm))).trans (h2.2 i hi r hr)

/-- A block that holds just these cells. -/
def Bx (w : World) (b : Nat) (cs : Array Value) (T : TypeId) : Prop := w.heap[b]? = some (.cells cs T (0, 0))
theorem Bx.c {w : World} {b : Nat} {cs : Array Value} {T : TypeId} (h : Bx w b cs T) : ∀ o, w.cell? ⟨b, o, none⟩ = cs[o]? := fun o => cell_of_blk h o
theorem Bx.f {w : World} {b : Nat} {cs : Array Value} {T : TypeId} (h : Bx w b cs T) : ∀ o, w.frozen? ⟨b, o, none⟩ = false := fun o => unfrozen_of_blk h o
theorem Bx.lt {w : World} {b : Nat} {cs : Array Value} {T : TypeId} (h : Bx w b cs T) : b < w.heap.size := (Array.getElem?_eq_some_iff.1 h).1
theorem Bx.below {w w' : World} {b B : Nat} {cs : Array Value} {T : TypeId} (h : Bx w b cs T) (hb : Below B w w') (hB : b < B) : Bx w' b cs T := (hb.block b hB).trans h
theorem Bx.new (w : World) (cs : Array Value) (T : TypeId) : Bx (w.alloc (.cells cs T)) w.heap.size cs T := heap_alloc_new w _
theorem Bx.alloc {w : World} {b : Nat} {cs : Array Value} {T : TypeId} (h : Bx w b cs T) (o : Obj) : Bx (w.alloc o) b cs T := (Below.heap_alloc w o b h.lt).trans h
theorem Bx.set {w : World} {b : Nat} {cs : Array Value} {T : TypeId} (h : Bx w b cs T) (i : Nat) (v : Value) : Bx (w.setCell ⟨b, i, none⟩ v) b (cs.setIfInBounds i v) T := blk_setCell h v
theorem Bx.setne {w : World} {b : Nat} {cs : Array Value} {T : TypeId} (h : Bx w b cs T) (b' i : Nat) (v : Value) (hn : b ≠ b') : Bx (w.setCell ⟨b', i, none⟩ v) b cs T := (Below.heap_setCell _ _ _ _ hn).trans h
theorem Bx.drew {w : World} {b : Nat} {cs : Array Value} {T : TypeId} (h : Bx w b cs T) : Bx w.drew b cs T := h
theorem RBlk.setne {α : Type} {T : TypeId} {z : Nat} {f : α → Nat → Value} {w : World} {b : Nat} {l : List α} (h : RBlk T z f w b l) (b' i : Nat) (v : Value) (hn : b ≠ b') : RBlk T z f (w.setCell ⟨b', i, none⟩ v) b l := by
  obtain ⟨cur, hh, hF⟩ := h
  exact ⟨cur, (Below.heap_setCell _ _ _ _ hn).trans hh, hF⟩

/-- A mark of a truth. -/
def mB (k : Nat) : Value := .bool (decide ((k : Int) % 3 = 0))
def mI (k : Nat) : Value := .int .i64 (k : Int)
/-- The row v of n things of z cells each bears the marks from k0 on. -/
def RMk (mv : Nat → Nat → Value) (w : World) (v : Value) (T : TypeId) (z k0 n : Nat) : Prop :=
  ∃ a c, v = .slice a n c ∧ (n = 0 ∨ ∃ g cur, a = some ⟨g, 0, none⟩ ∧ w.heap[g]? = some (.cells cur T (0, 0)) ∧ n * z ≤ cur.size ∧ ∀ i, i < n → ∀ r, r < z → cur[i * z + r]? = some (mv r (k0 + i * z + r)))
theorem RMk.below {mv : Nat → Nat → Value} {w w' : World} {v : Value} {T : TypeId} {z k0 n : Nat} (h : RMk mv w v T z k0 n) (hb : Below w.heap.size w w') : RMk mv w' v T z k0 n := by
  obtain ⟨a, c, h1, h2 | ⟨g, cur, h3, h4, h5⟩⟩ := h
  · exact ⟨a, c, h1, .inl h2⟩
  · exact ⟨a, c, h1, .inr ⟨g, cur, h3, (hb.block g (Array.getElem?_eq_some_iff.1 h4).1).trans h4, h5⟩⟩
theorem RMk.grown {mv : Nat → Nat → Value} {w w' : World} {v : Value} {T : TypeId} {z k0 n : Nat} {row : Option Nat} (h : RMk mv w v T z k0 n) (hg : w.grownBy w' row) (hne : ∀ k, v.ownBlock = some k → row ≠ some k) : RMk mv w' v T z k0 n := by
  obtain ⟨a, c, h1, h2 | ⟨g, cur, h3, h4, h5⟩⟩ := h
  · exact ⟨a, c, h1, .inl h2⟩
  · exact ⟨a, c, h1, .inr ⟨g, cur, h3, (hg.block g (Array.getElem?_eq_some_iff.1 h4).1 (fun e => hne g (by rw [h1, h3]; rfl) e.symm)).trans h4, h5⟩⟩
end Go.Proofs.Ytmlpnmdckgppnaa.W
