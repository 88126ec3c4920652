/-
  Rows of cells and of numbers that a call owns; trees from their kids on. No program here but of trees.
-/
import Derived.Test.YtiphcjbmoekkkaaPlM
import Derived.Test.YtiphcjbmoekkkaaApS
import Derived.Deep.AppendLies
import Derived.Laws.AppendOwnNone
namespace Go.Proofs.Ytiphcjbmoekkkaa.L
open Go.Proofs.Ytiphcjbmoekkkaa.W
open Go.ChangeShapes Go.WideShapes Go.ChangeAt Go.RowKit
set_option linter.unusedVariables false

/-- What holds of each kid's kids. -/
def F.all (Q : F → Prop) : F → Prop
  | .nil => True
  | .cons _ k r => Q k ∧ r.all Q

theorem F.all_app {Q : F → Prop} : ∀ {a b : F}, (a.app b).all Q ↔ a.all Q ∧ b.all Q
  | .nil, b => by simp [F.app, F.all]
  | .cons _ k r, b => by simp [F.app, F.all, F.all_app (a := r), and_assoc]

theorem F.all_of {Q : F → Prop} (h : ∀ a : F, a.all Q → Q a) : ∀ a : F, a.all Q
  | .nil => trivial
  | .cons _ k r => ⟨h k (F.all_of h k), F.all_of h r⟩

/-- A term from its kids on. -/
theorem F.rec_kids {Q : F → Prop} (h : ∀ a : F, a.all Q → Q a) (a : F) : Q a := h a (F.all_of h a)

theorem F.all_at {Q : F → Prop} {a k r : F} {x : Cc} (h : (a.app (.cons x k r)).all Q) : Q k := (F.all_app.1 h).2.1

theorem F.app_snoc (a k r : F) (x : Cc) : a.app (.cons x k r) = (a.app (.cons x k .nil)).app r := by rw [F.app_assoc]; rfl

/-- A slice of numbers that fills its block from the front, or none. -/
def IS (w : World) (s : Value) (l : List Int) : Prop :=
  (s = .slice none 0 0 ∧ l = []) ∨ ∃ g c, s = .slice (some ⟨g, 0, none⟩) l.length c ∧ l.length ≤ c ∧ g < w.heap.size ∧ ∀ i (h : i < l.length), w.cell? ⟨g, i, none⟩ = some (.int .i64 l[i])

theorem IS.below {w w' : World} {s : Value} {l : List Int} (h : IS w s l) (hb : Below w.heap.size w w') : IS w' s l := by
  rcases h with h | ⟨g, c, h1, h2, h3, h4⟩
  · exact .inl h
  · exact .inr ⟨g, c, h1, h2, Nat.lt_of_lt_of_le h3 hb.size, fun i hi => (hb.cell (p := ⟨g, i, none⟩) h3).trans (h4 i hi)⟩

theorem IS.form {w : World} {s : Value} {l : List Int} (h : IS w s l) : ∃ ad c, s = .slice ad l.length c := by
  rcases h with ⟨h1, h2⟩ | ⟨g, c, h1, _⟩
  · exact ⟨none, 0, by rw [h1, h2]; rfl⟩
  · exact ⟨_, _, h1⟩

theorem iOwn_form {w : World} {base n size : Nat} {e : TypeId} {v : Value} {xs : List Value} (h : w.ownsRow base e size v n xs) : ∃ ad c, v = .slice ad n c := by
  rcases h.2 with ⟨h1, h2⟩ | ⟨g, cap, cur, hv, _⟩
  · exact ⟨none, 0, by rw [h1, h2]⟩
  · exact ⟨_, _, hv⟩

theorem iAdd (g o j : Nat) : (⟨g, o, none⟩ : Addr).add j = ⟨g, o + j, none⟩ := by unfold Addr.add; split <;> simp_all

theorem iOne (l : List Int) : ∀ u ∈ l.map (Value.int .i64), u.oneCell' = true := by
  intro u hu
  obtain ⟨n, -, rfl⟩ := List.mem_map.1 hu
  rfl

theorem iOneT (l : List Int) (k : Nat) : ∀ u ∈ (l.map (Value.int .i64)).take k, u.oneCell' = true := fun u hu => iOne l u (List.mem_of_mem_take hu)

theorem iOneD (l : List Int) (k : Nat) : ∀ u ∈ (l.map (Value.int .i64)).drop k, u.oneCell' = true := fun u hu => iOne l u (List.mem_of_mem_drop hu)

theorem IS.ofOwn {w : World} {base : Nat} {e : TypeId} {v : Value} {l : List Int} (h : w.ownsRow base e 1 v l.length (l.map (Value.int .i64))) : IS w v l := by
  rcases h.2 with ⟨h1, h2⟩ | ⟨g, cap, cur, hv, hg, hh, h1, h2, h3, h4⟩
  · exact .inl ⟨h1, List.eq_nil_of_length_eq_zero h2⟩
  · refine .inr ⟨g, cap, hv, h1, (Array.getElem?_eq_some_iff.1 hh).1, fun i hi => ?_⟩
    have h5 : (cur.toList.take (l.length * 1))[i]? = some (.int .i64 l[i]) := by rw [h4]; simp [hi]
    rw [cell_of_blk hh, List.getElem?_take_of_lt (by omega)] at *
    simpa using h5

theorem infoInt : (Try.prog.info? 3).map (fun i => (i.zero, i.size, i.bytes)) = some (some (.int .i64 0), 1, 8) := by kernel_rfl

/-- Cells in memory. -/
def cv : List Cc → List Value
  | [] => []
  | x :: l => .int .i64 x.k :: .int .i64 x.n :: cv l

theorem cv_len : ∀ l : List Cc, (cv l).length = l.length * 2
  | [] => rfl
  | x :: l => by simp [cv, cv_len l]; omega

theorem cv_app : ∀ a b : List Cc, cv (a ++ b) = cv a ++ cv b
  | [], b => rfl
  | x :: a, b => by simp [cv, cv_app a b]

theorem grownT {w w1 w2 : World} {r r' : Option Nat} (h1 : w.grownBy w1 r) (h2 : w1.grownBy w2 r') (hr : ∀ k, r' = some k → r = some k ∨ w.heap.size ≤ k) : w.grownBy w2 r :=
  ⟨h2.os.trans h1.os, h2.tape.trans h1.tape, h2.output.trans h1.output, Nat.le_trans h1.size h2.size, fun k hk hne => (h2.block k (Nat.lt_of_lt_of_le hk h1.size) (fun e => by
    rcases hr k e.symm with h | h
    · exact hne h.symm
    · omega)).trans (h1.block k hk hne)⟩

theorem apartT {w w1 : World} {v v1 v2 : Value} (h1 : Apart w v v1) (h2 : Apart w1 v1 v2) (hs : w.heap.size ≤ w1.heap.size) : Apart w v v2 := fun g hg => by
  rcases h2 g hg with h | h
  · exact h1 g h
  · exact .inr (by omega)

theorem apart_ne {w1 : World} {v1 v2 : Value} {x : Nat} (ha : Apart w1 v1 v2) (hn : ∀ k, v1.ownBlock = some k → k ≠ x) (hx : x < w1.heap.size) : ∀ k, v2.ownBlock = some k → k ≠ x := fun k hk => by
  rcases ha k hk with h | h
  · exact hn k h
  · omega

theorem lies_ne {ad : Option Addr} {n c g n' c' x H : Nat} (hat : (Value.slice ad n c).ownBlock = some g ∨ g = H) (hol : ∀ k, (Value.slice ad n c).ownBlock = some k → k < x) (hH : x < H) : ∀ k, (Value.slice (some ⟨g, 0, none⟩) n' c').ownBlock = some k → k ≠ x := fun k hk => by
  simp only [Value.ownBlock, Option.some.injEq] at hk
  subst hk
  rcases hat with h | h
  · have := hol _ h; omega
  · omega

theorem lies_apart {w : World} {ad : Option Addr} {n c g n' c' H : Nat} (hat : (Value.slice ad n c).ownBlock = some g ∨ g = H) (hH : w.heap.size ≤ H) : Apart w (.slice ad n c) (.slice (some ⟨g, 0, none⟩) n' c') := fun k hk => by
  simp only [Value.ownBlock, Option.some.injEq] at hk
  subst hk
  rcases hat with h | h
  · exact .inl h
  · right; omega

theorem grownA (w : World) (o : Obj) (r : Option Nat) : w.grownBy (w.alloc o) r := World.grownBy_alloc w o r

theorem grownD {w w' : World} {r : Option Nat} (h : w.grownBy w' r) : w.grownBy w'.drew r := ⟨h.os, h.tape, h.output, h.size, h.block⟩

theorem c2_one (k n : Int) : ∀ u ∈ [Value.int .i64 k, .int .i64 n], u.oneCell' = true := by
  intro u hu
  simp only [List.mem_cons, List.not_mem_nil, or_false] at hu
  rcases hu with rfl | rfl <;> rfl

theorem c2_news {w : World} {g : Nat} {k n : Int} {t : TypeId} (h : w.heap[g]? = some (.cells #[.int .i64 k, .int .i64 n] t (0, 0))) : ∀ j u, [Value.int .i64 k, .int .i64 n][j]? = some u → w.cell? ((⟨g, 0, none⟩ : Addr).add j) = some u := by
  intro j u hu
  rw [iAdd, Nat.zero_add, cell_of_blk h, ← hu]
  simp

theorem iOwn_lower {w : World} {base base' n size : Nat} {e : TypeId} {v : Value} {xs : List Value} (h : w.ownsRow base e size v n xs) (hb : base' ≤ base) : w.ownsRow base' e size v n xs := by
  refine ⟨h.1, ?_⟩
  rcases h.2 with h1 | ⟨g, cap, cur, hv, hg, rest⟩
  · exact .inl h1
  · exact .inr ⟨g, cap, cur, hv, by omega, rest⟩

theorem cv_get : ∀ (l : List Cc) (i : Nat) (h : i < l.length), (cv l)[i * 2]? = some (.int .i64 l[i].k) ∧ (cv l)[i * 2 + 1]? = some (.int .i64 l[i].n)
  | x :: l, 0, h => ⟨rfl, rfl⟩
  | x :: l, i + 1, h => by
    have := cv_get l i (by simpa using h)
    rw [show (i + 1) * 2 = i * 2 + 1 + 1 by omega, show i * 2 + 1 + 1 + 1 = (i * 2 + 1) + 1 + 1 by omega]
    simpa [cv] using this

theorem cOwn_row {w : World} {base : Nat} {e : TypeId} {v : Value} {l : List Cc} (h : w.ownsRow base e 2 v l.length (cv l)) : ∃ ad c, v = .slice ad l.length c ∧ l.length ≤ c ∧ CRow w ad l := by
  rcases h.2 with ⟨h1, h2⟩ | ⟨g, cap, cur, hv, hg, hh, h1, h2, h3, h4⟩
  · exact ⟨none, 0, by rw [h1, h2], by omega, .inl (List.eq_nil_of_length_eq_zero h2)⟩
  · refine ⟨_, cap, hv, h1, .inr ⟨g, 0, rfl, (Array.getElem?_eq_some_iff.1 hh).1, fun i hi => ?_⟩⟩
    obtain ⟨a0, a1⟩ := cv_get l i hi
    have b : ∀ j, j < l.length * 2 → cur[j]? = (cv l)[j]? := fun j hj => by rw [← h4, List.getElem?_take_of_lt hj]; simp
    refine ⟨?_, ?_⟩
    · rw [cell_of_blk hh, Nat.zero_add, b _ (by omega)]; exact a0
    · rw [cell_of_blk hh, Nat.zero_add, b _ (by omega)]; exact a1

/-- The cells that are told where they are good. -/
def gd (cs : List Cc) : List Cc := if goodT cs = true then cs else []

theorem belowDrew {B : Nat} {x y : World} (h : Below B x y) : Below B x y.drew := ⟨h.os, h.tape, h.output, h.size, h.block⟩
end Go.Proofs.Ytiphcjbmoekkkaa.L
