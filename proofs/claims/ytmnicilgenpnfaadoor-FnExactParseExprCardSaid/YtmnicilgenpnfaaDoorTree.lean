/-
  The specification's reader of expressions: contracts of l2Read, l2Tree and GoodExpr: a row of parts is read as a tree that lies in new memory. Conditions: at most 1048576 parts, texts of at most 1048576 bytes.
-/
import Derived.Test.YtmnicilgenpnfaaDoorGoodI
import Derived.Laws.AppendOwn
import Derived.ScopeJumps
import Derived.Outline
namespace Go.Proofs.YtmnicilgenpnfaaDoor.W
open Go.ChangeShapes Go.WideShapes Go.ChangeAt Go.RowKit

def E.head : E → Xx
  | .leaf x => x
  | .one x _ => x
  | .two x _ _ => x
def exC (x : Xx) (s : Value) : List Value := [.int .i64 x.k, .int .i64 x.n, .string x.t, s]
/-- A slice of n elements, in a block not below lo, whose cells are these. -/
def Lies (w : World) (lo : Nat) (s : Value) (n : Nat) (cs : List Value) : Prop :=
  ∃ g cap, s = .slice (some ⟨g, 0, none⟩) n cap ∧ lo ≤ g ∧ g < w.heap.size ∧ ∀ j v, cs[j]? = some v → w.cell? ⟨g, j, none⟩ = some v
theorem Lies.keep {w w' : World} {lo : Nat} {s : Value} {n : Nat} {cs : List Value} (h : Lies w lo s n cs) (hs : w.heap.size ≤ w'.heap.size) (hk : ∀ k, lo ≤ k → k < w.heap.size → w'.heap[k]? = w.heap[k]?) : Lies w' lo s n cs := by
  obtain ⟨g, cap, h1, h0, h2, h3⟩ := h
  exact ⟨g, cap, h1, h0, Nat.lt_of_lt_of_le h2 hs, fun j v hj => (World.cell?_of_block (w := w) (hk g h0 h2)).trans (h3 j v hj)⟩
theorem Lies.own {w : World} {base n : Nat} {e : TypeId} {s : Value} {cs : List Value} (h : w.ownsRow base e 4 s n cs) (hn : 0 < n) : Lies w base s n cs := by
  rcases h.2 with ⟨_, h0⟩ | ⟨g, cap, cur, hv, hg, hh, h1, h2, h3, h4⟩
  · omega
  · refine ⟨g, cap, hv, hg, (Array.getElem?_eq_some_iff.1 hh).1, fun j v hj => ?_⟩
    have hlt : j < n * 4 := by rw [← h.1]; exact (List.getElem?_eq_some_iff.1 hj).1
    rw [cell_of_blk hh, ← hj, ← h4, List.getElem?_take_of_lt hlt]
    simp
theorem Lies.lower {w : World} {lo lo' : Nat} {s : Value} {n : Nat} {cs : List Value} (h : Lies w lo s n cs) (hl : lo' ≤ lo) : Lies w lo' s n cs := by
  obtain ⟨g, cap, h1, h0, h2, h3⟩ := h
  exact ⟨g, cap, h1, Nat.le_trans hl h0, h2, h3⟩
/-- The parts of a tree lie in memory, in blocks not below lo. -/
def TrK (w : World) (lo : Nat) : E → Value → Prop
  | .leaf _, s => s = .slice none 0 0
  | .one _ a, s => ∃ sa, TrK w lo a sa ∧ Lies w lo s 1 (exC a.head sa)
  | .two _ a b, s => ∃ sa sb, TrK w lo a sa ∧ TrK w lo b sb ∧ Lies w lo s 2 (exC a.head sa ++ exC b.head sb)
theorem TrK.keep {w w' : World} {lo : Nat} (hs : w.heap.size ≤ w'.heap.size) (hk : ∀ k, lo ≤ k → k < w.heap.size → w'.heap[k]? = w.heap[k]?) : ∀ {e : E} {s : Value}, TrK w lo e s → TrK w' lo e s
  | .leaf _, _, h => h
  | .one _ _, _, ⟨sa, h1, h2⟩ => ⟨sa, TrK.keep hs hk h1, h2.keep hs hk⟩
  | .two _ _ _, _, ⟨sa, sb, h1, h2, h3⟩ => ⟨sa, sb, TrK.keep hs hk h1, TrK.keep hs hk h2, h3.keep hs hk⟩
theorem TrK.lower {w : World} {lo lo' : Nat} (hl : lo' ≤ lo) : ∀ {e : E} {s : Value}, TrK w lo e s → TrK w lo' e s
  | .leaf _, _, h => h
  | .one _ _, _, ⟨sa, h1, h2⟩ => ⟨sa, TrK.lower hl h1, h2.lower hl⟩
  | .two _ _ _, _, ⟨sa, sb, h1, h2, h3⟩ => ⟨sa, sb, TrK.lower hl h1, TrK.lower hl h2, h3.lower hl⟩
theorem TrK.below {w w' : World} {lo : Nat} (hb : Below w.heap.size w w') {e : E} {s : Value} (h : TrK w lo e s) : TrK w' lo e s := h.keep hb.size (fun k _ hk => hb.block k hk)

/-- What l2Read tells of what is read. -/
def RdOut (w' : World) (lo n : Nat) (e : Ending) : Option (E × List Xx) → Prop
  | none => e = .returned (.tuple #[.agg #[.int .i64 0, .int .i64 0, .string ⟨#[]⟩, .slice none 0 0], .int .i64 0])
  | some (t, r) => ∃ s, e = .returned (.tuple #[.agg #[.int .i64 t.head.k, .int .i64 t.head.n, .string t.head.t, s], .int .i64 ((n - r.length : Nat) : Int)]) ∧ TrK w' lo t s

theorem infoE : (Tryd.prog.info? 36).map (fun i => (i.zero, i.size, i.bytes)) = some (some (.agg #[.int .i64 0, .int .i64 0, .string ⟨#[]⟩, .slice none 0 0]), 4, 56) := by kernel_rfl

theorem infoParts {P : Program} {t : TypeId} {z : Option Value} {sz by_ : Nat} (h : (P.info? t).map (fun i => (i.zero, i.size, i.bytes)) = some (z, sz, by_)) : ∃ i, P.info? t = some i ∧ i.zero = z ∧ i.size = sz ∧ i.bytes = by_ := by
  obtain ⟨i, hi, e⟩ := Option.map_eq_some_iff.1 h
  simp only [Prod.mk.injEq] at e
  exact ⟨i, hi, e.1, e.2.1, e.2.2⟩
theorem heap3_0 (w : World) (A B C : Obj) : (((w.alloc A).alloc B).alloc C).heap[w.heap.size]? = some A := by
  rw [heap_alloc_old _ _ (by simp; omega), heap_alloc_old _ _ (by simp)]
  exact heap_alloc_new _ _
theorem heap3_2 (w : World) (A B C : Obj) : (((w.alloc A).alloc B).alloc C).heap[w.heap.size + 1 + 1]? = some C := by
  have := heap_alloc_new ((w.alloc A).alloc B) C
  simpa using this
theorem exC_one (x : Xx) (s : Value) (hs : s.oneCell' = true) : ∀ u ∈ exC x s, u.oneCell' = true := by
  intro u hu
  simp only [exC, List.mem_cons, List.not_mem_nil, or_false] at hu
  rcases hu with rfl | rfl | rfl | rfl
  · rfl
  · rfl
  · rfl
  · exact hs
theorem TrK.one {w : World} {lo : Nat} : ∀ {e : E} {s : Value}, TrK w lo e s → s.oneCell' = true
  | .leaf _, _, h => by rw [h]; rfl
  | .one _ _, _, ⟨_, _, ⟨_, _, h, _⟩⟩ => by rw [h]; rfl
  | .two _ _ _, _, ⟨_, _, _, _, ⟨_, _, h, _⟩⟩ => by rw [h]; rfl
theorem TrK.form {w : World} {lo : Nat} : ∀ {e : E} {s : Value}, TrK w lo e s → ∃ ad n c, s = .slice ad n c
  | .leaf _, _, h => ⟨_, _, _, h⟩
  | .one _ _, _, ⟨_, _, ⟨_, _, h, _⟩⟩ => ⟨_, _, _, h⟩
  | .two _ _ _, _, ⟨_, _, _, _, ⟨_, _, h, _⟩⟩ => ⟨_, _, _, h⟩
theorem own_keep {w w' : World} {base n size : Nat} {e : TypeId} {v : Value} {xs : List Value} (h : w.ownsRow base e size v n xs) (hk : ∀ k, base ≤ k → k < w.heap.size → w'.heap[k]? = w.heap[k]?) : w'.ownsRow base e size v n xs := by
  refine ⟨h.1, ?_⟩
  rcases h.2 with h0 | ⟨g, cap, cur, hv, hg, hh, rest⟩
  · exact .inl h0
  · exact .inr ⟨g, cap, cur, hv, hg, (hk g hg (Array.getElem?_eq_some_iff.1 hh).1).trans hh, rest⟩
theorem own_below {w w' : World} {base n size : Nat} {e : TypeId} {v : Value} {xs : List Value} (h : w.ownsRow base e size v n xs) (hb : Below w.heap.size w w') : w'.ownsRow base e size v n xs := own_keep h (fun k _ hk => hb.block k hk)
theorem own_some {w : World} {base n : Nat} {e : TypeId} {v : Value} {xs : List Value} (h : w.ownsRow base e 4 v n xs) (hn : 0 < n) : ∃ g cap, v = .slice (some ⟨g, 0, none⟩) n cap ∧ base ≤ g ∧ g < w.heap.size := by
  rcases h.2 with ⟨_, h0⟩ | ⟨g, cap, cur, hv, hg, hh, rest⟩
  · omega
  · exact ⟨g, cap, hv, hg, (Array.getElem?_eq_some_iff.1 hh).1⟩
theorem exC_cells {w : World} {g : Nat} {x : Xx} {s : Value} {t : TypeId} (h : w.heap[g]? = some (.cells #[.int .i64 x.k, .int .i64 x.n, .string x.t, s] t (0, 0))) :
    ∀ j u, (exC x s)[j]? = some u → w.cell? ((⟨g, 0, none⟩ : Addr).add j) = some u := by
  intro j u hu
  have hadd : (⟨g, 0, none⟩ : Addr).add j = ⟨g, j, none⟩ := by unfold Addr.add; split <;> simp_all
  rw [hadd, cell_of_blk h, ← hu]
  simp [exC]

theorem rd_bad {f : Nat} {x : Xx} {r : List Xx} (h : goodX x = false) : rd (f + 1) (x :: r) = none := by unfold rd; rw [if_neg (by rw [h]; simp)]
theorem rd_leaf {f : Nat} {x : Xx} {r : List Xx} (h : goodX x = true) (hb : behind x = 0) : rd (f + 1) (x :: r) = some (.leaf x, r) := by unfold rd; rw [if_pos h, if_pos hb]
theorem rd_none1 {f : Nat} {x : Xx} {r : List Xx} (h : goodX x = true) (hb : behind x ≠ 0) (h1 : rd f r = none) : rd (f + 1) (x :: r) = none := by unfold rd; rw [if_pos h, if_neg hb, h1]
theorem rd_one {f : Nat} {x : Xx} {r r1 : List Xx} {a : E} (h : goodX x = true) (hb : behind x = 1) (h1 : rd f r = some (a, r1)) : rd (f + 1) (x :: r) = some (.one x a, r1) := by
  unfold rd; rw [if_pos h, if_neg (by omega), h1]; simp only [if_pos hb]
theorem rd_none2 {f : Nat} {x : Xx} {r r1 : List Xx} {a : E} (h : goodX x = true) (hb : behind x = 2) (h1 : rd f r = some (a, r1)) (h2 : rd f r1 = none) : rd (f + 1) (x :: r) = none := by
  unfold rd; rw [if_pos h, if_neg (by omega), h1]; simp only [hb, h2]; rfl
theorem rd_two {f : Nat} {x : Xx} {r r1 r2 : List Xx} {a b : E} (h : goodX x = true) (hb : behind x = 2) (h1 : rd f r = some (a, r1)) (h2 : rd f r1 = some (b, r2)) : rd (f + 1) (x :: r) = some (.two x a b, r2) := by
  unfold rd; rw [if_pos h, if_neg (by omega), h1]; simp only [hb, h2]; rfl
/-- What is left is the row's end. -/
theorem rd_rest {f : Nat} {l : List Xx} {p : Nat} {a : E} {r : List Xx} (h : rd f (l.drop p) = some (a, r)) : r = l.drop (l.length - r.length) ∧ r.length < l.length - p := by
  obtain ⟨e, -⟩ := rd_flat f _ _ _ h
  have hp := a.flat_pos
  have hl : (l.drop p).length = a.flat.length + r.length := by rw [e]; simp
  rw [List.length_drop] at hl
  refine ⟨?_, by omega⟩
  have : l.drop (p + a.flat.length) = r := by rw [← List.drop_drop, e]; simp
  rw [← this]
  congr 1
  rw [List.length_drop]; omega

end Go.Proofs.YtmnicilgenpnfaaDoor.W
