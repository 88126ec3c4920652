/-
  The specification's patterns in memory: a tree's kids lie in rows, one within the other. No program here. Written by wip/build/mk_pam.py.
-/
import Derived.Test.YtmlpnmdckgppnaaPaP
import Derived.Laws.AppendOwn
import Derived.ScopeJumps
import Derived.Outline
namespace Go.Proofs.Ytmlpnmdckgppnaa.W
open Go.ChangeShapes Go.WideShapes Go.ChangeAt Go.RowKit
set_option linter.unusedVariables false

/-- How the specification tells a cell: -1 for any. -/
def tcon (x : Pt) : Int := if x.kd = 1 then -1 else x.con
def tC (x : Pt) (s : Value) : List Value := [.int .i64 (tcon x), s]
/-- A slice of n elements, in a block of this kind, whose cells are these. -/
def TLies (w : World) (P : Nat → Prop) (s : Value) (n : Nat) (cs : List Value) : Prop :=
  ∃ g cap, s = .slice (some ⟨g, 0, none⟩) n cap ∧ P g ∧ g < w.heap.size ∧ ∀ j v, cs[j]? = some v → w.cell? ⟨g, j, none⟩ = some v
def Holds (w : World) (P : Nat → Prop) (s : Value) (n : Nat) (cs : List Value) : Prop := (n = 0 ∧ s = .slice none 0 0) ∨ (0 < n ∧ TLies w P s n cs)
def KidsAt (w : World) (P : Nat → Prop) : F → List Value → Prop
  | .nil, cs => cs = []
  | .cons x k r, cs => ∃ s cr, cs = tC x s ++ cr ∧ (∃ ck, KidsAt w P k ck ∧ Holds w P s k.len ck) ∧ KidsAt w P r cr
/-- The kids of a term lie in memory, in blocks of this kind. -/
def KidT (w : World) (P : Nat → Prop) (k : F) (s : Value) : Prop := ∃ ck, KidsAt w P k ck ∧ Holds w P s k.len ck

theorem TLies.keep {w w' : World} {P P' : Nat → Prop} {s : Value} {n : Nat} {cs : List Value} (h : TLies w P s n cs) (hs : w.heap.size ≤ w'.heap.size) (hk : ∀ k, P k → k < w.heap.size → w'.heap[k]? = w.heap[k]? ∧ P' k) : TLies w' P' s n cs := by
  obtain ⟨g, cap, h1, h0, h2, h3⟩ := h
  obtain ⟨e, p⟩ := hk g h0 h2
  exact ⟨g, cap, h1, p, Nat.lt_of_lt_of_le h2 hs, fun j v hj => (World.cell?_of_block (w := w) e).trans (h3 j v hj)⟩
theorem Holds.keep {w w' : World} {P P' : Nat → Prop} {s : Value} {n : Nat} {cs : List Value} (h : Holds w P s n cs) (hs : w.heap.size ≤ w'.heap.size) (hk : ∀ k, P k → k < w.heap.size → w'.heap[k]? = w.heap[k]? ∧ P' k) : Holds w' P' s n cs := by
  rcases h with h | ⟨h1, h2⟩
  · exact .inl h
  · exact .inr ⟨h1, h2.keep hs hk⟩
theorem KidsAt.keep {w w' : World} {P P' : Nat → Prop} (hs : w.heap.size ≤ w'.heap.size) (hk : ∀ k, P k → k < w.heap.size → w'.heap[k]? = w.heap[k]? ∧ P' k) : ∀ {a : F} {cs : List Value}, KidsAt w P a cs → KidsAt w' P' a cs
  | .nil, _, h => h
  | .cons _ _ _, _, ⟨s, cr, e, ⟨ck, h1, h2⟩, h3⟩ => ⟨s, cr, e, ⟨ck, KidsAt.keep hs hk h1, h2.keep hs hk⟩, KidsAt.keep hs hk h3⟩
theorem KidT.keep {w w' : World} {P P' : Nat → Prop} {a : F} {s : Value} (h : KidT w P a s) (hs : w.heap.size ≤ w'.heap.size) (hk : ∀ k, P k → k < w.heap.size → w'.heap[k]? = w.heap[k]? ∧ P' k) : KidT w' P' a s := by
  obtain ⟨ck, h1, h2⟩ := h
  exact ⟨ck, h1.keep hs hk, h2.keep hs hk⟩
theorem KidT.below {w w' : World} {P : Nat → Prop} {a : F} {s : Value} (h : KidT w P a s) (hb : Below w.heap.size w w') : KidT w' P a s := h.keep hb.size (fun k hp hk => ⟨hb.block k hk, hp⟩)
theorem KidT.weak {w : World} {P P' : Nat → Prop} {a : F} {s : Value} (h : KidT w P a s) (hp : ∀ k, P k → k < w.heap.size → P' k) : KidT w P' a s := h.keep (Nat.le_refl _) (fun k h1 h2 => ⟨rfl, hp k h1 h2⟩)
theorem KidsAt.len {w : World} {P : Nat → Prop} : ∀ {a : F} {cs : List Value}, KidsAt w P a cs → cs.length = a.len * 2
  | .nil, _, h => by rw [h]; rfl
  | .cons _ _ r, _, ⟨s, cr, e, _, h3⟩ => by
    have := KidsAt.len h3
    rw [e]; simp [tC, F.len, this]; omega
theorem KidsAt.app {w : World} {P : Nat → Prop} : ∀ {a b : F} {ca cb : List Value}, KidsAt w P a ca → KidsAt w P b cb → KidsAt w P (a.app b) (ca ++ cb)
  | .nil, b, ca, cb, h, hb => by rw [show ca = [] from h]; exact hb
  | .cons _ _ r, b, ca, cb, ⟨s, cr, e, h2, h3⟩, hb => ⟨s, cr ++ cb, by rw [e, List.append_assoc], h2, KidsAt.app h3 hb⟩
theorem KidsAt.split {w : World} {P : Nat → Prop} : ∀ {a b : F} {cs : List Value}, KidsAt w P (a.app b) cs → ∃ ca cb, cs = ca ++ cb ∧ KidsAt w P a ca ∧ KidsAt w P b cb
  | .nil, b, cs, h => ⟨[], cs, rfl, rfl, h⟩
  | .cons _ _ r, b, cs, ⟨s, cr, e, h2, h3⟩ => by
    obtain ⟨ca, cb, e2, ha, hb⟩ := KidsAt.split h3
    exact ⟨tC _ s ++ ca, cb, by rw [e, e2, List.append_assoc], ⟨s, ca, rfl, h2, ha⟩, hb⟩
theorem KidT.one {w : World} {P : Nat → Prop} {a : F} {s : Value} (h : KidT w P a s) : s.oneCell' = true := by
  obtain ⟨ck, _, ⟨_, e⟩ | ⟨_, g, cap, e, _⟩⟩ := h <;> rw [e] <;> rfl
theorem KidT.form {w : World} {P : Nat → Prop} {a : F} {s : Value} (h : KidT w P a s) : ∃ ad c, s = .slice ad a.len c := by
  obtain ⟨ck, _, ⟨e0, e⟩ | ⟨_, g, cap, e, _⟩⟩ := h
  · exact ⟨_, _, by rw [e0]; exact e⟩
  · exact ⟨_, _, e⟩
theorem KidT.nil {w : World} {P : Nat → Prop} : KidT w P .nil (.slice none 0 0) := ⟨[], rfl, .inl ⟨rfl, rfl⟩⟩
/-- The kid behind the first ones. -/
theorem KidT.kid {w : World} {P : Nat → Prop} {a k r : F} {x : Pt} {s : Value} (h : KidT w P (a.app (.cons x k r)) s) : ∃ g cap sx, s = .slice (some ⟨g, 0, none⟩) (a.app (.cons x k r)).len cap ∧ P g ∧ g < w.heap.size ∧ KidT w P k sx ∧
    w.cell? ⟨g, a.len * 2, none⟩ = some (.int .i64 (tcon x)) ∧ w.cell? ⟨g, a.len * 2 + 1, none⟩ = some sx := by
  obtain ⟨ck, hk, ⟨e0, e⟩ | ⟨_, g, cap, e, hP, hg, hc⟩⟩ := h
  · rw [F.app_len] at e0; simp [F.len] at e0
  · obtain ⟨ca, cb, e2, ha, sx, cr, e3, h2, h3⟩ := hk.split
    have hl := ha.len
    refine ⟨g, cap, sx, e, hP, hg, h2, hc _ _ ?_, hc _ _ ?_⟩ <;>
      (rw [e2, e3, ← hl]; simp [tC])

theorem tC_one (x : Pt) (s : Value) (hs : s.oneCell' = true) : ∀ u ∈ tC x s, u.oneCell' = true := by
  intro u hu
  simp only [tC, List.mem_cons, List.not_mem_nil, or_false] at hu
  rcases hu with rfl | rfl
  · rfl
  · exact hs
theorem tC_cells {w : World} {g : Nat} {x : Pt} {s : Value} {t : TypeId} (h : w.heap[g]? = some (.cells #[.int .i64 (tcon x), s] t (0, 0))) :
    ∀ j u, (tC x s)[j]? = some u → w.cell? ((⟨g, 0, none⟩ : Addr).add j) = some u := by
  intro j u hu
  have hadd : (⟨g, 0, none⟩ : Addr).add j = ⟨g, j, none⟩ := by unfold Addr.add; split <;> simp_all
  rw [hadd, cell_of_blk h, ← hu]
  simp [tC]
theorem tOwn_keep {w w' : World} {base n size : Nat} {e : TypeId} {v : Value} {xs : List Value} (h : w.ownsRow base e size v n xs) (hk : ∀ k, base ≤ k → k < w.heap.size → w'.heap[k]? = w.heap[k]?) : w'.ownsRow base e size v n xs := by
  refine ⟨h.1, ?_⟩
  rcases h.2 with h0 | ⟨g, cap, cur, hv, hg, hh, rest⟩
  · exact .inl h0
  · exact .inr ⟨g, cap, cur, hv, hg, (hk g hg (Array.getElem?_eq_some_iff.1 hh).1).trans hh, rest⟩
theorem tOwn_some {w : World} {base n size : Nat} {e : TypeId} {v : Value} {xs : List Value} (h : w.ownsRow base e size v n xs) (hn : 0 < n) : ∃ g cap, v = .slice (some ⟨g, 0, none⟩) n cap ∧ base ≤ g ∧ g < w.heap.size := by
  rcases h.2 with ⟨_, h0⟩ | ⟨g, cap, cur, hv, hg, hh, rest⟩
  · omega
  · exact ⟨g, cap, hv, hg, (Array.getElem?_eq_some_iff.1 hh).1⟩
theorem tOwn_lies {w : World} {base n size : Nat} {e : TypeId} {s : Value} {cs : List Value} (h : w.ownsRow base e size s n cs) (hn : 0 < n) : ∃ g cap, s = .slice (some ⟨g, 0, none⟩) n cap ∧ base ≤ g ∧ g < w.heap.size ∧ ∀ j v, cs[j]? = some v → w.cell? ⟨g, j, none⟩ = some v := by
  rcases h.2 with ⟨_, h0⟩ | ⟨g, cap, cur, hv, hg, hh, h1, h2, h3, h4⟩
  · omega
  · refine ⟨g, cap, hv, hg, (Array.getElem?_eq_some_iff.1 hh).1, fun j v hj => ?_⟩
    have hlt : j < n * size := by rw [← h.1]; exact (List.getElem?_eq_some_iff.1 hj).1
    rw [cell_of_blk hh, ← hj, ← h4, List.getElem?_take_of_lt hlt]
    simp

theorem infoT : (Try.prog.info? 50).map (fun i => (i.zero, i.size, i.bytes)) = some (some (.agg #[.int .i64 0, .slice none 0 0]), 2, 32) := by kernel_rfl
theorem infoPartsT {P : Program} {t : TypeId} {z : Option Value} {sz by_ : Nat} (h : (P.info? t).map (fun i => (i.zero, i.size, i.bytes)) = some (z, sz, by_)) : ∃ i, P.info? t = some i ∧ i.zero = z ∧ i.size = sz ∧ i.bytes = by_ := by
  obtain ⟨i, hi, e⟩ := Option.map_eq_some_iff.1 h
  simp only [Prod.mk.injEq] at e
  exact ⟨i, hi, e.1, e.2.1, e.2.2⟩
end Go.Proofs.Ytmlpnmdckgppnaa.W
