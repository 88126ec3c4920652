/-
  Rows of tokens, wherever they lie. No program here.
-/
import Derived.Test.YtmnicilgenpnfaaDoorLow
namespace Go.Proofs.YtmnicilgenpnfaaDoor.W.T
open Go.ChangeShapes Go.WideShapes Go.ChangeAt Go.RowKit

structure Tk where
  k : Int
  n : Int
  t : ByteArray
  a : Int

/-- A row of tokens from a place of a block on. -/
def RowAt (w : World) (b o : Nat) (l : List Tk) : Prop :=
  b < w.heap.size ∧ ∀ i (h : i < l.length), w.cell? ⟨b, o + i * 4, none⟩ = some (.int .i64 l[i].k) ∧ w.cell? ⟨b, o + i * 4 + 1, none⟩ = some (.int .i64 l[i].n) ∧ w.cell? ⟨b, o + i * 4 + 2, none⟩ = some (.string l[i].t) ∧ w.cell? ⟨b, o + i * 4 + 3, none⟩ = some (.int .i64 l[i].a)
theorem RowAt.below {w w' : World} {b o : Nat} {l : List Tk} (h : RowAt w b o l) (hb : Below w.heap.size w w') : RowAt w' b o l := by
  refine ⟨Nat.lt_of_lt_of_le h.1 hb.size, fun i hi => ?_⟩
  obtain ⟨h0, h1, h2, h3⟩ := h.2 i hi
  exact ⟨(hb.cell (p := ⟨b, o + i * 4, none⟩) h.1).trans h0, (hb.cell (p := ⟨b, o + i * 4 + 1, none⟩) h.1).trans h1, (hb.cell (p := ⟨b, o + i * 4 + 2, none⟩) h.1).trans h2, (hb.cell (p := ⟨b, o + i * 4 + 3, none⟩) h.1).trans h3⟩

/-- A slice's row of tokens: none, or a row that lies in a block. -/
def Row (w : World) (ad : Option Addr) (l : List Tk) : Prop := l = [] ∨ ∃ b o, ad = some ⟨b, o, none⟩ ∧ RowAt w b o l
theorem Row.below {w w' : World} {ad : Option Addr} {l : List Tk} (h : Row w ad l) (hb : Below w.heap.size w w') : Row w' ad l := by
  rcases h with h | ⟨b, o, h1, h2⟩
  · exact .inl h
  · exact .inr ⟨b, o, h1, h2.below hb⟩

/-- What a token's place gives a walk. -/
theorem Row.tok {w w' : World} {ad : Option Addr} {l : List Tk} (h : Row w ad l) (hb : Below w.heap.size w w') {i : Nat} (hi : i < l.length) :
    ∃ b o, ad = some ⟨b, o, none⟩ ∧ b < w.heap.size ∧ w'.cell? ⟨b, o + i * 4, none⟩ = some (.int .i64 l[i].k) ∧ w'.cell? ⟨b, o + i * 4 + 1, none⟩ = some (.int .i64 l[i].n) ∧ w'.cell? ⟨b, o + i * 4 + 2, none⟩ = some (.string l[i].t) ∧ w'.cell? ⟨b, o + i * 4 + 3, none⟩ = some (.int .i64 l[i].a) := by
  rcases h with rfl | ⟨b, o, h1, h2⟩
  · simp at hi
  · exact ⟨b, o, h1, h2.1, (h2.below hb).2 i hi⟩
end Go.Proofs.YtmnicilgenpnfaaDoor.W.T
