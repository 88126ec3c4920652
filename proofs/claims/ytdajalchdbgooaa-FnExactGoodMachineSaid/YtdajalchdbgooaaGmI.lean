/-
  The model of boundAround: what is still to come, and two rows of numbers in memory. No program here.
-/
import Derived.Test.YtdajalchdbgooaaMaR0
namespace Go.Proofs.Ytdajalchdbgooaa.W
open Go.ChangeShapes Go.WideShapes Go.ChangeAt Go.RowKit
set_option linter.unusedVariables false

/-- What a part has to come, the next one first. -/
def psh (k : Int) (b : Nat) : List Nat := (List.range (ar k)).map (fun j => b + binds k j)
/-- What is bound around the places of cells, with what is to come. -/
def pend : List Cc → List Nat → Option (List Nat)
  | [], _ => some []
  | _ :: _, [] => none
  | x :: l, b :: rs => (pend l (psh x.k b ++ rs)).map (b :: ·)
def esF (pk : Int) (d i : Nat) : F → List Nat
  | .nil => []
  | .cons _ _ r => (d + binds pk i) :: esF pk d (i + 1) r
theorem esF_eq (pk : Int) (d : Nat) : ∀ (a : F) (i : Nat), esF pk d i a = (List.range' i a.len).map (fun j => d + binds pk j)
  | .nil, i => rfl
  | .cons x k r, i => by simp only [esF, F.len, List.range'_succ, List.map_cons, esF_eq pk d r (i + 1)]
theorem pend_flat : ∀ (a : F) (pk : Int) (d i : Nat) (t : List Cc) (rest : List Nat), a.ok → pend (a.flat ++ t) (esF pk d i a ++ rest) = (pend t rest).map ((nd pk d i a).map (·.2.1) ++ ·)
  | .nil, pk, d, i, t, rest, _ => by simp [F.flat, esF, nd]
  | .cons x k r, pk, d, i, t, rest, h => by
    obtain ⟨h1, h2, h3, h4⟩ := ok_cons h
    have e1 : psh x.k (d + binds pk i) = esF x.k (d + binds pk i) 0 k := by
      rw [esF_eq, h2, psh, List.range_eq_range']
    simp only [F.flat, esF, List.cons_append, List.append_assoc, pend, e1]
    rw [pend_flat k x.k (d + binds pk i) 0 (r.flat ++ t) (esF pk d (i + 1) r ++ rest) h3, pend_flat r pk d (i + 1) t rest h4]
    cases pend t rest with
    | none => rfl
    | some s => simp [nd]
theorem Cl.pend {l : List Cc} {a : F} (h : Cl l a) : pend l [0] = some ((ndT a).map (·.2.1)) := by
  obtain ⟨x, k, rfl⟩ := F.len_1 h.one
  have := pend_flat (.cons x k .nil) 0 0 0 [] [] h.ok
  rw [List.append_nil, List.append_nil, ← h.flat] at this
  simp only [esF, binds_0', W.pend, Option.map_some] at this
  rw [this]
  simp [ndT]
theorem psh_le {k : Int} {b j : Nat} (hb : b ≤ j) : ∀ y ∈ psh k b, y ≤ j + 1 := by
  intro y hy
  unfold psh at hy
  obtain ⟨i, -, rfl⟩ := List.mem_map.1 hy
  have : binds k i ≤ 1 := by unfold binds; split <;> omega
  omega
theorem psh_len (k : Int) (b : Nat) : (psh k b).length ≤ 3 := by
  unfold psh; rw [List.length_map, List.length_range]; exact ar_le k

def Ic (n : Nat) (r : Nat) : Value := .int .i64 (n : Int)
/-- Two rows of numbers that lie apart: what was told, and what is to come (the next one last). -/
structure TwoR (w : World) (lo : Nat) (so st : Value) (out rs : List Nat) : Prop where
  o : w.ownsRow lo 3 1 so out.length (rcells 1 Ic out)
  s : w.ownsRow lo 3 1 st rs.length (rcells 1 Ic rs.reverse)
  apart : ∀ g, so.ownBlock = some g → st.ownBlock ≠ some g
theorem TwoR.alloc {w : World} {lo : Nat} {so st : Value} {out rs : List Nat} (h : TwoR w lo so st out rs) (ob : Obj) : TwoR (w.alloc ob) lo so st out rs := ⟨h.o.alloc _, h.s.alloc _, h.apart⟩
theorem TwoR.out' {w w' : World} {lo : Nat} {so so' st : Value} {out out' rs : List Nat} (h : TwoR w lo so st out rs) (ho : w'.ownsRow lo 3 1 so' out'.length (rcells 1 Ic out')) (hg : w.grownBy w' so.ownBlock) (ha : Apart w so so') : TwoR w' lo so' st out' rs :=
  ⟨ho, own_grown h.s hg (fun k hk e => h.apart k e hk), fun g hg1 hg2 => by
    rcases ha g hg1 with h1 | h1
    · exact h.apart g h1 hg2
    · have := (h.s.lt g hg2).2; omega⟩
theorem TwoR.stk {w w' : World} {lo : Nat} {so st st' : Value} {out rs rs' : List Nat} (h : TwoR w lo so st out rs) (hs : w'.ownsRow lo 3 1 st' rs'.length (rcells 1 Ic rs'.reverse)) (hg : w.grownBy w' st.ownBlock) (ha : Apart w st st') : TwoR w' lo so st' out rs' :=
  ⟨own_grown h.o hg (fun k hk e => h.apart k hk e), hs, fun g hg1 hg2 => by
    rcases ha g hg2 with h1 | h1
    · exact h.apart g hg1 h1
    · have := (h.o.lt g hg1).2; omega⟩
/-- The next one is taken. -/
theorem TwoR.cut {w : World} {lo : Nat} {so : Value} {sa : Option Addr} {sc b : Nat} {out rs : List Nat} (h : TwoR w lo so (.slice sa (rs.length + 1) sc) out (b :: rs)) : TwoR w lo so (.slice sa rs.length sc) out rs := by
  refine ⟨h.o, ?_, fun g hg => ?_⟩
  · have := own_cut h.s (by simp) (by simp)
    simpa using this
  · have := h.apart g hg
    cases sa with
    | none => simp [Value.ownBlock]
    | some a => simpa [Value.ownBlock] using this
end Go.Proofs.Ytdajalchdbgooaa.W
