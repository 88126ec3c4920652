/-
  The reader's four functions at every step; what the program's ParseExpr tells, as a plain function. Conditions: at most 1000 tokens; the table of signs as its text lays it.
-/
import Derived.Test.YtmnicilgenpnfaaDoorPxD
import Derived.Test.YtmnicilgenpnfaaDoorPxE
import Derived.Test.YtmnicilgenpnfaaDoorPxF
import Derived.Test.YtmnicilgenpnfaaDoorLex4
import Derived.Test.YtmnicilgenpnfaaDoorTokE
namespace Go.Proofs.YtmnicilgenpnfaaDoor.W
open Go.ChangeShapes Go.WideShapes Go.ChangeAt Go.RowKit
set_option linter.unusedVariables false
set_option linter.unusedSimpArgs false

theorem PS_all (g : Nat) (ta : Option Addr) (tc : Nat) (l : List T.Tk) (hl : l.length ≤ 1000) (f : Nat) : PS g ta tc l f := by
  induction f using Nat.strongRecOn with
  | ind f ih =>
    cases f with
    | zero => exact ⟨fun d p w _ hp hf => by omega, fun k d p w _ hp hf => by omega, fun d p w _ hp hf => by omega, fun least d p w _ _ hp hf => by omega⟩
    | succ k =>
      have h1 := ih k (Nat.lt_succ_self k)
      exact ⟨readOne_step g ta tc l k hl h1, readAhead_step g ta tc l k hl h1, readBrackets_step g ta tc l k hl h1, readFrom_step g ta tc l k hl (fun f' hf => ih f' (by omega))⟩
theorem readFrom_any (g : Nat) (ta : Option Addr) (tc : Nat) (l : List T.Tk) (hl : l.length ≤ 1000) (w : World) (he : Env w g ta l) (hb : Bk w g (rdC ta l.length tc 0 0 false) 40) :
    Calls Tryd.prog 14 #[.pointer (some ⟨g, 0, none⟩), .int .i64 1] w (PO w g ta l.length tc 0 (rFrom l (4 * l.length + 2) 1 0 0)) :=
  (PS_all g ta tc l hl _).2.2.2 1 0 0 w (by omega) (by omega) (by omega) (by omega) he hb

/-! ### what it tells -/
def tkOf (x : Wd × Nat) : T.Tk := ⟨x.1.kind, x.1.num, x.1.text, (x.2 : Int)⟩
def tkL (l : Toks) : List T.Tk := l.map tkOf
theorem tkL_len (l : Toks) : (tkL l).length = l.length := by simp [tkL]
theorem lexGo_bd (s : ByteArray) : ∀ (f p : Nat) (out : Toks), p ≤ s.size → out.length ≤ 120 → (lexGo s f p out).1.length ≤ 120 ∧ (lexGo s f p out).2.1 ≤ s.size
  | 0, p, out, hp, ho => ⟨ho, Nat.zero_le _⟩
  | f + 1, p, out, hp, ho => by
    unfold lexGo
    split
    · rename_i h
      split
      · exact lexGo_bd s f (p + 1) out (by omega) ho
      · cases hw : wordAt s p with
        | none => exact ⟨by simp, hp⟩
        | some d =>
          have hd := word_len s p hp d hw
          simp only
          split
          · exact ⟨by simp, hp⟩
          · exact lexGo_bd s f (p + d.len) (out ++ [(d, p)]) hd.2 (by simp; omega)
    · exact ⟨ho, Nat.zero_le _⟩
theorem lexT_bd (s : ByteArray) : (lexT s).1.length ≤ 120 ∧ (lexT s).2.1 ≤ s.size := by
  unfold lexT
  split
  · exact ⟨by simp, Nat.zero_le _⟩
  · exact lexGo_bd s s.size 0 [] (Nat.zero_le _) (by simp)
/-- An owned row of tokens as a row of tokens. -/
theorem row_of_own {w : World} {base : Nat} {v : Value} {l : Toks} (h : w.ownsRow base 44 4 v l.length (toksC l)) :
    ∃ ta tc, v = .slice ta (tkL l).length tc ∧ T.Row w ta (tkL l) ∧ (∀ b o, ta = some ⟨b, o, none⟩ → b < w.heap.size) := by
  rw [tkL_len]
  rcases h.2 with ⟨h1, h0⟩ | ⟨g, cap, cur, hv, hg, hh, h1, h2, h3, h4⟩
  · have : l = [] := List.eq_nil_of_length_eq_zero h0
    subst this
    exact ⟨none, 0, h1, .inl rfl, fun b o e => by cases e⟩
  · have hlt := (Array.getElem?_eq_some_iff.1 hh).1
    refine ⟨some ⟨g, 0, none⟩, cap, hv, .inr ⟨g, 0, rfl, hlt, fun i hi => ?_⟩, fun b o e => by simp at e; omega⟩
    rw [tkL_len] at hi
    obtain ⟨g', c', hv', _, _, c0, c1, c2, c3⟩ := own_tok h hi
    rw [hv] at hv'
    have hg' : g' = g := by simp at hv'; exact hv'.1.symm
    subst hg'
    have ht : (tkL l)[i]'(by rw [tkL_len]; exact hi) = tkOf l[i] := by simp [tkL]
    rw [ht]
    refine ⟨?_, ?_, ?_, ?_⟩
    · rw [Nat.zero_add]; exact c0
    · rw [Nat.zero_add]; exact c1
    · rw [Nat.zero_add]; exact c2
    · rw [Nat.zero_add]; exact c3
/-- What is told of how the reader ended. -/
def cls (n : Nat) (l : List T.Tk) (en : Nat) (wh : Bool) : Rz → List Xx × Int × Bool
  | .bad q t => if t then ([], (n : Int), false) else match l[q]? with
    | some x => ([], x.a, false)
    | none => ([], (en : Int), false)
  | .ok e q => match l[q]? with
    | some x => ([], x.a, false)
    | none => if wh then (if 40 < e.flat.length then ([], (n : Int), false) else (e.flat, 0, true)) else ([], (en : Int), false)
def tksOf (s : ByteArray) : List T.Tk := if (lexT s).2.2 then tkL (lexT s).1 else tkL (lexT (s.extract 0 (lexT s).2.1)).1
def enOf (s : ByteArray) : Nat := if (lexT s).2.2 then s.size else (lexT s).2.1
def zOf (s : ByteArray) : Rz := rFrom (tksOf s) (4 * (tksOf s).length + 2) 1 0 0
/-- ParseExpr as a plain function. -/
def pxT (s : ByteArray) : List Xx × Int × Bool := if 300 < s.size then ([], 0, false) else cls s.size (tksOf s) (enOf s) (lexT s).2.2 (zOf s)
theorem tksOf_len (s : ByteArray) : (tksOf s).length ≤ 120 := by
  unfold tksOf
  split
  · rw [tkL_len]; exact (lexT_bd s).1
  · rw [tkL_len]; exact (lexT_bd _).1
theorem zOf_after (s : ByteArray) : After (tksOf s) 0 (zOf s) := (after_all (tksOf s) _).2.2.2.1 1 0 0 (by omega) (by omega)
/-- The post of both ParseExpr. -/
def PX (w : World) (r : List Xx × Int × Bool) (e : Ending) (w' : World) : Prop :=
  ∃ v, e = .returned (.tuple #[v, .int .i64 r.2.1, .bool r.2.2]) ∧ w'.ownsRow w.heap.size 47 3 v r.1.length (xcv r.1) ∧ Below w.heap.size w w'
/-- A box of one's own is no change of what was there. -/
theorem bel_box {a b c : World} {o : Obj} (h1 : Below a.heap.size a b) (h2 : (b.alloc o).grownBy c (some b.heap.size)) : Below a.heap.size a c := by
  have hs := h2.size
  simp at hs
  refine ⟨h2.os.trans h1.os, h2.tape.trans h1.tape, h2.output.trans h1.output, by have := h1.size; omega, fun k hk => ?_⟩
  have hk2 : k < b.heap.size := Nat.lt_of_lt_of_le hk h1.size
  exact ((h2.block k (by simp; omega) (fun e => by simp at e; omega)).trans (heap_alloc_old _ _ hk2)).trans (h1.block k hk)
end Go.Proofs.YtmnicilgenpnfaaDoor.W
