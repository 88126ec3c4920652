/-
  The contract of the specification's JoinTokens. Conditions: at most 1048576 tokens, texts of at most 1048576 bytes.
-/
import Derived.Test.YtjffignbiabmaaaDoorTokR
import Derived.Test.YtjffignbiabmaaaDoorNeed2
namespace Go.Proofs.YtjffignbiabmaaaDoor.W.T
open Go.ChangeShapes Go.WideShapes Go.ChangeAt Go.RowKit

def goodT (x : Tk) : Bool := goodB x.k x.n x.t x.a
def txtT (x : Tk) : ByteArray := txtOf x.k x.n x.t
def needT (x y : Tk) : Bool := needB x.k x.n x.t y.k y.n y.t
/-- Does a blank stand ahead of the i-th token? -/
def gapB (l : List Tk) : Nat → Bool
  | 0 => false
  | i + 1 => match l[i]?, l[i + 1]? with
    | some x, some y => needT x y
    | _, _ => false
def txtAt (l : List Tk) (i : Nat) : ByteArray := match l[i]? with
  | some x => txtT x
  | none => ⟨#[]⟩
/-- The first i tokens joined. -/
def joinTo (l : List Tk) : Nat → ByteArray
  | 0 => ⟨#[]⟩
  | i + 1 => (if gapB l i = true then joinTo l i ++ ⟨#[32]⟩ else joinTo l i) ++ txtAt l i
def joinOk (l : List Tk) : Bool := l.all goodT && (decide (l.length ≤ 120) && decide ((joinTo l l.length).size ≤ 300))
def joinS (l : List Tk) : ByteArray := if joinOk l = true then joinTo l l.length else ⟨#[]⟩

theorem join_gap {l : List Tk} {i : Nat} (hi : i < l.length) (h : gapB l i = true) : joinTo l (i + 1) = joinTo l i ++ ⟨#[32]⟩ ++ txtT l[i] := by
  simp [joinTo, h, txtAt, List.getElem?_eq_getElem hi]
theorem join_no {l : List Tk} {i : Nat} (hi : i < l.length) (h : gapB l i = false) : joinTo l (i + 1) = joinTo l i ++ txtT l[i] := by
  simp [joinTo, h, txtAt, List.getElem?_eq_getElem hi]
theorem gap_succ {l : List Tk} {i : Nat} (hi : i + 1 < l.length) : gapB l (i + 1) = needT l[i] l[i + 1] := by
  simp [gapB, List.getElem?_eq_getElem hi, List.getElem?_eq_getElem (show i < l.length by omega)]
theorem join_bad {l : List Tk} {i : Nat} (hi : i < l.length) (h : goodT l[i] = false) : joinOk l = false := by
  have : l.all goodT = false := by
    rw [Bool.eq_false_iff]; intro hc; rw [List.all_eq_true] at hc; rw [hc _ (List.getElem_mem hi)] at h; cases h
  simp [joinOk, this]
theorem joinS_no {l : List Tk} (h : joinOk l = false) : joinS l = ⟨#[]⟩ := if_neg (by rw [h]; simp)
theorem joinS_yes {l : List Tk} (h : joinOk l = true) : joinS l = joinTo l l.length := if_pos h

theorem bel_drewN {w w1 : World} {n : Nat} (h : Below (w.drewN n).heap.size (w.drewN n) w1) : Below w.heap.size w w1 := ⟨h.os, h.tape, h.output, h.size, h.block⟩
end Go.Proofs.YtjffignbiabmaaaDoor.W.T
