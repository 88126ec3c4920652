/-
  Terms shifted: contracts of the specification's ShiftTerm, of the program's closure and of its ShiftTerm. Conditions: at most 1048576 cells.
-/
import Derived.Test.YtbimfnnbfbfdoabTeU
import Derived.Test.YtbimfnnbfbfdoabTeI
namespace Go.Proofs.Ytbimfnnbfbfdoab.W
open Go.ChangeShapes Go.WideShapes Go.ChangeAt Go.RowKit
set_option linter.unusedVariables false

/-- What the closure tells of a variable, and whether it falls below. -/
def shV (by_ : Int) (f : Nat) (_ : Bool) (n : Int) (d : Nat) : F := .cons ⟨1, if n - (d : Int) < (f : Int) then n else n + by_⟩ .nil .nil
def shB (by_ : Int) (f : Nat) (s : Bool) (n : Int) (d : Nat) : Bool := if n - (d : Int) < (f : Int) then s else s || decide (n - (d : Int) + by_ < (f : Int))
def boO (s : Bool) : Obj := .cells #[.bool s] 4 (0, 0)

def inO (n : Int) : Obj := .cells #[.int .i64 n] 3 (0, 0)
/-- What the closure's variables hold. -/
def shO (by_ : Int) (f cb fb bb : Nat) (s : Bool) (w : World) : Prop := w.heap[cb]? = some (boO s) ∧ w.heap[fb]? = some (inO (f : Int)) ∧ w.heap[bb]? = some (inO by_)
theorem shO.inv {by_ : Int} {f cb fb bb c : Nat} {s : Bool} {w : World} (h : shO by_ f cb fb bb s w) : Inv c (shO by_ f cb fb bb s) w := Inv.and (Inv.blk h.1) (Inv.and (Inv.blk h.2.1) (Inv.blk h.2.2))

/-! ### what is shifted, on both sides -/
def Bd (by_ : Int) (f : Nat) (l : List Int) : Bool := l.any fun m => decide ((f : Int) ≤ m) && decide (m + by_ < (f : Int))
theorem mem_put (l : List Int) (n x : Int) : x ∈ put l n ↔ x ∈ l ∨ x = n := by
  unfold put
  split
  · rename_i h
    have := List.mem_of_getElem? h
    constructor
    · exact .inl
    · rintro (h | rfl)
      · exact h
      · exact this
  · rw [List.mem_append, List.mem_cons]
    constructor
    · rintro (h | rfl | h)
      · exact .inl (List.mem_of_mem_take h)
      · exact .inr rfl
      · exact .inl (List.mem_of_mem_drop h)
    · rintro (h | rfl)
      · rw [← List.take_append_drop (putAt l n) l, List.mem_append] at h
        rcases h with h | h
        · exact .inl h
        · exact .inr (.inr h)
      · exact .inr (.inl rfl)
theorem Bd_put (by_ : Int) (f : Nat) (l : List Int) (n : Int) : Bd by_ f (put l n) = (Bd by_ f l || (decide ((f : Int) ≤ n) && decide (n + by_ < (f : Int)))) := by
  unfold Bd
  rw [Bool.eq_iff_iff]
  simp only [List.any_eq_true, Bool.or_eq_true]
  constructor
  · rintro ⟨x, hx, h⟩
    rcases (mem_put l n x).1 hx with hx | rfl
    · exact .inl ⟨x, hx, h⟩
    · exact .inr h
  · rintro (⟨x, hx, h⟩ | h)
    · exact ⟨x, (mem_put l n x).2 (.inl hx), h⟩
    · exact ⟨n, (mem_put l n n).2 (.inr rfl), h⟩
theorem shift_bits (by_ : Int) (f : Nat) : ∀ (a : F) (pk : Int) (d i : Nat) (o : List Int), a.ok → (wv (shV by_ f) (shB by_ f) pk d i a (Bd by_ f o)).2 = Bd by_ f (fre pk d i a o)
  | .nil, _, _, _, _, _ => rfl
  | .cons x k r, pk, d, i, o, h => by
    obtain ⟨g1, l1, o1, r1⟩ := ok_cons h
    by_cases hx : x.k = 1
    · have hk0 : k = .nil := F.len_0 (by rw [l1, hx]; rfl)
      have hs : shB by_ f (Bd by_ f o) x.n (d + binds pk i) = Bd by_ f (fr1 (d + binds pk i) x k o) := by
        unfold shB fr1
        by_cases hd : ((d + binds pk i : Nat) : Int) ≤ x.n
        · rw [if_pos (show x.k = 1 ∧ _ from ⟨hx, hd⟩), Bd_put]
          split
          · rename_i hl
            rw [decide_eq_false (show ¬ (f : Int) ≤ x.n - ((d + binds pk i : Nat) : Int) by omega)]; simp
          · rename_i hl
            rw [decide_eq_true (show (f : Int) ≤ x.n - ((d + binds pk i : Nat) : Int) by omega)]; simp
        · rw [if_pos (show x.n - ((d + binds pk i : Nat) : Int) < (f : Int) by omega), if_neg (fun hc => hd hc.2), hk0]
          rfl
      simp only [wv, hx, if_true]
      rw [hs, shift_bits by_ f r pk d (i + 1) _ r1, fre_cons]
    · have hs : fr1 (d + binds pk i) x k o = fre x.k (d + binds pk i) 0 k o := if_neg (fun hc => hx hc.1)
      simp only [wv, hx, if_false]
      rw [shift_bits by_ f k x.k (d + binds pk i) 0 o o1, shift_bits by_ f r pk d (i + 1) _ r1, fre_cons, hs]
theorem shift_tree (by_ : Int) (f : Nat) : ∀ (a : F) (pk : Int) (d i : Nat) (s : Bool), a.ok → (wv (shV by_ f) (shB by_ f) pk d i a s).1 = shf by_ pk (f + d) i a
  | .nil, _, _, _, _, _ => rfl
  | .cons x k r, pk, d, i, s, h => by
    obtain ⟨g1, l1, o1, r1⟩ := ok_cons h
    by_cases hx : x.k = 1
    · have hk0 : k = .nil := F.len_0 (by rw [l1, hx]; rfl)
      simp only [wv, hx, if_true, shf]
      rw [shift_tree by_ f r pk d (i + 1) _ r1, hk0]
      show F.cons _ .nil _ = _
      congr 1
      obtain ⟨xk, xn⟩ := x
      simp only at hx
      subst hx
      unfold shc
      by_cases hd : xn - ((d + binds pk i : Nat) : Int) < (f : Int)
      · rw [if_pos hd, if_neg (by simp; omega)]
      · rw [if_neg hd, if_pos (by simp; omega)]
    · simp only [wv, hx, if_false, shf]
      rw [shift_tree by_ f k x.k (d + binds pk i) 0 s o1, shift_tree by_ f r pk d (i + 1) _ r1]
      have : shc by_ (f + d + binds pk i) x = x := if_neg (fun hc => hx hc.1)
      rw [this, show f + (d + binds pk i) = f + d + binds pk i by omega]
theorem shf_fit (by_ : Int) : ∀ (a : F) (pk : Int) (f i : Nat), a.fit → (shf by_ pk f i a).fit
  | .nil, _, _, _, _ => trivial
  | .cons x k r, pk, f, i, ⟨h1, h2, h3, h4, h5⟩ => by
    have hk : (shc by_ (f + binds pk i) x).k = x.k := by unfold shc; split <;> rfl
    refine ⟨by rw [hk]; exact h1, fun h => ?_, by rw [hk, shf_len]; exact h3, shf_fit by_ k _ _ _ h4, shf_fit by_ r _ _ _ h5⟩
    rw [hk] at h
    have : shc by_ (f + binds pk i) x = x := if_neg (fun hc => by have := hc.1; omega)
    rw [this]; exact h2 h

/-- The cells of a shifted term; none where it is refused ahead. -/
def shR (l : List Cc) (by_ f : Int) : Option (List Cc) :=
  match treeT l with
  | some (.cons x k _) => if (inB by_ (-50) 50 && inB f 0 99 && !Bd by_ f.toNat (fr1 0 x k [])) = true then some (shc by_ f.toNat x :: (shf by_ x.k f.toNat 0 k).flat) else none
  | _ => none
def rL (r : Option (List Cc)) : List Cc := match r with | some cs => gd cs | none => []
def rB (r : Option (List Cc)) : Bool := match r with | some cs => goodT cs | none => false
/-- What both sides tell of such a result. -/
def RS (w : World) (r : Option (List Cc)) (e : Ending) (w' : World) : Prop := ∃ s', e = .returned (.tuple #[s', .bool (rB r)]) ∧ w'.ownsRow w.heap.size 46 2 s' (rL r).length (cv (rL r)) ∧ Below w.heap.size w w'
end Go.Proofs.Ytbimfnnbfbfdoab.W
