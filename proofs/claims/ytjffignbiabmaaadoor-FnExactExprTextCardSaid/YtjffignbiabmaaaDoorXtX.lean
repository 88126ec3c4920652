/-
  The text of an expression: both ExprText. Conditions: at most 1048576 parts; texts of at most 1048576 bytes; the tables read as their texts lay them.
-/
import Derived.Test.YtjffignbiabmaaaDoorXtT
import Derived.Test.YtjffignbiabmaaaDoorXtK
import Derived.Test.YtjffignbiabmaaaDoorJoinI
import Derived.Test.YtjffignbiabmaaaDoorEv3
namespace Go.Proofs.YtjffignbiabmaaaDoor.W.T
open Go.ChangeShapes Go.WideShapes Go.ChangeAt Go.RowKit
set_option linter.unusedVariables false

theorem ba_of {s : ByteArray} {l : List UInt8} (h : s.toList = l) : s = ⟨l.toArray⟩ := by
  apply ByteArray.ext
  apply Array.toList_inj.1
  rw [← h, Lib.toList_data]
theorem signs_good : ∀ t ∈ sgs, signB t = true := by
  intro t ht
  have h0 : ∀ l : List UInt8, (⟨l.toArray⟩ : ByteArray).toList = l := fun l => by rw [Lib.toList_data]
  simp only [sgs, List.mem_cons, List.not_mem_nil, or_false] at ht
  rcases ht with rfl | rfl | rfl | rfl | rfl | rfl | rfl | rfl | rfl | rfl | rfl | rfl | rfl | rfl | rfl | rfl | rfl | rfl | rfl <;> (unfold signB; simp only [Lib.toList_data]; simp [best, bestTo, sgs, longer, stands, Lib.toList_data, ByteArray.size])
theorem sign_good {t : ByteArray} (h : strN t ≠ 0) : signB t = true := by
  rcases strN_cases h with h | h | h | h | h | h | h | h | h | h | h | h <;> rw [ba_of h] <;> exact signs_good _ (by simp [sgs])
theorem sg_good {t : ByteArray} (h : signB t = true) : goodT (sgT t) = true := by
  simp [goodT, sgT, goodB, inB, h]
theorem tks_good : ∀ (e : E) (m : Int), e.ok → ∀ x ∈ tks e m, goodT x = true
  | .leaf x, m, h, y, hy => by
    have hk := behind_0 h.1 h.2
    have hg := h.1
    simp only [tks, List.mem_singleton] at hy
    subst hy
    rcases hk with hk | hk
    · simp [goodX, hk] at hg
      simp [goodT, leafT, goodB, hk, inB] at hg ⊢
      exact hg.1
    · simp [goodX, hk] at hg
      simp [goodT, leafT, goodB, hk, inB]
      exact hg.2
  | .one x a, m, h, y, hy => by
    have hk := behind_1 h.2.1
    simp only [tks, List.mem_cons] at hy
    rcases hy with rfl | hy
    · rcases hk with hk | hk
      · rw [show oneS x = ⟨#[45]⟩ by simp [oneS, hk]]; exact sg_good (signs_good _ (by simp [sgs]))
      · rw [show oneS x = ⟨#[33]⟩ by simp [oneS, hk]]; exact sg_good (signs_good _ (by simp [sgs]))
    · exact tks_good a 8 h.2.2 y hy
  | .two x a b, m, h, y, hy => by
    have hp := two_pos h
    have hs : goodT (sgT x.t) = true := sg_good (sign_good (by omega))
    have ha := tks_good a (lL (strN x.t)) h.2.2.1
    have hb := tks_good b (lR (strN x.t)) h.2.2.2
    have hin : ∀ y ∈ tks a (lL (strN x.t)) ++ sgT x.t :: tks b (lR (strN x.t)), goodT y = true := fun y hy => by
      rcases List.mem_append.1 hy with hy | hy
      · exact ha y hy
      · rcases List.mem_cons.1 hy with rfl | hy
        · exact hs
        · exact hb y hy
    unfold tks at hy
    split at hy
    · simp only [List.cons_append, List.mem_cons, List.mem_append, List.not_mem_nil, or_false] at hy
      rcases hy with rfl | (hy | hy | hy) | rfl
      · exact sg_good (signs_good _ (by simp [sgs]))
      · exact ha y hy
      · subst hy; exact hs
      · exact hb y hy
      · exact sg_good (signs_good _ (by simp [sgs]))
    · exact hin y hy
end Go.Proofs.YtjffignbiabmaaaDoor.W.T
