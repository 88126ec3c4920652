/-
  Handlers in memory of one's own: how they stay, and contracts of the marks. Conditions: at most 1048576 rules.
-/
import Derived.Test.YtaddopoafaojdaaHaB
namespace Go.Proofs.Ytaddopoafaojdaa.C
open Go.Proofs.Ytaddopoafaojdaa.W
open Go.ChangeShapes Go.WideShapes Go.ChangeAt Go.RowKit
set_option linter.unusedVariables false

/-- Rules in memory of one's own. -/
def SOwn (w : World) (base : Nat) (s : Value) (l : List Ru) : Prop := w.ownsRow base 62 2 s l.length (rcells 2 Ru.c l)
theorem SOwn.row {w : World} {base : Nat} {q : Int} {ad : Option Addr} {c : Nat} {l : List Ru} (h : SOwn w base (.slice ad l.length c) l) (hl : l.length ≤ 1048576) : HRow w (.agg #[.int .i64 q, .slice ad l.length c]) ⟨q, l⟩ := ⟨ad, c, rfl, RRow.ofOwn h rfl, hl⟩
theorem SOwn.form {w : World} {base : Nat} {s : Value} {l : List Ru} (h : SOwn w base s l) : ∃ ad c, s = .slice ad l.length c := own_form h
theorem SOwn.below {w w' : World} {base : Nat} {s : Value} {l : List Ru} (h : SOwn w base s l) (hb : Below w.heap.size w w') : SOwn w' base s l := own_keep h (fun k _ hk => hb.block k hk)
theorem SOwn.grown {w w' : World} {base : Nat} {s : Value} {l : List Ru} {row : Option Nat} (h : SOwn w base s l) (hg : w.grownBy w' row) (hne : ∀ k, s.ownBlock = some k → row ≠ some k) : SOwn w' base s l := own_grown h hg hne
theorem SOwn.same {w w' : World} {base : Nat} {s : Value} {l : List Ru} (h : SOwn w base s l) (hk : ∀ k, base ≤ k → k < w.heap.size → w'.heap[k]? = w.heap[k]?) : SOwn w' base s l := own_keep h hk
theorem SOwn.lower {w : World} {base base' : Nat} {s : Value} {l : List Ru} (h : SOwn w base s l) (hb : base' ≤ base) : SOwn w base' s l := own_lower h hb
theorem SOwn.ofBlk {w : World} {b base : Nat} {l : List Ru} (h : RuBlk w b l) (hb : base ≤ b) (hl : l.length ≤ 1048576) : SOwn w base (.slice (some ⟨b, 0, none⟩) l.length l.length) l := by
  obtain ⟨cur, hh, h1, h2⟩ := h
  refine ⟨rcells_len _ _ _, .inr ⟨b, l.length, cur, rfl, hb, hh, Nat.le_refl _, by unfold maxLen; omega, h1, ?_⟩⟩
  apply List.ext_getElem?
  intro j
  by_cases hj : j < l.length * 2
  · rw [List.getElem?_take_of_lt hj]
    obtain ⟨i, r, rfl, hr⟩ : ∃ i r, j = i * 2 + r ∧ r < 2 := ⟨j / 2, j % 2, by omega, by omega⟩
    rw [rcells_at 2 Ru.c l i (by omega) r hr]
    have := h2 i (by omega) (by omega) r hr
    simpa using this
  · rw [List.getElem?_eq_none (by simp; omega), List.getElem?_eq_none (by rw [rcells_len]; omega)]

set_option maxHeartbeats 2000000 in
theorem markHandler_any (q : Int) (ad : Option Addr) (c base n k0 : Nat) (xs : List Value) (w : World) (hn : n ≤ 1048576) (hk0 : k0 ≤ 100000000) (h : w.ownsRow base 62 2 (.slice ad n c) n xs) :
    Calls Try.prog 12 #[.agg #[.int .i64 q, .slice ad n c], .int .i64 (k0 : Int)] w fun e w' => e = .returned (.int .i64 ((k0 + n * 2 : Nat) : Int)) ∧ RMk Ru.mv w' (.slice ad n c) 62 2 k0 n ∧ w.grownBy w' (Value.slice ad n c).ownBlock := by
  have HC := hide (markRuleS_any (.slice ad n c) base n k0 xs (w.alloc (.cells #[.int .i64 q, .slice ad n c] 33)) hn hk0 (h.alloc _))
  obtain ⟨KN, hKN⟩ : ∃ KN, KN = k0 + n * 2 := ⟨_, rfl⟩
  rw [← hKN] at HC ⊢
  clear hKN h hn hk0
  go_enter Try.func12, Try.ntmps12
  go_wp2_with fail
  refine HC.out.mono ?_
  rintro e w1 ⟨rfl, hm, hg⟩
  have HM := hide hm
  have HG := hide hg
  clear hm hg HC
  go_wp2_with fail
  go_ret
  refine ⟨rfl, HM.out, HG.out.os, HG.out.tape, HG.out.output, by have := HG.out.size; simp at this; omega, fun k hk hne => ?_⟩
  rw [HG.out.block k (by simp; omega) hne]
  exact heap_alloc_old _ _ hk
end Go.Proofs.Ytaddopoafaojdaa.C
