/-
  The contract of the specification's LexText: the tokens of a text, or the place of the first fault, as the plain function lexT tells them. No conditions but that the text is at most 2^63 - 1 bytes long.
-/
import Derived.Test.YtfbllgjnahechaaLex4
namespace Go.Proofs.Ytfbllgjnahechaa.W
open Go.ChangeShapes Go.WideShapes Go.ChangeAt Go.RowKit

set_option maxHeartbeats 400000 in
theorem specLex_any (s : ByteArray) (w : World) (hs : s.size ≤ maxLen) :
    Calls Try.prog 6 #[.string s] w fun e w' => ∃ v, e = .returned (.tuple #[v, .int .i64 ((lexT s).2.1 : Nat), .bool (lexT s).2.2]) ∧ w'.ownsRow w.heap.size 37 4 v (lexT s).1.length (toksC (lexT s).1) ∧ Below w.heap.size w w' := by
  unfold maxLen at hs
  by_cases h : 300 < s.size
  · have h' : (300 : Int) < (s.size : Int) := by omega
    rw [show lexT s = ([], 0, false) from if_pos h]
    go_enter Try.func6, Try.ntmps6
    go_wp2_with fail
    go_ret3
    exact ⟨_, rfl, World.ownsRow_nil _ _ _ _, Below.refl _ _⟩
  · have h' : ¬ (300 : Int) < (s.size : Int) := by omega
    have h2 : s.size ≤ 1000 := by omega
    have HL : Hid (lexT s = lexR s) := if_neg h
    clear h
    go_enter Try.func6, Try.ntmps6
    go_wp2_with fail
    refine (l1Lex_any s _ h2).mono ?_
    rintro e w1 ⟨v, rfl, ho, hb⟩
    go_wp2_with fail
    go_ret3
    rw [HL.out]
    exact ⟨v, rfl, ho, hb⟩

end Go.Proofs.Ytfbllgjnahechaa.W
