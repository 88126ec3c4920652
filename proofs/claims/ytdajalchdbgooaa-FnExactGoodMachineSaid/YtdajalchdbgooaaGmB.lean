/-
  The contract of l6Part. Conditions: closed terms, good bindings. Written by wip/build/mk_gm.py.
-/
import Derived.Test.YtdajalchdbgooaaGmB1
import Derived.Test.YtdajalchdbgooaaGmB2
import Derived.Test.YtdajalchdbgooaaGmB3
import Derived.Test.YtdajalchdbgooaaGmB4
import Derived.Deep.RegionHeld3
import Derived.Deep.RegionLaw
import Derived.Deep.AppendLies
import Derived.Deep.CutRange
namespace Go.Proofs.Ytdajalchdbgooaa.W
open Go.ChangeShapes Go.WideShapes Go.ChangeAt Go.RowKit
set_option linter.unusedVariables false
set_option linter.unusedSimpArgs false

theorem l6Part_any (cb0 : Nat) (ad : Option Addr) (c : Nat) (l : List Cc) (a : F) (d : Bool) (p e x : Int) (sf sv : Value) (ab : Option Addr) (cb nv : Nat) (bs : List Bd) (pl env : Int) (w : World) (hCl : Cl l a) (hC : CD w cb0 (.slice ad l.length c) l.length a) (h : BdRow w ab bs) (hb : bsOk nv bs = true) (hl : bs.length ≤ 1048576) :
    Calls Try.prog 75 #[.pointer (some ⟨cb0, 0, none⟩), .agg #[.bool d, .int .i64 p, .int .i64 e, .int .i64 x, sf, sv, .slice ab bs.length cb], .int .i64 pl, .int .i64 env] w fun r w' => r = .returned (.bool (pOk a l.length bs pl env)) ∧ Below w.heap.size w w' := by
  by_cases h0 : 0 ≤ pl
  · by_cases h1 : pl < (l.length : Int)
    · by_cases h2 : -1 ≤ env ∧ env < (bs.length : Int)
      · by_cases hN : (bw bs env).1 = tV (ndT a) pl.toNat
        · rw [pOk_iff.2 ⟨⟨h0, h1⟩, h2, hN⟩]
          exact l6Part_ok cb0 ad c l a d p e x sf sv ab cb nv bs pl env w hCl hC h hb hl h0 h1 h2 hN
        · rw [show pOk a l.length bs pl env = false by rw [Bool.eq_false_iff]; intro hh; exact hN (pOk_iff.1 hh).2.2]
          exact l6Part_not cb0 ad c l a d p e x sf sv ab cb nv bs pl env w hCl hC h hb hl h0 h1 h2 hN
      · rw [show pOk a l.length bs pl env = false by rw [Bool.eq_false_iff]; intro hh; exact h2 (pOk_iff.1 hh).2.1]
        exact l6Part_env cb0 ad c l a d p e x sf sv ab cb nv bs pl env w hCl hC h hb hl h0 h1 h2
    · rw [show pOk a l.length bs pl env = false by rw [Bool.eq_false_iff]; intro hh; exact h1 (pOk_iff.1 hh).1.2]
      exact l6Part_far cb0 ad c l a d p e x sf sv ab cb nv bs pl env w hCl hC h hb hl h0 h1
  · rw [show pOk a l.length bs pl env = false by rw [Bool.eq_false_iff]; intro hh; exact h0 (pOk_iff.1 hh).1.1]
    exact l6Part_neg cb0 ad c l a d p e x sf sv ab cb nv bs pl env w hCl hC h hb hl h0
end Go.Proofs.Ytdajalchdbgooaa.W
