/-
  TeQm for terms whose variables may be up to 900000 (written by build/weak.py).
-/
import Derived.Test.YtbimfnnbfbfdoabTeQm
import Derived.Test.YtbimfnnbfbfdoabWkP
import Derived.Test.YtbimfnnbfbfdoabWkTeN
import Derived.Test.YtbimfnnbfbfdoabWkTeU
namespace Go.Proofs.Ytbimfnnbfbfdoab.V
open Go.Proofs.Ytbimfnnbfbfdoab.W
open Go.ChangeShapes Go.WideShapes Go.ChangeAt Go.RowKit
set_option linter.unusedVariables false

def L3PGoal (k : F) : Prop := ∀ (x sx : Cc) (sk : F) (s ss : Value) (K d : Nat) (P Q : Nat → Prop) (w : World), -1000000 ≤ x.n → x.n ≤ 1000000 → -1000000 ≤ sx.n → sx.n ≤ 1000000 → K ≤ 99 → k.len = ar x.k → k.okw → sk.len = ar sx.k → sk.okw → sk.flat.length ≤ 600 → d + k.flat.length ≤ 1000 → KidT w P k s → KidT w Q sk ss →
    Calls Try.prog 78 #[.agg #[.int .i64 x.k, .int .i64 x.n, s], .int .i64 (K : Int), .agg #[.int .i64 sx.k, .int .i64 sx.n, ss], .int .i64 (d : Int)] w fun e w' => ∃ s', e = .returned (.agg #[.int .i64 (sbr K sx d x).k, .int .i64 (sbr K sx d x).n, s']) ∧ KidT w' (fun g => w.heap.size ≤ g) (sbk K sx sk d x k) s' ∧ Below w.heap.size w w'
end Go.Proofs.Ytbimfnnbfbfdoab.V
