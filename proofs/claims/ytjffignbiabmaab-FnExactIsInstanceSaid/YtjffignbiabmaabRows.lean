/-
  No cell of these rows narrows 'for every input' (looked for: loops, veiled, ifaces, maps, wideKeys, modest, calm, conditions, laid).
  DERIVED. THE GIVEN ROWS OF THIS SEAT. 4 by the template 'for every input the law returns true; each argument reads behind the call as it read before'; 0 by the template 'total and deterministic' (their statements: YtjffignbiabmaabTotals.lean).
  GIVEN WITH THE SEED: the statements are not yours to turn. If you find one false, say at which input.
  Laid BY PROGRAM, IN A SANDBOX (cutbox-rows.mjs): the forced cells as the released guide's own fill.sh prints them over the translation 4f2879e6512cc4b7… (all of the seat's roots in one cut). By AI agents, Wed Nov 11 2026. No macro, syntax, notation, axiom, sorry.
-/
import Derived.Test.YtjffignbiabmaabChecked
import GoSem.Claim
import GoSem.ClaimJoined
import GoSem.ClaimMapViews
import Derived.JoinedTies
import Derived.KernelRfl
namespace Go.Proofs.Ytjffignbiabmaab
/- THE CELL 'sum', in the pinned program and in every row, IS THE sha256 OF THE DUMP (.gsa) THAT YtjffignbiabmaabProg.lean LOADS. Nothing in Lean hashes anything: it is a label: what it is worth is what the hold of that sum in a sandbox is worth. -/
noncomputable def Try.pinned : Pinned := { name := "ytjffignbiabmaab", sum := "4f2879e6512cc4b737d5dbe5abbfd9a783766f3cad7c4c268f665a8d4cf14150", checked := Try.checked }
namespace Rows
def none {H : Type} : Left H := { results := [], args := [] }

/-- 'laws.FnExactLeadsTo': WHATEVER THE INPUT: true; the input reads as it did. -/
def fnExactLeadsToSpec : ChangeSpec := { name := "fnExactLeadsTo", fn := fun _ => fun
  | [d1, d2] => { results := [.lit (.bool true)], args := [d1, d2] }
  | _ => none }
def fnExactLeadsToRow : OpenClaim := { program := "ytjffignbiabmaab", sum := "4f2879e6512cc4b737d5dbe5abbfd9a783766f3cad7c4c268f665a8d4cf14150", func := "loop.example/g00339/laws.FnExactLeadsTo", spec := "fnExactLeadsTo", unfollowed := true, recurses := true, apart := false }
def FnExactLeadsToSaid : Prop := fnExactLeadsToRow.holds Try.pinned (OpenSpec.ofChange fnExactLeadsToSpec)

/-- ITS FALSE NEIGHBOUR: 'it returns false'. Refute it at one input. -/
def fnExactLeadsToWrong : ChangeSpec := { name := "fnExactLeadsTo", fn := fun _ => fun
  | [d1, d2] => { results := [.lit (.bool false)], args := [d1, d2] }
  | _ => none }
def FnExactLeadsToWrongFalsely : Prop := fnExactLeadsToRow.holds Try.pinned (OpenSpec.ofChange fnExactLeadsToWrong)

/-- 'laws.FnExactGoodType': WHATEVER THE INPUT: true; the input reads as it did. -/
def fnExactGoodTypeSpec : ChangeSpec := { name := "fnExactGoodType", fn := fun _ => fun
  | [d] => { results := [.lit (.bool true)], args := [d] }
  | _ => none }
def fnExactGoodTypeRow : OpenClaim := { program := "ytjffignbiabmaab", sum := "4f2879e6512cc4b737d5dbe5abbfd9a783766f3cad7c4c268f665a8d4cf14150", func := "loop.example/g00339/laws.FnExactGoodType", spec := "fnExactGoodType", recurses := true, apart := false }
def FnExactGoodTypeSaid : Prop := fnExactGoodTypeRow.holds Try.pinned (OpenSpec.ofChange fnExactGoodTypeSpec)

/-- ITS FALSE NEIGHBOUR: 'it returns false'. Refute it at one input. -/
def fnExactGoodTypeWrong : ChangeSpec := { name := "fnExactGoodType", fn := fun _ => fun
  | [d] => { results := [.lit (.bool false)], args := [d] }
  | _ => none }
def FnExactGoodTypeWrongFalsely : Prop := fnExactGoodTypeRow.holds Try.pinned (OpenSpec.ofChange fnExactGoodTypeWrong)

/-- 'laws.FnExactInferType': WHATEVER THE INPUT: true; the input reads as it did. -/
def fnExactInferTypeSpec : ChangeSpec := { name := "fnExactInferType", fn := fun _ => fun
  | [d] => { results := [.lit (.bool true)], args := [d] }
  | _ => none }
def fnExactInferTypeRow : OpenClaim := { program := "ytjffignbiabmaab", sum := "4f2879e6512cc4b737d5dbe5abbfd9a783766f3cad7c4c268f665a8d4cf14150", func := "loop.example/g00339/laws.FnExactInferType", spec := "fnExactInferType", unfollowed := true, recurses := true, apart := false }
def FnExactInferTypeSaid : Prop := fnExactInferTypeRow.holds Try.pinned (OpenSpec.ofChange fnExactInferTypeSpec)

/-- ITS FALSE NEIGHBOUR: 'it returns false'. Refute it at one input. -/
def fnExactInferTypeWrong : ChangeSpec := { name := "fnExactInferType", fn := fun _ => fun
  | [d] => { results := [.lit (.bool false)], args := [d] }
  | _ => none }
def FnExactInferTypeWrongFalsely : Prop := fnExactInferTypeRow.holds Try.pinned (OpenSpec.ofChange fnExactInferTypeWrong)

/-- 'laws.FnExactIsInstance': WHATEVER THE INPUT: true; the input reads as it did. -/
def fnExactIsInstanceSpec : ChangeSpec := { name := "fnExactIsInstance", fn := fun _ => fun
  | [d1, d2] => { results := [.lit (.bool true)], args := [d1, d2] }
  | _ => none }
def fnExactIsInstanceRow : OpenClaim := { program := "ytjffignbiabmaab", sum := "4f2879e6512cc4b737d5dbe5abbfd9a783766f3cad7c4c268f665a8d4cf14150", func := "loop.example/g00339/laws.FnExactIsInstance", spec := "fnExactIsInstance", recurses := true, apart := false }
def FnExactIsInstanceSaid : Prop := fnExactIsInstanceRow.holds Try.pinned (OpenSpec.ofChange fnExactIsInstanceSpec)

/-- ITS FALSE NEIGHBOUR: 'it returns false'. Refute it at one input. -/
def fnExactIsInstanceWrong : ChangeSpec := { name := "fnExactIsInstance", fn := fun _ => fun
  | [d1, d2] => { results := [.lit (.bool false)], args := [d1, d2] }
  | _ => none }
def FnExactIsInstanceWrongFalsely : Prop := fnExactIsInstanceRow.holds Try.pinned (OpenSpec.ofChange fnExactIsInstanceWrong)

/- THE SECOND FORM. 'bulk': how many values and letters a reading holds, each counted each time it is reached (what is shared counts as often as it is met; a slice's spare places count too). A statement '..UptoSaid' is the law's where the arguments, and the package variables that the reading takes, are together of bulk at most 1048576: NARROWER than '..Said'. Prove '..Said' where nothing that the law and all that it calls make is longer than what came in: it says more and counts as full. Else prove '..UptoSaid'. A law counts once. -/
mutual
def uptoBulk {H : Type} : DataW H → Nat
  | .lit (.string bytes) => bytes.length + 1
  | .lit _ => 1
  | .nil => 1
  | .ptr d => uptoBulk d + 1
  | .slice elems spare => uptoBulkAll elems + uptoBulkAll spare + 1
  | .agg parts => uptoBulkAll parts + 1
  | .iface _ d => uptoBulk d + 1
  | .map entries => uptoBulkEntries entries + 1
  | .held _ => 1
def uptoBulkAll {H : Type} : List (DataW H) → Nat
  | [] => 0
  | d :: r => uptoBulk d + uptoBulkAll r
def uptoBulkEntries {H : Type} : List (Lit × DataW H) → Nat
  | [] => 0
  | x :: r => uptoBulkEntry x + uptoBulkEntries r
def uptoBulkEntry {H : Type} : Lit × DataW H → Nat
  | (.string bytes, d) => bytes.length + uptoBulk d + 1
  | (_, d) => uptoBulk d + 1
 end
def uptoSmall : (H : Type) → List (DataW H) → Bool := fun _ ds => decide (uptoBulkAll ds ≤ 1048576)
def OpenSpec.upto (s : _root_.Go.ChangeSpec) : _root_.Go.OpenSpec := { _root_.Go.OpenSpec.ofChange s with cond := some uptoSmall }

/-- 'laws.FnExactLeadsTo', WHERE WHAT IT READS IS OF BULK AT MOST 1048576: true; the input reads as it did. -/
def fnExactLeadsToUptoRow : OpenClaim := { program := "ytjffignbiabmaab", sum := "4f2879e6512cc4b737d5dbe5abbfd9a783766f3cad7c4c268f665a8d4cf14150", func := "loop.example/g00339/laws.FnExactLeadsTo", spec := "fnExactLeadsTo", unfollowed := true, recurses := true, apart := false, narrowed := true }
def FnExactLeadsToUptoSaid : Prop := fnExactLeadsToUptoRow.holds Try.pinned (OpenSpec.upto fnExactLeadsToSpec)

/-- 'laws.FnExactGoodType', WHERE WHAT IT READS IS OF BULK AT MOST 1048576: true; the input reads as it did. -/
def fnExactGoodTypeUptoRow : OpenClaim := { program := "ytjffignbiabmaab", sum := "4f2879e6512cc4b737d5dbe5abbfd9a783766f3cad7c4c268f665a8d4cf14150", func := "loop.example/g00339/laws.FnExactGoodType", spec := "fnExactGoodType", recurses := true, apart := false, narrowed := true }
def FnExactGoodTypeUptoSaid : Prop := fnExactGoodTypeUptoRow.holds Try.pinned (OpenSpec.upto fnExactGoodTypeSpec)

/-- 'laws.FnExactInferType', WHERE WHAT IT READS IS OF BULK AT MOST 1048576: true; the input reads as it did. -/
def fnExactInferTypeUptoRow : OpenClaim := { program := "ytjffignbiabmaab", sum := "4f2879e6512cc4b737d5dbe5abbfd9a783766f3cad7c4c268f665a8d4cf14150", func := "loop.example/g00339/laws.FnExactInferType", spec := "fnExactInferType", unfollowed := true, recurses := true, apart := false, narrowed := true }
def FnExactInferTypeUptoSaid : Prop := fnExactInferTypeUptoRow.holds Try.pinned (OpenSpec.upto fnExactInferTypeSpec)

/-- 'laws.FnExactIsInstance', WHERE WHAT IT READS IS OF BULK AT MOST 1048576: true; the input reads as it did. -/
def fnExactIsInstanceUptoRow : OpenClaim := { program := "ytjffignbiabmaab", sum := "4f2879e6512cc4b737d5dbe5abbfd9a783766f3cad7c4c268f665a8d4cf14150", func := "loop.example/g00339/laws.FnExactIsInstance", spec := "fnExactIsInstance", recurses := true, apart := false, narrowed := true }
def FnExactIsInstanceUptoSaid : Prop := fnExactIsInstanceUptoRow.holds Try.pinned (OpenSpec.upto fnExactIsInstanceSpec)

end Rows
end Go.Proofs.Ytjffignbiabmaab
