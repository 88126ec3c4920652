/-
  No cell of these rows narrows 'for every input' (looked for: loops, veiled, ifaces, maps, wideKeys, modest, calm, conditions, laid).
  DERIVED. THE GIVEN ROWS OF THIS SEAT. 6 by the template 'for every input the law returns true; each argument reads behind the call as it read before'; 0 by the template 'total and deterministic' (their statements: YtangkpbehpgmiaaTotals.lean).
  GIVEN WITH THE SEED: the statements are not yours to turn. If you find one false, say at which input.
  Laid BY PROGRAM, IN A SANDBOX (cutbox-rows.mjs): the forced cells as the released guide's own fill.sh prints them over the translation a40a086f09a88ac6… (all of the seat's roots in one cut). By AI agents, Wed Nov 11 2026. No macro, syntax, notation, axiom, sorry.
-/
import Derived.Test.YtangkpbehpgmiaaChecked
import GoSem.Claim
import GoSem.ClaimJoined
import GoSem.ClaimMapViews
import Derived.JoinedTies
import Derived.KernelRfl
namespace Go.Proofs.Ytangkpbehpgmiaa
/- THE CELL 'sum', in the pinned program and in every row, IS THE sha256 OF THE DUMP (.gsa) THAT YtangkpbehpgmiaaProg.lean LOADS. Nothing in Lean hashes anything: it is a label: what it is worth is what the hold of that sum in a sandbox is worth. -/
noncomputable def Try.pinned : Pinned := { name := "ytangkpbehpgmiaa", sum := "a40a086f09a88ac6a76aed79e3e8a8ce5c6f0ac023e7b212c0bb7ad8d2fa533f", checked := Try.checked }
namespace Rows
def none {H : Type} : Left H := { results := [], args := [] }

/-- 'laws.FnExactGoodGraph': WHATEVER THE INPUT: true; the input reads as it did. -/
def fnExactGoodGraphSpec : ChangeSpec := { name := "fnExactGoodGraph", fn := fun _ => fun
  | [d] => { results := [.lit (.bool true)], args := [d] }
  | _ => none }
def fnExactGoodGraphRow : OpenClaim := { program := "ytangkpbehpgmiaa", sum := "a40a086f09a88ac6a76aed79e3e8a8ce5c6f0ac023e7b212c0bb7ad8d2fa533f", func := "loop.example/g00339/laws.FnExactGoodGraph", spec := "fnExactGoodGraph", apart := false }
def FnExactGoodGraphSaid : Prop := fnExactGoodGraphRow.holds Try.pinned (OpenSpec.ofChange fnExactGoodGraphSpec)

/-- ITS FALSE NEIGHBOUR: 'it returns false'. Refute it at one input. -/
def fnExactGoodGraphWrong : ChangeSpec := { name := "fnExactGoodGraph", fn := fun _ => fun
  | [d] => { results := [.lit (.bool false)], args := [d] }
  | _ => none }
def FnExactGoodGraphWrongFalsely : Prop := fnExactGoodGraphRow.holds Try.pinned (OpenSpec.ofChange fnExactGoodGraphWrong)

/-- 'laws.FnExactReachedOf': WHATEVER THE INPUT: true; the input reads as it did. -/
def fnExactReachedOfSpec : ChangeSpec := { name := "fnExactReachedOf", fn := fun _ => fun
  | [d] => { results := [.lit (.bool true)], args := [d] }
  | _ => none }
def fnExactReachedOfRow : OpenClaim := { program := "ytangkpbehpgmiaa", sum := "a40a086f09a88ac6a76aed79e3e8a8ce5c6f0ac023e7b212c0bb7ad8d2fa533f", func := "loop.example/g00339/laws.FnExactReachedOf", spec := "fnExactReachedOf", apart := false }
def FnExactReachedOfSaid : Prop := fnExactReachedOfRow.holds Try.pinned (OpenSpec.ofChange fnExactReachedOfSpec)

/-- ITS FALSE NEIGHBOUR: 'it returns false'. Refute it at one input. -/
def fnExactReachedOfWrong : ChangeSpec := { name := "fnExactReachedOf", fn := fun _ => fun
  | [d] => { results := [.lit (.bool false)], args := [d] }
  | _ => none }
def FnExactReachedOfWrongFalsely : Prop := fnExactReachedOfRow.holds Try.pinned (OpenSpec.ofChange fnExactReachedOfWrong)

/-- 'laws.FnExactDominatorsOf': WHATEVER THE INPUT: true; the input reads as it did. -/
def fnExactDominatorsOfSpec : ChangeSpec := { name := "fnExactDominatorsOf", fn := fun _ => fun
  | [d] => { results := [.lit (.bool true)], args := [d] }
  | _ => none }
def fnExactDominatorsOfRow : OpenClaim := { program := "ytangkpbehpgmiaa", sum := "a40a086f09a88ac6a76aed79e3e8a8ce5c6f0ac023e7b212c0bb7ad8d2fa533f", func := "loop.example/g00339/laws.FnExactDominatorsOf", spec := "fnExactDominatorsOf", apart := false }
def FnExactDominatorsOfSaid : Prop := fnExactDominatorsOfRow.holds Try.pinned (OpenSpec.ofChange fnExactDominatorsOfSpec)

/-- ITS FALSE NEIGHBOUR: 'it returns false'. Refute it at one input. -/
def fnExactDominatorsOfWrong : ChangeSpec := { name := "fnExactDominatorsOf", fn := fun _ => fun
  | [d] => { results := [.lit (.bool false)], args := [d] }
  | _ => none }
def FnExactDominatorsOfWrongFalsely : Prop := fnExactDominatorsOfRow.holds Try.pinned (OpenSpec.ofChange fnExactDominatorsOfWrong)

/-- 'laws.FnExactNearestOf': WHATEVER THE INPUT: true; the input reads as it did. -/
def fnExactNearestOfSpec : ChangeSpec := { name := "fnExactNearestOf", fn := fun _ => fun
  | [d] => { results := [.lit (.bool true)], args := [d] }
  | _ => none }
def fnExactNearestOfRow : OpenClaim := { program := "ytangkpbehpgmiaa", sum := "a40a086f09a88ac6a76aed79e3e8a8ce5c6f0ac023e7b212c0bb7ad8d2fa533f", func := "loop.example/g00339/laws.FnExactNearestOf", spec := "fnExactNearestOf", apart := false }
def FnExactNearestOfSaid : Prop := fnExactNearestOfRow.holds Try.pinned (OpenSpec.ofChange fnExactNearestOfSpec)

/-- ITS FALSE NEIGHBOUR: 'it returns false'. Refute it at one input. -/
def fnExactNearestOfWrong : ChangeSpec := { name := "fnExactNearestOf", fn := fun _ => fun
  | [d] => { results := [.lit (.bool false)], args := [d] }
  | _ => none }
def FnExactNearestOfWrongFalsely : Prop := fnExactNearestOfRow.holds Try.pinned (OpenSpec.ofChange fnExactNearestOfWrong)

/-- 'laws.FnExactWithout': WHATEVER THE INPUT: true; the input reads as it did. -/
def fnExactWithoutSpec : ChangeSpec := { name := "fnExactWithout", fn := fun _ => fun
  | [d1, d2] => { results := [.lit (.bool true)], args := [d1, d2] }
  | _ => none }
def fnExactWithoutRow : OpenClaim := { program := "ytangkpbehpgmiaa", sum := "a40a086f09a88ac6a76aed79e3e8a8ce5c6f0ac023e7b212c0bb7ad8d2fa533f", func := "loop.example/g00339/laws.FnExactWithout", spec := "fnExactWithout", apart := false }
def FnExactWithoutSaid : Prop := fnExactWithoutRow.holds Try.pinned (OpenSpec.ofChange fnExactWithoutSpec)

/-- ITS FALSE NEIGHBOUR: 'it returns false'. Refute it at one input. -/
def fnExactWithoutWrong : ChangeSpec := { name := "fnExactWithout", fn := fun _ => fun
  | [d1, d2] => { results := [.lit (.bool false)], args := [d1, d2] }
  | _ => none }
def FnExactWithoutWrongFalsely : Prop := fnExactWithoutRow.holds Try.pinned (OpenSpec.ofChange fnExactWithoutWrong)

/-- 'laws.FnExactBackEdges': WHATEVER THE INPUT: true; the input reads as it did. -/
def fnExactBackEdgesSpec : ChangeSpec := { name := "fnExactBackEdges", fn := fun _ => fun
  | [d] => { results := [.lit (.bool true)], args := [d] }
  | _ => none }
def fnExactBackEdgesRow : OpenClaim := { program := "ytangkpbehpgmiaa", sum := "a40a086f09a88ac6a76aed79e3e8a8ce5c6f0ac023e7b212c0bb7ad8d2fa533f", func := "loop.example/g00339/laws.FnExactBackEdges", spec := "fnExactBackEdges", apart := false }
def FnExactBackEdgesSaid : Prop := fnExactBackEdgesRow.holds Try.pinned (OpenSpec.ofChange fnExactBackEdgesSpec)

/-- ITS FALSE NEIGHBOUR: 'it returns false'. Refute it at one input. -/
def fnExactBackEdgesWrong : ChangeSpec := { name := "fnExactBackEdges", fn := fun _ => fun
  | [d] => { results := [.lit (.bool false)], args := [d] }
  | _ => none }
def FnExactBackEdgesWrongFalsely : Prop := fnExactBackEdgesRow.holds Try.pinned (OpenSpec.ofChange fnExactBackEdgesWrong)

/- THE SECOND FORM. 'bulk': how many values and letters a reading holds, each counted each time it is reached (what is shared counts as often as it is met; a slice's spare places count too). A statement '..UptoSaid' is the law's where the arguments, and the package variables that the reading takes, are together of bulk at most 1048576: NARROWER than '..Said'. Prove '..Said' where nothing that the law and all that it calls make is longer than what came in: it says more and counts as full. Else prove '..UptoSaid'. A law counts once. -/
mutual
def uptoBulk {H : Type} : DataW H → Nat
  | .lit (.string bytes) => bytes.length + 1
  | .lit _ => 1
  | .nil => 1
  | .ptr d => uptoBulk d + 1
  | .slice elems spare => uptoBulkAll elems + uptoBulkAll spare + 1
  | .agg parts => uptoBulkAll parts + 1
  | .iface _ d => uptoBulk d + 1
  | .map entries => uptoBulkEntries entries + 1
  | .held _ => 1
def uptoBulkAll {H : Type} : List (DataW H) → Nat
  | [] => 0
  | d :: r => uptoBulk d + uptoBulkAll r
def uptoBulkEntries {H : Type} : List (Lit × DataW H) → Nat
  | [] => 0
  | x :: r => uptoBulkEntry x + uptoBulkEntries r
def uptoBulkEntry {H : Type} : Lit × DataW H → Nat
  | (.string bytes, d) => bytes.length + uptoBulk d + 1
  | (_, d) => uptoBulk d + 1
 end
def uptoSmall : (H : Type) → List (DataW H) → Bool := fun _ ds => decide (uptoBulkAll ds ≤ 1048576)
def OpenSpec.upto (s : _root_.Go.ChangeSpec) : _root_.Go.OpenSpec := { _root_.Go.OpenSpec.ofChange s with cond := some uptoSmall }

/-- 'laws.FnExactGoodGraph', WHERE WHAT IT READS IS OF BULK AT MOST 1048576: true; the input reads as it did. -/
def fnExactGoodGraphUptoRow : OpenClaim := { program := "ytangkpbehpgmiaa", sum := "a40a086f09a88ac6a76aed79e3e8a8ce5c6f0ac023e7b212c0bb7ad8d2fa533f", func := "loop.example/g00339/laws.FnExactGoodGraph", spec := "fnExactGoodGraph", apart := false, narrowed := true }
def FnExactGoodGraphUptoSaid : Prop := fnExactGoodGraphUptoRow.holds Try.pinned (OpenSpec.upto fnExactGoodGraphSpec)

/-- 'laws.FnExactReachedOf', WHERE WHAT IT READS IS OF BULK AT MOST 1048576: true; the input reads as it did. -/
def fnExactReachedOfUptoRow : OpenClaim := { program := "ytangkpbehpgmiaa", sum := "a40a086f09a88ac6a76aed79e3e8a8ce5c6f0ac023e7b212c0bb7ad8d2fa533f", func := "loop.example/g00339/laws.FnExactReachedOf", spec := "fnExactReachedOf", apart := false, narrowed := true }
def FnExactReachedOfUptoSaid : Prop := fnExactReachedOfUptoRow.holds Try.pinned (OpenSpec.upto fnExactReachedOfSpec)

/-- 'laws.FnExactDominatorsOf', WHERE WHAT IT READS IS OF BULK AT MOST 1048576: true; the input reads as it did. -/
def fnExactDominatorsOfUptoRow : OpenClaim := { program := "ytangkpbehpgmiaa", sum := "a40a086f09a88ac6a76aed79e3e8a8ce5c6f0ac023e7b212c0bb7ad8d2fa533f", func := "loop.example/g00339/laws.FnExactDominatorsOf", spec := "fnExactDominatorsOf", apart := false, narrowed := true }
def FnExactDominatorsOfUptoSaid : Prop := fnExactDominatorsOfUptoRow.holds Try.pinned (OpenSpec.upto fnExactDominatorsOfSpec)

/-- 'laws.FnExactNearestOf', WHERE WHAT IT READS IS OF BULK AT MOST 1048576: true; the input reads as it did. -/
def fnExactNearestOfUptoRow : OpenClaim := { program := "ytangkpbehpgmiaa", sum := "a40a086f09a88ac6a76aed79e3e8a8ce5c6f0ac023e7b212c0bb7ad8d2fa533f", func := "loop.example/g00339/laws.FnExactNearestOf", spec := "fnExactNearestOf", apart := false, narrowed := true }
def FnExactNearestOfUptoSaid : Prop := fnExactNearestOfUptoRow.holds Try.pinned (OpenSpec.upto fnExactNearestOfSpec)

/-- 'laws.FnExactWithout', WHERE WHAT IT READS IS OF BULK AT MOST 1048576: true; the input reads as it did. -/
def fnExactWithoutUptoRow : OpenClaim := { program := "ytangkpbehpgmiaa", sum := "a40a086f09a88ac6a76aed79e3e8a8ce5c6f0ac023e7b212c0bb7ad8d2fa533f", func := "loop.example/g00339/laws.FnExactWithout", spec := "fnExactWithout", apart := false, narrowed := true }
def FnExactWithoutUptoSaid : Prop := fnExactWithoutUptoRow.holds Try.pinned (OpenSpec.upto fnExactWithoutSpec)

/-- 'laws.FnExactBackEdges', WHERE WHAT IT READS IS OF BULK AT MOST 1048576: true; the input reads as it did. -/
def fnExactBackEdgesUptoRow : OpenClaim := { program := "ytangkpbehpgmiaa", sum := "a40a086f09a88ac6a76aed79e3e8a8ce5c6f0ac023e7b212c0bb7ad8d2fa533f", func := "loop.example/g00339/laws.FnExactBackEdges", spec := "fnExactBackEdges", apart := false, narrowed := true }
def FnExactBackEdgesUptoSaid : Prop := fnExactBackEdgesUptoRow.holds Try.pinned (OpenSpec.upto fnExactBackEdgesSpec)

end Rows
end Go.Proofs.Ytangkpbehpgmiaa
