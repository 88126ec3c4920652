/-
  No cell of these rows narrows 'for every input' (looked for: loops, veiled, ifaces, maps, wideKeys, modest, calm, conditions, laid).
  DERIVED. THE GIVEN ROWS OF THIS SEAT. 6 by the template 'for every input the law returns true; each argument reads behind the call as it read before'; 0 by the template 'total and deterministic' (their statements: YtlicfmjkoopmnaaTotals.lean).
  GIVEN WITH THE SEED: the statements are not yours to turn. If you find one false, say at which input.
  Laid BY PROGRAM, IN A SANDBOX (cutbox-rows.mjs): the forced cells as the released guide's own fill.sh prints them over the translation d8f15169757354e0… (all of the seat's roots in one cut). By AI agents, Wed Nov 11 2026. No macro, syntax, notation, axiom, sorry.
-/
import Derived.Test.YtlicfmjkoopmnaaChecked
import GoSem.Claim
import GoSem.ClaimJoined
import GoSem.ClaimMapViews
import Derived.JoinedTies
import Derived.KernelRfl
namespace Go.Proofs.Ytlicfmjkoopmnaa
/- THE CELL 'sum', in the pinned program and in every row, IS THE sha256 OF THE DUMP (.gsa) THAT YtlicfmjkoopmnaaProg.lean LOADS. Nothing in Lean hashes anything: it is a label: what it is worth is what the hold of that sum in a sandbox is worth. -/
noncomputable def Try.pinned : Pinned := { name := "ytlicfmjkoopmnaa", sum := "d8f15169757354e0626d42f6b3e51dc71876e3f88a3593225a4928e102e6da25", checked := Try.checked }
namespace Rows
def none {H : Type} : Left H := { results := [], args := [] }

/-- 'laws.FnExactGoodComp': WHATEVER THE INPUT: true; the input reads as it did. -/
def fnExactGoodCompSpec : ChangeSpec := { name := "fnExactGoodComp", fn := fun _ => fun
  | [d] => { results := [.lit (.bool true)], args := [d] }
  | _ => none }
def fnExactGoodCompRow : OpenClaim := { program := "ytlicfmjkoopmnaa", sum := "d8f15169757354e0626d42f6b3e51dc71876e3f88a3593225a4928e102e6da25", func := "loop.example/g00339/laws.FnExactGoodComp", spec := "fnExactGoodComp", recurses := true, apart := false }
def FnExactGoodCompSaid : Prop := fnExactGoodCompRow.holds Try.pinned (OpenSpec.ofChange fnExactGoodCompSpec)

/-- ITS FALSE NEIGHBOUR: 'it returns false'. Refute it at one input. -/
def fnExactGoodCompWrong : ChangeSpec := { name := "fnExactGoodComp", fn := fun _ => fun
  | [d] => { results := [.lit (.bool false)], args := [d] }
  | _ => none }
def FnExactGoodCompWrongFalsely : Prop := fnExactGoodCompRow.holds Try.pinned (OpenSpec.ofChange fnExactGoodCompWrong)

/-- 'laws.FnExactGoodHandler': WHATEVER THE INPUT: true; the input reads as it did. -/
def fnExactGoodHandlerSpec : ChangeSpec := { name := "fnExactGoodHandler", fn := fun _ => fun
  | [d] => { results := [.lit (.bool true)], args := [d] }
  | _ => none }
def fnExactGoodHandlerRow : OpenClaim := { program := "ytlicfmjkoopmnaa", sum := "d8f15169757354e0626d42f6b3e51dc71876e3f88a3593225a4928e102e6da25", func := "loop.example/g00339/laws.FnExactGoodHandler", spec := "fnExactGoodHandler", unfollowed := true, recurses := true, apart := false }
def FnExactGoodHandlerSaid : Prop := fnExactGoodHandlerRow.holds Try.pinned (OpenSpec.ofChange fnExactGoodHandlerSpec)

/-- ITS FALSE NEIGHBOUR: 'it returns false'. Refute it at one input. -/
def fnExactGoodHandlerWrong : ChangeSpec := { name := "fnExactGoodHandler", fn := fun _ => fun
  | [d] => { results := [.lit (.bool false)], args := [d] }
  | _ => none }
def FnExactGoodHandlerWrongFalsely : Prop := fnExactGoodHandlerRow.holds Try.pinned (OpenSpec.ofChange fnExactGoodHandlerWrong)

/-- 'laws.FnExactHandleComp': WHATEVER THE INPUT: true; the input reads as it did. -/
def fnExactHandleCompSpec : ChangeSpec := { name := "fnExactHandleComp", fn := fun _ => fun
  | [d1, d2] => { results := [.lit (.bool true)], args := [d1, d2] }
  | _ => none }
def fnExactHandleCompRow : OpenClaim := { program := "ytlicfmjkoopmnaa", sum := "d8f15169757354e0626d42f6b3e51dc71876e3f88a3593225a4928e102e6da25", func := "loop.example/g00339/laws.FnExactHandleComp", spec := "fnExactHandleComp", unfollowed := true, recurses := true, apart := false }
def FnExactHandleCompSaid : Prop := fnExactHandleCompRow.holds Try.pinned (OpenSpec.ofChange fnExactHandleCompSpec)

/-- ITS FALSE NEIGHBOUR: 'it returns false'. Refute it at one input. -/
def fnExactHandleCompWrong : ChangeSpec := { name := "fnExactHandleComp", fn := fun _ => fun
  | [d1, d2] => { results := [.lit (.bool false)], args := [d1, d2] }
  | _ => none }
def FnExactHandleCompWrongFalsely : Prop := fnExactHandleCompRow.holds Try.pinned (OpenSpec.ofChange fnExactHandleCompWrong)

/-- 'laws.FnExactThenComp': WHATEVER THE INPUT: true; the input reads as it did. -/
def fnExactThenCompSpec : ChangeSpec := { name := "fnExactThenComp", fn := fun _ => fun
  | [d1, d2] => { results := [.lit (.bool true)], args := [d1, d2] }
  | _ => none }
def fnExactThenCompRow : OpenClaim := { program := "ytlicfmjkoopmnaa", sum := "d8f15169757354e0626d42f6b3e51dc71876e3f88a3593225a4928e102e6da25", func := "loop.example/g00339/laws.FnExactThenComp", spec := "fnExactThenComp", unfollowed := true, recurses := true, apart := false }
def FnExactThenCompSaid : Prop := fnExactThenCompRow.holds Try.pinned (OpenSpec.ofChange fnExactThenCompSpec)

/-- ITS FALSE NEIGHBOUR: 'it returns false'. Refute it at one input. -/
def fnExactThenCompWrong : ChangeSpec := { name := "fnExactThenComp", fn := fun _ => fun
  | [d1, d2] => { results := [.lit (.bool false)], args := [d1, d2] }
  | _ => none }
def FnExactThenCompWrongFalsely : Prop := fnExactThenCompRow.holds Try.pinned (OpenSpec.ofChange fnExactThenCompWrong)

/-- 'laws.FnExactMapComp': WHATEVER THE INPUT: true; the input reads as it did. -/
def fnExactMapCompSpec : ChangeSpec := { name := "fnExactMapComp", fn := fun _ => fun
  | [d1, d2] => { results := [.lit (.bool true)], args := [d1, d2] }
  | _ => none }
def fnExactMapCompRow : OpenClaim := { program := "ytlicfmjkoopmnaa", sum := "d8f15169757354e0626d42f6b3e51dc71876e3f88a3593225a4928e102e6da25", func := "loop.example/g00339/laws.FnExactMapComp", spec := "fnExactMapComp", recurses := true, apart := false }
def FnExactMapCompSaid : Prop := fnExactMapCompRow.holds Try.pinned (OpenSpec.ofChange fnExactMapCompSpec)

/-- ITS FALSE NEIGHBOUR: 'it returns false'. Refute it at one input. -/
def fnExactMapCompWrong : ChangeSpec := { name := "fnExactMapComp", fn := fun _ => fun
  | [d1, d2] => { results := [.lit (.bool false)], args := [d1, d2] }
  | _ => none }
def FnExactMapCompWrongFalsely : Prop := fnExactMapCompRow.holds Try.pinned (OpenSpec.ofChange fnExactMapCompWrong)

/-- 'laws.FnExactResultsOf': WHATEVER THE INPUT: true; the input reads as it did. -/
def fnExactResultsOfSpec : ChangeSpec := { name := "fnExactResultsOf", fn := fun _ => fun
  | [d] => { results := [.lit (.bool true)], args := [d] }
  | _ => none }
def fnExactResultsOfRow : OpenClaim := { program := "ytlicfmjkoopmnaa", sum := "d8f15169757354e0626d42f6b3e51dc71876e3f88a3593225a4928e102e6da25", func := "loop.example/g00339/laws.FnExactResultsOf", spec := "fnExactResultsOf", recurses := true, apart := false }
def FnExactResultsOfSaid : Prop := fnExactResultsOfRow.holds Try.pinned (OpenSpec.ofChange fnExactResultsOfSpec)

/-- ITS FALSE NEIGHBOUR: 'it returns false'. Refute it at one input. -/
def fnExactResultsOfWrong : ChangeSpec := { name := "fnExactResultsOf", fn := fun _ => fun
  | [d] => { results := [.lit (.bool false)], args := [d] }
  | _ => none }
def FnExactResultsOfWrongFalsely : Prop := fnExactResultsOfRow.holds Try.pinned (OpenSpec.ofChange fnExactResultsOfWrong)

/- THE SECOND FORM. 'bulk': how many values and letters a reading holds, each counted each time it is reached (what is shared counts as often as it is met; a slice's spare places count too). A statement '..UptoSaid' is the law's where the arguments, and the package variables that the reading takes, are together of bulk at most 1048576: NARROWER than '..Said'. Prove '..Said' where nothing that the law and all that it calls make is longer than what came in: it says more and counts as full. Else prove '..UptoSaid'. A law counts once. -/
mutual
def uptoBulk {H : Type} : DataW H → Nat
  | .lit (.string bytes) => bytes.length + 1
  | .lit _ => 1
  | .nil => 1
  | .ptr d => uptoBulk d + 1
  | .slice elems spare => uptoBulkAll elems + uptoBulkAll spare + 1
  | .agg parts => uptoBulkAll parts + 1
  | .iface _ d => uptoBulk d + 1
  | .map entries => uptoBulkEntries entries + 1
  | .held _ => 1
def uptoBulkAll {H : Type} : List (DataW H) → Nat
  | [] => 0
  | d :: r => uptoBulk d + uptoBulkAll r
def uptoBulkEntries {H : Type} : List (Lit × DataW H) → Nat
  | [] => 0
  | x :: r => uptoBulkEntry x + uptoBulkEntries r
def uptoBulkEntry {H : Type} : Lit × DataW H → Nat
  | (.string bytes, d) => bytes.length + uptoBulk d + 1
  | (_, d) => uptoBulk d + 1
 end
def uptoSmall : (H : Type) → List (DataW H) → Bool := fun _ ds => decide (uptoBulkAll ds ≤ 1048576)
def OpenSpec.upto (s : _root_.Go.ChangeSpec) : _root_.Go.OpenSpec := { _root_.Go.OpenSpec.ofChange s with cond := some uptoSmall }

/-- 'laws.FnExactGoodComp', WHERE WHAT IT READS IS OF BULK AT MOST 1048576: true; the input reads as it did. -/
def fnExactGoodCompUptoRow : OpenClaim := { program := "ytlicfmjkoopmnaa", sum := "d8f15169757354e0626d42f6b3e51dc71876e3f88a3593225a4928e102e6da25", func := "loop.example/g00339/laws.FnExactGoodComp", spec := "fnExactGoodComp", recurses := true, apart := false, narrowed := true }
def FnExactGoodCompUptoSaid : Prop := fnExactGoodCompUptoRow.holds Try.pinned (OpenSpec.upto fnExactGoodCompSpec)

/-- 'laws.FnExactGoodHandler', WHERE WHAT IT READS IS OF BULK AT MOST 1048576: true; the input reads as it did. -/
def fnExactGoodHandlerUptoRow : OpenClaim := { program := "ytlicfmjkoopmnaa", sum := "d8f15169757354e0626d42f6b3e51dc71876e3f88a3593225a4928e102e6da25", func := "loop.example/g00339/laws.FnExactGoodHandler", spec := "fnExactGoodHandler", unfollowed := true, recurses := true, apart := false, narrowed := true }
def FnExactGoodHandlerUptoSaid : Prop := fnExactGoodHandlerUptoRow.holds Try.pinned (OpenSpec.upto fnExactGoodHandlerSpec)

/-- 'laws.FnExactHandleComp', WHERE WHAT IT READS IS OF BULK AT MOST 1048576: true; the input reads as it did. -/
def fnExactHandleCompUptoRow : OpenClaim := { program := "ytlicfmjkoopmnaa", sum := "d8f15169757354e0626d42f6b3e51dc71876e3f88a3593225a4928e102e6da25", func := "loop.example/g00339/laws.FnExactHandleComp", spec := "fnExactHandleComp", unfollowed := true, recurses := true, apart := false, narrowed := true }
def FnExactHandleCompUptoSaid : Prop := fnExactHandleCompUptoRow.holds Try.pinned (OpenSpec.upto fnExactHandleCompSpec)

/-- 'laws.FnExactThenComp', WHERE WHAT IT READS IS OF BULK AT MOST 1048576: true; the input reads as it did. -/
def fnExactThenCompUptoRow : OpenClaim := { program := "ytlicfmjkoopmnaa", sum := "d8f15169757354e0626d42f6b3e51dc71876e3f88a3593225a4928e102e6da25", func := "loop.example/g00339/laws.FnExactThenComp", spec := "fnExactThenComp", unfollowed := true, recurses := true, apart := false, narrowed := true }
def FnExactThenCompUptoSaid : Prop := fnExactThenCompUptoRow.holds Try.pinned (OpenSpec.upto fnExactThenCompSpec)

/-- 'laws.FnExactMapComp', WHERE WHAT IT READS IS OF BULK AT MOST 1048576: true; the input reads as it did. -/
def fnExactMapCompUptoRow : OpenClaim := { program := "ytlicfmjkoopmnaa", sum := "d8f15169757354e0626d42f6b3e51dc71876e3f88a3593225a4928e102e6da25", func := "loop.example/g00339/laws.FnExactMapComp", spec := "fnExactMapComp", recurses := true, apart := false, narrowed := true }
def FnExactMapCompUptoSaid : Prop := fnExactMapCompUptoRow.holds Try.pinned (OpenSpec.upto fnExactMapCompSpec)

/-- 'laws.FnExactResultsOf', WHERE WHAT IT READS IS OF BULK AT MOST 1048576: true; the input reads as it did. -/
def fnExactResultsOfUptoRow : OpenClaim := { program := "ytlicfmjkoopmnaa", sum := "d8f15169757354e0626d42f6b3e51dc71876e3f88a3593225a4928e102e6da25", func := "loop.example/g00339/laws.FnExactResultsOf", spec := "fnExactResultsOf", recurses := true, apart := false, narrowed := true }
def FnExactResultsOfUptoSaid : Prop := fnExactResultsOfUptoRow.holds Try.pinned (OpenSpec.upto fnExactResultsOfSpec)

end Rows
end Go.Proofs.Ytlicfmjkoopmnaa
