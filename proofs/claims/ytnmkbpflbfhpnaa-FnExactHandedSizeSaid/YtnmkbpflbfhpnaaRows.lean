/-
  No cell of these rows narrows 'for every input' (looked for: loops, veiled, ifaces, maps, wideKeys, modest, calm, conditions, laid).
  DERIVED. THE GIVEN ROWS OF THIS SEAT. 3 by the template 'for every input the law returns true; each argument reads behind the call as it read before'; 0 by the template 'total and deterministic' (their statements: YtnmkbpflbfhpnaaTotals.lean).
  GIVEN WITH THE SEED: the statements are not yours to turn. If you find one false, say at which input.
  Laid BY PROGRAM, IN A SANDBOX (cutbox-rows.mjs): the forced cells as the released guide's own fill.sh prints them over the translation 50a3e646a95b9bec… (all of the seat's roots in one cut). By AI agents, Wed Nov 11 2026. No macro, syntax, notation, axiom, sorry.
-/
import Derived.Test.YtnmkbpflbfhpnaaChecked
import GoSem.Claim
import GoSem.ClaimJoined
import GoSem.ClaimMapViews
import Derived.JoinedTies
import Derived.KernelRfl
namespace Go.Proofs.Ytnmkbpflbfhpnaa
/- THE CELL 'sum', in the pinned program and in every row, IS THE sha256 OF THE DUMP (.gsa) THAT YtnmkbpflbfhpnaaProg.lean LOADS. Nothing in Lean hashes anything: it is a label: what it is worth is what the hold of that sum in a sandbox is worth. -/
noncomputable def Try.pinned : Pinned := { name := "ytnmkbpflbfhpnaa", sum := "50a3e646a95b9bec926c6213c7c35112b10b6903a53cb0835c40a2b503b503e2", checked := Try.checked }
namespace Rows
def none {H : Type} : Left H := { results := [], args := [] }

/-- 'laws.FnExactHandOn': WHATEVER THE INPUT: true; the input reads as it did. -/
def fnExactHandOnSpec : ChangeSpec := { name := "fnExactHandOn", fn := fun _ => fun
  | [d] => { results := [.lit (.bool true)], args := [d] }
  | _ => none }
def fnExactHandOnRow : OpenClaim := { program := "ytnmkbpflbfhpnaa", sum := "50a3e646a95b9bec926c6213c7c35112b10b6903a53cb0835c40a2b503b503e2", func := "loop.example/g00339/laws.FnExactHandOn", spec := "fnExactHandOn", unfollowed := true, recurses := true, apart := false }
def FnExactHandOnSaid : Prop := fnExactHandOnRow.holds Try.pinned (OpenSpec.ofChange fnExactHandOnSpec)

/-- ITS FALSE NEIGHBOUR: 'it returns false'. Refute it at one input. -/
def fnExactHandOnWrong : ChangeSpec := { name := "fnExactHandOn", fn := fun _ => fun
  | [d] => { results := [.lit (.bool false)], args := [d] }
  | _ => none }
def FnExactHandOnWrongFalsely : Prop := fnExactHandOnRow.holds Try.pinned (OpenSpec.ofChange fnExactHandOnWrong)

/-- 'laws.FnExactIsHanded': WHATEVER THE INPUT: true; the input reads as it did. -/
def fnExactIsHandedSpec : ChangeSpec := { name := "fnExactIsHanded", fn := fun _ => fun
  | [d] => { results := [.lit (.bool true)], args := [d] }
  | _ => none }
def fnExactIsHandedRow : OpenClaim := { program := "ytnmkbpflbfhpnaa", sum := "50a3e646a95b9bec926c6213c7c35112b10b6903a53cb0835c40a2b503b503e2", func := "loop.example/g00339/laws.FnExactIsHanded", spec := "fnExactIsHanded", recurses := true, apart := false }
def FnExactIsHandedSaid : Prop := fnExactIsHandedRow.holds Try.pinned (OpenSpec.ofChange fnExactIsHandedSpec)

/-- ITS FALSE NEIGHBOUR: 'it returns false'. Refute it at one input. -/
def fnExactIsHandedWrong : ChangeSpec := { name := "fnExactIsHanded", fn := fun _ => fun
  | [d] => { results := [.lit (.bool false)], args := [d] }
  | _ => none }
def FnExactIsHandedWrongFalsely : Prop := fnExactIsHandedRow.holds Try.pinned (OpenSpec.ofChange fnExactIsHandedWrong)

/-- 'laws.FnExactHandedSize': WHATEVER THE INPUT: true; the input reads as it did. -/
def fnExactHandedSizeSpec : ChangeSpec := { name := "fnExactHandedSize", fn := fun _ => fun
  | [d] => { results := [.lit (.bool true)], args := [d] }
  | _ => none }
def fnExactHandedSizeRow : OpenClaim := { program := "ytnmkbpflbfhpnaa", sum := "50a3e646a95b9bec926c6213c7c35112b10b6903a53cb0835c40a2b503b503e2", func := "loop.example/g00339/laws.FnExactHandedSize", spec := "fnExactHandedSize", unfollowed := true, recurses := true, apart := false }
def FnExactHandedSizeSaid : Prop := fnExactHandedSizeRow.holds Try.pinned (OpenSpec.ofChange fnExactHandedSizeSpec)

/-- ITS FALSE NEIGHBOUR: 'it returns false'. Refute it at one input. -/
def fnExactHandedSizeWrong : ChangeSpec := { name := "fnExactHandedSize", fn := fun _ => fun
  | [d] => { results := [.lit (.bool false)], args := [d] }
  | _ => none }
def FnExactHandedSizeWrongFalsely : Prop := fnExactHandedSizeRow.holds Try.pinned (OpenSpec.ofChange fnExactHandedSizeWrong)

/- THE SECOND FORM. 'bulk': how many values and letters a reading holds, each counted each time it is reached (what is shared counts as often as it is met; a slice's spare places count too). A statement '..UptoSaid' is the law's where the arguments, and the package variables that the reading takes, are together of bulk at most 1048576: NARROWER than '..Said'. Prove '..Said' where nothing that the law and all that it calls make is longer than what came in: it says more and counts as full. Else prove '..UptoSaid'. A law counts once. -/
mutual
def uptoBulk {H : Type} : DataW H → Nat
  | .lit (.string bytes) => bytes.length + 1
  | .lit _ => 1
  | .nil => 1
  | .ptr d => uptoBulk d + 1
  | .slice elems spare => uptoBulkAll elems + uptoBulkAll spare + 1
  | .agg parts => uptoBulkAll parts + 1
  | .iface _ d => uptoBulk d + 1
  | .map entries => uptoBulkEntries entries + 1
  | .held _ => 1
def uptoBulkAll {H : Type} : List (DataW H) → Nat
  | [] => 0
  | d :: r => uptoBulk d + uptoBulkAll r
def uptoBulkEntries {H : Type} : List (Lit × DataW H) → Nat
  | [] => 0
  | x :: r => uptoBulkEntry x + uptoBulkEntries r
def uptoBulkEntry {H : Type} : Lit × DataW H → Nat
  | (.string bytes, d) => bytes.length + uptoBulk d + 1
  | (_, d) => uptoBulk d + 1
 end
def uptoSmall : (H : Type) → List (DataW H) → Bool := fun _ ds => decide (uptoBulkAll ds ≤ 1048576)
def OpenSpec.upto (s : _root_.Go.ChangeSpec) : _root_.Go.OpenSpec := { _root_.Go.OpenSpec.ofChange s with cond := some uptoSmall }

/-- 'laws.FnExactHandOn', WHERE WHAT IT READS IS OF BULK AT MOST 1048576: true; the input reads as it did. -/
def fnExactHandOnUptoRow : OpenClaim := { program := "ytnmkbpflbfhpnaa", sum := "50a3e646a95b9bec926c6213c7c35112b10b6903a53cb0835c40a2b503b503e2", func := "loop.example/g00339/laws.FnExactHandOn", spec := "fnExactHandOn", unfollowed := true, recurses := true, apart := false, narrowed := true }
def FnExactHandOnUptoSaid : Prop := fnExactHandOnUptoRow.holds Try.pinned (OpenSpec.upto fnExactHandOnSpec)

/-- 'laws.FnExactIsHanded', WHERE WHAT IT READS IS OF BULK AT MOST 1048576: true; the input reads as it did. -/
def fnExactIsHandedUptoRow : OpenClaim := { program := "ytnmkbpflbfhpnaa", sum := "50a3e646a95b9bec926c6213c7c35112b10b6903a53cb0835c40a2b503b503e2", func := "loop.example/g00339/laws.FnExactIsHanded", spec := "fnExactIsHanded", recurses := true, apart := false, narrowed := true }
def FnExactIsHandedUptoSaid : Prop := fnExactIsHandedUptoRow.holds Try.pinned (OpenSpec.upto fnExactIsHandedSpec)

/-- 'laws.FnExactHandedSize', WHERE WHAT IT READS IS OF BULK AT MOST 1048576: true; the input reads as it did. -/
def fnExactHandedSizeUptoRow : OpenClaim := { program := "ytnmkbpflbfhpnaa", sum := "50a3e646a95b9bec926c6213c7c35112b10b6903a53cb0835c40a2b503b503e2", func := "loop.example/g00339/laws.FnExactHandedSize", spec := "fnExactHandedSize", unfollowed := true, recurses := true, apart := false, narrowed := true }
def FnExactHandedSizeUptoSaid : Prop := fnExactHandedSizeUptoRow.holds Try.pinned (OpenSpec.upto fnExactHandedSizeSpec)

end Rows
end Go.Proofs.Ytnmkbpflbfhpnaa
