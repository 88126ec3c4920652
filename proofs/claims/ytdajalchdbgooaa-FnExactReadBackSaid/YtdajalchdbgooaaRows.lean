/-
  No cell of these rows narrows 'for every input' (looked for: loops, veiled, ifaces, maps, wideKeys, modest, calm, conditions, laid).
  DERIVED. THE GIVEN ROWS OF THIS SEAT. 5 by the template 'for every input the law returns true; each argument reads behind the call as it read before'; 0 by the template 'total and deterministic' (their statements: YtdajalchdbgooaaTotals.lean).
  GIVEN WITH THE SEED: the statements are not yours to turn. If you find one false, say at which input.
  Laid BY PROGRAM, IN A SANDBOX (cutbox-rows.mjs): the forced cells as the released guide's own fill.sh prints them over the translation 1da74783cff1c129… (all of the seat's roots in one cut). By AI agents, Wed Nov 11 2026. No macro, syntax, notation, axiom, sorry.
-/
import Derived.Test.YtdajalchdbgooaaChecked
import GoSem.Claim
import GoSem.ClaimJoined
import GoSem.ClaimMapViews
import Derived.JoinedTies
import Derived.KernelRfl
namespace Go.Proofs.Ytdajalchdbgooaa
/- THE CELL 'sum', in the pinned program and in every row, IS THE sha256 OF THE DUMP (.gsa) THAT YtdajalchdbgooaaProg.lean LOADS. Nothing in Lean hashes anything: it is a label: what it is worth is what the hold of that sum in a sandbox is worth. -/
noncomputable def Try.pinned : Pinned := { name := "ytdajalchdbgooaa", sum := "1da74783cff1c1292451bb3dda8888b6192d8aa01846fffe283fd8bee93a2620", checked := Try.checked }
namespace Rows
def none {H : Type} : Left H := { results := [], args := [] }

/-- 'laws.FnExactStartMachine': WHATEVER THE INPUT: true; the input reads as it did. -/
def fnExactStartMachineSpec : ChangeSpec := { name := "fnExactStartMachine", fn := fun _ => fun
  | [d] => { results := [.lit (.bool true)], args := [d] }
  | _ => none }
def fnExactStartMachineRow : OpenClaim := { program := "ytdajalchdbgooaa", sum := "1da74783cff1c1292451bb3dda8888b6192d8aa01846fffe283fd8bee93a2620", func := "loop.example/g00339/laws.FnExactStartMachine", spec := "fnExactStartMachine", unfollowed := true, recurses := true, apart := false }
def FnExactStartMachineSaid : Prop := fnExactStartMachineRow.holds Try.pinned (OpenSpec.ofChange fnExactStartMachineSpec)

/-- ITS FALSE NEIGHBOUR: 'it returns false'. Refute it at one input. -/
def fnExactStartMachineWrong : ChangeSpec := { name := "fnExactStartMachine", fn := fun _ => fun
  | [d] => { results := [.lit (.bool false)], args := [d] }
  | _ => none }
def FnExactStartMachineWrongFalsely : Prop := fnExactStartMachineRow.holds Try.pinned (OpenSpec.ofChange fnExactStartMachineWrong)

/-- 'laws.FnExactRunTerm': WHATEVER THE INPUT: true; the input reads as it did. -/
def fnExactRunTermSpec : ChangeSpec := { name := "fnExactRunTerm", fn := fun _ => fun
  | [d1, d2] => { results := [.lit (.bool true)], args := [d1, d2] }
  | _ => none }
def fnExactRunTermRow : OpenClaim := { program := "ytdajalchdbgooaa", sum := "1da74783cff1c1292451bb3dda8888b6192d8aa01846fffe283fd8bee93a2620", func := "loop.example/g00339/laws.FnExactRunTerm", spec := "fnExactRunTerm", unfollowed := true, recurses := true, apart := false }
def FnExactRunTermSaid : Prop := fnExactRunTermRow.holds Try.pinned (OpenSpec.ofChange fnExactRunTermSpec)

/-- ITS FALSE NEIGHBOUR: 'it returns false'. Refute it at one input. -/
def fnExactRunTermWrong : ChangeSpec := { name := "fnExactRunTerm", fn := fun _ => fun
  | [d1, d2] => { results := [.lit (.bool false)], args := [d1, d2] }
  | _ => none }
def FnExactRunTermWrongFalsely : Prop := fnExactRunTermRow.holds Try.pinned (OpenSpec.ofChange fnExactRunTermWrong)

/-- 'laws.FnExactGoodMachine': WHATEVER THE INPUT: true; the input reads as it did. -/
def fnExactGoodMachineSpec : ChangeSpec := { name := "fnExactGoodMachine", fn := fun _ => fun
  | [d1, d2] => { results := [.lit (.bool true)], args := [d1, d2] }
  | _ => none }
def fnExactGoodMachineRow : OpenClaim := { program := "ytdajalchdbgooaa", sum := "1da74783cff1c1292451bb3dda8888b6192d8aa01846fffe283fd8bee93a2620", func := "loop.example/g00339/laws.FnExactGoodMachine", spec := "fnExactGoodMachine", unfollowed := true, recurses := true, apart := false }
def FnExactGoodMachineSaid : Prop := fnExactGoodMachineRow.holds Try.pinned (OpenSpec.ofChange fnExactGoodMachineSpec)

/-- ITS FALSE NEIGHBOUR: 'it returns false'. Refute it at one input. -/
def fnExactGoodMachineWrong : ChangeSpec := { name := "fnExactGoodMachine", fn := fun _ => fun
  | [d1, d2] => { results := [.lit (.bool false)], args := [d1, d2] }
  | _ => none }
def FnExactGoodMachineWrongFalsely : Prop := fnExactGoodMachineRow.holds Try.pinned (OpenSpec.ofChange fnExactGoodMachineWrong)

/-- 'laws.FnExactPlayMachine': WHATEVER THE INPUT: true; the input reads as it did. -/
def fnExactPlayMachineSpec : ChangeSpec := { name := "fnExactPlayMachine", fn := fun _ => fun
  | [d1, d2] => { results := [.lit (.bool true)], args := [d1, d2] }
  | _ => none }
def fnExactPlayMachineRow : OpenClaim := { program := "ytdajalchdbgooaa", sum := "1da74783cff1c1292451bb3dda8888b6192d8aa01846fffe283fd8bee93a2620", func := "loop.example/g00339/laws.FnExactPlayMachine", spec := "fnExactPlayMachine", unfollowed := true, recurses := true, apart := false }
def FnExactPlayMachineSaid : Prop := fnExactPlayMachineRow.holds Try.pinned (OpenSpec.ofChange fnExactPlayMachineSpec)

/-- ITS FALSE NEIGHBOUR: 'it returns false'. Refute it at one input. -/
def fnExactPlayMachineWrong : ChangeSpec := { name := "fnExactPlayMachine", fn := fun _ => fun
  | [d1, d2] => { results := [.lit (.bool false)], args := [d1, d2] }
  | _ => none }
def FnExactPlayMachineWrongFalsely : Prop := fnExactPlayMachineRow.holds Try.pinned (OpenSpec.ofChange fnExactPlayMachineWrong)

/-- 'laws.FnExactReadBack': WHATEVER THE INPUT: true; the input reads as it did. -/
def fnExactReadBackSpec : ChangeSpec := { name := "fnExactReadBack", fn := fun _ => fun
  | [d1, d2] => { results := [.lit (.bool true)], args := [d1, d2] }
  | _ => none }
def fnExactReadBackRow : OpenClaim := { program := "ytdajalchdbgooaa", sum := "1da74783cff1c1292451bb3dda8888b6192d8aa01846fffe283fd8bee93a2620", func := "loop.example/g00339/laws.FnExactReadBack", spec := "fnExactReadBack", unfollowed := true, recurses := true, apart := false }
def FnExactReadBackSaid : Prop := fnExactReadBackRow.holds Try.pinned (OpenSpec.ofChange fnExactReadBackSpec)

/-- ITS FALSE NEIGHBOUR: 'it returns false'. Refute it at one input. -/
def fnExactReadBackWrong : ChangeSpec := { name := "fnExactReadBack", fn := fun _ => fun
  | [d1, d2] => { results := [.lit (.bool false)], args := [d1, d2] }
  | _ => none }
def FnExactReadBackWrongFalsely : Prop := fnExactReadBackRow.holds Try.pinned (OpenSpec.ofChange fnExactReadBackWrong)

/- THE SECOND FORM. 'bulk': how many values and letters a reading holds, each counted each time it is reached (what is shared counts as often as it is met; a slice's spare places count too). A statement '..UptoSaid' is the law's where the arguments, and the package variables that the reading takes, are together of bulk at most 1048576: NARROWER than '..Said'. Prove '..Said' where nothing that the law and all that it calls make is longer than what came in: it says more and counts as full. Else prove '..UptoSaid'. A law counts once. -/
mutual
def uptoBulk {H : Type} : DataW H → Nat
  | .lit (.string bytes) => bytes.length + 1
  | .lit _ => 1
  | .nil => 1
  | .ptr d => uptoBulk d + 1
  | .slice elems spare => uptoBulkAll elems + uptoBulkAll spare + 1
  | .agg parts => uptoBulkAll parts + 1
  | .iface _ d => uptoBulk d + 1
  | .map entries => uptoBulkEntries entries + 1
  | .held _ => 1
def uptoBulkAll {H : Type} : List (DataW H) → Nat
  | [] => 0
  | d :: r => uptoBulk d + uptoBulkAll r
def uptoBulkEntries {H : Type} : List (Lit × DataW H) → Nat
  | [] => 0
  | x :: r => uptoBulkEntry x + uptoBulkEntries r
def uptoBulkEntry {H : Type} : Lit × DataW H → Nat
  | (.string bytes, d) => bytes.length + uptoBulk d + 1
  | (_, d) => uptoBulk d + 1
 end
def uptoSmall : (H : Type) → List (DataW H) → Bool := fun _ ds => decide (uptoBulkAll ds ≤ 1048576)
def OpenSpec.upto (s : _root_.Go.ChangeSpec) : _root_.Go.OpenSpec := { _root_.Go.OpenSpec.ofChange s with cond := some uptoSmall }

/-- 'laws.FnExactStartMachine', WHERE WHAT IT READS IS OF BULK AT MOST 1048576: true; the input reads as it did. -/
def fnExactStartMachineUptoRow : OpenClaim := { program := "ytdajalchdbgooaa", sum := "1da74783cff1c1292451bb3dda8888b6192d8aa01846fffe283fd8bee93a2620", func := "loop.example/g00339/laws.FnExactStartMachine", spec := "fnExactStartMachine", unfollowed := true, recurses := true, apart := false, narrowed := true }
def FnExactStartMachineUptoSaid : Prop := fnExactStartMachineUptoRow.holds Try.pinned (OpenSpec.upto fnExactStartMachineSpec)

/-- 'laws.FnExactRunTerm', WHERE WHAT IT READS IS OF BULK AT MOST 1048576: true; the input reads as it did. -/
def fnExactRunTermUptoRow : OpenClaim := { program := "ytdajalchdbgooaa", sum := "1da74783cff1c1292451bb3dda8888b6192d8aa01846fffe283fd8bee93a2620", func := "loop.example/g00339/laws.FnExactRunTerm", spec := "fnExactRunTerm", unfollowed := true, recurses := true, apart := false, narrowed := true }
def FnExactRunTermUptoSaid : Prop := fnExactRunTermUptoRow.holds Try.pinned (OpenSpec.upto fnExactRunTermSpec)

/-- 'laws.FnExactGoodMachine', WHERE WHAT IT READS IS OF BULK AT MOST 1048576: true; the input reads as it did. -/
def fnExactGoodMachineUptoRow : OpenClaim := { program := "ytdajalchdbgooaa", sum := "1da74783cff1c1292451bb3dda8888b6192d8aa01846fffe283fd8bee93a2620", func := "loop.example/g00339/laws.FnExactGoodMachine", spec := "fnExactGoodMachine", unfollowed := true, recurses := true, apart := false, narrowed := true }
def FnExactGoodMachineUptoSaid : Prop := fnExactGoodMachineUptoRow.holds Try.pinned (OpenSpec.upto fnExactGoodMachineSpec)

/-- 'laws.FnExactPlayMachine', WHERE WHAT IT READS IS OF BULK AT MOST 1048576: true; the input reads as it did. -/
def fnExactPlayMachineUptoRow : OpenClaim := { program := "ytdajalchdbgooaa", sum := "1da74783cff1c1292451bb3dda8888b6192d8aa01846fffe283fd8bee93a2620", func := "loop.example/g00339/laws.FnExactPlayMachine", spec := "fnExactPlayMachine", unfollowed := true, recurses := true, apart := false, narrowed := true }
def FnExactPlayMachineUptoSaid : Prop := fnExactPlayMachineUptoRow.holds Try.pinned (OpenSpec.upto fnExactPlayMachineSpec)

/-- 'laws.FnExactReadBack', WHERE WHAT IT READS IS OF BULK AT MOST 1048576: true; the input reads as it did. -/
def fnExactReadBackUptoRow : OpenClaim := { program := "ytdajalchdbgooaa", sum := "1da74783cff1c1292451bb3dda8888b6192d8aa01846fffe283fd8bee93a2620", func := "loop.example/g00339/laws.FnExactReadBack", spec := "fnExactReadBack", unfollowed := true, recurses := true, apart := false, narrowed := true }
def FnExactReadBackUptoSaid : Prop := fnExactReadBackUptoRow.holds Try.pinned (OpenSpec.upto fnExactReadBackSpec)

end Rows
end Go.Proofs.Ytdajalchdbgooaa
