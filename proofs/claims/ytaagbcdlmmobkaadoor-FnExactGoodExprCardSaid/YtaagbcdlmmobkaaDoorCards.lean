/-
  DERIVED. GIVEN WITH THE SEED: THE CARDS: each row of YtaagbcdlmmobkaaDoorRows.lean that lists a variable, with what it lists TIED to the program's text (the seventh form; the later family's looks); each row that meets fmt, with fmt's text TOLD by the authors' own Lean function (tested against real Go, not proved from fmt's source: count such statements apart). THE CARD IS WHAT COUNTS. Prove the row's statement (the work); the ties are given (YtaagbcdlmmobkaaDoorTie.lean); close each card by the builder's one call (the guide's Derived/Test/ToyasCard.lean, 'card_holds'). Laid BY PROGRAM, IN A SANDBOX (cutbox-door.mjs). By AI agents, Wed Nov 11 2026. No macro, syntax, notation, axiom, sorry.
-/
import Derived.Test.YtaagbcdlmmobkaaDoorRows
import GoSem.ClaimSeven
namespace Go.Proofs.YtaagbcdlmmobkaaDoor
namespace Rows

/-- THE TIED CARD OF 'laws.FnExactGoodExpr'. -/
def fnExactGoodExprCard : Claim7 := { stood := { row := fnExactGoodExprRow, standIns := [], harness := (true, "89bfcd1fe286b479e9f5b1bb67e5a7bdf41b398c571c6ed42691e7ee26ba9200"), looks := false }, kinds := [], alts := [], laidByText := true, laidKinds := [.data], laidTests := true, laidLooks := .later }
def FnExactGoodExprCardSaid : Prop := Claim7.holds Tryd.pinned (.plain (OpenSpec.ofChange fnExactGoodExprSpec)) fnExactGoodExprCard

/-- THE TIED CARD OF 'laws.FnExactParseExpr'. -/
def fnExactParseExprCard : Claim7 := { stood := { row := fnExactParseExprRow, standIns := [], harness := (true, "89bfcd1fe286b479e9f5b1bb67e5a7bdf41b398c571c6ed42691e7ee26ba9200"), looks := false }, kinds := [], alts := [], laidByText := true, laidKinds := [.data], laidTests := true, laidLooks := .later }
def FnExactParseExprCardSaid : Prop := Claim7.holds Tryd.pinned (.plain (OpenSpec.ofChange fnExactParseExprSpec)) fnExactParseExprCard

/-- THE TIED CARD OF 'laws.FnExactExprText'. -/
def fnExactExprTextCard : Claim7 := { stood := { row := fnExactExprTextRow, standIns := [], harness := (true, "89bfcd1fe286b479e9f5b1bb67e5a7bdf41b398c571c6ed42691e7ee26ba9200"), looks := false }, kinds := [], alts := [], laidByText := true, laidKinds := [.data, .data, .data, .data], laidTests := true, laidLooks := .later }
def FnExactExprTextCardSaid : Prop := Claim7.holds Tryd.pinned (.plain (OpenSpec.ofChange fnExactExprTextSpec)) fnExactExprTextCard

/-- THE TIED CARD OF 'laws.FnExactStrengthOf'. -/
def fnExactStrengthOfCard : Claim7 := { stood := { row := fnExactStrengthOfRow, standIns := [], harness := (true, "89bfcd1fe286b479e9f5b1bb67e5a7bdf41b398c571c6ed42691e7ee26ba9200"), looks := false }, kinds := [], alts := [], laidByText := true, laidKinds := [.data], laidTests := true, laidLooks := .later }
def FnExactStrengthOfCardSaid : Prop := Claim7.holds Tryd.pinned (.plain (OpenSpec.ofChange fnExactStrengthOfSpec)) fnExactStrengthOfCard

/-- THE TIED CARD OF 'laws.FnExactEvalExpr'. -/
def fnExactEvalExprCard : Claim7 := { stood := { row := fnExactEvalExprRow, standIns := [], harness := (true, "89bfcd1fe286b479e9f5b1bb67e5a7bdf41b398c571c6ed42691e7ee26ba9200"), looks := false }, kinds := [], alts := [], laidByText := true, laidKinds := [.data], laidTests := true, laidLooks := .later }
def FnExactEvalExprCardSaid : Prop := Claim7.holds Tryd.pinned (.plain (OpenSpec.ofChange fnExactEvalExprSpec)) fnExactEvalExprCard

/-- THE SECOND FORM's CARD OF 'laws.FnExactGoodExpr'. -/
def fnExactGoodExprUptoCard : Claim7 := { stood := { row := fnExactGoodExprUptoRow, standIns := [], harness := (true, "89bfcd1fe286b479e9f5b1bb67e5a7bdf41b398c571c6ed42691e7ee26ba9200"), looks := false }, kinds := [], alts := [], laidByText := true, laidKinds := [.data], laidTests := true, laidLooks := .later }
def FnExactGoodExprUptoCardSaid : Prop := Claim7.holds Tryd.pinned (.plain (OpenSpec.upto fnExactGoodExprSpec)) fnExactGoodExprUptoCard

/-- THE SECOND FORM's CARD OF 'laws.FnExactParseExpr'. -/
def fnExactParseExprUptoCard : Claim7 := { stood := { row := fnExactParseExprUptoRow, standIns := [], harness := (true, "89bfcd1fe286b479e9f5b1bb67e5a7bdf41b398c571c6ed42691e7ee26ba9200"), looks := false }, kinds := [], alts := [], laidByText := true, laidKinds := [.data], laidTests := true, laidLooks := .later }
def FnExactParseExprUptoCardSaid : Prop := Claim7.holds Tryd.pinned (.plain (OpenSpec.upto fnExactParseExprSpec)) fnExactParseExprUptoCard

/-- THE SECOND FORM's CARD OF 'laws.FnExactExprText'. -/
def fnExactExprTextUptoCard : Claim7 := { stood := { row := fnExactExprTextUptoRow, standIns := [], harness := (true, "89bfcd1fe286b479e9f5b1bb67e5a7bdf41b398c571c6ed42691e7ee26ba9200"), looks := false }, kinds := [], alts := [], laidByText := true, laidKinds := [.data, .data, .data, .data], laidTests := true, laidLooks := .later }
def FnExactExprTextUptoCardSaid : Prop := Claim7.holds Tryd.pinned (.plain (OpenSpec.upto fnExactExprTextSpec)) fnExactExprTextUptoCard

/-- THE SECOND FORM's CARD OF 'laws.FnExactStrengthOf'. -/
def fnExactStrengthOfUptoCard : Claim7 := { stood := { row := fnExactStrengthOfUptoRow, standIns := [], harness := (true, "89bfcd1fe286b479e9f5b1bb67e5a7bdf41b398c571c6ed42691e7ee26ba9200"), looks := false }, kinds := [], alts := [], laidByText := true, laidKinds := [.data], laidTests := true, laidLooks := .later }
def FnExactStrengthOfUptoCardSaid : Prop := Claim7.holds Tryd.pinned (.plain (OpenSpec.upto fnExactStrengthOfSpec)) fnExactStrengthOfUptoCard

/-- THE SECOND FORM's CARD OF 'laws.FnExactEvalExpr'. -/
def fnExactEvalExprUptoCard : Claim7 := { stood := { row := fnExactEvalExprUptoRow, standIns := [], harness := (true, "89bfcd1fe286b479e9f5b1bb67e5a7bdf41b398c571c6ed42691e7ee26ba9200"), looks := false }, kinds := [], alts := [], laidByText := true, laidKinds := [.data], laidTests := true, laidLooks := .later }
def FnExactEvalExprUptoCardSaid : Prop := Claim7.holds Tryd.pinned (.plain (OpenSpec.upto fnExactEvalExprSpec)) fnExactEvalExprUptoCard
end Rows
end Go.Proofs.YtaagbcdlmmobkaaDoor
