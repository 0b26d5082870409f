/-
  DERIVED. GIVEN WITH THE SEED: THE CARDS: each row of YtgdgehfapfgdfaaGreatDoorRows.lean that lists a variable, with what it lists TIED to the program's text (the seventh form; the later family's looks); each row that meets fmt, with fmt's text TOLD by the authors' own Lean function (tested against real Go, not proved from fmt's source: count such statements apart). THE CARD IS WHAT COUNTS. Prove the row's statement (the work); the ties are given (YtgdgehfapfgdfaaGreatDoorTie.lean); close each card by the builder's one call (the guide's Derived/Test/ToyasCard.lean, 'card_holds'). Laid BY PROGRAM, IN A SANDBOX (cutbox-door.mjs). By AI agents, Wed Nov 11 2026. No macro, syntax, notation, axiom, sorry.
-/
import Derived.Test.YtgdgehfapfgdfaaGreatDoorRows
import GoSem.ClaimSeven
namespace Go.Proofs.YtgdgehfapfgdfaaGreatDoor
namespace Rows

/-- THE TIED CARD OF 'springhouselaw12.GentabPlays'. -/
def gentabPlaysCard : Claim7 := { stood := { row := gentabPlaysRow, standIns := [], harness := (true, "de63ca600ef4f157b2483489e166ba6359536b5276679147efc348fe3cee4661"), looks := true }, kinds := [], alts := [], laidByText := true, laidKinds := [.data], laidTests := true, laidLooks := .later }
def GentabPlaysCardSaid : Prop := Claim7.holds Tryz.pinned (.plain (OpenSpec.ofChange gentabPlaysSpec)) gentabPlaysCard

/-- THE TIED CARD OF 'springhouselaw12.GentabKeeps'. -/
def gentabKeepsCard : Claim7 := { stood := { row := gentabKeepsRow, standIns := [], harness := (true, "de63ca600ef4f157b2483489e166ba6359536b5276679147efc348fe3cee4661"), looks := true }, kinds := [], alts := [], laidByText := true, laidKinds := [.data], laidTests := true, laidLooks := .later }
def GentabKeepsCardSaid : Prop := Claim7.holds Tryz.pinned (.plain (OpenSpec.ofChange gentabKeepsSpec)) gentabKeepsCard

/-- THE TIED CARD OF 'springhouselaw12.GentabMakes'. -/
def gentabMakesCard : Claim7 := { stood := { row := gentabMakesRow, standIns := [], harness := (true, "de63ca600ef4f157b2483489e166ba6359536b5276679147efc348fe3cee4661"), looks := true }, kinds := [], alts := [], laidByText := true, laidKinds := [.data], laidTests := true, laidLooks := .later }
def GentabMakesCardSaid : Prop := Claim7.holds Tryz.pinned (.plain (OpenSpec.ofChange gentabMakesSpec)) gentabMakesCard

/-- THE TIED CARD OF 'springhouselaw12.GentabRises'. -/
def gentabRisesCard : Claim7 := { stood := { row := gentabRisesRow, standIns := [], harness := (true, "de63ca600ef4f157b2483489e166ba6359536b5276679147efc348fe3cee4661"), looks := true }, kinds := [], alts := [], laidByText := true, laidKinds := [.data], laidTests := true, laidLooks := .later }
def GentabRisesCardSaid : Prop := Claim7.holds Tryz.pinned (.plain (OpenSpec.ofChange gentabRisesSpec)) gentabRisesCard

/-- THE SECOND FORM's CARD OF 'springhouselaw12.GentabPlays'. -/
def gentabPlaysUptoCard : Claim7 := { stood := { row := gentabPlaysUptoRow, standIns := [], harness := (true, "de63ca600ef4f157b2483489e166ba6359536b5276679147efc348fe3cee4661"), looks := true }, kinds := [], alts := [], laidByText := true, laidKinds := [.data], laidTests := true, laidLooks := .later }
def GentabPlaysUptoCardSaid : Prop := Claim7.holds Tryz.pinned (.plain (OpenSpec.upto gentabPlaysSpec)) gentabPlaysUptoCard

/-- THE SECOND FORM's CARD OF 'springhouselaw12.GentabKeeps'. -/
def gentabKeepsUptoCard : Claim7 := { stood := { row := gentabKeepsUptoRow, standIns := [], harness := (true, "de63ca600ef4f157b2483489e166ba6359536b5276679147efc348fe3cee4661"), looks := true }, kinds := [], alts := [], laidByText := true, laidKinds := [.data], laidTests := true, laidLooks := .later }
def GentabKeepsUptoCardSaid : Prop := Claim7.holds Tryz.pinned (.plain (OpenSpec.upto gentabKeepsSpec)) gentabKeepsUptoCard

/-- THE SECOND FORM's CARD OF 'springhouselaw12.GentabMakes'. -/
def gentabMakesUptoCard : Claim7 := { stood := { row := gentabMakesUptoRow, standIns := [], harness := (true, "de63ca600ef4f157b2483489e166ba6359536b5276679147efc348fe3cee4661"), looks := true }, kinds := [], alts := [], laidByText := true, laidKinds := [.data], laidTests := true, laidLooks := .later }
def GentabMakesUptoCardSaid : Prop := Claim7.holds Tryz.pinned (.plain (OpenSpec.upto gentabMakesSpec)) gentabMakesUptoCard

/-- THE SECOND FORM's CARD OF 'springhouselaw12.GentabRises'. -/
def gentabRisesUptoCard : Claim7 := { stood := { row := gentabRisesUptoRow, standIns := [], harness := (true, "de63ca600ef4f157b2483489e166ba6359536b5276679147efc348fe3cee4661"), looks := true }, kinds := [], alts := [], laidByText := true, laidKinds := [.data], laidTests := true, laidLooks := .later }
def GentabRisesUptoCardSaid : Prop := Claim7.holds Tryz.pinned (.plain (OpenSpec.upto gentabRisesSpec)) gentabRisesUptoCard
end Rows
end Go.Proofs.YtgdgehfapfgdfaaGreatDoor
