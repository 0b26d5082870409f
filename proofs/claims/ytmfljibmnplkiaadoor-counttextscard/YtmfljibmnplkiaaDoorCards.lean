/-
  DERIVED. GIVEN WITH THE SEED: THE CARDS: each row of YtmfljibmnplkiaaDoorRows.lean that lists a variable, with what it lists TIED to the program's text (the seventh form; the later family's looks); each row that meets fmt, with fmt's text TOLD by the authors' own Lean function (tested against real Go, not proved from fmt's source: count such statements apart). THE CARD IS WHAT COUNTS. Prove the row's statement (the work); the ties are given (YtmfljibmnplkiaaDoorTie.lean); close each card by the builder's one call (the guide's Derived/Test/ToyasCard.lean, 'card_holds'). Laid BY PROGRAM, IN A SANDBOX (cutbox-door.mjs). By AI agents, Wed Nov 11 2026. No macro, syntax, notation, axiom, sorry.
-/
import Derived.Test.YtmfljibmnplkiaaDoorRows
import GoSem.ClaimSeven
namespace Go.Proofs.YtmfljibmnplkiaaDoor
namespace Rows

/-- THE TIED CARD OF 'springhouselaw01.CountTexts'. -/
def countTextsCard : Claim7 := { stood := { row := countTextsRow, standIns := [], harness := (true, "db739a9fba4f4872c86d94964ee21fe1d0232a0d886cef3f5fb0ed351e89948c"), looks := true }, kinds := [], alts := [], laidByText := true, laidKinds := [.data, .data, .data, .sentinel, .sentinel], laidTests := true, laidLooks := .later }
def CountTextsCardSaid : Prop := Claim7.holds Tryd.pinned (.plain (OpenSpec.ofChange countTextsSpec)) countTextsCard

/-- THE SECOND FORM's CARD OF 'springhouselaw01.CountTexts'. -/
def countTextsUptoCard : Claim7 := { stood := { row := countTextsUptoRow, standIns := [], harness := (true, "db739a9fba4f4872c86d94964ee21fe1d0232a0d886cef3f5fb0ed351e89948c"), looks := true }, kinds := [], alts := [], laidByText := true, laidKinds := [.data, .data, .data, .sentinel, .sentinel], laidTests := true, laidLooks := .later }
def CountTextsUptoCardSaid : Prop := Claim7.holds Tryd.pinned (.plain (OpenSpec.upto countTextsSpec)) countTextsUptoCard
end Rows
end Go.Proofs.YtmfljibmnplkiaaDoor
