/-
  DERIVED. GIVEN WITH THE SEED: THE CARDS: each row of YtikbbikcacoobaaDoorRows.lean that lists a variable, with what it lists TIED to the program's text (the seventh form; the later family's looks); each row that meets fmt, with fmt's text TOLD by the authors' own Lean function (tested against real Go, not proved from fmt's source: count such statements apart). THE CARD IS WHAT COUNTS. Prove the row's statement (the work); the ties are given (YtikbbikcacoobaaDoorTie.lean); close each card by the builder's one call (the guide's Derived/Test/ToyasCard.lean, 'card_holds'). Laid BY PROGRAM, IN A SANDBOX (cutbox-door.mjs). By AI agents, Wed Nov 11 2026. No macro, syntax, notation, axiom, sorry.
-/
import Derived.Test.YtikbbikcacoobaaDoorRows
import GoSem.ClaimSeven
namespace Go.Proofs.YtikbbikcacoobaaDoor
namespace Rows

/-- THE TIED CARD OF 'springhouselaw14.InvlogMakes'. -/
def invlogMakesCard : Claim7 := { stood := { row := invlogMakesRow, standIns := [], harness := (true, "e5a6994801e61983066051708b1fc7eed515002a708d10acef97048fe5d7c2c3"), looks := false }, kinds := [], alts := [], laidByText := true, laidKinds := [.data], laidTests := true, laidLooks := .later }
def InvlogMakesCardSaid : Prop := Claim7.holds Tryd.pinned (.plain (OpenSpec.ofChange invlogMakesSpec)) invlogMakesCard

/-- THE SECOND FORM's CARD OF 'springhouselaw14.InvlogMakes'. -/
def invlogMakesUptoCard : Claim7 := { stood := { row := invlogMakesUptoRow, standIns := [], harness := (true, "e5a6994801e61983066051708b1fc7eed515002a708d10acef97048fe5d7c2c3"), looks := false }, kinds := [], alts := [], laidByText := true, laidKinds := [.data], laidTests := true, laidLooks := .later }
def InvlogMakesUptoCardSaid : Prop := Claim7.holds Tryd.pinned (.plain (OpenSpec.upto invlogMakesSpec)) invlogMakesUptoCard
end Rows
end Go.Proofs.YtikbbikcacoobaaDoor
