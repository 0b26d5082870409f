/-
  DERIVED. GIVEN WITH THE SEED: THE CARDS: each row of YtapklelkcicjlaaGreatDoorRows.lean that lists a variable, with what it lists TIED to the program's text (the seventh form; the later family's looks); each row that meets fmt, with fmt's text TOLD by the authors' own Lean function (tested against real Go, not proved from fmt's source: count such statements apart). THE CARD IS WHAT COUNTS. Prove the row's statement (the work); the ties are given (YtapklelkcicjlaaGreatDoorTie.lean); close each card by the builder's one call (the guide's Derived/Test/ToyasCard.lean, 'card_holds'). Laid BY PROGRAM, IN A SANDBOX (cutbox-door.mjs). By AI agents, Wed Nov 11 2026. No macro, syntax, notation, axiom, sorry.
-/
import Derived.Test.YtapklelkcicjlaaGreatDoorRows
import GoSem.ClaimSeven
namespace Go.Proofs.YtapklelkcicjlaaGreatDoor
namespace Rows

/-- THE TIED CARD OF 'springhouselaw16.SlotsPlays'. -/
def slotsPlaysCard : Claim7 := { stood := { row := slotsPlaysRow, standIns := [], harness := (true, "6b6a082630f27ae38979c75b0220928ae9f443d93fb885ab85a31445e5bd9855"), looks := true }, kinds := [], alts := [], laidByText := true, laidKinds := [.data, .data], laidTests := true, laidLooks := .later }
def SlotsPlaysCardSaid : Prop := Claim7.holds Tryz.pinned (.plain (OpenSpec.ofChange slotsPlaysSpec)) slotsPlaysCard

/-- THE TIED CARD OF 'springhouselaw16.SlotsKeeps'. -/
def slotsKeepsCard : Claim7 := { stood := { row := slotsKeepsRow, standIns := [], harness := (true, "6b6a082630f27ae38979c75b0220928ae9f443d93fb885ab85a31445e5bd9855"), looks := true }, kinds := [], alts := [], laidByText := true, laidKinds := [.data, .data], laidTests := true, laidLooks := .later }
def SlotsKeepsCardSaid : Prop := Claim7.holds Tryz.pinned (.plain (OpenSpec.ofChange slotsKeepsSpec)) slotsKeepsCard

/-- THE TIED CARD OF 'springhouselaw16.SlotsMakes'. -/
def slotsMakesCard : Claim7 := { stood := { row := slotsMakesRow, standIns := [], harness := (true, "6b6a082630f27ae38979c75b0220928ae9f443d93fb885ab85a31445e5bd9855"), looks := true }, kinds := [], alts := [], laidByText := true, laidKinds := [.data, .data], laidTests := true, laidLooks := .later }
def SlotsMakesCardSaid : Prop := Claim7.holds Tryz.pinned (.plain (OpenSpec.ofChange slotsMakesSpec)) slotsMakesCard

/-- THE TIED CARD OF 'springhouselaw16.SlotsWears'. -/
def slotsWearsCard : Claim7 := { stood := { row := slotsWearsRow, standIns := [], harness := (true, "6b6a082630f27ae38979c75b0220928ae9f443d93fb885ab85a31445e5bd9855"), looks := true }, kinds := [], alts := [], laidByText := true, laidKinds := [.data, .data], laidTests := true, laidLooks := .later }
def SlotsWearsCardSaid : Prop := Claim7.holds Tryz.pinned (.plain (OpenSpec.ofChange slotsWearsSpec)) slotsWearsCard

/-- THE SECOND FORM's CARD OF 'springhouselaw16.SlotsPlays'. -/
def slotsPlaysUptoCard : Claim7 := { stood := { row := slotsPlaysUptoRow, standIns := [], harness := (true, "6b6a082630f27ae38979c75b0220928ae9f443d93fb885ab85a31445e5bd9855"), looks := true }, kinds := [], alts := [], laidByText := true, laidKinds := [.data, .data], laidTests := true, laidLooks := .later }
def SlotsPlaysUptoCardSaid : Prop := Claim7.holds Tryz.pinned (.plain (OpenSpec.upto slotsPlaysSpec)) slotsPlaysUptoCard

/-- THE SECOND FORM's CARD OF 'springhouselaw16.SlotsKeeps'. -/
def slotsKeepsUptoCard : Claim7 := { stood := { row := slotsKeepsUptoRow, standIns := [], harness := (true, "6b6a082630f27ae38979c75b0220928ae9f443d93fb885ab85a31445e5bd9855"), looks := true }, kinds := [], alts := [], laidByText := true, laidKinds := [.data, .data], laidTests := true, laidLooks := .later }
def SlotsKeepsUptoCardSaid : Prop := Claim7.holds Tryz.pinned (.plain (OpenSpec.upto slotsKeepsSpec)) slotsKeepsUptoCard

/-- THE SECOND FORM's CARD OF 'springhouselaw16.SlotsMakes'. -/
def slotsMakesUptoCard : Claim7 := { stood := { row := slotsMakesUptoRow, standIns := [], harness := (true, "6b6a082630f27ae38979c75b0220928ae9f443d93fb885ab85a31445e5bd9855"), looks := true }, kinds := [], alts := [], laidByText := true, laidKinds := [.data, .data], laidTests := true, laidLooks := .later }
def SlotsMakesUptoCardSaid : Prop := Claim7.holds Tryz.pinned (.plain (OpenSpec.upto slotsMakesSpec)) slotsMakesUptoCard

/-- THE SECOND FORM's CARD OF 'springhouselaw16.SlotsWears'. -/
def slotsWearsUptoCard : Claim7 := { stood := { row := slotsWearsUptoRow, standIns := [], harness := (true, "6b6a082630f27ae38979c75b0220928ae9f443d93fb885ab85a31445e5bd9855"), looks := true }, kinds := [], alts := [], laidByText := true, laidKinds := [.data, .data], laidTests := true, laidLooks := .later }
def SlotsWearsUptoCardSaid : Prop := Claim7.holds Tryz.pinned (.plain (OpenSpec.upto slotsWearsSpec)) slotsWearsUptoCard
end Rows
end Go.Proofs.YtapklelkcicjlaaGreatDoor
