/-
  DERIVED. GIVEN WITH THE SEED: THE CARDS: each row of YtikbbikcacoobaaGreatDoorRows.lean that lists a variable, with what it lists TIED to the program's text (the seventh form; the later family's looks); each row that meets fmt, with fmt's text TOLD by the authors' own Lean function (tested against real Go, not proved from fmt's source: count such statements apart). THE CARD IS WHAT COUNTS. Prove the row's statement (the work); the ties are given (YtikbbikcacoobaaGreatDoorTie.lean); close each card by the builder's one call (the guide's Derived/Test/ToyasCard.lean, 'card_holds'). Laid BY PROGRAM, IN A SANDBOX (cutbox-door.mjs). By AI agents, Wed Nov 11 2026. No macro, syntax, notation, axiom, sorry.
-/
import Derived.Test.YtikbbikcacoobaaGreatDoorRows
import GoSem.ClaimSeven
namespace Go.Proofs.YtikbbikcacoobaaGreatDoor
namespace Rows

/-- THE TIED CARD OF 'springhouselaw14.InvlogPlays'. -/
def invlogPlaysCard : Claim7 := { stood := { row := invlogPlaysRow, standIns := [], harness := (true, "b7eeb4f65cc80825019c65d56f7574ea7f3f8a63ee25ebdacedc4fd88bd8db84"), looks := true }, kinds := [], alts := [], laidByText := true, laidKinds := [.data], laidTests := true, laidLooks := .later }
def InvlogPlaysCardSaid : Prop := Claim7.holds Tryz.pinned (.plain (OpenSpec.ofChange invlogPlaysSpec)) invlogPlaysCard

/-- THE TIED CARD OF 'springhouselaw14.InvlogKeeps'. -/
def invlogKeepsCard : Claim7 := { stood := { row := invlogKeepsRow, standIns := [], harness := (true, "b7eeb4f65cc80825019c65d56f7574ea7f3f8a63ee25ebdacedc4fd88bd8db84"), looks := true }, kinds := [], alts := [], laidByText := true, laidKinds := [.data], laidTests := true, laidLooks := .later }
def InvlogKeepsCardSaid : Prop := Claim7.holds Tryz.pinned (.plain (OpenSpec.ofChange invlogKeepsSpec)) invlogKeepsCard

/-- THE TIED CARD OF 'springhouselaw14.InvlogTwice'. -/
def invlogTwiceCard : Claim7 := { stood := { row := invlogTwiceRow, standIns := [], harness := (true, "b7eeb4f65cc80825019c65d56f7574ea7f3f8a63ee25ebdacedc4fd88bd8db84"), looks := true }, kinds := [], alts := [], laidByText := true, laidKinds := [.data], laidTests := true, laidLooks := .later }
def InvlogTwiceCardSaid : Prop := Claim7.holds Tryz.pinned (.plain (OpenSpec.ofChange invlogTwiceSpec)) invlogTwiceCard

/-- THE SECOND FORM's CARD OF 'springhouselaw14.InvlogPlays'. -/
def invlogPlaysUptoCard : Claim7 := { stood := { row := invlogPlaysUptoRow, standIns := [], harness := (true, "b7eeb4f65cc80825019c65d56f7574ea7f3f8a63ee25ebdacedc4fd88bd8db84"), looks := true }, kinds := [], alts := [], laidByText := true, laidKinds := [.data], laidTests := true, laidLooks := .later }
def InvlogPlaysUptoCardSaid : Prop := Claim7.holds Tryz.pinned (.plain (OpenSpec.upto invlogPlaysSpec)) invlogPlaysUptoCard

/-- THE SECOND FORM's CARD OF 'springhouselaw14.InvlogKeeps'. -/
def invlogKeepsUptoCard : Claim7 := { stood := { row := invlogKeepsUptoRow, standIns := [], harness := (true, "b7eeb4f65cc80825019c65d56f7574ea7f3f8a63ee25ebdacedc4fd88bd8db84"), looks := true }, kinds := [], alts := [], laidByText := true, laidKinds := [.data], laidTests := true, laidLooks := .later }
def InvlogKeepsUptoCardSaid : Prop := Claim7.holds Tryz.pinned (.plain (OpenSpec.upto invlogKeepsSpec)) invlogKeepsUptoCard

/-- THE SECOND FORM's CARD OF 'springhouselaw14.InvlogTwice'. -/
def invlogTwiceUptoCard : Claim7 := { stood := { row := invlogTwiceUptoRow, standIns := [], harness := (true, "b7eeb4f65cc80825019c65d56f7574ea7f3f8a63ee25ebdacedc4fd88bd8db84"), looks := true }, kinds := [], alts := [], laidByText := true, laidKinds := [.data], laidTests := true, laidLooks := .later }
def InvlogTwiceUptoCardSaid : Prop := Claim7.holds Tryz.pinned (.plain (OpenSpec.upto invlogTwiceSpec)) invlogTwiceUptoCard
end Rows
end Go.Proofs.YtikbbikcacoobaaGreatDoor
