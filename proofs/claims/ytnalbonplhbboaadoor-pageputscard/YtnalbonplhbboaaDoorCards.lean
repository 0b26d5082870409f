/-
  DERIVED. GIVEN WITH THE SEED: THE CARDS: each row of YtnalbonplhbboaaDoorRows.lean that lists a variable, with what it lists TIED to the program's text (the seventh form; the later family's looks); each row that meets fmt, with fmt's text TOLD by the authors' own Lean function (tested against real Go, not proved from fmt's source: count such statements apart). THE CARD IS WHAT COUNTS. Prove the row's statement (the work); the ties are given (YtnalbonplhbboaaDoorTie.lean); close each card by the builder's one call (the guide's Derived/Test/ToyasCard.lean, 'card_holds'). Laid BY PROGRAM, IN A SANDBOX (cutbox-door.mjs). By AI agents, Wed Nov 11 2026. No macro, syntax, notation, axiom, sorry.
-/
import Derived.Test.YtnalbonplhbboaaDoorRows
import GoSem.ClaimSeven
namespace Go.Proofs.YtnalbonplhbboaaDoor
namespace Rows

/-- THE TIED CARD OF 'springhouselaw09.PagePuts'. -/
def pagePutsCard : Claim7 := { stood := { row := pagePutsRow, standIns := [], harness := (true, "f49f9063c1d23773acf1fcdf77a04117157600dd525fbd6666d6bd8a850ce197"), looks := false }, kinds := [], alts := [], laidByText := true, laidKinds := [.data], laidTests := true, laidLooks := .later }
def PagePutsCardSaid : Prop := Claim7.holds Tryd.pinned (.plain (OpenSpec.ofChange pagePutsSpec)) pagePutsCard

/-- THE TIED CARD OF 'springhouselaw09.PageGets'. -/
def pageGetsCard : Claim7 := { stood := { row := pageGetsRow, standIns := [], harness := (true, "f49f9063c1d23773acf1fcdf77a04117157600dd525fbd6666d6bd8a850ce197"), looks := false }, kinds := [], alts := [], laidByText := true, laidKinds := [.data], laidTests := true, laidLooks := .later }
def PageGetsCardSaid : Prop := Claim7.holds Tryd.pinned (.plain (OpenSpec.ofChange pageGetsSpec)) pageGetsCard

/-- THE TIED CARD OF 'springhouselaw09.PageRots'. -/
def pageRotsCard : Claim7 := { stood := { row := pageRotsRow, standIns := [], harness := (true, "f49f9063c1d23773acf1fcdf77a04117157600dd525fbd6666d6bd8a850ce197"), looks := false }, kinds := [], alts := [], laidByText := true, laidKinds := [.data], laidTests := true, laidLooks := .later }
def PageRotsCardSaid : Prop := Claim7.holds Tryd.pinned (.plain (OpenSpec.ofChange pageRotsSpec)) pageRotsCard

/-- THE SECOND FORM's CARD OF 'springhouselaw09.PagePuts'. -/
def pagePutsUptoCard : Claim7 := { stood := { row := pagePutsUptoRow, standIns := [], harness := (true, "f49f9063c1d23773acf1fcdf77a04117157600dd525fbd6666d6bd8a850ce197"), looks := false }, kinds := [], alts := [], laidByText := true, laidKinds := [.data], laidTests := true, laidLooks := .later }
def PagePutsUptoCardSaid : Prop := Claim7.holds Tryd.pinned (.plain (OpenSpec.upto pagePutsSpec)) pagePutsUptoCard

/-- THE SECOND FORM's CARD OF 'springhouselaw09.PageGets'. -/
def pageGetsUptoCard : Claim7 := { stood := { row := pageGetsUptoRow, standIns := [], harness := (true, "f49f9063c1d23773acf1fcdf77a04117157600dd525fbd6666d6bd8a850ce197"), looks := false }, kinds := [], alts := [], laidByText := true, laidKinds := [.data], laidTests := true, laidLooks := .later }
def PageGetsUptoCardSaid : Prop := Claim7.holds Tryd.pinned (.plain (OpenSpec.upto pageGetsSpec)) pageGetsUptoCard

/-- THE SECOND FORM's CARD OF 'springhouselaw09.PageRots'. -/
def pageRotsUptoCard : Claim7 := { stood := { row := pageRotsUptoRow, standIns := [], harness := (true, "f49f9063c1d23773acf1fcdf77a04117157600dd525fbd6666d6bd8a850ce197"), looks := false }, kinds := [], alts := [], laidByText := true, laidKinds := [.data], laidTests := true, laidLooks := .later }
def PageRotsUptoCardSaid : Prop := Claim7.holds Tryd.pinned (.plain (OpenSpec.upto pageRotsSpec)) pageRotsUptoCard
end Rows
end Go.Proofs.YtnalbonplhbboaaDoor
