/-
  NARROWER THAN 'FOR EVERY INPUT', by the rows' own cells (each row's printed sentence says how): SlotsPlays: laid · SlotsKeeps: laid · SlotsMakes: laid · SlotsWears: laid.
  DERIVED. THE GIVEN ROWS OF THIS SEAT. 4 by the template 'for every input the law returns true; each argument reads behind the call as it read before'; 0 by the template 'total and deterministic' (their statements: YtapklelkcicjlaaGreatDoorTotals.lean).
  GIVEN WITH THE SEED: the statements are not yours to turn. If you find one false, say at which input.
  Laid BY PROGRAM, IN A SANDBOX (cutbox-rows.mjs): the forced cells as the released guide's own fill.sh prints them over the translation 2b907a258264146f… (all of the seat's roots in one cut). By AI agents, Wed Nov 11 2026. No macro, syntax, notation, axiom, sorry.
-/
import Derived.Test.YtapklelkcicjlaaGreatDoorChecked
import GoSem.Claim
import GoSem.ClaimJoined
import GoSem.ClaimMapViews
import Derived.JoinedTies
import Derived.KernelRfl
namespace Go.Proofs.YtapklelkcicjlaaGreatDoor
/- THE CELL 'sum', in the pinned program and in every row, IS THE sha256 OF THE DUMP (.gsa) THAT YtapklelkcicjlaaGreatDoorProg.lean LOADS. Nothing in Lean hashes anything: it is a label: what it is worth is what the hold of that sum in a sandbox is worth. -/
noncomputable def Tryz.pinned : Pinned := { name := "ytapklelkcicjlaagreatdoor", sum := "2b907a258264146fb7fffc68150e73d2519603ad549654d0df8ee1fde850d559", checked := Tryz.checked }
namespace Rows
def none {H : Type} : Left H := { results := [], args := [] }

/- WHAT THE LISTED PACKAGE-LEVEL VARIABLES READ AS WHEN THE CALL BEGINS. Each datum BY PROGRAM (the guide's laid-datum.mjs) off the statement by which the dump's own 'gosem.cut.vars' lays the variable. In a bare row this is a premise. The card (YtapklelkcicjlaaGreatDoorCards.lean) ties it to the program's text. -/
def laid_springhouse_crc_fours {H : Type} : DataW H := .agg [.lit (.int .u32 0), .lit (.int .u32 498536548), .lit (.int .u32 997073096), .lit (.int .u32 651767980), .lit (.int .u32 1994146192), .lit (.int .u32 1802195444), .lit (.int .u32 1303535960), .lit (.int .u32 1342533948), .lit (.int .u32 3988292384), .lit (.int .u32 4027552580), .lit (.int .u32 3604390888), .lit (.int .u32 3412177804), .lit (.int .u32 2607071920), .lit (.int .u32 2262029012), .lit (.int .u32 2685067896), .lit (.int .u32 3183342108)]
def laid_springhouse_head_widths {H : Type} : DataW H := .agg [.lit (.int .i64 1), .lit (.int .i64 2), .lit (.int .i64 8), .lit (.int .i64 4), .lit (.int .i64 4)]

/-- 'springhouselaw16.SlotsPlays': WHATEVER THE INPUT: true; the input reads as it did. -/
def slotsPlaysSpec : ChangeSpec := { name := "slotsPlays", fn := fun _ => fun
  | [d1, d2, d3] => { results := [.lit (.bool true)], args := [d1, d2, d3] }
  | _ => none }
def slotsPlaysRow : OpenClaim := { program := "ytapklelkcicjlaagreatdoor", sum := "2b907a258264146fb7fffc68150e73d2519603ad549654d0df8ee1fde850d559", func := "springhouse/springhouselaw16.SlotsPlays", spec := "slotsPlays", inPlace := ["maps.clone"], unfollowed := true, recurses := true, named := ["springhouse/crc.fours", "springhouse/head.widths"], apart := false, laid := [("springhouse/crc.fours", laid_springhouse_crc_fours), ("springhouse/head.widths", laid_springhouse_head_widths)] }
def SlotsPlaysSaid : Prop := slotsPlaysRow.holds Tryz.pinned (OpenSpec.ofChange slotsPlaysSpec)

/-- ITS FALSE NEIGHBOUR: 'it returns false'. Refute it at one input. -/
def slotsPlaysWrong : ChangeSpec := { name := "slotsPlays", fn := fun _ => fun
  | [d1, d2, d3] => { results := [.lit (.bool false)], args := [d1, d2, d3] }
  | _ => none }
def SlotsPlaysWrongFalsely : Prop := slotsPlaysRow.holds Tryz.pinned (OpenSpec.ofChange slotsPlaysWrong)

/-- 'springhouselaw16.SlotsKeeps': WHATEVER THE INPUT: true; the input reads as it did. -/
def slotsKeepsSpec : ChangeSpec := { name := "slotsKeeps", fn := fun _ => fun
  | [d1, d2, d3, d4, d5] => { results := [.lit (.bool true)], args := [d1, d2, d3, d4, d5] }
  | _ => none }
def slotsKeepsRow : OpenClaim := { program := "ytapklelkcicjlaagreatdoor", sum := "2b907a258264146fb7fffc68150e73d2519603ad549654d0df8ee1fde850d559", func := "springhouse/springhouselaw16.SlotsKeeps", spec := "slotsKeeps", inPlace := ["maps.clone"], unfollowed := true, recurses := true, named := ["springhouse/crc.fours", "springhouse/head.widths"], apart := false, laid := [("springhouse/crc.fours", laid_springhouse_crc_fours), ("springhouse/head.widths", laid_springhouse_head_widths)] }
def SlotsKeepsSaid : Prop := slotsKeepsRow.holds Tryz.pinned (OpenSpec.ofChange slotsKeepsSpec)

/-- ITS FALSE NEIGHBOUR: 'it returns false'. Refute it at one input. -/
def slotsKeepsWrong : ChangeSpec := { name := "slotsKeeps", fn := fun _ => fun
  | [d1, d2, d3, d4, d5] => { results := [.lit (.bool false)], args := [d1, d2, d3, d4, d5] }
  | _ => none }
def SlotsKeepsWrongFalsely : Prop := slotsKeepsRow.holds Tryz.pinned (OpenSpec.ofChange slotsKeepsWrong)

/-- 'springhouselaw16.SlotsMakes': WHATEVER THE INPUT: true; the input reads as it did. -/
def slotsMakesSpec : ChangeSpec := { name := "slotsMakes", fn := fun _ => fun
  | [d1, d2, d3] => { results := [.lit (.bool true)], args := [d1, d2, d3] }
  | _ => none }
def slotsMakesRow : OpenClaim := { program := "ytapklelkcicjlaagreatdoor", sum := "2b907a258264146fb7fffc68150e73d2519603ad549654d0df8ee1fde850d559", func := "springhouse/springhouselaw16.SlotsMakes", spec := "slotsMakes", unfollowed := true, recurses := true, named := ["springhouse/crc.fours", "springhouse/head.widths"], apart := false, laid := [("springhouse/crc.fours", laid_springhouse_crc_fours), ("springhouse/head.widths", laid_springhouse_head_widths)] }
def SlotsMakesSaid : Prop := slotsMakesRow.holds Tryz.pinned (OpenSpec.ofChange slotsMakesSpec)

/-- ITS FALSE NEIGHBOUR: 'it returns false'. Refute it at one input. -/
def slotsMakesWrong : ChangeSpec := { name := "slotsMakes", fn := fun _ => fun
  | [d1, d2, d3] => { results := [.lit (.bool false)], args := [d1, d2, d3] }
  | _ => none }
def SlotsMakesWrongFalsely : Prop := slotsMakesRow.holds Tryz.pinned (OpenSpec.ofChange slotsMakesWrong)

/-- 'springhouselaw16.SlotsWears': WHATEVER THE INPUT: true; the input reads as it did. -/
def slotsWearsSpec : ChangeSpec := { name := "slotsWears", fn := fun _ => fun
  | [d1, d2] => { results := [.lit (.bool true)], args := [d1, d2] }
  | _ => none }
def slotsWearsRow : OpenClaim := { program := "ytapklelkcicjlaagreatdoor", sum := "2b907a258264146fb7fffc68150e73d2519603ad549654d0df8ee1fde850d559", func := "springhouse/springhouselaw16.SlotsWears", spec := "slotsWears", inPlace := ["maps.clone"], unfollowed := true, recurses := true, named := ["springhouse/crc.fours", "springhouse/head.widths"], apart := false, laid := [("springhouse/crc.fours", laid_springhouse_crc_fours), ("springhouse/head.widths", laid_springhouse_head_widths)] }
def SlotsWearsSaid : Prop := slotsWearsRow.holds Tryz.pinned (OpenSpec.ofChange slotsWearsSpec)

/-- ITS FALSE NEIGHBOUR: 'it returns false'. Refute it at one input. -/
def slotsWearsWrong : ChangeSpec := { name := "slotsWears", fn := fun _ => fun
  | [d1, d2] => { results := [.lit (.bool false)], args := [d1, d2] }
  | _ => none }
def SlotsWearsWrongFalsely : Prop := slotsWearsRow.holds Tryz.pinned (OpenSpec.ofChange slotsWearsWrong)

/- THE SECOND FORM. 'bulk': how many values and letters a reading holds, each counted each time it is reached (what is shared counts as often as it is met; a slice's spare places count too). A statement '..UptoSaid' is the law's where the arguments, and the package variables that the reading takes, are together of bulk at most 1048576: NARROWER than '..Said'. Prove '..Said' where nothing that the law and all that it calls make is longer than what came in: it says more and counts as full. Else prove '..UptoSaid'. A law counts once. -/
mutual
def uptoBulk {H : Type} : DataW H → Nat
  | .lit (.string bytes) => bytes.length + 1
  | .lit _ => 1
  | .nil => 1
  | .ptr d => uptoBulk d + 1
  | .slice elems spare => uptoBulkAll elems + uptoBulkAll spare + 1
  | .agg parts => uptoBulkAll parts + 1
  | .iface _ d => uptoBulk d + 1
  | .map entries => uptoBulkEntries entries + 1
  | .held _ => 1
def uptoBulkAll {H : Type} : List (DataW H) → Nat
  | [] => 0
  | d :: r => uptoBulk d + uptoBulkAll r
def uptoBulkEntries {H : Type} : List (Lit × DataW H) → Nat
  | [] => 0
  | x :: r => uptoBulkEntry x + uptoBulkEntries r
def uptoBulkEntry {H : Type} : Lit × DataW H → Nat
  | (.string bytes, d) => bytes.length + uptoBulk d + 1
  | (_, d) => uptoBulk d + 1
 end
def uptoSmall : (H : Type) → List (DataW H) → Bool := fun _ ds => decide (uptoBulkAll ds ≤ 1048576)
def OpenSpec.upto (s : _root_.Go.ChangeSpec) : _root_.Go.OpenSpec := { _root_.Go.OpenSpec.ofChange s with cond := some uptoSmall }

/-- 'springhouselaw16.SlotsPlays', WHERE WHAT IT READS IS OF BULK AT MOST 1048576: true; the input reads as it did. -/
def slotsPlaysUptoRow : OpenClaim := { program := "ytapklelkcicjlaagreatdoor", sum := "2b907a258264146fb7fffc68150e73d2519603ad549654d0df8ee1fde850d559", func := "springhouse/springhouselaw16.SlotsPlays", spec := "slotsPlays", inPlace := ["maps.clone"], unfollowed := true, recurses := true, named := ["springhouse/crc.fours", "springhouse/head.widths"], apart := false, laid := [("springhouse/crc.fours", laid_springhouse_crc_fours), ("springhouse/head.widths", laid_springhouse_head_widths)], narrowed := true }
def SlotsPlaysUptoSaid : Prop := slotsPlaysUptoRow.holds Tryz.pinned (OpenSpec.upto slotsPlaysSpec)

/-- 'springhouselaw16.SlotsKeeps', WHERE WHAT IT READS IS OF BULK AT MOST 1048576: true; the input reads as it did. -/
def slotsKeepsUptoRow : OpenClaim := { program := "ytapklelkcicjlaagreatdoor", sum := "2b907a258264146fb7fffc68150e73d2519603ad549654d0df8ee1fde850d559", func := "springhouse/springhouselaw16.SlotsKeeps", spec := "slotsKeeps", inPlace := ["maps.clone"], unfollowed := true, recurses := true, named := ["springhouse/crc.fours", "springhouse/head.widths"], apart := false, laid := [("springhouse/crc.fours", laid_springhouse_crc_fours), ("springhouse/head.widths", laid_springhouse_head_widths)], narrowed := true }
def SlotsKeepsUptoSaid : Prop := slotsKeepsUptoRow.holds Tryz.pinned (OpenSpec.upto slotsKeepsSpec)

/-- 'springhouselaw16.SlotsMakes', WHERE WHAT IT READS IS OF BULK AT MOST 1048576: true; the input reads as it did. -/
def slotsMakesUptoRow : OpenClaim := { program := "ytapklelkcicjlaagreatdoor", sum := "2b907a258264146fb7fffc68150e73d2519603ad549654d0df8ee1fde850d559", func := "springhouse/springhouselaw16.SlotsMakes", spec := "slotsMakes", unfollowed := true, recurses := true, named := ["springhouse/crc.fours", "springhouse/head.widths"], apart := false, laid := [("springhouse/crc.fours", laid_springhouse_crc_fours), ("springhouse/head.widths", laid_springhouse_head_widths)], narrowed := true }
def SlotsMakesUptoSaid : Prop := slotsMakesUptoRow.holds Tryz.pinned (OpenSpec.upto slotsMakesSpec)

/-- 'springhouselaw16.SlotsWears', WHERE WHAT IT READS IS OF BULK AT MOST 1048576: true; the input reads as it did. -/
def slotsWearsUptoRow : OpenClaim := { program := "ytapklelkcicjlaagreatdoor", sum := "2b907a258264146fb7fffc68150e73d2519603ad549654d0df8ee1fde850d559", func := "springhouse/springhouselaw16.SlotsWears", spec := "slotsWears", inPlace := ["maps.clone"], unfollowed := true, recurses := true, named := ["springhouse/crc.fours", "springhouse/head.widths"], apart := false, laid := [("springhouse/crc.fours", laid_springhouse_crc_fours), ("springhouse/head.widths", laid_springhouse_head_widths)], narrowed := true }
def SlotsWearsUptoSaid : Prop := slotsWearsUptoRow.holds Tryz.pinned (OpenSpec.upto slotsWearsSpec)

end Rows
end Go.Proofs.YtapklelkcicjlaaGreatDoor
