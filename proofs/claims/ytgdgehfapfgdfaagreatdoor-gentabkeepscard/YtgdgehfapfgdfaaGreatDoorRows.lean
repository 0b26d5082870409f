/-
  NARROWER THAN 'FOR EVERY INPUT', by the rows' own cells (each row's printed sentence says how): GentabPlays: laid · GentabKeeps: laid · GentabMakes: laid · GentabRises: laid.
  DERIVED. THE GIVEN ROWS OF THIS SEAT. 4 by the template 'for every input the law returns true; each argument reads behind the call as it read before'; 0 by the template 'total and deterministic' (their statements: YtgdgehfapfgdfaaGreatDoorTotals.lean).
  GIVEN WITH THE SEED: the statements are not yours to turn. If you find one false, say at which input.
  Laid BY PROGRAM, IN A SANDBOX (cutbox-rows.mjs): the forced cells as the released guide's own fill.sh prints them over the translation 79d7bd87d0c58031… (all of the seat's roots in one cut). By AI agents, Wed Nov 11 2026. No macro, syntax, notation, axiom, sorry.
-/
import Derived.Test.YtgdgehfapfgdfaaGreatDoorChecked
import GoSem.Claim
import GoSem.ClaimJoined
import GoSem.ClaimMapViews
import Derived.JoinedTies
import Derived.KernelRfl
namespace Go.Proofs.YtgdgehfapfgdfaaGreatDoor
/- THE CELL 'sum', in the pinned program and in every row, IS THE sha256 OF THE DUMP (.gsa) THAT YtgdgehfapfgdfaaGreatDoorProg.lean LOADS. Nothing in Lean hashes anything: it is a label: what it is worth is what the hold of that sum in a sandbox is worth. -/
noncomputable def Tryz.pinned : Pinned := { name := "ytgdgehfapfgdfaagreatdoor", sum := "79d7bd87d0c58031227b798803833b0fa52a9dbcb2edb10028e0509c47611aae", checked := Tryz.checked }
namespace Rows
def none {H : Type} : Left H := { results := [], args := [] }

/- WHAT THE LISTED PACKAGE-LEVEL VARIABLES READ AS WHEN THE CALL BEGINS. Each datum BY PROGRAM (the guide's laid-datum.mjs) off the statement by which the dump's own 'gosem.cut.vars' lays the variable. In a bare row this is a premise. The card (YtgdgehfapfgdfaaGreatDoorCards.lean) ties it to the program's text. -/
def laid_springhouse_crc_fours {H : Type} : DataW H := .agg [.lit (.int .u32 0), .lit (.int .u32 498536548), .lit (.int .u32 997073096), .lit (.int .u32 651767980), .lit (.int .u32 1994146192), .lit (.int .u32 1802195444), .lit (.int .u32 1303535960), .lit (.int .u32 1342533948), .lit (.int .u32 3988292384), .lit (.int .u32 4027552580), .lit (.int .u32 3604390888), .lit (.int .u32 3412177804), .lit (.int .u32 2607071920), .lit (.int .u32 2262029012), .lit (.int .u32 2685067896), .lit (.int .u32 3183342108)]

/-- 'springhouselaw12.GentabPlays': WHATEVER THE INPUT: true; the input reads as it did. -/
def gentabPlaysSpec : ChangeSpec := { name := "gentabPlays", fn := fun _ => fun
  | [d1, d2] => { results := [.lit (.bool true)], args := [d1, d2] }
  | _ => none }
def gentabPlaysRow : OpenClaim := { program := "ytgdgehfapfgdfaagreatdoor", sum := "79d7bd87d0c58031227b798803833b0fa52a9dbcb2edb10028e0509c47611aae", func := "springhouse/springhouselaw12.GentabPlays", spec := "gentabPlays", inPlace := ["maps.clone"], unfollowed := true, recurses := true, named := ["springhouse/crc.fours"], apart := false, laid := [("springhouse/crc.fours", laid_springhouse_crc_fours)] }
def GentabPlaysSaid : Prop := gentabPlaysRow.holds Tryz.pinned (OpenSpec.ofChange gentabPlaysSpec)

/-- ITS FALSE NEIGHBOUR: 'it returns false'. Refute it at one input. -/
def gentabPlaysWrong : ChangeSpec := { name := "gentabPlays", fn := fun _ => fun
  | [d1, d2] => { results := [.lit (.bool false)], args := [d1, d2] }
  | _ => none }
def GentabPlaysWrongFalsely : Prop := gentabPlaysRow.holds Tryz.pinned (OpenSpec.ofChange gentabPlaysWrong)

/-- 'springhouselaw12.GentabKeeps': WHATEVER THE INPUT: true; the input reads as it did. -/
def gentabKeepsSpec : ChangeSpec := { name := "gentabKeeps", fn := fun _ => fun
  | [d1, d2, d3, d4, d5] => { results := [.lit (.bool true)], args := [d1, d2, d3, d4, d5] }
  | _ => none }
def gentabKeepsRow : OpenClaim := { program := "ytgdgehfapfgdfaagreatdoor", sum := "79d7bd87d0c58031227b798803833b0fa52a9dbcb2edb10028e0509c47611aae", func := "springhouse/springhouselaw12.GentabKeeps", spec := "gentabKeeps", inPlace := ["maps.clone"], unfollowed := true, recurses := true, named := ["springhouse/crc.fours"], apart := false, laid := [("springhouse/crc.fours", laid_springhouse_crc_fours)] }
def GentabKeepsSaid : Prop := gentabKeepsRow.holds Tryz.pinned (OpenSpec.ofChange gentabKeepsSpec)

/-- ITS FALSE NEIGHBOUR: 'it returns false'. Refute it at one input. -/
def gentabKeepsWrong : ChangeSpec := { name := "gentabKeeps", fn := fun _ => fun
  | [d1, d2, d3, d4, d5] => { results := [.lit (.bool false)], args := [d1, d2, d3, d4, d5] }
  | _ => none }
def GentabKeepsWrongFalsely : Prop := gentabKeepsRow.holds Tryz.pinned (OpenSpec.ofChange gentabKeepsWrong)

/-- 'springhouselaw12.GentabMakes': WHATEVER THE INPUT: true; the input reads as it did. -/
def gentabMakesSpec : ChangeSpec := { name := "gentabMakes", fn := fun _ => fun
  | [d1, d2] => { results := [.lit (.bool true)], args := [d1, d2] }
  | _ => none }
def gentabMakesRow : OpenClaim := { program := "ytgdgehfapfgdfaagreatdoor", sum := "79d7bd87d0c58031227b798803833b0fa52a9dbcb2edb10028e0509c47611aae", func := "springhouse/springhouselaw12.GentabMakes", spec := "gentabMakes", unfollowed := true, recurses := true, named := ["springhouse/crc.fours"], apart := false, laid := [("springhouse/crc.fours", laid_springhouse_crc_fours)] }
def GentabMakesSaid : Prop := gentabMakesRow.holds Tryz.pinned (OpenSpec.ofChange gentabMakesSpec)

/-- ITS FALSE NEIGHBOUR: 'it returns false'. Refute it at one input. -/
def gentabMakesWrong : ChangeSpec := { name := "gentabMakes", fn := fun _ => fun
  | [d1, d2] => { results := [.lit (.bool false)], args := [d1, d2] }
  | _ => none }
def GentabMakesWrongFalsely : Prop := gentabMakesRow.holds Tryz.pinned (OpenSpec.ofChange gentabMakesWrong)

/-- 'springhouselaw12.GentabRises': WHATEVER THE INPUT: true; the input reads as it did. -/
def gentabRisesSpec : ChangeSpec := { name := "gentabRises", fn := fun _ => fun
  | [d1, d2] => { results := [.lit (.bool true)], args := [d1, d2] }
  | _ => none }
def gentabRisesRow : OpenClaim := { program := "ytgdgehfapfgdfaagreatdoor", sum := "79d7bd87d0c58031227b798803833b0fa52a9dbcb2edb10028e0509c47611aae", func := "springhouse/springhouselaw12.GentabRises", spec := "gentabRises", inPlace := ["maps.clone"], unfollowed := true, recurses := true, named := ["springhouse/crc.fours"], apart := false, laid := [("springhouse/crc.fours", laid_springhouse_crc_fours)] }
def GentabRisesSaid : Prop := gentabRisesRow.holds Tryz.pinned (OpenSpec.ofChange gentabRisesSpec)

/-- ITS FALSE NEIGHBOUR: 'it returns false'. Refute it at one input. -/
def gentabRisesWrong : ChangeSpec := { name := "gentabRises", fn := fun _ => fun
  | [d1, d2] => { results := [.lit (.bool false)], args := [d1, d2] }
  | _ => none }
def GentabRisesWrongFalsely : Prop := gentabRisesRow.holds Tryz.pinned (OpenSpec.ofChange gentabRisesWrong)

/- THE SECOND FORM. 'bulk': how many values and letters a reading holds, each counted each time it is reached (what is shared counts as often as it is met; a slice's spare places count too). A statement '..UptoSaid' is the law's where the arguments, and the package variables that the reading takes, are together of bulk at most 1048576: NARROWER than '..Said'. Prove '..Said' where nothing that the law and all that it calls make is longer than what came in: it says more and counts as full. Else prove '..UptoSaid'. A law counts once. -/
mutual
def uptoBulk {H : Type} : DataW H → Nat
  | .lit (.string bytes) => bytes.length + 1
  | .lit _ => 1
  | .nil => 1
  | .ptr d => uptoBulk d + 1
  | .slice elems spare => uptoBulkAll elems + uptoBulkAll spare + 1
  | .agg parts => uptoBulkAll parts + 1
  | .iface _ d => uptoBulk d + 1
  | .map entries => uptoBulkEntries entries + 1
  | .held _ => 1
def uptoBulkAll {H : Type} : List (DataW H) → Nat
  | [] => 0
  | d :: r => uptoBulk d + uptoBulkAll r
def uptoBulkEntries {H : Type} : List (Lit × DataW H) → Nat
  | [] => 0
  | x :: r => uptoBulkEntry x + uptoBulkEntries r
def uptoBulkEntry {H : Type} : Lit × DataW H → Nat
  | (.string bytes, d) => bytes.length + uptoBulk d + 1
  | (_, d) => uptoBulk d + 1
 end
def uptoSmall : (H : Type) → List (DataW H) → Bool := fun _ ds => decide (uptoBulkAll ds ≤ 1048576)
def OpenSpec.upto (s : _root_.Go.ChangeSpec) : _root_.Go.OpenSpec := { _root_.Go.OpenSpec.ofChange s with cond := some uptoSmall }

/-- 'springhouselaw12.GentabPlays', WHERE WHAT IT READS IS OF BULK AT MOST 1048576: true; the input reads as it did. -/
def gentabPlaysUptoRow : OpenClaim := { program := "ytgdgehfapfgdfaagreatdoor", sum := "79d7bd87d0c58031227b798803833b0fa52a9dbcb2edb10028e0509c47611aae", func := "springhouse/springhouselaw12.GentabPlays", spec := "gentabPlays", inPlace := ["maps.clone"], unfollowed := true, recurses := true, named := ["springhouse/crc.fours"], apart := false, laid := [("springhouse/crc.fours", laid_springhouse_crc_fours)], narrowed := true }
def GentabPlaysUptoSaid : Prop := gentabPlaysUptoRow.holds Tryz.pinned (OpenSpec.upto gentabPlaysSpec)

/-- 'springhouselaw12.GentabKeeps', WHERE WHAT IT READS IS OF BULK AT MOST 1048576: true; the input reads as it did. -/
def gentabKeepsUptoRow : OpenClaim := { program := "ytgdgehfapfgdfaagreatdoor", sum := "79d7bd87d0c58031227b798803833b0fa52a9dbcb2edb10028e0509c47611aae", func := "springhouse/springhouselaw12.GentabKeeps", spec := "gentabKeeps", inPlace := ["maps.clone"], unfollowed := true, recurses := true, named := ["springhouse/crc.fours"], apart := false, laid := [("springhouse/crc.fours", laid_springhouse_crc_fours)], narrowed := true }
def GentabKeepsUptoSaid : Prop := gentabKeepsUptoRow.holds Tryz.pinned (OpenSpec.upto gentabKeepsSpec)

/-- 'springhouselaw12.GentabMakes', WHERE WHAT IT READS IS OF BULK AT MOST 1048576: true; the input reads as it did. -/
def gentabMakesUptoRow : OpenClaim := { program := "ytgdgehfapfgdfaagreatdoor", sum := "79d7bd87d0c58031227b798803833b0fa52a9dbcb2edb10028e0509c47611aae", func := "springhouse/springhouselaw12.GentabMakes", spec := "gentabMakes", unfollowed := true, recurses := true, named := ["springhouse/crc.fours"], apart := false, laid := [("springhouse/crc.fours", laid_springhouse_crc_fours)], narrowed := true }
def GentabMakesUptoSaid : Prop := gentabMakesUptoRow.holds Tryz.pinned (OpenSpec.upto gentabMakesSpec)

/-- 'springhouselaw12.GentabRises', WHERE WHAT IT READS IS OF BULK AT MOST 1048576: true; the input reads as it did. -/
def gentabRisesUptoRow : OpenClaim := { program := "ytgdgehfapfgdfaagreatdoor", sum := "79d7bd87d0c58031227b798803833b0fa52a9dbcb2edb10028e0509c47611aae", func := "springhouse/springhouselaw12.GentabRises", spec := "gentabRises", inPlace := ["maps.clone"], unfollowed := true, recurses := true, named := ["springhouse/crc.fours"], apart := false, laid := [("springhouse/crc.fours", laid_springhouse_crc_fours)], narrowed := true }
def GentabRisesUptoSaid : Prop := gentabRisesUptoRow.holds Tryz.pinned (OpenSpec.upto gentabRisesSpec)

end Rows
end Go.Proofs.YtgdgehfapfgdfaaGreatDoor
