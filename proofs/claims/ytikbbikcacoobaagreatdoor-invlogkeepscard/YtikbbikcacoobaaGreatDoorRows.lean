/-
  NARROWER THAN 'FOR EVERY INPUT', by the rows' own cells (each row's printed sentence says how): InvlogPlays: laid · InvlogKeeps: laid · InvlogTwice: laid.
  DERIVED. THE GIVEN ROWS OF THIS SEAT. 3 by the template 'for every input the law returns true; each argument reads behind the call as it read before'; 0 by the template 'total and deterministic' (their statements: YtikbbikcacoobaaGreatDoorTotals.lean).
  GIVEN WITH THE SEED: the statements are not yours to turn. If you find one false, say at which input.
  Laid BY PROGRAM, IN A SANDBOX (cutbox-rows.mjs): the forced cells as the released guide's own fill.sh prints them over the translation 5d5bd19eb9c6b946… (all of the seat's roots in one cut). By AI agents, Wed Nov 11 2026. No macro, syntax, notation, axiom, sorry.
-/
import Derived.Test.YtikbbikcacoobaaGreatDoorChecked
import GoSem.Claim
import GoSem.ClaimJoined
import GoSem.ClaimMapViews
import Derived.JoinedTies
import Derived.KernelRfl
namespace Go.Proofs.YtikbbikcacoobaaGreatDoor
/- THE CELL 'sum', in the pinned program and in every row, IS THE sha256 OF THE DUMP (.gsa) THAT YtikbbikcacoobaaGreatDoorProg.lean LOADS. Nothing in Lean hashes anything: it is a label: what it is worth is what the hold of that sum in a sandbox is worth. -/
noncomputable def Tryz.pinned : Pinned := { name := "ytikbbikcacoobaagreatdoor", sum := "5d5bd19eb9c6b9469085f6de71098cb24d0c28fbbc9e11245787e34b6afb1acf", checked := Tryz.checked }
namespace Rows
def none {H : Type} : Left H := { results := [], args := [] }

/- WHAT THE LISTED PACKAGE-LEVEL VARIABLES READ AS WHEN THE CALL BEGINS. Each datum BY PROGRAM (the guide's laid-datum.mjs) off the statement by which the dump's own 'gosem.cut.vars' lays the variable. In a bare row this is a premise. The card (YtikbbikcacoobaaGreatDoorCards.lean) ties it to the program's text. -/
def laid_springhouse_crc_fours {H : Type} : DataW H := .agg [.lit (.int .u32 0), .lit (.int .u32 498536548), .lit (.int .u32 997073096), .lit (.int .u32 651767980), .lit (.int .u32 1994146192), .lit (.int .u32 1802195444), .lit (.int .u32 1303535960), .lit (.int .u32 1342533948), .lit (.int .u32 3988292384), .lit (.int .u32 4027552580), .lit (.int .u32 3604390888), .lit (.int .u32 3412177804), .lit (.int .u32 2607071920), .lit (.int .u32 2262029012), .lit (.int .u32 2685067896), .lit (.int .u32 3183342108)]

/-- 'springhouselaw14.InvlogPlays': WHATEVER THE INPUT: true; the input reads as it did. -/
def invlogPlaysSpec : ChangeSpec := { name := "invlogPlays", fn := fun _ => fun
  | [d1, d2, d3] => { results := [.lit (.bool true)], args := [d1, d2, d3] }
  | _ => none }
def invlogPlaysRow : OpenClaim := { program := "ytikbbikcacoobaagreatdoor", sum := "5d5bd19eb9c6b9469085f6de71098cb24d0c28fbbc9e11245787e34b6afb1acf", func := "springhouse/springhouselaw14.InvlogPlays", spec := "invlogPlays", inPlace := ["maps.clone"], unfollowed := true, recurses := true, named := ["springhouse/crc.fours"], apart := false, laid := [("springhouse/crc.fours", laid_springhouse_crc_fours)] }
def InvlogPlaysSaid : Prop := invlogPlaysRow.holds Tryz.pinned (OpenSpec.ofChange invlogPlaysSpec)

/-- ITS FALSE NEIGHBOUR: 'it returns false'. Refute it at one input. -/
def invlogPlaysWrong : ChangeSpec := { name := "invlogPlays", fn := fun _ => fun
  | [d1, d2, d3] => { results := [.lit (.bool false)], args := [d1, d2, d3] }
  | _ => none }
def InvlogPlaysWrongFalsely : Prop := invlogPlaysRow.holds Tryz.pinned (OpenSpec.ofChange invlogPlaysWrong)

/-- 'springhouselaw14.InvlogKeeps': WHATEVER THE INPUT: true; the input reads as it did. -/
def invlogKeepsSpec : ChangeSpec := { name := "invlogKeeps", fn := fun _ => fun
  | [d1, d2, d3, d4, d5] => { results := [.lit (.bool true)], args := [d1, d2, d3, d4, d5] }
  | _ => none }
def invlogKeepsRow : OpenClaim := { program := "ytikbbikcacoobaagreatdoor", sum := "5d5bd19eb9c6b9469085f6de71098cb24d0c28fbbc9e11245787e34b6afb1acf", func := "springhouse/springhouselaw14.InvlogKeeps", spec := "invlogKeeps", inPlace := ["maps.clone"], unfollowed := true, recurses := true, named := ["springhouse/crc.fours"], apart := false, laid := [("springhouse/crc.fours", laid_springhouse_crc_fours)] }
def InvlogKeepsSaid : Prop := invlogKeepsRow.holds Tryz.pinned (OpenSpec.ofChange invlogKeepsSpec)

/-- ITS FALSE NEIGHBOUR: 'it returns false'. Refute it at one input. -/
def invlogKeepsWrong : ChangeSpec := { name := "invlogKeeps", fn := fun _ => fun
  | [d1, d2, d3, d4, d5] => { results := [.lit (.bool false)], args := [d1, d2, d3, d4, d5] }
  | _ => none }
def InvlogKeepsWrongFalsely : Prop := invlogKeepsRow.holds Tryz.pinned (OpenSpec.ofChange invlogKeepsWrong)

/-- 'springhouselaw14.InvlogTwice': WHATEVER THE INPUT: true; the input reads as it did. -/
def invlogTwiceSpec : ChangeSpec := { name := "invlogTwice", fn := fun _ => fun
  | [d1, d2, d3] => { results := [.lit (.bool true)], args := [d1, d2, d3] }
  | _ => none }
def invlogTwiceRow : OpenClaim := { program := "ytikbbikcacoobaagreatdoor", sum := "5d5bd19eb9c6b9469085f6de71098cb24d0c28fbbc9e11245787e34b6afb1acf", func := "springhouse/springhouselaw14.InvlogTwice", spec := "invlogTwice", inPlace := ["maps.clone"], unfollowed := true, recurses := true, named := ["springhouse/crc.fours"], apart := false, laid := [("springhouse/crc.fours", laid_springhouse_crc_fours)] }
def InvlogTwiceSaid : Prop := invlogTwiceRow.holds Tryz.pinned (OpenSpec.ofChange invlogTwiceSpec)

/-- ITS FALSE NEIGHBOUR: 'it returns false'. Refute it at one input. -/
def invlogTwiceWrong : ChangeSpec := { name := "invlogTwice", fn := fun _ => fun
  | [d1, d2, d3] => { results := [.lit (.bool false)], args := [d1, d2, d3] }
  | _ => none }
def InvlogTwiceWrongFalsely : Prop := invlogTwiceRow.holds Tryz.pinned (OpenSpec.ofChange invlogTwiceWrong)

/- THE SECOND FORM. 'bulk': how many values and letters a reading holds, each counted each time it is reached (what is shared counts as often as it is met; a slice's spare places count too). A statement '..UptoSaid' is the law's where the arguments, and the package variables that the reading takes, are together of bulk at most 1048576: NARROWER than '..Said'. Prove '..Said' where nothing that the law and all that it calls make is longer than what came in: it says more and counts as full. Else prove '..UptoSaid'. A law counts once. -/
mutual
def uptoBulk {H : Type} : DataW H → Nat
  | .lit (.string bytes) => bytes.length + 1
  | .lit _ => 1
  | .nil => 1
  | .ptr d => uptoBulk d + 1
  | .slice elems spare => uptoBulkAll elems + uptoBulkAll spare + 1
  | .agg parts => uptoBulkAll parts + 1
  | .iface _ d => uptoBulk d + 1
  | .map entries => uptoBulkEntries entries + 1
  | .held _ => 1
def uptoBulkAll {H : Type} : List (DataW H) → Nat
  | [] => 0
  | d :: r => uptoBulk d + uptoBulkAll r
def uptoBulkEntries {H : Type} : List (Lit × DataW H) → Nat
  | [] => 0
  | x :: r => uptoBulkEntry x + uptoBulkEntries r
def uptoBulkEntry {H : Type} : Lit × DataW H → Nat
  | (.string bytes, d) => bytes.length + uptoBulk d + 1
  | (_, d) => uptoBulk d + 1
 end
def uptoSmall : (H : Type) → List (DataW H) → Bool := fun _ ds => decide (uptoBulkAll ds ≤ 1048576)
def OpenSpec.upto (s : _root_.Go.ChangeSpec) : _root_.Go.OpenSpec := { _root_.Go.OpenSpec.ofChange s with cond := some uptoSmall }

/-- 'springhouselaw14.InvlogPlays', WHERE WHAT IT READS IS OF BULK AT MOST 1048576: true; the input reads as it did. -/
def invlogPlaysUptoRow : OpenClaim := { program := "ytikbbikcacoobaagreatdoor", sum := "5d5bd19eb9c6b9469085f6de71098cb24d0c28fbbc9e11245787e34b6afb1acf", func := "springhouse/springhouselaw14.InvlogPlays", spec := "invlogPlays", inPlace := ["maps.clone"], unfollowed := true, recurses := true, named := ["springhouse/crc.fours"], apart := false, laid := [("springhouse/crc.fours", laid_springhouse_crc_fours)], narrowed := true }
def InvlogPlaysUptoSaid : Prop := invlogPlaysUptoRow.holds Tryz.pinned (OpenSpec.upto invlogPlaysSpec)

/-- 'springhouselaw14.InvlogKeeps', WHERE WHAT IT READS IS OF BULK AT MOST 1048576: true; the input reads as it did. -/
def invlogKeepsUptoRow : OpenClaim := { program := "ytikbbikcacoobaagreatdoor", sum := "5d5bd19eb9c6b9469085f6de71098cb24d0c28fbbc9e11245787e34b6afb1acf", func := "springhouse/springhouselaw14.InvlogKeeps", spec := "invlogKeeps", inPlace := ["maps.clone"], unfollowed := true, recurses := true, named := ["springhouse/crc.fours"], apart := false, laid := [("springhouse/crc.fours", laid_springhouse_crc_fours)], narrowed := true }
def InvlogKeepsUptoSaid : Prop := invlogKeepsUptoRow.holds Tryz.pinned (OpenSpec.upto invlogKeepsSpec)

/-- 'springhouselaw14.InvlogTwice', WHERE WHAT IT READS IS OF BULK AT MOST 1048576: true; the input reads as it did. -/
def invlogTwiceUptoRow : OpenClaim := { program := "ytikbbikcacoobaagreatdoor", sum := "5d5bd19eb9c6b9469085f6de71098cb24d0c28fbbc9e11245787e34b6afb1acf", func := "springhouse/springhouselaw14.InvlogTwice", spec := "invlogTwice", inPlace := ["maps.clone"], unfollowed := true, recurses := true, named := ["springhouse/crc.fours"], apart := false, laid := [("springhouse/crc.fours", laid_springhouse_crc_fours)], narrowed := true }
def InvlogTwiceUptoSaid : Prop := invlogTwiceUptoRow.holds Tryz.pinned (OpenSpec.upto invlogTwiceSpec)

end Rows
end Go.Proofs.YtikbbikcacoobaaGreatDoor
