/-
  Powers and sectors as the document tells of them: plain facts. No conditions.
-/
import Derived.Test.YtdkniholeaiemaaDvMem
namespace Go.Proofs.Ytdkniholeaiemaa.Dm
open Go.RowKit Oc
set_option linter.unusedVariables false

/-- a sector: what is fixed, its loose writes, whether it is rotten -/
structure Sec where
  fixed : List UInt8
  loose : List (List UInt8)
  rotten : Bool
def Sec.stands (s : Sec) : List UInt8 := if s.loose = [] then s.fixed else s.loose.getD (s.loose.length - 1) []
theorem Sec.stands_fixed {s : Sec} (h : s.loose = []) : s.stands = s.fixed := if_pos h
theorem Sec.stands_loose {s : Sec} (h : s.loose ≠ []) : s.stands = s.loose.getD (s.loose.length - 1) [] := if_neg h
/-- a power -/
structure PS where
  off : Bool
  fuse : Option Nat
  done : Nat
def PS.spend (p : PS) : PS := match p.fuse with
  | some 0 => { p with off := true }
  | some (k + 1) => { p with fuse := some k, done := p.done + 1 }
  | none => { p with done := p.done + 1 }
/-- does it go? -/
def PS.goes (p : PS) : Bool := p.fuse == some 0
def fz : Option Nat → Int
  | none => -1
  | some k => k
theorem PS.done_le (p : PS) : p.spend.done ≤ p.done + 1 := by unfold PS.spend; split <;> simp
theorem PS.done_ge (p : PS) : p.done ≤ p.spend.done := by unfold PS.spend; split <;> simp
theorem PS.spend_goes {p : PS} (h : p.goes = true) : p.spend = { p with off := true } := by
  obtain ⟨off, fuse, done⟩ := p
  unfold PS.goes at h
  simp at h
  subst h
  rfl
end Go.Proofs.Ytdkniholeaiemaa.Dm
