/-
  A device and its power in plain numbers: what reads, writes, flushes, fuses, turned bits answer, and leave. No conditions.
-/
import Derived.Test.YtapklelkcicjlaaGreatDoorKDz
import Derived.Test.YtapklelkcicjlaaGreatDoorKRot
namespace Go.Proofs.YtapklelkcicjlaaGreatDoor.Pd
open Go.RowKit Oc Dm Dw
set_option linter.unusedVariables false

/-- a device and its power -/
structure Vs where
  s : PS
  S : Nat → Sec
  rd : Nat
  wr : Nat
/-- a read of a sector that there is -/
def rd1 (m : Vs) (i : Nat) : Int × List UInt8 × Vs :=
  if m.s.off = true then (80, [], m) else if m.rd % 2 = 1 then (81, [], { m with rd := m.rd / 2 }) else (0, (m.S i).stands, { m with rd := m.rd / 2 })
/-- a write of 64 octets to a sector that there is -/
def wr1 (m : Vs) (i : Nat) (xs : List UInt8) : Int × Vs :=
  if m.s.off = true then (80, m) else if m.s.goes = true then (80, { m with s := m.s.spend }) else
    if m.wr % 2 = 1 then (81, { m with s := m.s.spend, wr := m.wr / 2 }) else (0, { m with s := m.s.spend, S := wrote m.S i xs, wr := m.wr / 2 })
def fl1 (m : Vs) : Int × Vs :=
  if m.s.off = true then (80, m) else if m.s.goes = true then (80, { m with s := m.s.spend }) else (0, { m with s := m.s.spend, S := flushS m.S })
/-- a write of 64 octets, at any number -/
def wrz (n : Nat) (m : Vs) (z : Int) (xs : List UInt8) : Int × Vs := if 0 ≤ z ∧ z < (n : Int) then wr1 m z.toNat xs else (if m.s.off = true then 80 else 3, m)
/-- turned bits -/
def rt1 (n : Nat) (m : Vs) (z bit : Int) (T : Nat) : Int × Vs :=
  if z < 0 ∨ (n : Int) ≤ z ∨ bit < 0 ∨ 512 ≤ bit then (3, m) else
    if (m.S z.toNat).rotten = true ∨ (m.S z.toNat).loose ≠ [] then (6, m) else
      if rotTo m.S z.toNat bit T = (m.S z.toNat).fixed then (1, m) else (0, { m with S := upd m.S z.toNat ⟨rotTo m.S z.toNat bit T, [], true⟩ })
theorem fuseS_done (s : PS) (z : Int) : (PS.fuseS s z).done = s.done := by
  unfold PS.fuseS
  split
  · rfl
  · split <;> rfl
theorem fuseS_le {s : PS} (z : Int) (h : ∀ k, s.fuse = some k → k ≤ 1048576) : ∀ k, (PS.fuseS s z).fuse = some k → k ≤ 1048576 := by
  intro k hk
  unfold PS.fuseS at hk
  split at hk
  · exact h k hk
  · split at hk
    · exact h k hk
    · rename_i h1 h2
      dsimp only at hk
      split at hk
      · cases hk
      · injection hk with hk; omega
end Go.Proofs.YtapklelkcicjlaaGreatDoor.Pd
