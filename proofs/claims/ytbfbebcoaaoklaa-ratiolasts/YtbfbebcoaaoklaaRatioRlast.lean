/-
  Contracts of the reference's Last and List: what each call returns, and that nothing old turns.
-/
import Derived.Test.YtbfbebcoaaoklaaRatioLast
namespace Go.Proofs.Ytbfbebcoaaoklaa.W
open Go.RowKit Flt

theorem below_drewN {B : Nat} {a w : World} (h : Below B a w) (n : Nat) : Below B a (w.drewN n) := ⟨h.os, h.tape, h.output, h.size, h.block⟩
theorem cellsF_drewN {w : World} {a0 : Option Addr} {len : Nat} {h : Nat → Nat} (hc : CellsF w a0 len h) (n : Nat) : CellsF (w.drewN n) a0 len h := hc
theorem self_eq_nan {b : Nat} (h : nan b) : (FloatKind.f64.format.order b b == some Ordering.eq) = false := by rw [fmt64, order_nan_l h]; rfl
theorem self_eq_not {b : Nat} (h : ¬ nan b) : (FloatKind.f64.format.order b b == some Ordering.eq) = true := by rw [fmt64, order_val h h, cmp_eq rfl]; rfl

theorem rless_q_yes {a b : Nat} (ha : a < 18446744073709551616) (hb : b < 18446744073709551616) (h : rk a < rk b) (w : World) (n : Nat) :
    Calls Try.prog 11 #[.float .f64 a, .float .f64 b] (w.drewN n) fun e w' => e = .returned (.bool true) ∧ ∃ m, w' = w.drewN m :=
  Calls.quiet_of_same ((rless_yes ha hb h (w.drewN n)).mono fun _ _ ⟨h1, h2⟩ => ⟨h1, h2.symm⟩)
theorem rless_q_no {a b : Nat} (ha : a < 18446744073709551616) (hb : b < 18446744073709551616) (h : ¬ rk a < rk b) (w : World) (n : Nat) :
    Calls Try.prog 11 #[.float .f64 a, .float .f64 b] (w.drewN n) fun e w' => e = .returned (.bool false) ∧ ∃ m, w' = w.drewN m :=
  Calls.quiet_of_same ((rless_no ha hb h (w.drewN n)).mono fun _ _ ⟨h1, h2⟩ => ⟨h1, h2.symm⟩)

set_option maxHeartbeats 2000000 in
theorem rlast_any (a0 : Option Addr) (len cap : Nat) (h : Nat → Nat) (l : Nat) (f : Bool) (w : World) (hl : len ≤ 40) (hc : CellsF w a0 len h) (hh : ∀ i, h i < 18446744073709551616) (he : lastTo h len = (l, f)) :
    Calls Try.prog 27 #[.slice a0 len cap] w fun e w' => e = .returned (.tuple #[.float .f64 l, .bool f]) ∧ ∀ B, Below B w w' := by
  have HC := Lib.hid hc
  have HH := Lib.hid hh
  have HE := Lib.hid he
  clear hc hh he
  go_enter Try.func27, Try.ntmps27
  go_wp2
  go_loopw [4, 5, 6] (fun t b i wr => ∃ k : Nat, ∃ u : Nat, ∃ g : Bool, k ≤ len ∧ i = .int .i64 k ∧ t = .float .f64 u ∧ b = .bool g ∧ Hid (lastTo h k = (u, g)) ∧ Hid (CellsF wr a0 len h) ∧ Hid (∀ B, Below B w wr)) (fun _ _ i _ => len - (intOf i).toNat)
  case atStart => exact ⟨0, 0, false, Nat.zero_le _, rfl, rfl, rfl, rfl, HC, fun B => Below.refl B _⟩
  case round =>
    obtain ⟨k, u, g, hk, rfl, rfl, rfl, E, HCr, HB⟩ := hrel
    by_cases hlt : k < len
    · obtain ⟨b, off, rfl, hcell⟩ := HCr.out k hlt
      obtain ⟨x, ex⟩ : ∃ x, h k = x := ⟨_, rfl⟩
      rw [ex] at hcell
      have lx := Lib.hid (show x < 18446744073709551616 by rw [← ex]; exact HH.out k)
      have lu := Lib.hid (show u < 18446744073709551616 by have := lastTo_lt h HH.out k; rw [E.out] at this; exact this)
      have EX := Lib.hid ex
      clear ex
      by_cases n : nan x
      · have R := Lib.hid (last_nan E.out EX.out n)
        have s := self_eq_nan n
        clear n
        go_wp2
        go_quiet (fail)
        go_wp2
        go_roundw
        case rel => exact ⟨k + 1, u, g, by omega, by go_num, rfl, rfl, R, cellsF_drewN HCr.out _, fun B => below_drewN (HB.out B) _⟩
        case measure => simp [intOf]; omega
      · have s := self_eq_not n
        cases g
        · have R := Lib.hid (last_first E.out EX.out n)
          clear n
          go_wp2
          go_quiet (fail)
          go_wp2
          go_roundw
          case rel => exact ⟨k + 1, x, true, by omega, by go_num, rfl, rfl, R, cellsF_drewN HCr.out _, fun B => below_drewN (HB.out B) _⟩
          case measure => simp [intOf]; omega
        · by_cases r : rk u < rk x
          · have R := Lib.hid (last_take E.out EX.out n r)
            have RR := Lib.hid r
            clear n r
            go_wp2
            go_quiet ((go_at_call 11; exact rless_q_yes lu.out lx.out RR.out _ _))
            go_wp2
            go_roundw
            case rel => exact ⟨k + 1, x, true, by omega, by go_num, rfl, rfl, R, cellsF_drewN HCr.out _, fun B => below_drewN (HB.out B) _⟩
            case measure => simp [intOf]; omega
          · have R := Lib.hid (last_keep E.out EX.out n r)
            have RR := Lib.hid r
            clear n r
            go_wp2
            go_quiet ((go_at_call 11; exact rless_q_no lu.out lx.out RR.out _ _))
            go_wp2
            go_roundw
            case rel => exact ⟨k + 1, u, true, by omega, by go_num, rfl, rfl, R, cellsF_drewN HCr.out _, fun B => below_drewN (HB.out B) _⟩
            case measure => simp [intOf]; omega
    · have : k = len := by omega
      subst this
      have e := E.out
      rw [HE.out] at e
      injection e with e1 e2
      subst e1 e2
      go_wp2
      go_ret2
      exact ⟨rfl, HB.out⟩

theorem info_f : (Try.prog.info? 23).map (fun i => (i.zero, i.size, i.bytes)) = some (some (.float .f64 0), 1, 8) := by kernel_rfl
def floats (z : Nat → Int) (k : Nat) : List Value := (List.range k).map fun j => Value.float .f64 (z j).toNat
theorem floats_succ (z : Nat → Int) (k : Nat) : floats z (k + 1) = floats z k ++ [Value.float .f64 (z k).toNat] := by
  unfold floats; rw [List.range_succ, List.map_append]; rfl

/-- what List leaves -/
def Listed (w : World) (n : Nat) (z : Nat → Int) (e : Ending) (w' : World) : Prop :=
  ∃ v, e = .returned v ∧ w'.ownsRow w.heap.size 23 1 v n (floats z n) ∧ Below w.heap.size w w'

set_option maxHeartbeats 2000000 in
theorem list_any (a0 : Option Addr) (len cap n : Nat) (z : Nat → Int) (w : World) (hn : n = min len 40) (hc : CellsU w a0 len z) :
    Calls Try.prog 26 #[.slice a0 len cap] w (Listed w n z) := by
  have HC := Lib.hid hc
  have HN := Lib.hid hn
  clear hc
  have hn1 : n ≤ len := by omega
  have hn2 : n ≤ 40 := by omega
  clear hn
  obtain ⟨i0, hi, hz0, hz1, hz2⟩ := info_parts info_f
  have HI := Lib.hid hi
  have HZ0 := Lib.hid hz0
  have HZ1 := Lib.hid hz1
  have HZ2 := Lib.hid hz2
  clear hi hz0 hz1 hz2
  go_enter Try.func26, Try.ntmps26
  go_wp2
  go_loopw [3, 4] (fun v i wr => ∃ k : Nat, k ≤ n ∧ i = .int .i64 k ∧ Hid (wr.ownsRow w.heap.size 23 1 v k (floats z k)) ∧ Hid (Below w.heap.size w wr)) (fun _ i _ => len - (intOf i).toNat)
  case atStart => exact ⟨0, Nat.zero_le _, rfl, World.ownsRow_nil _ _ _ _, Below.refl _ _⟩
  case round =>
    obtain ⟨k, hk, rfl, hown, hbel⟩ := hrel
    by_cases hlt : k < n
    · have hkl : k < len := by omega
      have hk40 : k < 40 := by omega
      obtain ⟨b, off, rfl, hcell0⟩ := HC.out k hkl
      have hcell : wr.cell? ⟨b, off + k, none⟩ = some (.int .u64 (z k)) := by
        have hb : b < w.heap.size := World.block_lt_of_cell? w _ hcell0
        rw [hbel.out.cell (p := ⟨b, off + k, none⟩) hb]; exact hcell0
      clear hcell0
      go_wp2_with (at_builtin; refine wpList_append_own _ rfl _ _ 39 rfl w.heap.size 23 i0 (.float .f64 0) 1 8 Try.underlying39 HI.out HZ0.out HZ1.out HZ2.out rfl (by decide) _ _ _ rfl (hown.out.alloc _) ⟨wr.heap.size, 0, none⟩ 1 1 [.float .f64 (z k).toNat] rfl rfl ?c1 ?c2 ?c3 ?c4 ?c5 ?_)
      case c1 =>
        intro j u hj
        match j, hj with
        | 0, hj => simp at hj; subst hj; simp [Addr.add]
      case c2 => intro u hu; simp at hu; subst hu; rfl
      case c3 => unfold maxLen; omega
      case c4 => omega
      case c5 => have := hbel.out.size; simp; omega
      · intro v' w1 hown' hgrow _
        have R1 := Lib.hid (show w1.ownsRow w.heap.size 23 1 v' (k + 1) (floats z (k + 1)) by rw [floats_succ]; exact hown')
        have R2 := Lib.hid (show Below w.heap.size w w1 from (hbel.out.alloc hbel.out.size _).grown hgrow (by have := hbel.out.size; simp; omega) (fun g hg => (hown.out.lt g hg).1))
        clear hown' hgrow hcell
        go_wp2
        go_roundw
        case rel => exact ⟨k + 1, by omega, by go_num, R1, R2⟩
        case measure => simp [intOf]; omega
    · have ek : k = n := by omega
      subst ek
      by_cases h40 : len ≤ 40
      · have : len = k := by have := HN.out; omega
        subst this
        go_wp2
        go_ret
        exact ⟨_, rfl, hown.out, hbel.out⟩
      · have : k = 40 := by have := HN.out; omega
        subst this
        go_wp2
        go_ret
        exact ⟨_, rfl, hown.out, hbel.out⟩
end Go.Proofs.Ytbfbebcoaaoklaa.W
