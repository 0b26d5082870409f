/-
  Elder texts, one behind the other: SlRfill, SlRfill2, SlRtell, SlRleast. No conditions.
-/
import Derived.Test.YtapklelkcicjlaaGreatDoorKSc
import Derived.Test.YtapklelkcicjlaaGreatDoorKSb
import Derived.Deep.RegionHeld
import Derived.Deep.DrawnRows
import Derived.BigQuiet
import Derived.Deep.QuietTactic
/-! The document's head, Free, Fill. No conditions. -/
namespace Go.Proofs.YtapklelkcicjlaaGreatDoor.Pd.Sl
set_option maxRecDepth 100000
open Go.RowKit Oc Dm W Dw Sr Gt W.Hd
set_option linter.unusedVariables false
set_option maxRecDepth 100000
attribute [local go_sem ↓] Go.wp_at_zero Go.wp_at_succ
section
variable {w0 w w' : World} {G : Nat → Prop} {E q n N t a b la ns i : Nat} {m : Vs} {p : Pn.Pl} {L : List Slt} {h : Hd}
set_option maxHeartbeats 4000000 in
theorem rhead_any (J : GJ w0 G E q n N m t a b p L w) (hp : Pln p la ns n) (hi : i < ns) (hm : MayBe h) (hN : N + 1 ≤ 1000000) :
    Calls Tryz.prog 92 #[.pointer (some ⟨t, 0, none⟩), .int .i64 (i : Int), (.agg #[.bool h.u, .int .i64 h.l, .int .u64 (h.g : Int), .int .u32 (h.s.toNat : Int), .int .u32 (h.r.toNat : Int)])] w fun e w' => e = .returned (.int .i64 (wr1 m (la + 2 * i) (sect h)).1) ∧ GJ w0 G E q n (N + 1) (wr1 m (la + 2 * i) (sect h)).2 t a b p L w' := by
  have HJ := Lib.hid J
  have HP := Lib.hid hp
  have HI := Lib.hid hi
  have HM := Lib.hid hm
  have hla : la ≤ 4096 := by have := hp.hn; have := hp.hn2; omega
  have hin : la + 2 * i < n := by have := hp.hn; omega
  have hi2 : i ≤ 256 := by have := hp.hl2; omega
  obtain ⟨xs, hxs⟩ : ∃ xs, sect h = xs := ⟨_, rfl⟩
  have HXS := Lib.hid hxs
  have hxl : xs.length = 64 := by rw [← hxs]; exact sect_length _
  obtain ⟨v, m', hv⟩ : ∃ v m', wr1 m (la + 2 * i) xs = (v, m') := ⟨_, _, rfl⟩
  obtain ⟨BB, hBB⟩ : ∃ B, tx xs = .string B := ⟨_, rfl⟩
  have HX : Hid (tx xs = .string BB) := hBB
  have KW : Hid (∀ y, Below w.heap.size w y → Calls Tryz.prog 52 #[.pointer (some ⟨E, 0, none⟩), .int .i64 ((la : Int) + 2 * (i : Int)), .string BB] y fun e y' => e = .returned (.int .i64 v) ∧ GJ w0 G E q n (N + 1) m' t a b p L y') := fun y hy => by
    have := (HJ.out.rd.below hy).write hN (la + 2 * i) hin hBB hxl
    rw [hv, show ((la + 2 * i : Nat) : Int) = (la : Int) + 2 * (i : Int) by omega] at this
    exact this.mono fun e y' ⟨e1, e2, e3⟩ => ⟨e1, HJ.out.then2 hy e2 e3⟩
  rw [hxs, hv]
  dsimp only
  clear J hp hi hm hxs hv hBB hin
  go_enter Tryz.func92, Tryz.ntmps92
  go_wp2_with ((with_reducible apply L_loadHd); exact rfl; exact heap_alloc_new _ _; exact rfl)
  refine (rhput_ok h _ HM.out).mono ?_; rintro e w2 ⟨v2, rfl, o2, b2⟩
  obtain ⟨k2, c2, rfl, _, _, s2⟩ := own_oct o2 (sect_length h)
  have B2 : Hid (Below w.heap.size w w2) := bthen (balloc w _) b2
  rw [HXS.out] at s2
  have O2 := Lib.hid s2
  clear b2 s2 o2
  have SL : Hid (∀ y : World, Below w.heap.size w y → y.cell? ⟨t, 0, none⟩ = some (.pointer (some ⟨E, 0, none⟩)) ∧ y.cell? ⟨t, 9, none⟩ = some (.int .i64 (la : Int))) := fun y hy => ⟨((HJ.out.sl.below hy).cells HP.out).1, ((HJ.out.sl.below hy).cells HP.out).2.1⟩
  obtain ⟨c0, c9⟩ := SL.out _ B2.out
  have hw1 : IntKind.i64.wrap (2 * (i : Int)) = 2 * (i : Int) := IntWalk.i64_in _ ⟨by omega, by omega⟩
  have hw2 : IntKind.i64.wrap ((la : Int) + 2 * (i : Int)) = (la : Int) + 2 * (i : Int) := IntWalk.i64_in _ ⟨by omega, by omega⟩
  have cv := O2.out.drew.conv Dm.bt Tryz.underlying9 c2
  rw [show Value.string (bstr xs) = .string BB from HX.out] at cv
  go_wp2_with fail
  go_region_held (fun x => x.cell? ⟨t, 0, none⟩ = some (.pointer (some ⟨E, 0, none⟩)) ∧ x.cell? ⟨t, 9, none⟩ = some (.int .i64 (la : Int))) (first | go_keep | exact ⟨(J3.out.sl.cells HP.out).1, (J3.out.sl.cells HP.out).2.1⟩)
    (first
      | (go_at_call 52; (with_reducible refine (KW.out _ (bthen B2.out (bdrew _))).mono ?_); rintro e w3 ⟨rfl, j3⟩; have J3 := Lib.hid j3; clear j3))
  all_goals
    clear c0 c9 cv hw1 hw2
    go_wp2
    go_ret
    exact ⟨rfl, J3.out⟩
set_option maxHeartbeats 4000000 in
theorem rfree_any (J : GJ w G E q n N m t a b p L w) (hp : Pln p la ns n) (hL : L.length = ns) (hN : N + 2 ≤ 1000000) (z : Int) (R : Int × Vs) (hR : free la z L m = R) :
    Calls Tryz.prog 42 #[.pointer (some ⟨t, 0, none⟩), .int .i64 z] w fun e w' => e = .returned (.int .i64 R.1) ∧ GJ w G E q n (N + 2) R.2 t a b p L w' := by
  have HJ := Lib.hid J
  have HP := Lib.hid hp
  by_cases hz : hasZ L z
  · have HZ := Lib.hid hz
    obtain ⟨i, rfl, hi, hg⟩ := has_get hz
    have HI : Hid (i < ns) := by show _ < _; omega
    obtain ⟨c0, c9, ⟨ca, cb, c14, c15⟩, fr⟩ := J.sl.cells hp
    obtain ⟨d0, d1, fg⟩ := J.sl.at_ hg
    obtain ⟨s, hs0⟩ : ∃ s, at0 L (i : Int) = s := ⟨_, rfl⟩
    rw [hs0] at hg d0 d1
    have hii : (i : Int) < (L.length : Int) := by omega
    obtain ⟨x, hx⟩ : ∃ x, wr1 m (la + 2 * i) (sect (hd0 s.r)) = x := ⟨_, rfl⟩
    have HR : Hid (R = if x.1 ≠ 0 then (x.1, x.2) else fl1 x.2) := by
      show _ = _
      rw [← hR, ← hx, ← hs0]
      unfold free
      rw [if_neg (fun x => x hz)]
      rfl
    have KH : Hid (∀ y, Below w.heap.size w y → Calls Tryz.prog 92 #[.pointer (some ⟨t, 0, none⟩), .int .i64 (i : Int), .agg #[.bool false, .int .i64 0, .int .u64 0, .int .u32 0, .int .u32 (s.r.toNat : Int)]] y fun e w' => e = .returned (.int .i64 x.1) ∧ GJ w G E q n (N + 1) x.2 t a b p L w') := fun y hy => by
      have := rhead_any (h := hd0 s.r) (HJ.out.below hy) HP.out HI.out (may0 s.r) (by omega)
      rw [hx] at this
      exact this
    obtain ⟨xv, xm⟩ := x
    clear J hp hz hg hR hs0 hx fg
    go_enter Tryz.func42, Tryz.ntmps42
    go_wp2_with fail
    refine (rhas_yes HJ.out.sl HP.out HZ.out).mono ?_; rintro e w' ⟨rfl, rfl⟩
    go_wp2_with fail
    refine (KH.out _ (Below.refl _ _)).mono ?_; rintro e w2 ⟨rfl, j2⟩
    have J2 := Lib.hid j2
    clear j2 c0 c9 c14 c15 fr d0 d1
    by_cases hv : xv = 0
    · subst hv
      obtain ⟨c0, _, _, _⟩ := J2.out.sl.cells HP.out
      go_wp2_with fail
      refine (rflush1 J2.out (by omega)).mono ?_; rintro e w3 ⟨rfl, j3⟩
      have J3 := Lib.hid j3
      clear j3 c0
      go_wp2
      go_ret
      rw [HR.out, if_neg (fun x => x rfl)]
      exact ⟨rfl, J3.out⟩
    · go_wp2
      go_ret
      rw [HR.out, if_pos hv]
      exact ⟨rfl, J2.out.more (by omega) hN⟩
  · have HR : Hid (R = (3, m)) := by show _ = _; rw [← hR]; unfold free; rw [if_pos hz]
    have HZ := Lib.hid hz
    clear J hp hL hz hR
    go_enter Tryz.func42, Tryz.ntmps42
    go_wp2_with fail
    refine (rhas_no HJ.out.sl HP.out HZ.out).mono ?_; rintro e w' ⟨rfl, rfl⟩
    go_wp2
    go_ret
    rw [HR.out]
    exact ⟨rfl, HJ.out.more (by omega) hN⟩
/-- the slot is worn, in the document's row -/
theorem GJ.wear (J : GJ w0 G E q n N m t a b p L w) {i : Nat} {s : Slt} (hs : L[i]? = some s) (r : UInt32) : GJ w0 G E q n N m t a b p (L.set i ⟨s.f, r⟩) (w.setCell ⟨a, i, none⟩ (.int .u32 (r.toNat : Int))) := by
  obtain ⟨r1, r2⟩ := J.sl.setW hs r
  exact J.row r1 r2
set_option maxHeartbeats 8000000 in
theorem rfill_yes (J : GJ w G E q n N m t a b p L w) (hp : Pln p la ns n) (hL : L.length = ns) (hN : N + 5 ≤ 1000000) (z lb : Int) (gn : Nat) (A : Option Addr) (c : Nat) (xs : List UInt8) (ho : Oct w A 64 xs) (hA : ∀ k off, A = some ⟨k, off, none⟩ → ¬ Al G q k ∧ k ≠ a) (R : Int × List Slt × Vs) (hR : fill la z lb gn xs L m = R)
    (hz : hasZ L z) (hok : okB lb gn) (hb : isBad (at0 L z) = false) (hf : ¬ (at0 L z).r.toNat = 4294967295) :
    Calls Tryz.prog 38 #[.pointer (some ⟨t, 0, none⟩), .int .i64 z, .int .i64 lb, .int .u64 (gn : Int), .slice A 64 c] w fun e w' => e = .returned (.int .i64 R.1) ∧ GJ w G E q n (N + 5) R.2.2 t a b p R.2.1 w' := by
  have HJ := Lib.hid J
  have HP := Lib.hid hp
  have HZ := Lib.hid hz
  have HK := Lib.hid hok
  have HO := Lib.hid ho
  obtain ⟨i, rfl, hi, hg⟩ := has_get hz
  have HI : Hid (i < ns) := by show _ < _; omega
  obtain ⟨c0, c9, ⟨ca, cb, c14, c15⟩, fr⟩ := J.sl.cells hp
  obtain ⟨d0, d1, fg, _⟩ := J.sl.at_ hg
  obtain ⟨s, hs0⟩ : ∃ s, at0 L (i : Int) = s := ⟨_, rfl⟩
  have KB : Hid (∀ y, Below w.heap.size w y → Calls Tryz.prog 55 #[.pointer (some ⟨t, 0, none⟩), .int .i64 (i : Int)] y fun e y' => e = .returned (.bool false) ∧ y = y') := fun y hy => (rbad_yes (HJ.out.sl.below hy) HP.out HZ.out).mono fun e y' ⟨e1, e2⟩ => ⟨by rw [e1, hb], e2⟩
  rw [hs0] at hg d0 d1 hf
  have HG := Lib.hid hg
  have hii : (i : Int) < (L.length : Int) := by omega
  obtain ⟨r, hr⟩ : ∃ r, s.r + 1 = r := ⟨_, rfl⟩
  have HW : Hid (IntKind.u32.wrap ((s.r.toNat : Int) + 1) = (r.toNat : Int)) := by rw [← hr]; exact u32_succ s.r
  have HFU : Hid (((s.r.toNat : Int) == 4294967295) = false) := by show _ = _; simp; omega
  obtain ⟨su, hsu⟩ : ∃ su : UInt32, sum xs = su.toNat := ⟨UInt32.ofNat (sum xs), by
    have := sum_lt xs
    rw [UInt32.toNat_ofNat_of_lt' (by show _ < 4294967296; exact this)]⟩
  have HSU := Lib.hid hsu
  have hhd : (⟨true, lb, gn, su, r⟩ : Hd) = hd1 lb gn xs r := by rw [hd1, hsu, UInt32.ofNat_toNat]
  obtain ⟨x1, hx1⟩ : ∃ x, wr1 m (la + 2 * i) (sect (hd0 r)) = x := ⟨_, rfl⟩
  obtain ⟨x2, hx2⟩ : ∃ x, fl1 x1.2 = x := ⟨_, rfl⟩
  obtain ⟨x3, hx3⟩ : ∃ x, wr1 x2.2 (la + 2 * i + 1) xs = x := ⟨_, rfl⟩
  obtain ⟨x4, hx4⟩ : ∃ x, fl1 x3.2 = x := ⟨_, rfl⟩
  obtain ⟨x5, hx5⟩ : ∃ x, wr1 x4.2 (la + 2 * i) (sect (hd1 lb gn xs r)) = x := ⟨_, rfl⟩
  have HR : Hid (R = if x1.1 ≠ 0 then (x1.1, L, x1.2) else if x2.1 ≠ 0 then (x2.1, L.set i ⟨s.f, r⟩, x2.2) else if x3.1 ≠ 0 then (x3.1, L.set i ⟨s.f, r⟩, x3.2) else if x4.1 ≠ 0 then (x4.1, L.set i ⟨s.f, r⟩, x4.2) else (x5.1, L.set i ⟨s.f, r⟩, x5.2)) := by
    show _ = _
    rw [← hR]
    unfold fill
    rw [if_neg (fun x => x hz), if_neg (fun x => x ⟨ho.1, hok⟩), if_neg (by rw [hb]; decide), hs0, if_neg hf]
    dsimp only
    unfold fillS
    dsimp only
    rw [show ((i : Int)).toNat = i from rfl, hr, hx1, hx2, hx3, hx4, hx5]
    split
    · rw [set_same hg]
    · split
      · rfl
      · split
        · rfl
        · split <;> rfl
  have hzi : (2 : Int) * (i : Int) ≤ 512 := by have := hp.hl2; omega
  have hla : la ≤ 4096 := by have := hp.hn; have := hp.hn2; omega
  have K1 : Hid (∀ y, Below w.heap.size w y → Calls Tryz.prog 92 #[.pointer (some ⟨t, 0, none⟩), .int .i64 (i : Int), .agg #[.bool false, .int .i64 0, .int .u64 0, .int .u32 0, .int .u32 (r.toNat : Int)]] y fun e w' => e = .returned (.int .i64 x1.1) ∧ GJ w G E q n (N + 1) x1.2 t a b p L w') := fun y hy => by
    have := rhead_any (h := hd0 r) (HJ.out.below hy) HP.out HI.out (may0 r) (by omega)
    rw [hx1] at this
    exact this
  have K2 : Hid (∀ y, GJ w G E q n (N + 1) x1.2 t a b p (L.set i ⟨s.f, r⟩) y → Calls Tryz.prog 45 #[.pointer (some ⟨E, 0, none⟩)] y fun e w' => e = .returned (.int .i64 x2.1) ∧ GJ w G E q n (N + 2) x2.2 t a b p (L.set i ⟨s.f, r⟩) w') := fun y hy => by
    have := rflush1 hy (by omega)
    rw [hx2] at this
    exact this
  obtain ⟨BB, hBB⟩ : ∃ B, tx xs = .string B := ⟨_, rfl⟩
  have HX : Hid (tx xs = .string BB) := hBB
  have hin : la + 2 * i + 1 < n := by have := hp.hn; have := hi; omega
  have hxl : xs.length = 64 := ho.1
  have K3 : Hid (∀ y y2, GJ w G E q n (N + 2) x2.2 t a b p (L.set i ⟨s.f, r⟩) y → Below y.heap.size y y2 → Calls Tryz.prog 52 #[.pointer (some ⟨E, 0, none⟩), .int .i64 ((la : Int) + 2 * (i : Int) + 1), .string BB] y2 fun e w' => e = .returned (.int .i64 x3.1) ∧ GJ w G E q n (N + 3) x3.2 t a b p (L.set i ⟨s.f, r⟩) w') := fun y y2 hy hb => by
    have := (hy.rd.below hb).write (by omega) (la + 2 * i + 1) hin hBB hxl
    rw [hx3, show ((la + 2 * i + 1 : Nat) : Int) = (la : Int) + 2 * (i : Int) + 1 by omega] at this
    exact this.mono fun e y' ⟨e1, e2, e3⟩ => ⟨e1, hy.then2 hb e2 e3⟩
  have K4 : Hid (∀ y, GJ w G E q n (N + 3) x3.2 t a b p (L.set i ⟨s.f, r⟩) y → Calls Tryz.prog 45 #[.pointer (some ⟨E, 0, none⟩)] y fun e w' => e = .returned (.int .i64 x4.1) ∧ GJ w G E q n (N + 4) x4.2 t a b p (L.set i ⟨s.f, r⟩) w') := fun y hy => by
    have := rflush1 hy (by omega)
    rw [hx4] at this
    exact this
  have K5 : Hid (∀ y, GJ w G E q n (N + 4) x4.2 t a b p (L.set i ⟨s.f, r⟩) y → Calls Tryz.prog 92 #[.pointer (some ⟨t, 0, none⟩), .int .i64 (i : Int), .agg #[.bool true, .int .i64 lb, .int .u64 (gn : Int), .int .u32 (su.toNat : Int), .int .u32 (r.toNat : Int)]] y fun e w' => e = .returned (.int .i64 x5.1) ∧ GJ w G E q n (N + 5) x5.2 t a b p (L.set i ⟨s.f, r⟩) w') := fun y hy => by
    have := rhead_any (h := ⟨true, lb, gn, su, r⟩) hy HP.out HI.out (by rw [hhd]; exact may1_iff.2 hok) (by omega)
    rw [hhd, hx5, ← hhd] at this
    exact this
  have KO : Hid (∀ y, GJ w G E q n (N + 4) x4.2 t a b p (L.set i ⟨s.f, r⟩) y → Oct y A 64 xs) := fun y hy => HO.out.heap fun k off hl e => hy.chg.block k (HO.out.lt hl e) (fun x => x.elim (hA k off e).1 (hA k off e).2)
  have KO2 : Hid (∀ y, GJ w G E q n (N + 2) x2.2 t a b p (L.set i ⟨s.f, r⟩) y → Oct y A 64 xs) := fun y hy => HO.out.heap fun k off hl e => hy.chg.block k (HO.out.lt hl e) (fun x => x.elim (hA k off e).1 (hA k off e).2)
  have ME : Hid (MayBe ⟨true, lb, gn, su, 0⟩) := by show MayBe _; unfold MayBe; simp; exact hok
  obtain ⟨v1, m1⟩ := x1
  obtain ⟨v2, m2⟩ := x2
  obtain ⟨v3, m3⟩ := x3
  obtain ⟨v4, m4⟩ := x4
  obtain ⟨v5, m5⟩ := x5
  dsimp only at HR
  have HNN := Lib.hid hN
  clear J hp hz hg hR hs0 hx1 hx2 hx3 hx4 hx5 hhd hsu hr hok hb hf hBB hin hxl hL hA ho hN
  go_enter Tryz.func38, Tryz.ntmps38
  go_wp2_with fail
  refine (rhas_yes HJ.out.sl HP.out HZ.out).mono ?_; rintro e w' ⟨rfl, rfl⟩
  go_wp2_with fail
  refine (rof_any A 64 c xs lb (gn : Int) 0 su.toNat w (by decide) HO.out HSU.out).mono ?_; rintro e w1 ⟨rfl, b1⟩
  have B1 := Lib.hid b1
  clear b1
  go_wp2_with fail
  refine (rmay_any ⟨true, lb, gn, su, 0⟩ true w1 ⟨fun _ => ME.out, fun _ => rfl⟩).mono ?_; rintro e w2 ⟨rfl, b2⟩
  have B2 := Lib.hid (bthen B1.out b2)
  clear b2 c0 c9 c14 c15 fr d0 d1 fg
  go_wp2_with fail
  refine (KB.out _ B2.out).mono ?_; rintro e w3 ⟨rfl, rfl⟩
  have SC : Hid (∀ (y : World) (L' : List Slt) (s' : Slt), RsAt y t a b E p L' → L'[i]? = some s' → L'.length = L.length → y.cell? ⟨t, 0, none⟩ = some (.pointer (some ⟨E, 0, none⟩)) ∧ y.cell? ⟨t, 9, none⟩ = some (.int .i64 (la : Int)) ∧ (∃ ca, y.cell? ⟨t, 14, none⟩ = some (.slice (some ⟨a, 0, none⟩) L.length ca)) ∧ y.cell? ⟨a, i, none⟩ = some (.int .u32 (s'.r.toNat : Int)) ∧ y.frozen? ⟨a, i, none⟩ = false) := fun y L' s' hy hs hl => by
    obtain ⟨k1, k2, ⟨ca, cb, k3, k4⟩, k5⟩ := hy.cells HP.out
    obtain ⟨k6, k7, k8, k9⟩ := hy.at_ hs
    rw [hl] at k3
    exact ⟨k1, k2, ⟨ca, k3⟩, k6, k8⟩
  obtain ⟨c0, c9, ⟨ca1, c14⟩, d0, fg⟩ := SC.out w2 L s (HJ.out.sl.below B2.out) HG.out rfl
  have hfu := HFU.out
  have hw := HW.out
  go_wp2_with fail
  refine (K1.out _ B2.out).mono ?_; rintro e w4 ⟨rfl, j4⟩
  have J4 := Lib.hid j4
  clear j4 c0 c9 c14 d0 fg hfu hw
  have hNN := HNN.out
  by_cases hv1 : v1 = 0
  · subst hv1
    have HR1 : Hid (R = if v2 ≠ 0 then (v2, L.set i ⟨s.f, r⟩, m2) else if v3 ≠ 0 then (v3, L.set i ⟨s.f, r⟩, m3) else if v4 ≠ 0 then (v4, L.set i ⟨s.f, r⟩, m4) else (v5, L.set i ⟨s.f, r⟩, m5)) := by show _ = _; rw [HR.out, if_neg (fun x => x rfl)]
    obtain ⟨c0, c9, ⟨ca1, c14⟩, d0, fg⟩ := SC.out w4 L s J4.out.sl HG.out rfl
    have J5 := Lib.hid (J4.out.wear HG.out r)
    have hne : ¬ a = t := J4.out.sl.ne.1
    have hne2 : ¬ t = a := fun e => hne e.symm
    have HSL : Hid ((L.set i ⟨s.f, r⟩)[i]? = some ⟨s.f, r⟩) := by show _ = _; rw [List.getElem?_set, if_pos rfl, if_pos (by omega)]
    have HSN : Hid ((L.set i ⟨s.f, r⟩).length = L.length) := List.length_set
    go_wp2_with fail
    refine (K2.out _ J5.out).mono ?_; rintro e w6 ⟨rfl, j6⟩
    have J6 := Lib.hid j6
    clear j6 c0 c9 c14 d0 fg hne hne2 J5 HR
    by_cases hv2 : v2 = 0
    · subst hv2
      obtain ⟨c0, c9, ⟨ca1, c14⟩, d0, fg⟩ := SC.out w6 _ _ J6.out.sl HSL.out HSN.out
      have hw1 : IntKind.i64.wrap (2 * (i : Int)) = 2 * (i : Int) := IntWalk.i64_in _ ⟨by omega, by omega⟩
      have hw2 : IntKind.i64.wrap ((la : Int) + 2 * (i : Int)) = (la : Int) + 2 * (i : Int) := IntWalk.i64_in _ ⟨by omega, by omega⟩
      have hw3 : IntKind.i64.wrap ((la : Int) + 2 * (i : Int) + 1) = (la : Int) + 2 * (i : Int) + 1 := IntWalk.i64_in _ ⟨by omega, by omega⟩
      have cv := (KO2.out _ J6.out).drew.conv Dm.bt Tryz.underlying9 c
      rw [show Value.string (bstr xs) = .string BB from HX.out] at cv
      go_upto_region 16 with fail
      go_region_held (fun x => x.cell? ⟨t, 0, none⟩ = some (.pointer (some ⟨E, 0, none⟩)) ∧ x.cell? ⟨t, 9, none⟩ = some (.int .i64 (la : Int))) (first | go_keep | exact ⟨(J7.out.sl.cells HP.out).1, (J7.out.sl.cells HP.out).2.1⟩)
        (first
          | (go_at_call 52; (with_reducible refine (K3.out _ _ J6.out (bdrew _)).mono ?_); rintro e w7 ⟨rfl, j7⟩; have J7 := Lib.hid j7; clear j7))
      all_goals
        clear c0 c9 c14 d0 fg hw1 hw2 hw3 cv
        by_cases hv3 : v3 = 0
        · subst hv3
          obtain ⟨c0, c9, ⟨ca1, c14⟩, d0, fg⟩ := SC.out w7 _ _ J7.out.sl HSL.out HSN.out
          go_wp2_with fail
          refine (K4.out _ J7.out).mono ?_; rintro e w8 ⟨rfl, j8⟩
          have J8 := Lib.hid j8
          clear j8 c0 c9 c14 d0 fg
          by_cases hv4 : v4 = 0
          · subst hv4
            go_wp2_with fail
            refine (rof_any A 64 c xs lb (gn : Int) (r.toNat : Int) su.toNat w8 (by decide) (KO.out _ J8.out) HSU.out).mono ?_; rintro e w9 ⟨rfl, b9⟩
            have J9 := Lib.hid (J8.out.below b9)
            clear b9
            go_wp2_with fail
            refine (K5.out _ J9.out).mono ?_; rintro e w10 ⟨rfl, j10⟩
            have J10 := Lib.hid j10
            clear j10
            go_wp2
            go_ret
            rw [HR1.out, if_neg (fun x => x rfl), if_neg (fun x => x rfl), if_neg (fun x => x rfl)]
            exact ⟨rfl, J10.out⟩
          · go_wp2
            go_ret
            rw [HR1.out, if_neg (fun x => x rfl), if_neg (fun x => x rfl), if_pos hv4]
            exact ⟨rfl, J8.out.more (by omega) hNN⟩
        · go_wp2
          go_ret
          rw [HR1.out, if_neg (fun x => x rfl), if_pos hv3]
          exact ⟨rfl, J7.out.more (by omega) hNN⟩
    · go_wp2
      go_ret
      rw [HR1.out, if_pos hv2]
      exact ⟨rfl, J6.out.more (by omega) hNN⟩
  · go_wp2
    go_ret
    rw [HR.out, if_pos hv1]
    exact ⟨rfl, J4.out.more (by omega) hNN⟩
end
end Go.Proofs.YtapklelkcicjlaaGreatDoor.Pd.Sl

/-! The document's Fill, of anything. No conditions. -/
namespace Go.Proofs.YtapklelkcicjlaaGreatDoor.Pd.Sl
set_option maxRecDepth 100000
open Go.RowKit Oc Dm W Dw Sr Gt W.Hd
set_option linter.unusedVariables false
set_option maxRecDepth 100000
attribute [local go_sem ↓] Go.wp_at_zero Go.wp_at_succ
section
variable {w0 w w' : World} {G : Nat → Prop} {E q n N t a b la ns i : Nat} {m : Vs} {p : Pn.Pl} {L : List Slt} {h : Hd}
theorem may_su2 {lb : Int} {gn : Nat} {su r : UInt32} : MayBe ⟨true, lb, gn, su, r⟩ ↔ okB lb gn := by
  unfold MayBe
  simp
set_option maxHeartbeats 4000000 in
theorem rfill_any (J : GJ w G E q n N m t a b p L w) (hp : Pln p la ns n) (hL : L.length = ns) (hN : N + 5 ≤ 1000000) (z lb : Int) (gn : Nat) (A : Option Addr) (l c : Nat) (xs : List UInt8) (hl : l ≤ 1000000) (ho : Oct w A l xs) (hA : ∀ k off, 0 < l → A = some ⟨k, off, none⟩ → ¬ Al G q k ∧ k ≠ a) (R : Int × List Slt × Vs) (hR : fill la z lb gn xs L m = R) :
    Calls Tryz.prog 38 #[.pointer (some ⟨t, 0, none⟩), .int .i64 z, .int .i64 lb, .int .u64 (gn : Int), .slice A l c] w fun e w' => e = .returned (.int .i64 R.1) ∧ GJ w G E q n (N + 5) R.2.2 t a b p R.2.1 w' := by
  have HJ := Lib.hid J
  have HP := Lib.hid hp
  by_cases hz : hasZ L z
  · have HZ := Lib.hid hz
    by_cases h64 : l = 64
    · by_cases hok : okB lb gn
      · cases hb : isBad (at0 L z)
        · by_cases hf : (at0 L z).r.toNat = 4294967295
          · have HO := Lib.hid ho
            have HR : Hid (R = (5, L, m)) := by show _ = _; rw [← hR]; unfold fill; rw [if_neg (fun x => x hz), if_neg (fun x => x ⟨ho.1.trans h64, hok⟩), if_neg (by rw [hb]; decide), if_pos hf]
            have KB : Hid (∀ y, Below w.heap.size w y → Calls Tryz.prog 55 #[.pointer (some ⟨t, 0, none⟩), .int .i64 z] y fun e y' => e = .returned (.bool false) ∧ y = y') := fun y hy => (rbad_yes (HJ.out.sl.below hy) HP.out HZ.out).mono fun e y' ⟨e1, e2⟩ => ⟨by rw [e1, hb], e2⟩
            have h642 : ((l : Int) != 64) = false := by rw [h64]; rfl
            obtain ⟨su, hsu⟩ : ∃ su : UInt32, sum xs = su.toNat := ⟨UInt32.ofNat (sum xs), by
              have := sum_lt xs
              rw [UInt32.toNat_ofNat_of_lt' (by show _ < 4294967296; exact this)]⟩
            have HSU := Lib.hid hsu
            have ME : Hid (MayBe ⟨true, lb, gn, su, 0⟩) := may_su2.2 hok
            obtain ⟨i, rfl, hi, hg⟩ := has_get hz
            have HG := Lib.hid hg
            have HFU : Hid ((((at0 L (i : Int)).r.toNat : Int) == 4294967295) = true) := by show _ = _; rw [hf]; rfl
            have hii : (i : Int) < (L.length : Int) := by omega
            have H6 := Lib.hid h642
            have HLL := Lib.hid hl
            clear J hp hz hg hR hsu hok hb hf hL hA ho h64 h642 hl
            have h642 := H6.out
            go_enter Tryz.func38, Tryz.ntmps38
            go_wp2_with fail
            refine (rhas_yes HJ.out.sl HP.out HZ.out).mono ?_; rintro e w' ⟨rfl, rfl⟩
            go_wp2_with fail
            refine (rof_any A l c xs lb (gn : Int) 0 su.toNat w HLL.out HO.out HSU.out).mono ?_; rintro e w1 ⟨rfl, b1⟩
            have B1 := Lib.hid b1
            clear b1
            go_wp2_with fail
            refine (rmay_any ⟨true, lb, gn, su, 0⟩ true w1 ⟨fun _ => ME.out, fun _ => rfl⟩).mono ?_; rintro e w2 ⟨rfl, b2⟩
            have B2 := Lib.hid (bthen B1.out b2)
            clear b2 h642
            go_wp2_with fail
            refine (KB.out _ B2.out).mono ?_; rintro e w3 ⟨rfl, rfl⟩
            obtain ⟨c0, c9, ⟨ca, cb, c14, c15⟩, fr⟩ := (HJ.out.sl.below B2.out).cells HP.out
            obtain ⟨d0, d1, fg, _⟩ := (HJ.out.sl.below B2.out).at_ HG.out
            have hfu := HFU.out
            clear c15 d1
            go_wp2
            go_ret
            rw [HR.out]
            exact ⟨rfl, (HJ.out.more (by omega) hN).below B2.out⟩
          · subst h64
            exact rfill_yes J hp hL hN z lb gn A c xs ho (fun k off e => hA k off (by decide) e) R hR hz hok hb hf
        · have HO := Lib.hid ho
          have HR : Hid (R = (6, L, m)) := by show _ = _; rw [← hR]; unfold fill; rw [if_neg (fun x => x hz), if_neg (fun x => x ⟨ho.1.trans h64, hok⟩), if_pos hb]
          have KB : Hid (∀ y, Below w.heap.size w y → Calls Tryz.prog 55 #[.pointer (some ⟨t, 0, none⟩), .int .i64 z] y fun e y' => e = .returned (.bool true) ∧ y = y') := fun y hy => (rbad_yes (HJ.out.sl.below hy) HP.out HZ.out).mono fun e y' ⟨e1, e2⟩ => ⟨by rw [e1, hb], e2⟩
          have h642 : ((l : Int) != 64) = false := by rw [h64]; rfl
          obtain ⟨su, hsu⟩ : ∃ su : UInt32, sum xs = su.toNat := ⟨UInt32.ofNat (sum xs), by
            have := sum_lt xs
            rw [UInt32.toNat_ofNat_of_lt' (by show _ < 4294967296; exact this)]⟩
          have HSU := Lib.hid hsu
          have ME : Hid (MayBe ⟨true, lb, gn, su, 0⟩) := may_su2.2 hok
          have H6 := Lib.hid h642
          have HLL := Lib.hid hl
          clear J hp hz hR hsu hok hb hL hA ho h64 h642 hl
          have h642 := H6.out
          go_enter Tryz.func38, Tryz.ntmps38
          go_wp2_with fail
          refine (rhas_yes HJ.out.sl HP.out HZ.out).mono ?_; rintro e w' ⟨rfl, rfl⟩
          go_wp2_with fail
          refine (rof_any A l c xs lb (gn : Int) 0 su.toNat w HLL.out HO.out HSU.out).mono ?_; rintro e w1 ⟨rfl, b1⟩
          have B1 := Lib.hid b1
          clear b1
          go_wp2_with fail
          refine (rmay_any ⟨true, lb, gn, su, 0⟩ true w1 ⟨fun _ => ME.out, fun _ => rfl⟩).mono ?_; rintro e w2 ⟨rfl, b2⟩
          have B2 := Lib.hid (bthen B1.out b2)
          clear b2 h642
          go_wp2_with fail
          refine (KB.out _ B2.out).mono ?_; rintro e w3 ⟨rfl, rfl⟩
          go_wp2
          go_ret
          rw [HR.out]
          exact ⟨rfl, (HJ.out.more (by omega) hN).below B2.out⟩
      · have HO := Lib.hid ho
        have HR : Hid (R = (1, L, m)) := by show _ = _; rw [← hR]; unfold fill; rw [if_neg (fun x => x hz), if_pos (fun x => hok x.2)]
        have h642 : ((l : Int) != 64) = false := by rw [h64]; rfl
        obtain ⟨su, hsu⟩ : ∃ su : UInt32, sum xs = su.toNat := ⟨UInt32.ofNat (sum xs), by
          have := sum_lt xs
          rw [UInt32.toNat_ofNat_of_lt' (by show _ < 4294967296; exact this)]⟩
        have HSU := Lib.hid hsu
        have ME : Hid (¬ MayBe ⟨true, lb, gn, su, 0⟩) := Lib.hid (fun x => hok (may_su2.1 x))
        have H6 := Lib.hid h642
        have HLL := Lib.hid hl
        clear J hp hz hR hsu hok hL hA ho h64 h642 hl
        have h642 := H6.out
        go_enter Tryz.func38, Tryz.ntmps38
        go_wp2_with fail
        refine (rhas_yes HJ.out.sl HP.out HZ.out).mono ?_; rintro e w' ⟨rfl, rfl⟩
        go_wp2_with fail
        refine (rof_any A l c xs lb (gn : Int) 0 su.toNat w HLL.out HO.out HSU.out).mono ?_; rintro e w1 ⟨rfl, b1⟩
        have B1 := Lib.hid b1
        clear b1
        go_wp2_with fail
        refine (rmay_any ⟨true, lb, gn, su, 0⟩ false w1 ⟨fun e => (by cases e), fun e => absurd e ME.out⟩).mono ?_; rintro e w2 ⟨rfl, b2⟩
        have B2 := Lib.hid (bthen B1.out b2)
        clear b2 h642
        go_wp2
        go_ret
        rw [HR.out]
        exact ⟨rfl, (HJ.out.more (by omega) hN).below B2.out⟩
    · have HR : Hid (R = (1, L, m)) := by show _ = _; rw [← hR]; unfold fill; rw [if_neg (fun x => x hz), if_pos (fun x => h64 (by rw [← ho.1]; exact x.1))]
      have h642 : ((l : Int) != 64) = true := by simp; omega
      have H6 := Lib.hid h642
      clear J hp hz hR hL hA ho h64 h642 hl
      have h642 := H6.out
      go_enter Tryz.func38, Tryz.ntmps38
      go_wp2_with fail
      refine (rhas_yes HJ.out.sl HP.out HZ.out).mono ?_; rintro e w' ⟨rfl, rfl⟩
      go_wp2
      go_ret
      rw [HR.out]
      exact ⟨rfl, HJ.out.more (by omega) hN⟩
  · have HR : Hid (R = (3, L, m)) := by show _ = _; rw [← hR]; unfold fill; rw [if_pos hz]
    have HZ := Lib.hid hz
    clear J hp hz hR hL hA ho hl
    go_enter Tryz.func38, Tryz.ntmps38
    go_wp2_with fail
    refine (rhas_no HJ.out.sl HP.out HZ.out).mono ?_; rintro e w' ⟨rfl, rfl⟩
    go_wp2
    go_ret
    rw [HR.out]
    exact ⟨rfl, HJ.out.more (by omega) hN⟩
end
end Go.Proofs.YtapklelkcicjlaaGreatDoor.Pd.Sl

/-! The document's Fault, Heal, Total, Least. No conditions. -/
namespace Go.Proofs.YtapklelkcicjlaaGreatDoor.Pd.Sl
set_option maxRecDepth 100000
open Go.RowKit Oc Dm W Dw Sr Gt W.Hd
set_option linter.unusedVariables false
set_option maxRecDepth 100000
attribute [local go_sem ↓] Go.wp_at_zero Go.wp_at_succ
section
variable {w w' : World} {t a b E la ns n : Nat} {p : Pn.Pl} {L : List Slt} {A : Option Addr} {l c : Nat} {ls : List Int}
set_option maxHeartbeats 2000000 in
theorem rtotal_any (h : RsAt w t a b E p L) (hp : Pln p la ns n) : Calls Tryz.prog 54 #[.pointer (some ⟨t, 0, none⟩)] w fun e w' => e = .returned (.int .u64 (total L : Int)) ∧ w = w' := by
  have H := Lib.hid h
  have HP := Lib.hid hp
  have hmany := h.many
  obtain ⟨c0, c9, ⟨ca, cb, c14, c15⟩, fr⟩ := h.cells hp
  clear h hp c0 c9 c15
  go_enter Tryz.func54, Tryz.ntmps54
  go_wp2
  go_loopw [3, 4] (fun v z wr => ∃ j : Nat, j ≤ L.length ∧ z = .int .i64 (j : Int) ∧ v = .int .u64 (total (L.take j) : Int) ∧ Hid (w = wr)) (fun _ z _ => L.length - (intOf z).toNat)
  case atStart => exact ⟨0, Nat.zero_le _, rfl, rfl, rfl⟩
  case round =>
    obtain ⟨j, hj, rfl, rfl, hw⟩ := hrel
    obtain rfl := hw.out
    by_cases hlt : j < L.length
    · have hlt2 : (j : Int) < (L.length : Int) := by omega
      obtain ⟨s, hs⟩ : ∃ s, L[j]? = some s := ⟨_, List.getElem?_eq_getElem hlt⟩
      have hT : total (L.take (j + 1)) ≤ 1099511627776 := by
        have := total_le (L.take (j + 1))
        rw [List.length_take] at this
        have : min (j + 1) L.length ≤ 256 := by omega
        omega
      have hsum : total (L.take (j + 1)) = total (L.take j) + (at0 L (j : Int)).r.toNat := total_take L j hlt
      rw [at0_nat hs] at hsum
      generalize htj : total (L.take j) = tj at hsum ⊢
      obtain ⟨d0, d1, fg⟩ := H.out.at_ hs
      have hr := s.r.toNat_lt
      generalize s.r.toNat = r at hsum hr d0
      have w1 : IntKind.u64.wrap (r : Int) = (r : Int) := IntWalk.u64_in _ ⟨by omega, by omega⟩
      have w2 : IntKind.u64.wrap ((tj : Int) + (r : Int)) = (tj : Int) + (r : Int) := IntWalk.u64_in _ ⟨by omega, by omega⟩
      clear htj d1 fg hs
      go_wp2
      go_roundw
      case rel => exact ⟨j + 1, by omega, by go_num, by rw [hsum]; go_num, Lib.hid trivial⟩
      case measure => simp [intOf]; omega
    · have hlt2 : ¬ (j : Int) < (L.length : Int) := by omega
      have hjl : L.take j = L := List.take_of_length_le (by omega)
      have HJ := Lib.hid hjl
      clear hjl
      go_wp2
      go_ret
      rw [HJ.out]
      exact ⟨rfl, rfl⟩
set_option maxHeartbeats 4000000 in
theorem rfault_any (h : RsAt w t a b E p L) (hp : Pln p la ns n) (z : Int) (hsm : ∀ s ∈ L, s.f ≤ 999999) : Calls Tryz.prog 43 #[.pointer (some ⟨t, 0, none⟩), .int .i64 z] w fun e w' => e = .returned (.bool (badZ (fault L z) z)) ∧ RsAt w' t a b E p (fault L z) ∧ w.grownBy w' (some b) := by
  have H := Lib.hid h
  have HP := Lib.hid hp
  by_cases hz : hasZ L z
  · have HZ := Lib.hid hz
    obtain ⟨c0, c9, ⟨ca, cb, c14, c15⟩, fr⟩ := h.cells hp
    obtain ⟨i, rfl, hi, hg⟩ := has_get hz
    obtain ⟨d0, d1, _, fg⟩ := h.at_ hg
    have HFL : Hid (fault L (i : Int) = L.set i ⟨(at0 L (i : Int)).f + 1, (at0 L (i : Int)).r⟩) := by show _ = _; unfold fault; rw [if_pos hz]; rfl
    have hsf := hsm _ (List.mem_of_getElem? hg)
    generalize at0 L (i : Int) = s at hg d0 d1 HFL hsf
    have hii : (i : Int) < (L.length : Int) := by omega
    obtain ⟨r1, r2⟩ := h.setF hg (s.f + 1) (by omega)
    have R1 := Lib.hid r1
    have R2 := Lib.hid r2
    have hz2 : hasZ (L.set i ⟨s.f + 1, s.r⟩) (i : Int) := by unfold hasZ; rw [List.length_set]; omega
    have HZ2 := Lib.hid hz2
    clear h hz hg r1 r2 hz2 hsm hp d0 c0 c9 c14
    go_enter Tryz.func43, Tryz.ntmps43
    go_wp2_with fail
    refine (rhas_yes H.out HP.out HZ.out).mono ?_; rintro e w' ⟨rfl, rfl⟩
    go_upto_region 3 with fail
    refine gate (fun x => x.cell? ⟨t, 15, none⟩ = some (.slice (some ⟨b, 0, none⟩) L.length cb) ∧ x.cell? ⟨b, i, none⟩ = some (.int .i64 (s.f : Int))) 14 [0, 1, 2, 3, 4, 5, 6, 7, 8, 9, 10, 11, 12] 2 (by kernel_rfl) (by kernel_rfl) (by kernel_rfl) rfl ?_ ⟨c15, d1⟩ ?_
    · intro d v c a w h
      cases d <;> exact h
    iterate 13
      refine yields_step ?_ rfl rfl ?_ ?_
      rotate_left
      · intro x ⟨z0, z1⟩; go_simp; rfl
    refine Gate.next (i := 13) (by kernel_rfl) rfl rfl (fun K hK => ?_)
    go_simp
    refine hK _ _ (fun _ => ⟨c15, d1⟩) ?_
    clear hK K
    refine Gate.next (i := 14) (by kernel_rfl) rfl rfl (fun K hK => ?_)
    go_simp
    refine hK _ _ (fun h => absurd rfl h) ?_
    clear hK K
    refine Gate.done (by kernel_rfl) ?_
    have B1 : Hid (Below (w.setCell ⟨b, i, none⟩ (.int .i64 ((s.f : Int) + 1))).heap.size (w.setCell ⟨b, i, none⟩ (.int .i64 ((s.f : Int) + 1))) (w.setCell ⟨b, i, none⟩ (.int .i64 ((s.f : Int) + 1))).drew) := bdrew _
    clear c15 d1 fr fg
    go_wp2_with fail
    refine (rbad_yes (RsAt.below R1.out B1.out) HP.out HZ2.out).mono ?_; rintro e w' ⟨rfl, rfl⟩
    go_wp2
    go_ret
    rw [HFL.out]
    refine ⟨?_, RsAt.below R1.out B1.out, ?_⟩
    · unfold badZ
      rw [if_pos HZ2.out]
      rfl
    · exact ⟨R2.out.os, R2.out.tape, R2.out.output, R2.out.size, R2.out.block⟩
  · have HZ := Lib.hid hz
    have HFL : Hid (fault L z = L) := by show _ = _; unfold fault; rw [if_neg hz]
    have HB : Hid (badZ L z = false) := by show _ = _; unfold badZ; rw [if_neg hz]
    clear h hz hsm hp
    go_enter Tryz.func43, Tryz.ntmps43
    go_wp2_with fail
    refine (rhas_no H.out HP.out HZ.out).mono ?_; rintro e w' ⟨rfl, rfl⟩
    go_wp2
    go_ret
    rw [HFL.out, HB.out]
    exact ⟨rfl, H.out, World.grownBy.refl _ _⟩
set_option maxHeartbeats 4000000 in
theorem rheal_any (h : RsAt w t a b E p L) (hp : Pln p la ns n) : Calls Tryz.prog 44 #[.pointer (some ⟨t, 0, none⟩)] w fun e w' => e = .returned (.int .i64 (bads L : Int)) ∧ RsAt w' t a b E p (heal L) ∧ w.grownBy w' (some b) := by
  have H := Lib.hid h
  have HP := Lib.hid hp
  have hmany := h.many
  clear h hp
  go_enter Tryz.func44, Tryz.ntmps44
  go_wp2
  go_loopw [3, 4] (fun v z wr => ∃ j : Nat, j ≤ L.length ∧ z = .int .i64 (j : Int) ∧ v = .int .i64 (bads (L.take j) : Int) ∧ Hid (RsAt wr t a b E p (healed L j)) ∧ Hid (w.grownBy wr (some b))) (fun _ z _ => L.length - (intOf z).toNat)
  case atStart => exact ⟨0, Nat.zero_le _, rfl, rfl, H, World.grownBy.refl _ _⟩
  case round =>
    obtain ⟨j, hj, rfl, rfl, HJ, GJ⟩ := hrel
    obtain ⟨c0, c9, ⟨ca, cb, c14, c15⟩, fr⟩ := HJ.out.cells HP.out
    rw [healed_len] at c15
    clear c0 c9 c14
    by_cases hlt : j < L.length
    · have hlt2 : (j : Int) < (L.length : Int) := by omega
      obtain ⟨s, hs⟩ : ∃ s, L[j]? = some s := ⟨_, List.getElem?_eq_getElem hlt⟩
      have hsj := healed_at hs
      have hz : hasZ (healed L j) (j : Int) := by unfold hasZ; rw [healed_len]; omega
      have hbt := bads_take hs
      have hble : bads (L.take (j + 1)) ≤ 256 := by
        have := bads_le (L.take (j + 1))
        rw [List.length_take] at this
        omega
      obtain ⟨d0, d1, _, fg⟩ := HJ.out.at_ hsj
      obtain ⟨r1, r2⟩ := HJ.out.setF hsj 0 (by omega)
      rw [healed_step hs] at r1
      have R1 := Lib.hid r1
      have R2 := Lib.hid (GJ.out.trans r2)
      have KB : Hid (Calls Tryz.prog 55 #[.pointer (some ⟨t, 0, none⟩), .int .i64 (j : Int)] wr fun e w' => e = .returned (.bool (isBad s)) ∧ wr = w') := (rbad_yes HJ.out HP.out hz).mono fun e w' ⟨e1, e2⟩ => ⟨by rw [e1, at0_nat hsj], e2⟩
      cases hb : isBad s
      all_goals
        rw [hb] at KB hbt
        first | rw [if_pos rfl] at hbt | rw [if_neg (by decide)] at hbt
        have hbt2 := Lib.hid hbt
        generalize bads (L.take j) = tj at hbt hbt2 ⊢
        clear hs hsj hz r1 r2 hb d0
        go_wp2_with fail
        refine KB.out.mono ?_; rintro e w' ⟨rfl, rfl⟩
        go_wp2
        go_roundw
        case rel => exact ⟨j + 1, by omega, by go_num, by rw [hbt2.out]; first | rfl | go_num, R1, R2⟩
        case measure => simp [intOf]; omega
    · have hlt2 : ¬ (j : Int) < (L.length : Int) := by omega
      have hjl : j = L.length := by omega
      have HJ2 := Lib.hid hjl
      clear hjl
      go_wp2
      go_ret
      have hh := HJ.out
      rw [HJ2.out, healed_all] at hh
      rw [HJ2.out, List.take_length]
      exact ⟨rfl, hh, GJ.out⟩
end
end Go.Proofs.YtapklelkcicjlaaGreatDoor.Pd.Sl

/-! The document's Least. No conditions. -/
namespace Go.Proofs.YtapklelkcicjlaaGreatDoor.Pd.Sl
set_option maxRecDepth 100000
open Go.RowKit Oc Dm W Dw Sr Gt W.Hd
set_option linter.unusedVariables false
set_option maxRecDepth 100000
attribute [local go_sem ↓] Go.wp_at_zero Go.wp_at_succ
section
variable {w w' : World} {t a b E la ns n : Nat} {p : Pn.Pl} {L : List Slt} {A : Option Addr} {l c : Nat} {ls : List Int}
theorem dn_rs (h : RsAt w t a b E p L) (k : Nat) : RsAt (w.drewN k) t a b E p L := h.below ⟨rfl, rfl, rfl, Nat.le_refl _, fun _ _ => rfl⟩
set_option maxHeartbeats 8000000 in
theorem rleast_any (h : RsAt w t a b E p L) (hp : Pln p la ns n) (hf : Fi w A l ls) (hlc : l ≤ 1000000) : Calls Tryz.prog 53 #[.pointer (some ⟨t, 0, none⟩), .slice A l c] w fun e w' => e = .returned (.tuple #[.int .i64 ((least L ls none).getD 0), .bool (least L ls none).isSome]) ∧ ∃ k, w' = w.drewN k := by
  have H := Lib.hid h
  have HP := Lib.hid hp
  have HF := Lib.hid hf
  have hfl := hf.len
  have hmany := h.many
  clear h hf hp
  go_enter Tryz.func53, Tryz.ntmps53
  go_wp2
  go_loopw [6, 7, 8] (fun x y z wr => ∃ (j : Nat) (o : Option Int), j ≤ l ∧ z = .int .i64 (j : Int) ∧ x = .int .i64 (o.getD 0) ∧ y = .bool o.isSome ∧ Hid (least L (ls.drop j) o = least L ls none) ∧ Hid (∀ y, o = some y → hasZ L y) ∧ Hid (∃ k, wr = w.drewN k)) (fun _ _ z _ => l - (intOf z).toNat)
  case atStart => exact ⟨0, none, Nat.zero_le _, rfl, rfl, rfl, rfl, Lib.hid (fun y e => by cases e), ⟨0, rfl⟩⟩
  case round =>
    obtain ⟨j, o, hj, rfl, rfl, rfl, HO, HY, hw⟩ := hrel
    obtain ⟨k0, rfl⟩ := hw.out
    have HW := Lib.hid (dn_rs H.out k0)
    have HFW : Hid (Fi (w.drewN k0) A l ls) := HF.out
    obtain ⟨c0, c9, ⟨ca, cb, c14, c15⟩, fr⟩ := HW.out.cells HP.out
    have HWR : Hid (∀ m, ∃ k, (w.drewN k0).drewN m = w.drewN k) := fun m => ⟨k0 + m, World.drewN_drewN w k0 m⟩
    have HWR0 : Hid (∃ k, w.drewN k0 = w.drewN k) := ⟨k0, rfl⟩
    clear c0 c9 c15 fr
    generalize w.drewN k0 = wr at HW HFW c14 HWR HWR0 ⊢
    by_cases hlt : j < l
    · have hlt2 : (j : Int) < (l : Int) := by omega
      obtain ⟨x, hx⟩ : ∃ x, ls[j]? = some x := ⟨_, List.getElem?_eq_getElem (by omega)⟩
      obtain ⟨bk, off, rfl, cx⟩ := HFW.out.at_ hx
      have ST := Lib.hid (least_step (L := L) hx o)
      rw [HO.out] at ST
      have KH : Hid (∀ k, Calls Tryz.prog 89 #[.pointer (some ⟨t, 0, none⟩), .int .i64 x] (wr.drewN k) fun e w' => e = .returned (.bool (decide (hasZ L x))) ∧ wr.drewN k = w') := fun k => rhas_any (dn_rs HW.out k) HP.out x
      by_cases hz : hasZ L x
      · rw [decide_eq_true hz] at KH
        have KB : Hid (∀ k, Calls Tryz.prog 55 #[.pointer (some ⟨t, 0, none⟩), .int .i64 x] (wr.drewN k) fun e w' => e = .returned (.bool (isBad (at0 L x))) ∧ wr.drewN k = w') := fun k => rbad_yes (dn_rs HW.out k) HP.out hz
        cases hb : isBad (at0 L x)
        · rw [hb] at KB
          cases o with
          | none =>
            have ST2 : Hid (least L (ls.drop (j + 1)) (some x) = least L ls none) := by
              have e := ST.out
              rw [if_pos ⟨hz, hb, fun y e => by cases e⟩] at e
              exact e.symm
            have HY2 : Hid (∀ y, some x = some y → hasZ L y) := Lib.hid (fun y e => by injection e with e; exact e ▸ hz)
            clear ST hx hz hb HO
            go_wp2_with fail
            go_quiet ((first | (go_at_call 89; exact quiet (KH.out _)) | (go_at_call 55; exact quiet (KB.out _))))
            go_wp2
            go_roundw
            case rel => exact ⟨j + 1, some x, by omega, by go_num, rfl, rfl, ST2, HY2, HWR.out _⟩
            case measure => simp [intOf]; omega
          | some y =>
            obtain ⟨kx, rfl, hkx, hgx⟩ := has_get hz
            obtain ⟨ky, rfl, hky, hgy⟩ := has_get (HY.out y rfl)
            obtain ⟨ex, _, _, _⟩ := HW.out.at_ hgx
            obtain ⟨ey, _, _, _⟩ := HW.out.at_ hgy
            obtain ⟨rx, hrx⟩ : ∃ rx, (at0 L (kx : Int)).r.toNat = rx := ⟨_, rfl⟩
            obtain ⟨ry, hry⟩ : ∃ ry, (at0 L (ky : Int)).r.toNat = ry := ⟨_, rfl⟩
            rw [hrx] at ex
            rw [hry] at ey
            have hb1 : (kx : Int) < (L.length : Int) := by omega
            have hb2 : (ky : Int) < (L.length : Int) := by omega
            by_cases hc : rx < ry
            · have ST2 : Hid (least L (ls.drop (j + 1)) (some (kx : Int)) = least L ls none) := by
                have e := ST.out
                rw [if_pos ⟨hz, hb, fun y' e => by injection e with e; subst e; omega⟩] at e
                exact e.symm
              have HY2 : Hid (∀ y, some (kx : Int) = some y → hasZ L y) := Lib.hid (fun y e => by injection e with e; exact e ▸ hz)
              have t1 : (rx : Int) < (ry : Int) := by omega
              clear ST hx hz hb HO hrx hry hgx hgy
              go_wp2_with fail
              go_quiet ((first | (go_at_call 89; exact quiet (KH.out _)) | (go_at_call 55; exact quiet (KB.out _))))
              go_wp2
              go_roundw
              case rel => exact ⟨j + 1, some (kx : Int), by omega, by go_num, rfl, rfl, ST2, HY2, HWR.out _⟩
              case measure => simp [intOf]; omega
            · have ST2 : Hid (least L (ls.drop (j + 1)) (some (ky : Int)) = least L ls none) := by
                have e := ST.out
                rw [if_neg (fun q => by have := q.2.2 _ rfl; omega)] at e
                exact e.symm
              have t1 : ¬ (rx : Int) < (ry : Int) := by omega
              clear ST hx hz hb HO hrx hry hgx hgy
              go_wp2_with fail
              go_quiet ((first | (go_at_call 89; exact quiet (KH.out _)) | (go_at_call 55; exact quiet (KB.out _))))
              go_wp2
              go_roundw
              case rel => exact ⟨j + 1, some (ky : Int), by omega, by go_num, rfl, rfl, ST2, HY, HWR.out _⟩
              case measure => simp [intOf]; omega
        · rw [hb] at KB
          have ST2 : Hid (least L (ls.drop (j + 1)) o = least L ls none) := by
            have e := ST.out
            rw [if_neg (fun q => by rw [hb] at q; cases q.2.1)] at e
            exact e.symm
          clear ST hx hz hb HO
          go_wp2_with fail
          go_quiet ((first | (go_at_call 89; exact quiet (KH.out _)) | (go_at_call 55; exact quiet (KB.out _))))
          go_wp2
          go_roundw
          case rel => exact ⟨j + 1, o, by omega, by go_num, rfl, rfl, ST2, HY, HWR.out _⟩
          case measure => simp [intOf]; omega
      · rw [decide_eq_false hz] at KH
        have ST2 : Hid (least L (ls.drop (j + 1)) o = least L ls none) := by
          have e := ST.out
          rw [if_neg (fun q => hz q.1)] at e
          exact e.symm
        clear ST hx hz HO
        go_wp2_with fail
        go_quiet ((go_at_call 89; exact quiet (KH.out _)))
        go_wp2
        go_roundw
        case rel => exact ⟨j + 1, o, by omega, by go_num, rfl, rfl, ST2, HY, HWR.out _⟩
        case measure => simp [intOf]; omega
    · have hlt2 : ¬ (j : Int) < (l : Int) := by omega
      have hjl : ls.drop j = [] := List.drop_eq_nil_of_le (by omega)
      have HE : Hid (o = least L ls none) := by
        have e := HO.out
        rw [hjl] at e
        exact e
      clear hjl
      go_wp2
      go_ret2
      rw [← HE.out]
      exact ⟨rfl, HWR0.out⟩
end
end Go.Proofs.YtapklelkcicjlaaGreatDoor.Pd.Sl
