/-
  Elder texts, one behind the other: GpNum, GpWalks, GpMay, GpFresh, GpRead, GpGet, GpNewer, GpPut. No conditions.
-/
import Derived.Test.YtgdgehfapfgdfaaGreatDoorKPage
import Derived.Laws.Tables
import Derived.Laws.ResultCell
import Derived.Laws.Rows
import Derived.Test.YtgdgehfapfgdfaaGreatDoorKOct
import Derived.ChangeKeysEq
import Derived.StillTailTactics
/-! Generation pages: plain facts on which octets are one, and which of two is newer. No conditions. -/
namespace Go.Proofs.YtgdgehfapfgdfaaGreatDoor.W
set_option maxRecDepth 100000
open Go.RowKit Oc
set_option linter.unusedVariables false

/-- a generation page: its number, its version, its generations (those below 6) -/
structure Gp where
  no : Int
  v : Nat
  g : Nat → Nat
/-- the page of zeros -/
def zp : Gp := ⟨0, 0, fun _ => 0⟩
/-- may a version, a generation be? -/
abbrev isG (n : Nat) : Prop := 1 ≤ n ∧ n ≤ 4611686018427387904
/-- may a page be? -/
def MayBe (p : Gp) : Prop := (0 ≤ p.no ∧ p.no < 65536) ∧ isG p.v ∧ ∀ i, i < 6 → isG (p.g i)
/-- two that tell the same -/
def Like (p d : Gp) : Prop := p.no = d.no ∧ p.v = d.v ∧ ∀ i, i < 6 → p.g i = d.g i
theorem Like.refl (p : Gp) : Like p p := ⟨rfl, rfl, fun _ _ => rfl⟩
theorem Like.may {p d : Gp} (h : Like p d) (hm : MayBe d) : MayBe p := by
  obtain ⟨h1, h2, h3⟩ := h
  obtain ⟨m1, m2, m3⟩ := hm
  refine ⟨by rw [h1]; exact m1, by rw [h2]; exact m2, fun i hi => by rw [h3 i hi]; exact m3 i hi⟩
/-- the first generations, as octets -/
def gens (g : Nat → Nat) : Nat → List UInt8
  | 0 => []
  | j + 1 => gens g j ++ octs (g j) 8
theorem gens_length (g : Nat → Nat) (j : Nat) : (gens g j).length = 8 * j := by
  induction j with
  | zero => rfl
  | succ j ih => simp [gens, ih, octs_length]; omega
/-- a page's payload, as far as the generation j -/
def pay (p : Gp) (j : Nat) : List UInt8 := octs p.no.toNat 2 ++ octs p.v 8 ++ gens p.g j
theorem pay_length (p : Gp) (j : Nat) : (pay p j).length = 10 + 8 * j := by
  simp [pay, octs_length, gens_length]
  omega
theorem pay_succ (p : Gp) (j : Nat) : pay p (j + 1) = pay p j ++ octs (p.g j) 8 := by simp [pay, gens]
/-- what stands in a payload -/
def dec (ps : List UInt8) : Gp := ⟨(num (ps.take 2) : Int), num ((ps.drop 2).take 8), fun i => num ((ps.drop (10 + 8 * i)).take 8)⟩
theorem gens_at (g : Nat → Nat) (i : Nat) : ∀ j, i < j → ((gens g j).drop (8 * i)).take 8 = octs (g i) 8
  | 0, h => by omega
  | j + 1, h => by
    unfold gens
    have hl := gens_length g j
    by_cases hi : i = j
    · subst hi
      rw [← hl, List.drop_left, List.take_of_length_le (by rw [octs_length]; exact Nat.le_refl _)]
    · rw [List.drop_append_of_le_length (by omega), List.take_append_of_le_length (by rw [List.length_drop]; omega)]
      exact gens_at g i j (by omega)
theorem num_two {n : Nat} (h : n < 65536) : num (octs n 2) = n := by rw [num_octs]; exact Nat.mod_eq_of_lt (by omega)
theorem num_eight {n : Nat} (h : isG n) : num (octs n 8) = n := by rw [num_octs]; exact Nat.mod_eq_of_lt (by have := h.2; omega)
/-- what is put is got -/
theorem dec_pay {p : Gp} (h : MayBe p) : Like p (dec (pay p 6)) := by
  obtain ⟨⟨h0, h1⟩, h2, h3⟩ := h
  have l2 := octs_length p.no.toNat 2
  have l8 := octs_length p.v 8
  refine ⟨?_, ?_, fun i hi => ?_⟩
  · show p.no = ((num ((pay p 6).take 2) : Nat) : Int)
    unfold pay
    rw [List.append_assoc, List.take_append_of_le_length (by omega), List.take_of_length_le (by omega), num_two (by omega)]
    omega
  · show p.v = num (((pay p 6).drop 2).take 8)
    unfold pay
    rw [List.append_assoc, List.drop_left' l2, List.take_append_of_le_length (by omega), List.take_of_length_le (by omega), num_eight h2]
  · show p.g i = num (((pay p 6).drop (10 + 8 * i)).take 8)
    unfold pay
    have l10 : (octs p.no.toNat 2 ++ octs p.v 8).length = 10 := by rw [List.length_append, l2, l8]
    rw [← List.drop_drop, List.drop_left' l10, gens_at p.g i 6 hi, num_eight (h3 i hi)]

/-- what a call that gets a page tells of a sector: the page, and the error -/
def GWay (ys : List UInt8) (no : Int) (p : Gp) (E : Int) : Prop :=
  (getE ys 1 ≠ 0 ∧ E = getE ys 1 ∧ p = zp) ∨ (getE ys 1 = 0 ∧ E = 31 ∧ p = zp ∧ ¬ (MayBe (dec (getL ys 1)) ∧ (dec (getL ys 1)).no = no)) ∨
    (getE ys 1 = 0 ∧ E = 0 ∧ Like p (dec (getL ys 1)) ∧ MayBe p ∧ p.no = no)
theorem gway_some (ys : List UInt8) (no : Int) : ∃ p E, GWay ys no p E := by
  by_cases h : getE ys 1 = 0
  · by_cases h2 : MayBe (dec (getL ys 1)) ∧ (dec (getL ys 1)).no = no
    · exact ⟨_, 0, .inr (.inr ⟨h, rfl, Like.refl _, h2.1, h2.2⟩)⟩
    · exact ⟨zp, 31, .inr (.inl ⟨h, rfl, rfl, h2⟩)⟩
  · exact ⟨zp, _, .inl ⟨h, rfl, rfl⟩⟩
theorem gway_facts {ys : List UInt8} {no : Int} {p : Gp} {E : Int} (h : GWay ys no p E) : (E ≠ 0 ∧ p = zp) ∨ (E = 0 ∧ isG p.v) := by
  rcases h with ⟨h1, h2, h3⟩ | ⟨h1, h2, h3, _⟩ | ⟨h1, h2, h3, h4, h5⟩
  · exact .inl ⟨by rw [h2]; exact h1, h3⟩
  · exact .inl ⟨by rw [h2]; decide, h3⟩
  · exact .inr ⟨h2, h4.2.1⟩
/-- a page's sector -/
def sect (p : Gp) : List UInt8 := sealed (body 1 (pay p 6))
theorem r1 : Right ((1 : Nat) : Int) := by unfold Right; omega
theorem pay58 (p : Gp) : (pay p 6).length = 58 := pay_length p 6
theorem sect_length (p : Gp) : (sect p).length = 64 := (page_facts (k := 1) r1 (by rw [pay58]; exact Nat.le_refl _)).1
theorem sect_get (p : Gp) : getE (sect p) 1 = 0 := page_get (k := 1) r1 (by rw [pay58]; exact Nat.le_refl _)
theorem sect_got (p : Gp) : getL (sect p) 1 = pay p 6 := by
  have h := page_got (k := 1) r1 (ps := pay p 6) (by rw [pay58]; exact Nat.le_refl _)
  rw [pay58] at h
  simpa [sect] using h
theorem way_own {p : Gp} (h : MayBe p) : GWay (sect p) p.no p 0 := .inr (.inr ⟨sect_get p, rfl, by rw [sect_got]; exact dec_pay h, h, rfl⟩)
theorem way_else {p : Gp} (h : MayBe p) {no : Int} (hn : no ≠ p.no) : GWay (sect p) no zp 31 := by
  refine .inr (.inl ⟨sect_get p, rfl, rfl, fun h2 => hn ?_⟩)
  have h3 := h2.2
  rw [sect_got, ← (dec_pay h).1] at h3
  exact h3.symm
theorem way_rot (p : Gp) (at_ T : Nat) (h : ¬ sect p = turned (sect p) at_ T 32) (no : Int) : GWay (turned (sect p) at_ T 32) no zp 40 := by
  have h1 := (page_rots (k := 1) (ps := pay p 6) (by rw [pay58]; exact Nat.le_refl _) at_ T h 1).1
  exact .inl ⟨by rw [sect, h1]; decide, by rw [sect, h1], rfl⟩

/-- which one of two is told -/
def NWay (p : Gp) (E : Int) (q : Gp) (F : Int) (x : Gp) (k : Int) (ok : Bool) : Prop :=
  (E = 0 ∧ F ≠ 0 ∧ q = zp ∧ isG p.v ∧ x = p ∧ k = 0 ∧ ok = true) ∨ (E = 0 ∧ F = 0 ∧ isG p.v ∧ q.v ≤ p.v ∧ x = p ∧ k = 0 ∧ ok = true) ∨
    (E = 0 ∧ F = 0 ∧ p.v < q.v ∧ x = q ∧ k = 1 ∧ ok = true) ∨ (E ≠ 0 ∧ F = 0 ∧ p = zp ∧ isG q.v ∧ x = q ∧ k = 1 ∧ ok = true) ∨ (E ≠ 0 ∧ F ≠ 0 ∧ p = zp ∧ q = zp ∧ x = zp ∧ k = 0 ∧ ok = false)
theorem nway_some {p q : Gp} {E F : Int} (hp : (E ≠ 0 ∧ p = zp) ∨ (E = 0 ∧ isG p.v)) (hq : (F ≠ 0 ∧ q = zp) ∨ (F = 0 ∧ isG q.v)) : ∃ x k ok, NWay p E q F x k ok := by
  rcases hp with ⟨h1, h2⟩ | ⟨h1, h2⟩ <;> rcases hq with ⟨h3, h4⟩ | ⟨h3, h4⟩
  · exact ⟨_, _, _, .inr (.inr (.inr (.inr ⟨h1, h3, h2, h4, rfl, rfl, rfl⟩)))⟩
  · exact ⟨_, _, _, .inr (.inr (.inr (.inl ⟨h1, h3, h2, h4, rfl, rfl, rfl⟩)))⟩
  · exact ⟨_, _, _, .inl ⟨h1, h3, h4, h2, rfl, rfl, rfl⟩⟩
  · by_cases h : q.v ≤ p.v
    · exact ⟨_, _, _, .inr (.inl ⟨h1, h3, h2, h, rfl, rfl, rfl⟩)⟩
    · exact ⟨_, _, _, .inr (.inr (.inl ⟨h1, h3, by omega, rfl, rfl, rfl⟩))⟩
end Go.Proofs.YtgdgehfapfgdfaaGreatDoor.W

/-! Contracts of isGen, mayBe, Fresh, few and of the reference's num and May. No conditions. -/
namespace Go.Proofs.YtgdgehfapfgdfaaGreatDoor.W
set_option maxRecDepth 100000
open Go.RowKit Oc
set_option linter.unusedVariables false

theorem gen_yes (n : Nat) (w : World) (h : isG n) : Calls Tryz.prog 143 #[.int .u64 (n : Int)] w fun e w' => e = .returned (.bool true) ∧ w = w' := by
  obtain ⟨h1, h2⟩ := h
  have hd : decide ((n : Int) ≤ 4611686018427387904) = true := by simp; omega
  go_enter Tryz.func143, Tryz.ntmps143
  go_wp2
  go_ret
  exact ⟨rfl, rfl⟩
theorem gen_no (n : Nat) (w : World) (h : ¬ isG n) : Calls Tryz.prog 143 #[.int .u64 (n : Int)] w fun e w' => e = .returned (.bool false) ∧ w = w' := by
  unfold isG at h
  by_cases h1 : 1 ≤ n
  · have h2 : ¬ n ≤ 4611686018427387904 := fun h2 => h ⟨h1, h2⟩
    have hd : decide ((n : Int) ≤ 4611686018427387904) = false := by simp; omega
    clear h
    go_enter Tryz.func143, Tryz.ntmps143
    go_wp2
    go_ret
    exact ⟨rfl, rfl⟩
  · clear h
    go_enter Tryz.func143, Tryz.ntmps143
    go_wp2
    go_ret
    exact ⟨rfl, rfl⟩
theorem rnum_yes (n : Nat) (w : World) (h : isG n) : Calls Tryz.prog 103 #[.int .u64 (n : Int)] w fun e w' => e = .returned (.bool true) ∧ w = w' := by
  obtain ⟨h1, h2⟩ := h
  have hd : decide ((n : Int) ≤ 4611686018427387904) = true := by simp; omega
  go_enter Tryz.func103, Tryz.ntmps103
  go_wp2
  go_ret
  exact ⟨rfl, rfl⟩
theorem rnum_no (n : Nat) (w : World) (h : ¬ isG n) : Calls Tryz.prog 103 #[.int .u64 (n : Int)] w fun e w' => e = .returned (.bool false) ∧ w = w' := by
  unfold isG at h
  by_cases h1 : 1 ≤ n
  · have h2 : ¬ n ≤ 4611686018427387904 := fun h2 => h ⟨h1, h2⟩
    have hd : decide ((n : Int) ≤ 4611686018427387904) = false := by simp; omega
    clear h
    go_enter Tryz.func103, Tryz.ntmps103
    go_wp2
    go_ret
    exact ⟨rfl, rfl⟩
  · clear h
    go_enter Tryz.func103, Tryz.ntmps103
    go_wp2
    go_ret
    exact ⟨rfl, rfl⟩

theorem info_u64 : (Tryz.prog.info? 30).map (fun i => (i.zero, i.size, i.bytes)) = some (some (.int .u64 0), 1, 8) := by kernel_rfl
theorem info_gp : (Tryz.prog.info? 33).map (·.size) = some 8 := by kernel_rfl
theorem index_gen (g : Nat → Nat) {k : Nat} (h : k < 6) (w : World) : (Instr.index 31 (.agg #[.int .u64 (g 0 : Int), .int .u64 (g 1 : Int), .int .u64 (g 2 : Int), .int .u64 (g 3 : Int), .int .u64 (g 4 : Int), .int .u64 (g 5 : Int)]) (.int .i64 (k : Int))).run Tryz.prog w = .ok (.int .u64 (g k : Int)) w := by
  have h1 : (0 : Int) ≤ k ∧ (k : Int) < 6 := by omega
  obtain ⟨i, hi, hz0, hz1, hz2⟩ := info_parts info_u64
  have e : (#[.int .u64 (g 0 : Int), .int .u64 (g 1 : Int), .int .u64 (g 2 : Int), .int .u64 (g 3 : Int), .int .u64 (g 4 : Int), .int .u64 (g 5 : Int)] : Array Value)[k]? = some (.int .u64 (g k : Int)) := by
    match k, h with
    | 0, _ => rfl
    | 1, _ => rfl
    | 2, _ => rfl
    | 3, _ => rfl
    | 4, _ => rfl
    | 5, _ => rfl
  generalize (#[.int .u64 (g 0 : Int), .int .u64 (g 1 : Int), .int .u64 (g 2 : Int), .int .u64 (g 3 : Int), .int .u64 (g 4 : Int), .int .u64 (g 5 : Int)] : Array Value) = G at e ⊢
  simp [Instr.index, run_underlying Tryz.underlying31, asIntOf, h1, go_sem, sizeOf, typeInfo, hi, hz1, isAgg, run_underlying Tryz.underlying30]
  rw [if_pos h, e]
  rfl
end Go.Proofs.YtgdgehfapfgdfaaGreatDoor.W

/-! Contracts of mayBe and of the reference's May. No conditions. -/
namespace Go.Proofs.YtgdgehfapfgdfaaGreatDoor.W
set_option maxRecDepth 100000
open Go.RowKit Oc
set_option linter.unusedVariables false

set_option maxHeartbeats 1000000 in
theorem maybe_any (p : Gp) (b : Bool) (w : World) (hb : b = true ↔ MayBe p) : Calls Tryz.prog 122 #[(.agg #[.int .i64 p.no, .int .u64 (p.v : Int), .int .u64 (p.g 0 : Int), .int .u64 (p.g 1 : Int), .int .u64 (p.g 2 : Int), .int .u64 (p.g 3 : Int), .int .u64 (p.g 4 : Int), .int .u64 (p.g 5 : Int)])] w fun e w' => e = .returned (.bool b) ∧ Below w.heap.size w w' := by
  obtain ⟨no, v, g⟩ := p
  dsimp only
  unfold MayBe at hb
  dsimp only at hb
  by_cases h0 : no < 0
  · have hf : b = false := by
      cases b
      · rfl
      · exact absurd (hb.1 rfl).1.1 (by omega)
    subst hf
    clear hb
    go_enter Tryz.func122, Tryz.ntmps122
    go_wp2
    go_ret
    exact ⟨rfl, balloc _ _⟩
  · by_cases h1 : 65535 < no
    · have hf : b = false := by
        cases b
        · rfl
        · exact absurd (hb.1 rfl).1.2 (by omega)
      subst hf
      clear hb
      go_enter Tryz.func122, Tryz.ntmps122
      go_wp2
      go_ret
      exact ⟨rfl, balloc _ _⟩
    · by_cases h2 : isG v
      · have HV := Lib.hid h2
        have HB : Hid (b = true ↔ ∀ i, i < 6 → isG (g i)) := ⟨fun h => (hb.1 h).2.2, fun h => hb.2 ⟨⟨by omega, by omega⟩, h2, h⟩⟩
        clear hb h2
        go_enter Tryz.func122, Tryz.ntmps122
        go_wp2_with fail
        refine (gen_yes _ _ HV.out).mono ?_; rintro e w' ⟨rfl, rfl⟩
        go_wp2
        go_loop [4, 21] (fun _ q => ∃ j : Nat, j ≤ 6 ∧ q = .int .i64 j ∧ Hid (∀ i, i < j → isG (g i))) (fun _ q => 6 - (intOf q).toNat)
        case atStart => exact ⟨0, by omega, rfl, fun i hi => by omega⟩
        case round =>
          obtain ⟨j, hj, rfl, HJ⟩ := hrel
          by_cases hlt : j < 6
          · have hx := index_gen g hlt
            by_cases hg : isG (g j)
            · have HG := Lib.hid hg
              clear hg
              go_wp2_with fail
              refine (gen_yes _ _ HG.out).mono ?_; rintro e w' ⟨rfl, rfl⟩
              go_wp2
              go_round
              case rel => exact ⟨j + 1, by omega, rfl, fun i hi => by
                by_cases h3 : i = j
                · subst h3; exact HG.out
                · exact HJ.out i (by omega)⟩
              case measure => simp [intOf]; omega
            · have HG := Lib.hid hg
              clear hg
              have hf : b = false := by
                cases b
                · rfl
                · exact absurd (HB.out.1 rfl j hlt) HG.out
              subst hf
              go_wp2_with fail
              refine (gen_no _ _ HG.out).mono ?_; rintro e w' ⟨rfl, rfl⟩
              go_wp2
              go_ret
              exact ⟨rfl, balloc _ _⟩
          · have : j = 6 := by omega
            have hf : b = true := HB.out.2 fun i hi => HJ.out i (by omega)
            subst hf
            go_wp2
            go_ret
            exact ⟨rfl, balloc _ _⟩
      · have HV := Lib.hid h2
        have hf : b = false := by
          cases b
          · rfl
          · exact absurd (hb.1 rfl).2.1 h2
        subst hf
        clear hb h2
        go_enter Tryz.func122, Tryz.ntmps122
        go_wp2_with fail
        refine (gen_no _ _ HV.out).mono ?_; rintro e w' ⟨rfl, rfl⟩
        go_wp2
        go_ret
        exact ⟨rfl, balloc _ _⟩

/-- a generation in its box -/
theorem gen_cell (w : World) (no : Int) (v : Nat) (g : Nat → Nat) (T : TypeId) {j : Nat} (h : j < 6) {k : Nat} (hk : k = 2 + j) : (w.alloc (.cells #[.int .i64 no, .int .u64 (v : Int), .int .u64 (g 0 : Int), .int .u64 (g 1 : Int), .int .u64 (g 2 : Int), .int .u64 (g 3 : Int), .int .u64 (g 4 : Int), .int .u64 (g 5 : Int)] T)).cell? ⟨w.heap.size, k, none⟩ = some (.int .u64 (g j : Int)) := by
  subst hk
  rw [cell_of_row _ _ _ _ _ _ (heap_alloc_new w _)]
  match j, h with
  | 0, _ => rfl
  | 1, _ => rfl
  | 2, _ => rfl
  | 3, _ => rfl
  | 4, _ => rfl
  | 5, _ => rfl

set_option maxHeartbeats 1000000 in
theorem rmay_any (p : Gp) (b : Bool) (w : World) (hb : b = true ↔ MayBe p) : Calls Tryz.prog 70 #[(.agg #[.int .i64 p.no, .int .u64 (p.v : Int), .int .u64 (p.g 0 : Int), .int .u64 (p.g 1 : Int), .int .u64 (p.g 2 : Int), .int .u64 (p.g 3 : Int), .int .u64 (p.g 4 : Int), .int .u64 (p.g 5 : Int)])] w fun e w' => e = .returned (.bool b) ∧ Below w.heap.size w w' := by
  obtain ⟨no, v, g⟩ := p
  dsimp only
  unfold MayBe at hb
  dsimp only at hb
  by_cases h0 : (0 ≤ no ∧ no < 65536) ∧ isG v
  · obtain ⟨⟨h0, h1⟩, h2⟩ := h0
    have HV := Lib.hid h2
    have HB : Hid (b = true ↔ ∀ i, i < 6 → isG (g i)) := ⟨fun h => (hb.1 h).2.2, fun h => hb.2 ⟨⟨h0, h1⟩, h2, h⟩⟩
    clear hb h2
    go_enter Tryz.func70, Tryz.ntmps70
    go_wp2_with fail
    refine (rnum_yes _ _ HV.out).mono ?_; rintro e w' ⟨rfl, rfl⟩
    go_wp2
    go_loop [3, 4] (fun s q => ∃ (j : Nat) (c : Bool), j ≤ 6 ∧ q = .int .i64 j ∧ s = .bool c ∧ Hid (c = true ↔ ∀ i, i < j → isG (g i))) (fun _ q => 6 - (intOf q).toNat)
    case atStart => exact ⟨0, true, by omega, rfl, rfl, ⟨fun _ i hi => by omega, fun _ => rfl⟩⟩
    case round =>
      obtain ⟨j, c, hj, rfl, rfl, HJ⟩ := hrel
      by_cases hlt : j < 6
      · cases c
        · go_wp2
          go_round
          case rel => exact ⟨j + 1, false, by omega, rfl, rfl, ⟨fun h => (by cases h), fun h => HJ.out.2 fun i hi => h i (by omega)⟩⟩
          case measure => simp [intOf]; omega
        · have hc := gen_cell w no v g 33 hlt (k := 2 + j) rfl
          by_cases hg : isG (g j)
          · have HG := Lib.hid hg
            clear hg
            go_wp2_with fail
            refine (rnum_yes _ _ HG.out).mono ?_; rintro e w' ⟨rfl, rfl⟩
            go_wp2
            go_round
            case rel => exact ⟨j + 1, true, by omega, rfl, rfl, ⟨fun _ i hi => by
              by_cases h3 : i = j
              · subst h3; exact HG.out
              · exact HJ.out.1 (by trivial) i (by omega), fun _ => by trivial⟩⟩
            case measure => simp [intOf]; omega
          · have HG := Lib.hid hg
            clear hg
            go_wp2_with fail
            refine (rnum_no _ _ HG.out).mono ?_; rintro e w' ⟨rfl, rfl⟩
            go_wp2
            go_round
            case rel => exact ⟨j + 1, false, by omega, rfl, rfl, ⟨fun h => (by cases h), fun h => absurd (h j (by omega)) HG.out⟩⟩
            case measure => simp [intOf]; omega
      · have h6 : j = 6 := by omega
        have hf : c = b := by
          have h1 := HB.out
          have h2 := HJ.out
          rw [h6] at h2
          cases b <;> cases c <;> first | rfl | exact (absurd (h1.2 (h2.1 rfl)) (by decide)) | exact (absurd (h2.2 (h1.1 rfl)) (by decide))
        subst hf
        clear h6
        go_wp2
        go_ret
        exact ⟨rfl, balloc _ _⟩
  · have hf : b = false := by
      cases b
      · rfl
      · exact absurd ⟨(hb.1 rfl).1, (hb.1 rfl).2.1⟩ h0
    subst hf
    have HN : Hid (¬ ((0 ≤ no ∧ no < 65536) ∧ isG v)) := h0
    clear hb h0
    by_cases h1 : 0 ≤ no
    · by_cases h2 : no < 65536
      · have HV : Hid (¬ isG v) := fun h => HN.out ⟨⟨h1, h2⟩, h⟩
        go_enter Tryz.func70, Tryz.ntmps70
        go_wp2_with fail
        refine (rnum_no _ _ HV.out).mono ?_; rintro e w' ⟨rfl, rfl⟩
        go_wp2
        go_loop [3, 4] (fun s q => ∃ (j : Nat), j ≤ 6 ∧ q = .int .i64 j ∧ s = .bool false) (fun _ q => 6 - (intOf q).toNat)
        case atStart => exact ⟨0, by omega, rfl, rfl⟩
        case round =>
          obtain ⟨j, hj, rfl, rfl⟩ := hrel
          by_cases hlt : j < 6
          · go_wp2
            go_round
            case rel => exact ⟨j + 1, by omega, rfl, rfl⟩
            case measure => simp [intOf]; omega
          · go_wp2
            go_ret
            exact ⟨rfl, balloc _ _⟩
      · go_enter Tryz.func70, Tryz.ntmps70
        go_wp2
        go_loop [3, 4] (fun s q => ∃ (j : Nat), j ≤ 6 ∧ q = .int .i64 j ∧ s = .bool false) (fun _ q => 6 - (intOf q).toNat)
        case atStart => exact ⟨0, by omega, rfl, rfl⟩
        case round =>
          obtain ⟨j, hj, rfl, rfl⟩ := hrel
          by_cases hlt : j < 6
          · go_wp2
            go_round
            case rel => exact ⟨j + 1, by omega, rfl, rfl⟩
            case measure => simp [intOf]; omega
          · go_wp2
            go_ret
            exact ⟨rfl, balloc _ _⟩
    · go_enter Tryz.func70, Tryz.ntmps70
      go_wp2
      go_loop [3, 4] (fun s q => ∃ (j : Nat), j ≤ 6 ∧ q = .int .i64 j ∧ s = .bool false) (fun _ q => 6 - (intOf q).toNat)
      case atStart => exact ⟨0, by omega, rfl, rfl⟩
      case round =>
        obtain ⟨j, hj, rfl, rfl⟩ := hrel
        by_cases hlt : j < 6
        · go_wp2
          go_round
          case rel => exact ⟨j + 1, by omega, rfl, rfl⟩
          case measure => simp [intOf]; omega
        · go_wp2
          go_ret
          exact ⟨rfl, balloc _ _⟩
end Go.Proofs.YtgdgehfapfgdfaaGreatDoor.W

/-! Contracts of Fresh and read. No conditions. -/
namespace Go.Proofs.YtgdgehfapfgdfaaGreatDoor.W
set_option maxRecDepth 100000
open Go.RowKit Oc
set_option linter.unusedVariables false

/-- six numbers as cells; a page as cells -/
def ga (g : Nat → Nat) : Array Value := #[.int .u64 (g 0 : Int), .int .u64 (g 1 : Int), .int .u64 (g 2 : Int), .int .u64 (g 3 : Int), .int .u64 (g 4 : Int), .int .u64 (g 5 : Int)]
def gc (no : Int) (v : Nat) (g : Nat → Nat) : Array Value := #[.int .i64 no, .int .u64 (v : Int), .int .u64 (g 0 : Int), .int .u64 (g 1 : Int), .int .u64 (g 2 : Int), .int .u64 (g 3 : Int), .int .u64 (g 4 : Int), .int .u64 (g 5 : Int)]
def up (g : Nat → Nat) (j x : Nat) : Nat → Nat := fun i => if i = j then x else g i
theorem ga_set {w : World} {B : Nat} {g : Nat → Nat} {T : TypeId} (h : w.heap[B]? = some (.cells (ga g) T (0, 0))) {j : Nat} (hj : j < 6) (x : Nat) : (w.setCell ⟨B, j, none⟩ (.int .u64 (x : Int))).heap[B]? = some (.cells (ga (up g j x)) T (0, 0)) := by
  rw [heap_setCell_same w B j _ T _ h]
  match j, hj with
  | 0, _ => rfl
  | 1, _ => rfl
  | 2, _ => rfl
  | 3, _ => rfl
  | 4, _ => rfl
  | 5, _ => rfl
theorem gc_set {w : World} {B : Nat} {no : Int} {v : Nat} {g : Nat → Nat} {T : TypeId} (h : w.heap[B]? = some (.cells (gc no v g) T (0, 0))) {j : Nat} (hj : j < 6) (x : Nat) : (w.setCell ⟨B, 2 + j, none⟩ (.int .u64 (x : Int))).heap[B]? = some (.cells (gc no v (up g j x)) T (0, 0)) := by
  rw [heap_setCell_same w B (2 + j) _ T _ h]
  match j, hj with
  | 0, _ => rfl
  | 1, _ => rfl
  | 2, _ => rfl
  | 3, _ => rfl
  | 4, _ => rfl
  | 5, _ => rfl
theorem ga_cell {w : World} {B : Nat} {g : Nat → Nat} {T : TypeId} (h : w.heap[B]? = some (.cells (ga g) T (0, 0))) {j : Nat} (hj : j < 6) : w.cell? ⟨B, j, none⟩ = some (.int .u64 (g j : Int)) ∧ w.frozen? ⟨B, j, none⟩ = false := by
  refine ⟨?_, frozen_of_row w B j _ T h⟩
  rw [cell_of_row _ _ _ _ _ _ h]
  match j, hj with
  | 0, _ => rfl
  | 1, _ => rfl
  | 2, _ => rfl
  | 3, _ => rfl
  | 4, _ => rfl
  | 5, _ => rfl
theorem gc_cell {w : World} {B : Nat} {no : Int} {v : Nat} {g : Nat → Nat} {T : TypeId} (h : w.heap[B]? = some (.cells (gc no v g) T (0, 0))) {j : Nat} (hj : j < 6) : w.cell? ⟨B, 2 + j, none⟩ = some (.int .u64 (g j : Int)) ∧ w.frozen? ⟨B, 2 + j, none⟩ = false := by
  refine ⟨?_, frozen_of_row w B (2 + j) _ T h⟩
  rw [cell_of_row _ _ _ _ _ _ h]
  match j, hj with
  | 0, _ => rfl
  | 1, _ => rfl
  | 2, _ => rfl
  | 3, _ => rfl
  | 4, _ => rfl
  | 5, _ => rfl
/-- a store of a whole struct -/
theorem L_storeRow {ops : Array Oper} {rest : List Oper} {a : Act} {w : World} {Q : Exit → Act → World → Prop} {dst : Option Tmp} {ty : TypeId} {pos : String} {af : Array Edge} {x y : Operand} {g N : Nat} {T t : TypeId} {cs old : Array Value}
    (hi : (Tryz.prog.info? T).map (·.size) = some N) (hx : a.eval x = .pointer (some ⟨g, 0, none⟩)) (hy : a.eval y = .agg cs) (hg : w.heap[g]? = some (.cells old t (0, 0))) (ho : old.size = N) (hc : cs.size = N) (h1 : cs.all (·.oneCell') = true)
    (hK : ∀ w', w'.heap[g]? = some (.cells cs t (0, 0)) → w.grownBy w' (some g) → wpList Tryz.prog ops Q rest (a.put dst undef) w') : wpList Tryz.prog ops Q (⟨dst, .store T x y, ty, pos, af, none⟩ :: rest) a w :=
  wpList_store_row rfl T x y rfl g cs hx hy t old hg (by rw [hi, hc]) (by omega) h1
    (hK _ (setRow_heap w g old _ t _ hg) ⟨rfl, rfl, rfl, by simp, fun k _ hk => setRow_other w g k _ (fun e => hk (by rw [e]))⟩)
/-- a load of a whole page -/
theorem L_loadGp {ops : Array Oper} {rest : List Oper} {a : Act} {w : World} {Q : Exit → Act → World → Prop} {dst : Option Tmp} {ty : TypeId} {pos : String} {af : Array Edge} {x : Operand} {g : Nat} {t : TypeId} {cs : Array Value}
    (hx : a.eval x = .pointer (some ⟨g, 0, none⟩)) (hg : w.heap[g]? = some (.cells cs t (0, 0))) (hc : cs.size = 8)
    (hK : wpList Tryz.prog ops Q rest (a.put dst (.agg cs)) w) : wpList Tryz.prog ops Q (⟨dst, .load 33 x, ty, pos, af, none⟩ :: rest) a w :=
  wpList_load_row rfl 33 x rfl g hx t cs (0, 0) _ hg Tryz.underlying33 rfl (by rw [hc]; exact info_gp) hK
theorem info_g6 : (Tryz.prog.info? 31).map (·.size) = some 6 := by kernel_rfl
theorem L_loadG6 {ops : Array Oper} {rest : List Oper} {a : Act} {w : World} {Q : Exit → Act → World → Prop} {dst : Option Tmp} {ty : TypeId} {pos : String} {af : Array Edge} {x : Operand} {g : Nat} {t : TypeId} {cs : Array Value}
    (hx : a.eval x = .pointer (some ⟨g, 0, none⟩)) (hg : w.heap[g]? = some (.cells cs t (0, 0))) (hc : cs.size = 6)
    (hK : wpList Tryz.prog ops Q rest (a.put dst (.agg cs)) w) : wpList Tryz.prog ops Q (⟨dst, .load 31 x, ty, pos, af, none⟩ :: rest) a w :=
  wpList_load_row rfl 31 x rfl g hx t cs (0, 0) _ hg Tryz.underlying31 rfl (by rw [hc]; exact info_g6) hK

theorem below_up {w0 w w' : World} {B : Nat} (h : Below w0.heap.size w0 w) (hg : w.grownBy w' (some B)) (hB : w0.heap.size ≤ B) : Below w0.heap.size w0 w' := h.grown hg h.size fun g e => by injection e with e; omega

theorem heap_at_next (w : World) (a b : Obj) : ((w.alloc a).alloc b).heap[w.heap.size + 1]? = some b := by
  have h := heap_alloc_new (w.alloc a) b
  rwa [show (w.alloc a).heap.size = w.heap.size + 1 by simp] at h
/-- the first j are 1 -/
def ones (j : Nat) : Nat → Nat := fun i => if i < j then 1 else 0
theorem ga_congr {f g : Nat → Nat} (h : ∀ i, i < 6 → f i = g i) : ga f = ga g := by
  unfold ga
  rw [h 0 (by omega), h 1 (by omega), h 2 (by omega), h 3 (by omega), h 4 (by omega), h 5 (by omega)]
theorem gc_congr {no : Int} {v : Nat} {f g : Nat → Nat} (h : ∀ i, i < 6 → f i = g i) : gc no v f = gc no v g := by
  unfold gc
  rw [h 0 (by omega), h 1 (by omega), h 2 (by omega), h 3 (by omega), h 4 (by omega), h 5 (by omega)]
theorem ga_ones (j : Nat) : ga (up (ones j) j 1) = ga (ones (j + 1)) := ga_congr fun i _ => by
  unfold up ones
  by_cases h : i = j
  · rw [if_pos h, if_pos (by omega)]
  · rw [if_neg h]
    by_cases h2 : i < j
    · rw [if_pos h2, if_pos (by omega)]
    · rw [if_neg h2, if_neg (by omega)]
set_option maxHeartbeats 1000000 in
theorem fresh_any (no : Int) (w : World) : Calls Tryz.prog 65 #[.int .i64 no] w fun e w' => e = .returned (.agg #[.int .i64 no, .int .u64 1, .int .u64 1, .int .u64 1, .int .u64 1, .int .u64 1, .int .u64 1, .int .u64 1]) ∧ Below w.heap.size w w' := by
  go_enter Tryz.func65, Tryz.ntmps65
  go_wp2
  go_loopw [4, 5] (fun _ q wr => ∃ j : Nat, j ≤ 6 ∧ q = .int .i64 j ∧ Hid (wr.heap[w.heap.size + 1]? = some (.cells (ga (ones j)) 31 (0, 0))) ∧ Hid (wr.heap[w.heap.size]? = some (.cells (gc 0 0 fun _ => 0) 33 (0, 0))) ∧ Hid (Below w.heap.size w wr)) (fun _ q _ => 6 - (intOf q).toNat)
  case atStart =>
    refine ⟨0, by omega, rfl, ?_, ?_, bthen (balloc _ _) (balloc _ _)⟩
    · exact heap_at_next w _ _
    · exact heap_alloc2_old _ _ _
  case round =>
    obtain ⟨j, hj, rfl, HG, HC, HB⟩ := hrel
    by_cases hlt : j < 6
    · obtain ⟨c1, f1⟩ := ga_cell HG.out hlt
      go_wp2
      go_roundw
      case rel =>
        refine ⟨j + 1, by omega, rfl, ?_, ?_, below_up HB.out (grown_set _ _ _ _) (by omega)⟩
        · show _ = _
          rw [← ga_ones]
          exact ga_set HG.out hlt 1
        · exact ((grown_set _ _ _ _).block _ (by have := (Array.getElem?_eq_some_iff.1 HC.out).1; omega) (fun e => by injection e with e; omega)).trans HC.out
      case measure => simp [intOf]; omega
    · have h6 : j = 6 := by omega
      have hg : wr.heap[w.heap.size + 1]? = some (.cells #[.int .u64 1, .int .u64 1, .int .u64 1, .int .u64 1, .int .u64 1, .int .u64 1] 31 (0, 0)) := by rw [HG.out, h6]; rfl
      have H1 := Lib.hid hg
      clear hg h6
      go_wp2_with (first
        | ((with_reducible apply L_loadG6); exact rfl; exact H1.out; exact rfl)
        | ((with_reducible apply L_storeRow (N := 8) info_gp); exact rfl; exact rfl; exact HC.out; exact rfl; exact rfl; (simp [Value.oneCell']); intro w1 h1 g1; have HH := Lib.hid h1; have GG := Lib.hid g1; clear h1 g1))
      refine bodyPost_ret (results_cell_row rfl _ _ _ _ _ _ _ rfl HH.out Tryz.underlying33 rfl info_gp) rfl ?_
      exact ⟨rfl, below_up HB.out GG.out (Nat.le_refl _)⟩
end Go.Proofs.YtgdgehfapfgdfaaGreatDoor.W

/-! The contract of read. No conditions. -/
namespace Go.Proofs.YtgdgehfapfgdfaaGreatDoor.W
set_option maxRecDepth 100000
open Go.RowKit Oc
set_option linter.unusedVariables false

/-- the first j as they are, the rest 0 -/
def upto (g : Nat → Nat) (j : Nat) : Nat → Nat := fun i => if i < j then g i else 0
theorem gc_upto (no : Int) (v : Nat) (g : Nat → Nat) (j : Nat) : gc no v (up (upto g j) j (g j)) = gc no v (upto g (j + 1)) := gc_congr fun i _ => by
  unfold up upto
  by_cases h : i = j
  · subst h; rw [if_pos rfl, if_pos (by omega)]
  · rw [if_neg h]
    by_cases h2 : i < j
    · rw [if_pos h2, if_pos (by omega)]
    · rw [if_neg h2, if_neg (by omega)]
theorem gc_all (no : Int) (v : Nat) (g : Nat → Nat) : gc no v (upto g 6) = gc no v g := gc_congr fun i h => by
  unfold upto
  rw [if_pos h]
/-- a page's block is no reader's, nor octets' -/
theorem Oct.gc {w : World} {A : Option Addr} {n B : Nat} {xs : List UInt8} {no : Int} {v : Nat} {g : Nat → Nat} {T : TypeId} (h : Oct w A n xs) (hB : w.heap[B]? = some (.cells (gc no v g) T (0, 0))) : ∀ off, 0 < n → A ≠ some ⟨B, off, none⟩ := by
  intro off hn e
  obtain ⟨b, off', x, e', _, hc⟩ := h.at_ hn
  rw [e] at e'
  injection e' with e'
  injection e' with e1 e2
  subst e1 e2
  rw [cell_of_row w B _ _ T (0, 0) hB] at hc
  unfold W.gc at hc
  match off + 0, hc with
  | 0, hc => simp at hc
  | 1, hc => simp at hc
  | 2, hc => simp at hc
  | 3, hc => simp at hc
  | 4, hc => simp at hc
  | 5, hc => simp at hc
  | 6, hc => simp at hc
  | 7, hc => simp at hc
  | k + 8, hc => simp at hc
theorem rd_gc {w w' : World} {R B : Nat} {xs : List UInt8} {m : Bool} {T T' : TypeId} {no : Int} {v : Nat} {g : Nat → Nat} (h : Rd w T R xs m) (hB : w.heap[B]? = some (.cells (gc no v g) T' (0, 0))) (hg : w.grownBy w' (some B)) (hT : T ≠ T') : Rd w' T R xs m := by
  have hl := h.lt
  obtain ⟨A, c, hh, hc, ho⟩ := h
  refine ⟨A, c, (hg.block R hl (fun e => ?_)).trans hh, hc, ho.grown hg (Oct.gc ho hB)⟩
  injection e with e
  subst e
  rw [hh] at hB
  injection hB with hB
  injection hB with _ e
  exact hT e
theorem tyne : 224 ≠ 33 := by decide
theorem gen_drop (ps : List UInt8) (j : Nat) : num ((ps.drop (10 + 8 * j)).take 8) = (dec ps).g j := rfl
theorem drop_more (ps : List UInt8) (j : Nat) : (ps.drop (10 + 8 * j)).drop 8 = ps.drop (10 + 8 * (j + 1)) := by rw [List.drop_drop]; congr 1
/-- a block that another's change leaves -/
theorem kept_by {w w' : World} {R B : Nat} {o : Obj} (h : w.heap[B]? = some o) (hg : w.grownBy w' (some R)) (hne : B ≠ R) : w'.heap[B]? = some o :=
  (hg.block B (Array.getElem?_eq_some_iff.1 h).1 (fun e => by injection e with e; exact hne e)).trans h
theorem kept_below {w w' : World} {B : Nat} {o : Obj} (h : w.heap[B]? = some o) (hb : Below w.heap.size w w') : w'.heap[B]? = some o := (hb.block B (Array.getElem?_eq_some_iff.1 h).1).trans h

set_option maxHeartbeats 2000000 in
theorem read_gp (A : Option Addr) (c : Nat) (ps : List UInt8) (p : Gp) (w : World) (hp : p = dec ps) (ho : Oct w A 58 ps) :
    Calls Tryz.prog 142 #[.slice A 58 c] w fun e w' => e = .returned (.agg #[.int .i64 p.no, .int .u64 (p.v : Int), .int .u64 (p.g 0 : Int), .int .u64 (p.g 1 : Int), .int .u64 (p.g 2 : Int), .int .u64 (p.g 3 : Int), .int .u64 (p.g 4 : Int), .int .u64 (p.g 5 : Int)]) ∧ Below w.heap.size w w' := by
  have hl := ho.len
  have HO := Lib.hid ho
  have HL := Lib.hid hl
  have HP := Lib.hid hp
  clear ho hl hp
  go_enter Tryz.func142, Tryz.ntmps142
  go_wp2_with fail
  refine (read_any _ _ _ ps _ (by omega) (HO.out.alloc _)).mono ?_; rintro e w1 ⟨R, rfl, hR, rd, b1⟩
  have hh0 := kept_below (heap_alloc_new w (.cells #[.int .i64 0, .int .u64 0, .int .u64 0, .int .u64 0, .int .u64 0, .int .u64 0, .int .u64 0, .int .u64 0] 33)) b1
  have hR1 : w.heap.size + 1 ≤ R := by simpa using hR
  have HH := Lib.hid hh0
  have RD := Lib.hid rd
  have B1 : Hid (Below w.heap.size w w1) := bthen (balloc _ _) b1
  clear hR hh0 rd b1
  go_wp2_with fail
  refine (u_take 2 RD.out (by rw [HL.out]; omega) (by omega) (by omega) (by rw [HL.out]; omega) _ rfl).mono ?_; rintro e w2 ⟨rfl, rd, g2⟩
  have HH2 := Lib.hid (kept_by HH.out g2 (by omega))
  have B2 := Lib.hid (below_up B1.out g2 (by omega))
  have RD2 := Lib.hid rd
  clear rd g2
  obtain ⟨N, hN⟩ : ∃ N, num (ps.take 2) = N := ⟨_, rfl⟩
  have hN2 : N < 65536 := by
    rw [← hN]
    have := num_lt (ps.take 2)
    rw [List.length_take, HL.out] at this
    simpa using this
  rw [hN]
  have EN := Lib.hid hN
  clear hN
  go_wp2_with fail
  refine (u_take 8 RD2.out (by rw [List.length_drop, HL.out]; omega) (by omega) (by omega) (by rw [List.length_drop, HL.out]; omega) _ rfl).mono ?_; rintro e w3 ⟨rfl, rd, g3⟩
  have HH3 := Lib.hid (kept_by HH2.out g3 (by omega))
  have B3 := Lib.hid (below_up B2.out g3 (by omega))
  have RD3 := Lib.hid rd
  clear rd g3
  obtain ⟨V, hV⟩ : ∃ V, num ((ps.drop 2).take 8) = V := ⟨_, rfl⟩
  rw [hV]
  have EV := Lib.hid hV
  clear hV
  obtain ⟨G, hG⟩ : ∃ G, (dec ps).g = G := ⟨_, rfl⟩
  have EG := Lib.hid hG
  obtain ⟨B, hB⟩ : ∃ B, B = w3.heap.size := ⟨_, rfl⟩
  have hRB : R < B := by rw [hB]; exact RD3.out.lt
  have hwB : w.heap.size < B := by omega
  have EB := Lib.hid hB
  clear hG hB
  go_wp2
  rw [← EB.out]
  go_loopw [5, 14] (fun _ q wr => ∃ j : Nat, j ≤ 6 ∧ q = .int .i64 j ∧ Hid (wr.heap[B]? = some (.cells (gc N V (upto G j)) 33 (0, 0))) ∧ Hid (wr.heap[w.heap.size]? = some (.cells (gc 0 0 fun _ => 0) 33 (0, 0))) ∧ Hid (Rd wr 224 R (ps.drop (10 + 8 * j)) true) ∧ Hid (Below w.heap.size w wr)) (fun _ q _ => 6 - (intOf q).toNat)
  case atStart =>
    refine ⟨0, by omega, rfl, ?_, kept_below HH3.out (balloc _ _), ?_, bthen B3.out (balloc _ _)⟩
    · rw [EB.out]
      exact heap_alloc_new w3 _
    · have h := RD3.out
      rw [List.drop_drop] at h
      exact h.below (balloc _ _)
  case round =>
    obtain ⟨j, hj, rfl, HG, HC, RJ, BJ⟩ := hrel
    by_cases hlt : j < 6
    · have hlen : (ps.drop (10 + 8 * j)).length = 48 - 8 * j := by rw [List.length_drop, HL.out]; omega
      have HLE := Lib.hid hlen
      clear hlen
      go_wp2_with fail
      refine (u_take 8 RJ.out (by rw [HLE.out]; omega) (by omega) (by omega) (by rw [HLE.out]; omega) (G j) (by rw [gen_drop, EG.out])).mono ?_; rintro e w4 ⟨rfl, rd, g4⟩
      have HG4 := Lib.hid (kept_by HG.out g4 (by omega))
      have HC4 := Lib.hid (kept_by HC.out g4 (by omega))
      have B4 := Lib.hid (below_up BJ.out g4 (by omega))
      rw [drop_more] at rd
      have R4 := Lib.hid rd
      clear rd g4
      obtain ⟨c1, f1⟩ := gc_cell HG4.out hlt
      go_wp2
      go_roundw
      case rel =>
        refine ⟨j + 1, by omega, rfl, ?_, kept_by HC4.out (grown_set _ _ _ _) (by omega), rd_gc R4.out HG4.out (grown_set _ _ _ _) tyne, below_up B4.out (grown_set _ _ _ _) (by omega)⟩
        show _ = _
        rw [← gc_upto]
        exact gc_set HG4.out hlt (G j)
      case measure => simp [intOf]; omega
    · have h6 : j = 6 := by omega
      have hg : wr.heap[B]? = some (.cells #[.int .i64 (N : Int), .int .u64 (V : Int), .int .u64 (G 0 : Int), .int .u64 (G 1 : Int), .int .u64 (G 2 : Int), .int .u64 (G 3 : Int), .int .u64 (G 4 : Int), .int .u64 (G 5 : Int)] 33 (0, 0)) := by rw [HG.out, h6, gc_all]; rfl
      have H1 := Lib.hid hg
      clear hg h6
      go_wp2_with (first
        | ((with_reducible apply L_loadGp); exact rfl; exact H1.out; exact rfl)
        | ((with_reducible apply L_storeRow (N := 8) info_gp); exact rfl; exact rfl; exact HC.out; exact rfl; exact rfl; (simp [Value.oneCell']); intro w5 h5 g5; have H5 := Lib.hid h5; have G5 := Lib.hid g5; clear h5 g5))
      refine bodyPost_ret (results_cell_row rfl _ _ _ _ _ _ _ rfl H5.out Tryz.underlying33 rfl info_gp) rfl ?_
      have hp := HP.out
      subst hp
      refine ⟨?_, below_up BJ.out G5.out (Nat.le_refl _)⟩
      rw [← EG.out, ← EV.out, ← EN.out]
      rfl
end Go.Proofs.YtgdgehfapfgdfaaGreatDoor.W

/-! Contracts of Get and Newer. No conditions. -/
namespace Go.Proofs.YtgdgehfapfgdfaaGreatDoor.W
set_option maxRecDepth 100000
open Go.RowKit Oc
set_option linter.unusedVariables false

/-- a struct and a number come back; and one with two -/
theorem results_cell_tmp_row {fn : Func} {p u : Tmp} {ty : TypeId} (h : fn.results = #[.cell p ty, .tmp u]) (tmps : Array Value) (w : World) (g : Nat) (cs : Array Value)
    (hp : tmps.getD p undef = .pointer (some ⟨g, 0, none⟩)) (hl : (loadVar ty ⟨g, 0, none⟩).run Tryz.prog w = .ok (.agg cs) w) :
    (results fn tmps).run Tryz.prog w = .ok (.tuple #[.agg cs, tmps.getD u undef]) w := by
  rw [results_cell_tmp h, hp]
  simp [asAddr, hl, Result.andThen]
theorem results_cell_tmp2_row {fn : Func} {p u u2 : Tmp} {ty : TypeId} (h : fn.results = #[.cell p ty, .tmp u, .tmp u2]) (tmps : Array Value) (w : World) (g : Nat) (cs : Array Value)
    (hp : tmps.getD p undef = .pointer (some ⟨g, 0, none⟩)) (hl : (loadVar ty ⟨g, 0, none⟩).run Tryz.prog w = .ok (.agg cs) w) :
    (results fn tmps).run Tryz.prog w = .ok (.tuple #[.agg cs, tmps.getD u undef, tmps.getD u2 undef]) w := by
  have hp' : tmps[p]?.getD undef = .pointer (some ⟨g, 0, none⟩) := by simpa using hp
  simp only [results, h]
  simp [hp', asAddr, hl, Result.andThen]

theorem gp_new (w : World) : (w.alloc (.cells #[.int .i64 0, .int .u64 0, .int .u64 0, .int .u64 0, .int .u64 0, .int .u64 0, .int .u64 0, .int .u64 0] 33)).heap[w.heap.size]? = some (.cells #[.int .i64 0, .int .u64 0, .int .u64 0, .int .u64 0, .int .u64 0, .int .u64 0, .int .u64 0, .int .u64 0] 33 (0, 0)) := heap_alloc_new w _
theorem like_val {p d : Gp} (h : Like p d) : ((.agg #[.int .i64 p.no, .int .u64 (p.v : Int), .int .u64 (p.g 0 : Int), .int .u64 (p.g 1 : Int), .int .u64 (p.g 2 : Int), .int .u64 (p.g 3 : Int), .int .u64 (p.g 4 : Int), .int .u64 (p.g 5 : Int)]) : Value) = (.agg #[.int .i64 d.no, .int .u64 (d.v : Int), .int .u64 (d.g 0 : Int), .int .u64 (d.g 1 : Int), .int .u64 (d.g 2 : Int), .int .u64 (d.g 3 : Int), .int .u64 (d.g 4 : Int), .int .u64 (d.g 5 : Int)]) := by
  obtain ⟨h1, h2, h3⟩ := h
  rw [h1, h2, h3 0 (by omega), h3 1 (by omega), h3 2 (by omega), h3 3 (by omega), h3 4 (by omega), h3 5 (by omega)]
theorem get58 {ys : List UInt8} {k : Int} (h : getE ys k = 0) : (getL ys k).length = 58 := by
  obtain ⟨h1, h2, _⟩ := getE_zero h
  rw [getL_ok h, List.length_drop, openL_length h1 h2]

set_option maxHeartbeats 2000000 in
theorem gget_any (A : Option Addr) (n c : Nat) (ys : List UInt8) (no : Int) (p : Gp) (E : Int) (w : World) (hn : n ≤ 1000000) (hc : n ≤ c) (ho : Oct w A n ys) (he : Env w) (hW : GWay ys no p E) :
    Calls Tryz.prog 121 #[.slice A n c, .int .i64 no] w fun e w' => e = .returned (.tuple #[(.agg #[.int .i64 p.no, .int .u64 (p.v : Int), .int .u64 (p.g 0 : Int), .int .u64 (p.g 1 : Int), .int .u64 (p.g 2 : Int), .int .u64 (p.g 3 : Int), .int .u64 (p.g 4 : Int), .int .u64 (p.g 5 : Int)]), .int .i64 E]) ∧ Below w.heap.size w w' := by
  have HO := Lib.hid ho
  have HE := Lib.hid he
  clear ho he
  rcases hW with ⟨h1, h2, h3⟩ | ⟨h1, h2, h3, h4⟩ | ⟨h1, h2, h3, h4, h5⟩
  · subst h3
    have hE0 : ¬ E = 0 := by rw [h2]; exact h1
    have H2 := Lib.hid h2.symm
    clear h1 h2
    go_enter Tryz.func121, Tryz.ntmps121
    go_wp2_with fail
    refine (pget_any _ _ _ ys _ _ hn hc (HO.out.alloc _) (HE.out.alloc _)).mono ?_; rintro e w1 ⟨v1, rfl, o, b⟩
    rw [H2.out]
    have Y1 := Lib.hid (kept_below (gp_new w) b)
    have B1 : Hid (Below w.heap.size w w1) := bthen (balloc _ _) b
    clear o b
    go_wp2_with ((with_reducible apply L_storeRow (N := 8) info_gp); exact rfl; exact rfl; exact Y1.out; exact rfl; exact rfl; (simp [Value.oneCell']); intro w3 h3 g3; have H3 := Lib.hid h3; have G3 := Lib.hid g3; clear h3 g3)
    refine bodyPost_ret (results_cell_tmp_row rfl _ _ _ _ rfl (run_loadVar_row _ _ _ _ _ _ _ H3.out Tryz.underlying33 rfl info_gp)) rfl ?_
    exact ⟨rfl, below_up B1.out G3.out (Nat.le_refl _)⟩
  · subst h3 h2
    obtain ⟨d, hd⟩ : ∃ d, d = dec (getL ys 1) := ⟨_, rfl⟩
    rw [← hd] at h4
    have H1 := Lib.hid h1
    have HD := Lib.hid hd
    have HL := Lib.hid (get58 h1)
    have hb : ∃ b : Bool, (b = true ↔ MayBe d) := by
      by_cases h : MayBe d
      · exact ⟨true, fun _ => h, fun _ => rfl⟩
      · exact ⟨false, fun h2 => (by cases h2), fun h2 => absurd h2 h⟩
    obtain ⟨b, hb⟩ := hb
    have HB := Lib.hid hb
    have hno : b = true → ¬ d.no = no := fun h h2 => h4 ⟨hb.1 h, h2⟩
    have HN := Lib.hid hno
    clear h1 hd h4 hb hno
    go_enter Tryz.func121, Tryz.ntmps121
    go_wp2_with fail
    refine (pget_any _ _ _ ys _ _ hn hc (HO.out.alloc _) (HE.out.alloc _)).mono ?_; rintro e w1 ⟨v1, rfl, o, b1⟩
    rw [H1.out]
    obtain ⟨A1, c1, rfl, l1, s1⟩ := o.form HL.out
    have S1 := Lib.hid s1
    have Y1 := Lib.hid (kept_below (gp_new w) b1)
    have B1 : Hid (Below w.heap.size w w1) := bthen (balloc _ _) b1
    clear o b1 s1
    go_wp2_with fail
    refine (read_gp _ _ _ d _ HD.out S1.out).mono ?_; rintro e w2 ⟨rfl, b2⟩
    have Y2 := Lib.hid (kept_below Y1.out b2)
    have B2 : Hid (Below w.heap.size w w2) := bthen B1.out b2
    clear b2
    go_wp2_with fail
    refine (maybe_any d b _ HB.out).mono ?_; rintro e w3 ⟨rfl, b3⟩
    have Y3 := Lib.hid (kept_below (kept_below Y2.out (balloc _ _)) b3)
    have X3 := Lib.hid (kept_below (heap_alloc_new w2 (.cells #[.int .i64 d.no, .int .u64 (d.v : Int), .int .u64 (d.g 0 : Int), .int .u64 (d.g 1 : Int), .int .u64 (d.g 2 : Int), .int .u64 (d.g 3 : Int), .int .u64 (d.g 4 : Int), .int .u64 (d.g 5 : Int)] 33)) b3)
    have B3 : Hid (Below w.heap.size w w3) := bthen (bthen B2.out (balloc _ _)) b3
    clear b3
    cases b
    · go_wp2_with ((with_reducible apply L_storeRow (N := 8) info_gp); exact rfl; exact rfl; exact Y3.out; exact rfl; exact rfl; (simp [Value.oneCell']); intro w4 h4 g4; have H4 := Lib.hid h4; have G4 := Lib.hid g4; clear h4 g4)
      refine bodyPost_ret (results_cell_tmp_row rfl _ _ _ _ rfl (run_loadVar_row _ _ _ _ _ _ _ H4.out Tryz.underlying33 rfl info_gp)) rfl ?_
      exact ⟨rfl, below_up B3.out G4.out (Nat.le_refl _)⟩
    · have hne := HN.out rfl
      have hx := cell_of_row w3 w2.heap.size 0 _ _ _ X3.out
      have hx0 : w3.cell? ⟨w2.heap.size, 0, none⟩ = some (.int .i64 d.no) := hx
      clear hx
      go_wp2_with ((with_reducible apply L_storeRow (N := 8) info_gp); exact rfl; exact rfl; exact Y3.out; exact rfl; exact rfl; (simp [Value.oneCell']); intro w4 h4 g4; have H4 := Lib.hid h4; have G4 := Lib.hid g4; clear h4 g4)
      refine bodyPost_ret (results_cell_tmp_row rfl _ _ _ _ rfl (run_loadVar_row _ _ _ _ _ _ _ H4.out Tryz.underlying33 rfl info_gp)) rfl ?_
      exact ⟨rfl, below_up B3.out G4.out (Nat.le_refl _)⟩
  · subst h2 h5
    obtain ⟨d, hd⟩ : ∃ d, d = dec (getL ys 1) := ⟨_, rfl⟩
    rw [← hd] at h3
    have H1 := Lib.hid h1
    have HD := Lib.hid hd
    have HL := Lib.hid (get58 h1)
    have HM := Lib.hid h4
    have HV : Hid (((.agg #[.int .i64 d.no, .int .u64 (d.v : Int), .int .u64 (d.g 0 : Int), .int .u64 (d.g 1 : Int), .int .u64 (d.g 2 : Int), .int .u64 (d.g 3 : Int), .int .u64 (d.g 4 : Int), .int .u64 (d.g 5 : Int)]) : Value) = (.agg #[.int .i64 p.no, .int .u64 (p.v : Int), .int .u64 (p.g 0 : Int), .int .u64 (p.g 1 : Int), .int .u64 (p.g 2 : Int), .int .u64 (p.g 3 : Int), .int .u64 (p.g 4 : Int), .int .u64 (p.g 5 : Int)])) := (like_val h3).symm
    clear h1 hd h3 h4
    go_enter Tryz.func121, Tryz.ntmps121
    go_wp2_with fail
    refine (pget_any _ _ _ ys _ _ hn hc (HO.out.alloc _) (HE.out.alloc _)).mono ?_; rintro e w1 ⟨v1, rfl, o, b1⟩
    rw [H1.out]
    obtain ⟨A1, c1, rfl, l1, s1⟩ := o.form HL.out
    have S1 := Lib.hid s1
    have Y1 := Lib.hid (kept_below (gp_new w) b1)
    have B1 : Hid (Below w.heap.size w w1) := bthen (balloc _ _) b1
    clear o b1 s1
    go_wp2_with fail
    refine (read_gp _ _ _ d _ HD.out S1.out).mono ?_; rintro e w2 ⟨rfl, b2⟩
    rw [HV.out]
    have Y2 := Lib.hid (kept_below Y1.out b2)
    have B2 : Hid (Below w.heap.size w w2) := bthen B1.out b2
    clear b2
    go_wp2_with fail
    refine (maybe_any p true _ ⟨fun _ => HM.out, fun _ => rfl⟩).mono ?_; rintro e w3 ⟨rfl, b3⟩
    have Y3 := Lib.hid (kept_below (kept_below Y2.out (balloc _ _)) b3)
    have X3 := Lib.hid (kept_below (heap_alloc_new w2 (.cells #[.int .i64 p.no, .int .u64 (p.v : Int), .int .u64 (p.g 0 : Int), .int .u64 (p.g 1 : Int), .int .u64 (p.g 2 : Int), .int .u64 (p.g 3 : Int), .int .u64 (p.g 4 : Int), .int .u64 (p.g 5 : Int)] 33)) b3)
    have B3 : Hid (Below w.heap.size w w3) := bthen (bthen B2.out (balloc _ _)) b3
    clear b3
    have hx := cell_of_row w3 w2.heap.size 0 _ _ _ X3.out
    have hx0 : w3.cell? ⟨w2.heap.size, 0, none⟩ = some (.int .i64 p.no) := hx
    clear hx
    go_wp2_with (first
      | ((with_reducible apply L_loadGp); exact rfl; exact X3.out; exact rfl)
      | ((with_reducible apply L_storeRow (N := 8) info_gp); exact rfl; exact rfl; exact Y3.out; exact rfl; exact rfl; (simp [Value.oneCell']); intro w4 h4 g4; have H4 := Lib.hid h4; have G4 := Lib.hid g4; clear h4 g4))
    refine bodyPost_ret (results_cell_tmp_row rfl _ _ _ _ rfl (run_loadVar_row _ _ _ _ _ _ _ H4.out Tryz.underlying33 rfl info_gp)) rfl ?_
    exact ⟨rfl, below_up B3.out G4.out (Nat.le_refl _)⟩
end Go.Proofs.YtgdgehfapfgdfaaGreatDoor.W

/-! The contract of Newer. No conditions. -/
namespace Go.Proofs.YtgdgehfapfgdfaaGreatDoor.W
set_option maxRecDepth 100000
open Go.RowKit Oc
set_option linter.unusedVariables false

theorem cells_u64 : Tryz.prog.cellsOf 30 = 1 := by kernel_rfl
/-- six numbers compared -/
theorem eq_arr6 (w : World) (a b : Nat → Int) : (Op.equalIn 9999 31 (.agg #[.int .u64 (a 0), .int .u64 (a 1), .int .u64 (a 2), .int .u64 (a 3), .int .u64 (a 4), .int .u64 (a 5)]) (.agg #[.int .u64 (b 0), .int .u64 (b 1), .int .u64 (b 2), .int .u64 (b 3), .int .u64 (b 4), .int .u64 (b 5)])).run Tryz.prog w
    = .ok ((a 0 == b 0) && ((a 1 == b 1) && ((a 2 == b 2) && ((a 3 == b 3) && ((a 4 == b 4) && (a 5 == b 5)))))) w := by
  obtain ⟨i, hi, hz0, hz1, hz2⟩ := info_parts info_u64
  rw [run_equalIn_array w 9998 _ _ Tryz.underlying31 hi, cells_u64]
  have px : ∀ (w : World) (xs : Array Value) (k : Nat) (v : Value), xs[k]? = some v → (part 30 xs k).run Tryz.prog w = .ok v w := fun w xs k v hv => by
    simp [part, isAgg, run_underlying Tryz.underlying30, hv]
  have pe : ∀ (w : World) (x y : Int), (Op.equalIn 9998 30 (.int .u64 x) (.int .u64 y)).run Tryz.prog w = .ok (x == y) w := fun w x y => run_equalIn_int w 9997 30 .u64 .u64 x y Tryz.underlying30
  simp only [List.range_succ, List.range_zero, List.nil_append, List.cons_append, Op.eqItems, Sem.run_bind]
  rw [px w _ _ (.int .u64 (a 0)) rfl]
  simp only [Result.andThen_ok]
  rw [px w _ _ (.int .u64 (b 0)) rfl]
  simp only [Result.andThen_ok, pe]
  cases h0 : (a 0 == b 0)
  · simp
  simp only [Bool.not_true, Bool.false_eq_true, if_false, Sem.run_bind, Bool.true_and]
  rw [px w _ _ (.int .u64 (a 1)) rfl]
  simp only [Result.andThen_ok]
  rw [px w _ _ (.int .u64 (b 1)) rfl]
  simp only [Result.andThen_ok, pe]
  cases h1 : (a 1 == b 1)
  · simp
  simp only [Bool.not_true, Bool.false_eq_true, if_false, Sem.run_bind, Bool.true_and]
  rw [px w _ _ (.int .u64 (a 2)) rfl]
  simp only [Result.andThen_ok]
  rw [px w _ _ (.int .u64 (b 2)) rfl]
  simp only [Result.andThen_ok, pe]
  cases h2 : (a 2 == b 2)
  · simp
  simp only [Bool.not_true, Bool.false_eq_true, if_false, Sem.run_bind, Bool.true_and]
  rw [px w _ _ (.int .u64 (a 3)) rfl]
  simp only [Result.andThen_ok]
  rw [px w _ _ (.int .u64 (b 3)) rfl]
  simp only [Result.andThen_ok, pe]
  cases h3 : (a 3 == b 3)
  · simp
  simp only [Bool.not_true, Bool.false_eq_true, if_false, Sem.run_bind, Bool.true_and]
  rw [px w _ _ (.int .u64 (a 4)) rfl]
  simp only [Result.andThen_ok]
  rw [px w _ _ (.int .u64 (b 4)) rfl]
  simp only [Result.andThen_ok, pe]
  cases h4 : (a 4 == b 4)
  · simp
  simp only [Bool.not_true, Bool.false_eq_true, if_false, Sem.run_bind, Bool.true_and]
  rw [px w _ _ (.int .u64 (a 5)) rfl]
  simp only [Result.andThen_ok]
  rw [px w _ _ (.int .u64 (b 5)) rfl]
  simp only [Result.andThen_ok, pe]
  cases h5 : (a 5 == b 5) <;> simp
theorem eq6 (w : World) (a0 a1 a2 a3 a4 a5 b0 b1 b2 b3 b4 b5 : Int) : (Op.equalIn 9999 31 (.agg #[.int .u64 a0, .int .u64 a1, .int .u64 a2, .int .u64 a3, .int .u64 a4, .int .u64 a5]) (.agg #[.int .u64 b0, .int .u64 b1, .int .u64 b2, .int .u64 b3, .int .u64 b4, .int .u64 b5])).run Tryz.prog w
    = .ok ((a0 == b0) && ((a1 == b1) && ((a2 == b2) && ((a3 == b3) && ((a4 == b4) && (a5 == b5)))))) w :=
  eq_arr6 w (fun i => match i with | 0 => a0 | 1 => a1 | 2 => a2 | 3 => a3 | 4 => a4 | _ => a5) (fun i => match i with | 0 => b0 | 1 => b1 | 2 => b2 | 3 => b3 | 4 => b4 | _ => b5)
attribute [local go_sem] eq6

theorem gp_cells {w : World} {B : Nat} {p : Gp} {T : TypeId} (h : w.heap[B]? = some (.cells #[.int .i64 p.no, .int .u64 (p.v : Int), .int .u64 (p.g 0 : Int), .int .u64 (p.g 1 : Int), .int .u64 (p.g 2 : Int), .int .u64 (p.g 3 : Int), .int .u64 (p.g 4 : Int), .int .u64 (p.g 5 : Int)] T (0, 0))) : w.cell? ⟨B, 0, none⟩ = some (.int .i64 p.no) ∧ w.cell? ⟨B, 1, none⟩ = some (.int .u64 (p.v : Int)) ∧ w.cell? ⟨B, 2, none⟩ = some (.int .u64 (p.g 0 : Int)) ∧ w.cell? ⟨B, 3, none⟩ = some (.int .u64 (p.g 1 : Int)) ∧
    w.cell? ⟨B, 4, none⟩ = some (.int .u64 (p.g 2 : Int)) ∧ w.cell? ⟨B, 5, none⟩ = some (.int .u64 (p.g 3 : Int)) ∧ w.cell? ⟨B, 6, none⟩ = some (.int .u64 (p.g 4 : Int)) ∧ w.cell? ⟨B, 7, none⟩ = some (.int .u64 (p.g 5 : Int)) := by
  refine ⟨?_, ?_, ?_, ?_, ?_, ?_, ?_, ?_⟩ <;> (rw [cell_of_row _ _ _ _ _ _ h]; rfl)

theorem set8_0 {w : World} {B : Nat} {T : TypeId} {o0 o1 o2 o3 o4 o5 o6 o7 : Value} (h : w.heap[B]? = some (.cells #[o0, o1, o2, o3, o4, o5, o6, o7] T (0, 0))) (v : Value) : (w.setCell ⟨B, 0, none⟩ v).heap[B]? = some (.cells #[v, o1, o2, o3, o4, o5, o6, o7] T (0, 0)) := by
  rw [heap_setCell_same w B 0 _ T v h]; rfl
theorem set8_1 {w : World} {B : Nat} {T : TypeId} {o0 o1 o2 o3 o4 o5 o6 o7 : Value} (h : w.heap[B]? = some (.cells #[o0, o1, o2, o3, o4, o5, o6, o7] T (0, 0))) (v : Value) : (w.setCell ⟨B, 1, none⟩ v).heap[B]? = some (.cells #[o0, v, o2, o3, o4, o5, o6, o7] T (0, 0)) := by
  rw [heap_setCell_same w B 1 _ T v h]; rfl
theorem set8_2 {w : World} {B : Nat} {T : TypeId} {o0 o1 o2 o3 o4 o5 o6 o7 : Value} (h : w.heap[B]? = some (.cells #[o0, o1, o2, o3, o4, o5, o6, o7] T (0, 0))) (v : Value) : (w.setCell ⟨B, 2, none⟩ v).heap[B]? = some (.cells #[o0, o1, v, o3, o4, o5, o6, o7] T (0, 0)) := by
  rw [heap_setCell_same w B 2 _ T v h]; rfl
theorem set8_3 {w : World} {B : Nat} {T : TypeId} {o0 o1 o2 o3 o4 o5 o6 o7 : Value} (h : w.heap[B]? = some (.cells #[o0, o1, o2, o3, o4, o5, o6, o7] T (0, 0))) (v : Value) : (w.setCell ⟨B, 3, none⟩ v).heap[B]? = some (.cells #[o0, o1, o2, v, o4, o5, o6, o7] T (0, 0)) := by
  rw [heap_setCell_same w B 3 _ T v h]; rfl
theorem set8_4 {w : World} {B : Nat} {T : TypeId} {o0 o1 o2 o3 o4 o5 o6 o7 : Value} (h : w.heap[B]? = some (.cells #[o0, o1, o2, o3, o4, o5, o6, o7] T (0, 0))) (v : Value) : (w.setCell ⟨B, 4, none⟩ v).heap[B]? = some (.cells #[o0, o1, o2, o3, v, o5, o6, o7] T (0, 0)) := by
  rw [heap_setCell_same w B 4 _ T v h]; rfl
theorem set8_5 {w : World} {B : Nat} {T : TypeId} {o0 o1 o2 o3 o4 o5 o6 o7 : Value} (h : w.heap[B]? = some (.cells #[o0, o1, o2, o3, o4, o5, o6, o7] T (0, 0))) (v : Value) : (w.setCell ⟨B, 5, none⟩ v).heap[B]? = some (.cells #[o0, o1, o2, o3, o4, v, o6, o7] T (0, 0)) := by
  rw [heap_setCell_same w B 5 _ T v h]; rfl
theorem set8_6 {w : World} {B : Nat} {T : TypeId} {o0 o1 o2 o3 o4 o5 o6 o7 : Value} (h : w.heap[B]? = some (.cells #[o0, o1, o2, o3, o4, o5, o6, o7] T (0, 0))) (v : Value) : (w.setCell ⟨B, 6, none⟩ v).heap[B]? = some (.cells #[o0, o1, o2, o3, o4, o5, v, o7] T (0, 0)) := by
  rw [heap_setCell_same w B 6 _ T v h]; rfl
theorem set8_7 {w : World} {B : Nat} {T : TypeId} {o0 o1 o2 o3 o4 o5 o6 o7 : Value} (h : w.heap[B]? = some (.cells #[o0, o1, o2, o3, o4, o5, o6, o7] T (0, 0))) (v : Value) : (w.setCell ⟨B, 7, none⟩ v).heap[B]? = some (.cells #[o0, o1, o2, o3, o4, o5, o6, v] T (0, 0)) := by
  rw [heap_setCell_same w B 7 _ T v h]; rfl
/-- a whole page stored cell by cell -/
theorem set8 {w : World} {B : Nat} {T : TypeId} {o0 o1 o2 o3 o4 o5 o6 o7 : Value} (h : w.heap[B]? = some (.cells #[o0, o1, o2, o3, o4, o5, o6, o7] T (0, 0))) (v0 v1 v2 v3 v4 v5 v6 v7 : Value) :
    (((((((((w.setCell ⟨B, 0, none⟩ v0).setCell ⟨B, 1, none⟩ v1).setCell ⟨B, 2, none⟩ v2).setCell ⟨B, 3, none⟩ v3).setCell ⟨B, 4, none⟩ v4).setCell ⟨B, 5, none⟩ v5).setCell ⟨B, 6, none⟩ v6).setCell ⟨B, 7, none⟩ v7).drew).heap[B]? = some (.cells #[v0, v1, v2, v3, v4, v5, v6, v7] T (0, 0)) ∧
    w.grownBy (((((((((w.setCell ⟨B, 0, none⟩ v0).setCell ⟨B, 1, none⟩ v1).setCell ⟨B, 2, none⟩ v2).setCell ⟨B, 3, none⟩ v3).setCell ⟨B, 4, none⟩ v4).setCell ⟨B, 5, none⟩ v5).setCell ⟨B, 6, none⟩ v6).setCell ⟨B, 7, none⟩ v7).drew) (some B) := by
  have h7 := set8_7 (set8_6 (set8_5 (set8_4 (set8_3 (set8_2 (set8_1 (set8_0 h v0) v1) v2) v3) v4) v5) v6) v7
  have g := grown_trans (grown_trans (grown_trans (grown_trans (grown_trans (grown_trans (grown_trans (grown_set w B 0 v0) (grown_set _ B 1 v1)) (grown_set _ B 2 v2)) (grown_set _ B 3 v3)) (grown_set _ B 4 v4)) (grown_set _ B 5 v5)) (grown_set _ B 6 v6)) (grown_set _ B 7 v7)
  generalize ((((((((w.setCell ⟨B, 0, none⟩ v0).setCell ⟨B, 1, none⟩ v1).setCell ⟨B, 2, none⟩ v2).setCell ⟨B, 3, none⟩ v3).setCell ⟨B, 4, none⟩ v4).setCell ⟨B, 5, none⟩ v5).setCell ⟨B, 6, none⟩ v6).setCell ⟨B, 7, none⟩ v7) = w8 at h7 g ⊢
  exact ⟨h7, ⟨g.os, g.tape, g.output, g.size, g.block⟩⟩

set_option maxHeartbeats 2000000 in
theorem newer_b (A1 A2 : Option Addr) (n1 c1 n2 c2 : Nat) (ys zs : List UInt8) (no : Int) (p q : Gp) (E F : Int) (w : World) (hn1 : n1 ≤ 1000000) (hc1 : n1 ≤ c1) (hn2 : n2 ≤ 1000000) (hc2 : n2 ≤ c2) (ho1 : Oct w A1 n1 ys) (ho2 : Oct w A2 n2 zs) (he : Env w) (h1 : GWay ys no p E) (h2 : GWay zs no q F) (hlt : p.v < q.v) :
    Calls Tryz.prog 96 #[.slice A1 n1 c1, .slice A2 n2 c2, .int .i64 no] w fun e w' => e = .returned (.tuple #[(.agg #[.int .i64 q.no, .int .u64 (q.v : Int), .int .u64 (q.g 0 : Int), .int .u64 (q.g 1 : Int), .int .u64 (q.g 2 : Int), .int .u64 (q.g 3 : Int), .int .u64 (q.g 4 : Int), .int .u64 (q.g 5 : Int)]), .int .i64 1, .bool true]) ∧ Below w.heap.size w w' := by
  have O1 := Lib.hid ho1
  have O2 := Lib.hid ho2
  have HE := Lib.hid he
  have H1 := Lib.hid h1
  have H2 := Lib.hid h2
  clear ho1 ho2 he h1 h2
  go_enter Tryz.func96, Tryz.ntmps96
  go_wp2_with fail
  refine (gget_any _ _ _ ys _ p E _ hn1 hc1 (O1.out.alloc _) (HE.out.alloc _) H1.out).mono ?_; rintro e w1 ⟨rfl, b1⟩
  have Y1 := Lib.hid (kept_below (gp_new w) b1)
  have B1 : Hid (Below w.heap.size w w1) := bthen (balloc _ _) b1
  clear b1
  go_wp2_with fail
  refine (gget_any _ _ _ zs _ q F _ hn2 hc2 ((O2.out.below B1.out).alloc _) ((HE.out.below B1.out).alloc _) H2.out).mono ?_; rintro e w2 ⟨rfl, b2⟩
  have Y2 := Lib.hid (kept_below (kept_below Y1.out (balloc w1 (.cells #[.int .i64 p.no, .int .u64 (p.v : Int), .int .u64 (p.g 0 : Int), .int .u64 (p.g 1 : Int), .int .u64 (p.g 2 : Int), .int .u64 (p.g 3 : Int), .int .u64 (p.g 4 : Int), .int .u64 (p.g 5 : Int)] 33))) b2)
  have X2 := Lib.hid (kept_below (heap_alloc_new w1 (.cells #[.int .i64 p.no, .int .u64 (p.v : Int), .int .u64 (p.g 0 : Int), .int .u64 (p.g 1 : Int), .int .u64 (p.g 2 : Int), .int .u64 (p.g 3 : Int), .int .u64 (p.g 4 : Int), .int .u64 (p.g 5 : Int)] 33)) b2)
  have B2 : Hid (Below w.heap.size w w2) := bthen (bthen B1.out (balloc w1 (.cells #[.int .i64 p.no, .int .u64 (p.v : Int), .int .u64 (p.g 0 : Int), .int .u64 (p.g 1 : Int), .int .u64 (p.g 2 : Int), .int .u64 (p.g 3 : Int), .int .u64 (p.g 4 : Int), .int .u64 (p.g 5 : Int)] 33))) b2
  have hne : w1.heap.size ≠ w2.heap.size := by have := (Array.getElem?_eq_some_iff.1 X2.out).1; omega
  clear b2
  have Y3 := Lib.hid (kept_below Y2.out (balloc w2 (.cells #[.int .i64 q.no, .int .u64 (q.v : Int), .int .u64 (q.g 0 : Int), .int .u64 (q.g 1 : Int), .int .u64 (q.g 2 : Int), .int .u64 (q.g 3 : Int), .int .u64 (q.g 4 : Int), .int .u64 (q.g 5 : Int)] 33)))
  have B3 : Hid (Below w.heap.size w (w2.alloc (.cells #[.int .i64 q.no, .int .u64 (q.v : Int), .int .u64 (q.g 0 : Int), .int .u64 (q.g 1 : Int), .int .u64 (q.g 2 : Int), .int .u64 (q.g 3 : Int), .int .u64 (q.g 4 : Int), .int .u64 (q.g 5 : Int)] 33))) := bthen B2.out (balloc w2 (.cells #[.int .i64 q.no, .int .u64 (q.v : Int), .int .u64 (q.g 0 : Int), .int .u64 (q.g 1 : Int), .int .u64 (q.g 2 : Int), .int .u64 (q.g 3 : Int), .int .u64 (q.g 4 : Int), .int .u64 (q.g 5 : Int)] 33))
  have X3 := Lib.hid (kept_below X2.out (balloc w2 (.cells #[.int .i64 q.no, .int .u64 (q.v : Int), .int .u64 (q.g 0 : Int), .int .u64 (q.g 1 : Int), .int .u64 (q.g 2 : Int), .int .u64 (q.g 3 : Int), .int .u64 (q.g 4 : Int), .int .u64 (q.g 5 : Int)] 33)))
  obtain ⟨x0, x1, x2, x3, x4, x5, x6, x7⟩ := gp_cells X3.out
  go_wp2_with ((with_reducible apply L_storeRow (N := 8) info_gp); exact rfl; exact rfl; exact Y3.out; exact rfl; exact rfl; (simp [Value.oneCell']); intro w4 h4 g4; have H4 := Lib.hid h4; have G4 := Lib.hid g4; clear h4 g4)
  refine bodyPost_ret (results_cell_tmp2_row rfl _ _ _ _ rfl (run_loadVar_row _ _ _ _ _ _ _ H4.out Tryz.underlying33 rfl info_gp)) rfl ?_
  exact ⟨rfl, below_up B3.out G4.out (Nat.le_refl _)⟩

theorem zero_cells {w : World} {B : Nat} {T : TypeId} (h : w.heap[B]? = some (.cells #[.int .i64 0, .int .u64 0, .int .u64 0, .int .u64 0, .int .u64 0, .int .u64 0, .int .u64 0, .int .u64 0] T (0, 0))) : w.cell? ⟨B, 0, none⟩ = some (.int .i64 0) ∧ w.cell? ⟨B, 1, none⟩ = some (.int .u64 0) ∧ w.cell? ⟨B, 2, none⟩ = some (.int .u64 0) ∧ w.cell? ⟨B, 3, none⟩ = some (.int .u64 0) ∧
    w.cell? ⟨B, 4, none⟩ = some (.int .u64 0) ∧ w.cell? ⟨B, 5, none⟩ = some (.int .u64 0) ∧ w.cell? ⟨B, 6, none⟩ = some (.int .u64 0) ∧ w.cell? ⟨B, 7, none⟩ = some (.int .u64 0) := by
  refine ⟨?_, ?_, ?_, ?_, ?_, ?_, ?_, ?_⟩ <;> (rw [cell_of_row _ _ _ _ _ _ h]; rfl)

set_option maxHeartbeats 2000000 in
theorem newer_a (A1 A2 : Option Addr) (n1 c1 n2 c2 : Nat) (ys zs : List UInt8) (no : Int) (p q : Gp) (E F : Int) (w : World) (hn1 : n1 ≤ 1000000) (hc1 : n1 ≤ c1) (hn2 : n2 ≤ 1000000) (hc2 : n2 ≤ c2) (ho1 : Oct w A1 n1 ys) (ho2 : Oct w A2 n2 zs) (he : Env w) (h1 : GWay ys no p E) (h2 : GWay zs no q F) (hle : q.v ≤ p.v) (hp : 1 ≤ p.v) :
    Calls Tryz.prog 96 #[.slice A1 n1 c1, .slice A2 n2 c2, .int .i64 no] w fun e w' => e = .returned (.tuple #[(.agg #[.int .i64 p.no, .int .u64 (p.v : Int), .int .u64 (p.g 0 : Int), .int .u64 (p.g 1 : Int), .int .u64 (p.g 2 : Int), .int .u64 (p.g 3 : Int), .int .u64 (p.g 4 : Int), .int .u64 (p.g 5 : Int)]), .int .i64 0, .bool true]) ∧ Below w.heap.size w w' := by
  have O1 := Lib.hid ho1
  have O2 := Lib.hid ho2
  have HE := Lib.hid he
  have H1 := Lib.hid h1
  have H2 := Lib.hid h2
  have hv0 : ((p.v : Int) == 0) = false := by simp; omega
  clear ho1 ho2 he h1 h2
  go_enter Tryz.func96, Tryz.ntmps96
  go_wp2_with fail
  refine (gget_any _ _ _ ys _ p E _ hn1 hc1 (O1.out.alloc _) (HE.out.alloc _) H1.out).mono ?_; rintro e w1 ⟨rfl, b1⟩
  have Y1 := Lib.hid (kept_below (gp_new w) b1)
  have B1 : Hid (Below w.heap.size w w1) := bthen (balloc _ _) b1
  clear b1
  go_wp2_with fail
  refine (gget_any _ _ _ zs _ q F _ hn2 hc2 ((O2.out.below B1.out).alloc _) ((HE.out.below B1.out).alloc _) H2.out).mono ?_; rintro e w2 ⟨rfl, b2⟩
  have Y2 := Lib.hid (kept_below (kept_below Y1.out (balloc w1 (.cells #[.int .i64 p.no, .int .u64 (p.v : Int), .int .u64 (p.g 0 : Int), .int .u64 (p.g 1 : Int), .int .u64 (p.g 2 : Int), .int .u64 (p.g 3 : Int), .int .u64 (p.g 4 : Int), .int .u64 (p.g 5 : Int)] 33))) b2)
  have X2 := Lib.hid (kept_below (heap_alloc_new w1 (.cells #[.int .i64 p.no, .int .u64 (p.v : Int), .int .u64 (p.g 0 : Int), .int .u64 (p.g 1 : Int), .int .u64 (p.g 2 : Int), .int .u64 (p.g 3 : Int), .int .u64 (p.g 4 : Int), .int .u64 (p.g 5 : Int)] 33)) b2)
  have B2 : Hid (Below w.heap.size w w2) := bthen (bthen B1.out (balloc w1 (.cells #[.int .i64 p.no, .int .u64 (p.v : Int), .int .u64 (p.g 0 : Int), .int .u64 (p.g 1 : Int), .int .u64 (p.g 2 : Int), .int .u64 (p.g 3 : Int), .int .u64 (p.g 4 : Int), .int .u64 (p.g 5 : Int)] 33))) b2
  have hne : w1.heap.size ≠ w2.heap.size := by have := (Array.getElem?_eq_some_iff.1 X2.out).1; omega
  clear b2
  have Y3 := Lib.hid (kept_below Y2.out (balloc w2 (.cells #[.int .i64 q.no, .int .u64 (q.v : Int), .int .u64 (q.g 0 : Int), .int .u64 (q.g 1 : Int), .int .u64 (q.g 2 : Int), .int .u64 (q.g 3 : Int), .int .u64 (q.g 4 : Int), .int .u64 (q.g 5 : Int)] 33)))
  have B3 : Hid (Below w.heap.size w (w2.alloc (.cells #[.int .i64 q.no, .int .u64 (q.v : Int), .int .u64 (q.g 0 : Int), .int .u64 (q.g 1 : Int), .int .u64 (q.g 2 : Int), .int .u64 (q.g 3 : Int), .int .u64 (q.g 4 : Int), .int .u64 (q.g 5 : Int)] 33))) := bthen B2.out (balloc w2 (.cells #[.int .i64 q.no, .int .u64 (q.v : Int), .int .u64 (q.g 0 : Int), .int .u64 (q.g 1 : Int), .int .u64 (q.g 2 : Int), .int .u64 (q.g 3 : Int), .int .u64 (q.g 4 : Int), .int .u64 (q.g 5 : Int)] 33))
  have X3 := Lib.hid (kept_below X2.out (balloc w2 (.cells #[.int .i64 q.no, .int .u64 (q.v : Int), .int .u64 (q.g 0 : Int), .int .u64 (q.g 1 : Int), .int .u64 (q.g 2 : Int), .int .u64 (q.g 3 : Int), .int .u64 (q.g 4 : Int), .int .u64 (q.g 5 : Int)] 33)))
  obtain ⟨x0, x1, x2, x3, x4, x5, x6, x7⟩ := gp_cells X3.out
  have hne2 : w.heap.size ≠ w1.heap.size := by have := B1.out.size; have := (Array.getElem?_eq_some_iff.1 Y1.out).1; omega
  obtain ⟨y0, y1, y2, y3, y4, y5, y6, y7⟩ := zero_cells Y3.out
  have f0 := frozen_of_row _ w.heap.size 0 _ _ Y3.out
  have f1 := frozen_of_row _ w.heap.size 1 _ _ Y3.out
  have f2 := frozen_of_row _ w.heap.size 2 _ _ Y3.out
  have f3 := frozen_of_row _ w.heap.size 3 _ _ Y3.out
  have f4 := frozen_of_row _ w.heap.size 4 _ _ Y3.out
  have f5 := frozen_of_row _ w.heap.size 5 _ _ Y3.out
  have f6 := frozen_of_row _ w.heap.size 6 _ _ Y3.out
  have f7 := frozen_of_row _ w.heap.size 7 _ _ Y3.out
  go_wp2_with fail
  go_region
  all_goals go_wp2
  all_goals (
    refine bodyPost_ret (results_cell_tmp2_row rfl _ _ _ _ rfl (run_loadVar_row _ _ _ _ _ _ _ (set8 Y3.out _ _ _ _ _ _ _ _).1 Tryz.underlying33 rfl info_gp)) rfl ?_
    exact ⟨rfl, below_up B3.out (set8 Y3.out _ _ _ _ _ _ _ _).2 (Nat.le_refl _)⟩)
theorem zp_val : ((.agg #[.int .i64 zp.no, .int .u64 (zp.v : Int), .int .u64 (zp.g 0 : Int), .int .u64 (zp.g 1 : Int), .int .u64 (zp.g 2 : Int), .int .u64 (zp.g 3 : Int), .int .u64 (zp.g 4 : Int), .int .u64 (zp.g 5 : Int)]) : Value) = (.agg #[.int .i64 0, .int .u64 0, .int .u64 0, .int .u64 0, .int .u64 0, .int .u64 0, .int .u64 0, .int .u64 0]) := rfl
set_option maxHeartbeats 2000000 in
theorem newer_no (A1 A2 : Option Addr) (n1 c1 n2 c2 : Nat) (ys zs : List UInt8) (no : Int) (E F : Int) (w : World) (hn1 : n1 ≤ 1000000) (hc1 : n1 ≤ c1) (hn2 : n2 ≤ 1000000) (hc2 : n2 ≤ c2) (ho1 : Oct w A1 n1 ys) (ho2 : Oct w A2 n2 zs) (he : Env w) (h1 : GWay ys no zp E) (h2 : GWay zs no zp F) :
    Calls Tryz.prog 96 #[.slice A1 n1 c1, .slice A2 n2 c2, .int .i64 no] w fun e w' => e = .returned (.tuple #[(.agg #[.int .i64 zp.no, .int .u64 (zp.v : Int), .int .u64 (zp.g 0 : Int), .int .u64 (zp.g 1 : Int), .int .u64 (zp.g 2 : Int), .int .u64 (zp.g 3 : Int), .int .u64 (zp.g 4 : Int), .int .u64 (zp.g 5 : Int)]), .int .i64 0, .bool false]) ∧ Below w.heap.size w w' := by
  have O1 := Lib.hid ho1
  have O2 := Lib.hid ho2
  have HE := Lib.hid he
  have H1 := Lib.hid h1
  have H2 := Lib.hid h2
  clear ho1 ho2 he h1 h2
  go_enter Tryz.func96, Tryz.ntmps96
  go_wp2_with fail
  refine (gget_any _ _ _ ys _ zp E _ hn1 hc1 (O1.out.alloc _) (HE.out.alloc _) H1.out).mono ?_; rintro e w1 ⟨rfl, b1⟩
  rw [zp_val]
  have Y1 := Lib.hid (kept_below (gp_new w) b1)
  have B1 : Hid (Below w.heap.size w w1) := bthen (balloc _ _) b1
  clear b1
  go_wp2_with fail
  refine (gget_any _ _ _ zs _ zp F _ hn2 hc2 ((O2.out.below B1.out).alloc _) ((HE.out.below B1.out).alloc _) H2.out).mono ?_; rintro e w2 ⟨rfl, b2⟩
  rw [zp_val]
  have Y2 := Lib.hid (kept_below (kept_below Y1.out (balloc w1 (.cells #[.int .i64 0, .int .u64 0, .int .u64 0, .int .u64 0, .int .u64 0, .int .u64 0, .int .u64 0, .int .u64 0] 33))) b2)
  have X2 := Lib.hid (kept_below (heap_alloc_new w1 (.cells #[.int .i64 0, .int .u64 0, .int .u64 0, .int .u64 0, .int .u64 0, .int .u64 0, .int .u64 0, .int .u64 0] 33)) b2)
  have B2 : Hid (Below w.heap.size w w2) := bthen (bthen B1.out (balloc w1 (.cells #[.int .i64 0, .int .u64 0, .int .u64 0, .int .u64 0, .int .u64 0, .int .u64 0, .int .u64 0, .int .u64 0] 33))) b2
  have hne : w1.heap.size ≠ w2.heap.size := by have := (Array.getElem?_eq_some_iff.1 X2.out).1; omega
  clear b2
  have Y3 := Lib.hid (kept_below Y2.out (balloc w2 (.cells #[.int .i64 0, .int .u64 0, .int .u64 0, .int .u64 0, .int .u64 0, .int .u64 0, .int .u64 0, .int .u64 0] 33)))
  have B3 : Hid (Below w.heap.size w (w2.alloc (.cells #[.int .i64 0, .int .u64 0, .int .u64 0, .int .u64 0, .int .u64 0, .int .u64 0, .int .u64 0, .int .u64 0] 33))) := bthen B2.out (balloc w2 (.cells #[.int .i64 0, .int .u64 0, .int .u64 0, .int .u64 0, .int .u64 0, .int .u64 0, .int .u64 0, .int .u64 0] 33))
  have X3 := Lib.hid (kept_below X2.out (balloc w2 (.cells #[.int .i64 0, .int .u64 0, .int .u64 0, .int .u64 0, .int .u64 0, .int .u64 0, .int .u64 0, .int .u64 0] 33)))
  obtain ⟨x0, x1, x2, x3, x4, x5, x6, x7⟩ := zero_cells X3.out
  have hne2 : w.heap.size ≠ w1.heap.size := by have := B1.out.size; have := (Array.getElem?_eq_some_iff.1 Y1.out).1; omega
  obtain ⟨y0, y1, y2, y3, y4, y5, y6, y7⟩ := zero_cells Y3.out
  have f0 := frozen_of_row _ w.heap.size 0 _ _ Y3.out
  have f1 := frozen_of_row _ w.heap.size 1 _ _ Y3.out
  have f2 := frozen_of_row _ w.heap.size 2 _ _ Y3.out
  have f3 := frozen_of_row _ w.heap.size 3 _ _ Y3.out
  have f4 := frozen_of_row _ w.heap.size 4 _ _ Y3.out
  have f5 := frozen_of_row _ w.heap.size 5 _ _ Y3.out
  have f6 := frozen_of_row _ w.heap.size 6 _ _ Y3.out
  have f7 := frozen_of_row _ w.heap.size 7 _ _ Y3.out
  go_wp2_with fail
  go_region
  all_goals go_wp2
  all_goals (
    refine bodyPost_ret (results_cell_tmp2_row rfl _ _ _ _ rfl (run_loadVar_row _ _ _ _ _ _ _ (set8 Y3.out _ _ _ _ _ _ _ _).1 Tryz.underlying33 rfl info_gp)) rfl ?_
    exact ⟨rfl, below_up B3.out (set8 Y3.out _ _ _ _ _ _ _ _).2 (Nat.le_refl _)⟩)

theorem newer_any (A1 A2 : Option Addr) (n1 c1 n2 c2 : Nat) (ys zs : List UInt8) (no : Int) (p q : Gp) (E F : Int) (x : Gp) (k : Int) (ok : Bool) (w : World) (hn1 : n1 ≤ 1000000) (hc1 : n1 ≤ c1) (hn2 : n2 ≤ 1000000) (hc2 : n2 ≤ c2) (ho1 : Oct w A1 n1 ys) (ho2 : Oct w A2 n2 zs) (he : Env w) (h1 : GWay ys no p E) (h2 : GWay zs no q F) (hN : NWay p E q F x k ok) :
    Calls Tryz.prog 96 #[.slice A1 n1 c1, .slice A2 n2 c2, .int .i64 no] w fun e w' => e = .returned (.tuple #[(.agg #[.int .i64 x.no, .int .u64 (x.v : Int), .int .u64 (x.g 0 : Int), .int .u64 (x.g 1 : Int), .int .u64 (x.g 2 : Int), .int .u64 (x.g 3 : Int), .int .u64 (x.g 4 : Int), .int .u64 (x.g 5 : Int)]), .int .i64 k, .bool ok]) ∧ Below w.heap.size w w' := by
  rcases hN with ⟨_, _, h3, h4, rfl, rfl, rfl⟩ | ⟨_, _, h3, h4, rfl, rfl, rfl⟩ | ⟨_, _, h3, rfl, rfl, rfl⟩ | ⟨_, _, h3, h4, rfl, rfl, rfl⟩ | ⟨_, _, h3, h4, rfl, rfl, rfl⟩
  · exact newer_a A1 A2 n1 c1 n2 c2 ys zs no x q E F w hn1 hc1 hn2 hc2 ho1 ho2 he h1 h2 (by rw [h3]; exact Nat.zero_le _) h4.1
  · exact newer_a A1 A2 n1 c1 n2 c2 ys zs no x q E F w hn1 hc1 hn2 hc2 ho1 ho2 he h1 h2 h4 h3.1
  · exact newer_b A1 A2 n1 c1 n2 c2 ys zs no p x E F w hn1 hc1 hn2 hc2 ho1 ho2 he h1 h2 h3
  · exact newer_b A1 A2 n1 c1 n2 c2 ys zs no p x E F w hn1 hc1 hn2 hc2 ho1 ho2 he h1 h2 (by rw [h3]; exact h4.1)
  · subst h3 h4
    exact newer_no A1 A2 n1 c1 n2 c2 ys zs no E F w hn1 hc1 hn2 hc2 ho1 ho2 he h1 h2
end Go.Proofs.YtgdgehfapfgdfaaGreatDoor.W

/-! The contract of Put. No conditions. -/
namespace Go.Proofs.YtgdgehfapfgdfaaGreatDoor.W
set_option maxRecDepth 100000
open Go.RowKit Oc
set_option linter.unusedVariables false

/-- what a call leaves that puts a generation page -/
def GPut (w : World) (p : Gp) (e : Ending) (w' : World) : Prop :=
  (MayBe p ∧ ∃ v, e = .returned (.tuple #[v, .int .i64 0]) ∧ Own w' 5 w.heap.size v (sect p) ∧ Below w.heap.size w w') ∨ (¬ MayBe p ∧ e = .returned (.tuple #[.slice none 0 0, .int .i64 1]) ∧ Below w.heap.size w w')
theorem putE_pay (p : Gp) : putE 1 (pay p 6).length = 0 := by rw [pay58]; exact putE_ok (k := 1) r1 (by omega)
theorem putL_pay (p : Gp) : putL 1 (pay p 6) = sect p := putL_ok (k := 1) r1 (by rw [pay58]; exact Nat.le_refl _)
theorem isG64 {n : Nat} (h : isG n) : n < 18446744073709551616 := by have := h.2; omega

set_option maxHeartbeats 2000000 in
theorem gput_no (p : Gp) (w : World) (h : ¬ MayBe p) : Calls Tryz.prog 99 #[(.agg #[.int .i64 p.no, .int .u64 (p.v : Int), .int .u64 (p.g 0 : Int), .int .u64 (p.g 1 : Int), .int .u64 (p.g 2 : Int), .int .u64 (p.g 3 : Int), .int .u64 (p.g 4 : Int), .int .u64 (p.g 5 : Int)])] w fun e w' => e = .returned (.tuple #[.slice none 0 0, .int .i64 1]) ∧ Below w.heap.size w w' := by
  have H := Lib.hid h
  clear h
  go_enter Tryz.func99, Tryz.ntmps99
  go_wp2_with fail
  refine (maybe_any p false _ ⟨fun h => (by cases h), fun h => absurd h H.out⟩).mono ?_; rintro e w1 ⟨rfl, b1⟩
  have B1 : Hid (Below w.heap.size w w1) := bthen (balloc _ _) b1
  clear b1
  go_wp2
  go_ret2
  exact ⟨rfl, B1.out⟩

set_option maxHeartbeats 2000000 in
theorem gput_ok (p : Gp) (w : World) (h : MayBe p) (he : Env w) : Calls Tryz.prog 99 #[(.agg #[.int .i64 p.no, .int .u64 (p.v : Int), .int .u64 (p.g 0 : Int), .int .u64 (p.g 1 : Int), .int .u64 (p.g 2 : Int), .int .u64 (p.g 3 : Int), .int .u64 (p.g 4 : Int), .int .u64 (p.g 5 : Int)])] w fun e w' => ∃ v, e = .returned (.tuple #[v, .int .i64 0]) ∧ Own w' 5 w.heap.size v (sect p) ∧ Below w.heap.size w w' := by
  have H := Lib.hid h
  have HE := Lib.hid he
  obtain ⟨N, hN, hN2⟩ : ∃ N : Nat, p.no = (N : Int) ∧ N < 65536 := ⟨p.no.toNat, by have := h.1; omega, by have := h.1; omega⟩
  have HN := Lib.hid hN
  have HT : Hid (p.no.toNat = N) := by show _ = _; omega
  have HV := Lib.hid h.2.1
  have HG := Lib.hid h.2.2
  clear h he hN
  go_enter Tryz.func99, Tryz.ntmps99
  go_wp2_with fail
  refine (maybe_any p true _ ⟨fun _ => H.out, fun _ => rfl⟩).mono ?_; rintro e w1 ⟨rfl, b1⟩
  have X1 := Lib.hid (kept_below (heap_alloc_new w (.cells #[.int .i64 p.no, .int .u64 (p.v : Int), .int .u64 (p.g 0 : Int), .int .u64 (p.g 1 : Int), .int .u64 (p.g 2 : Int), .int .u64 (p.g 3 : Int), .int .u64 (p.g 4 : Int), .int .u64 (p.g 5 : Int)] 33)) b1)
  have B1 : Hid (Below w.heap.size w w1) := bthen (balloc _ _) b1
  clear b1
  obtain ⟨x0, x1, x2, x3, x4, x5, x6, x7⟩ := gp_cells X1.out
  rw [HN.out] at x0
  go_wp2_with fail
  refine (put_yes none 0 0 [] N 2 _ (by omega) (Oct.nil _ _) (by omega) (by omega) (by omega)).mono ?_; rintro e w2 ⟨v2, rfl, o2, b2⟩
  rw [List.nil_append] at o2
  obtain ⟨A2, c2, rfl, l2, s2⟩ := o2.form (octs_length N 2)
  have X2 := Lib.hid (kept_below X1.out b2)
  have S2 := Lib.hid s2
  have B2 : Hid (Below w.heap.size w w2) := bthen B1.out b2
  clear o2 b2 s2 x0 x1 x2 x3 x4 x5 x6 x7
  obtain ⟨x0, x1, x2, x3, x4, x5, x6, x7⟩ := gp_cells X2.out
  go_wp2_with fail
  refine (put_yes A2 2 c2 (octs N 2) p.v 8 _ (by omega) S2.out (isG64 HV.out) (by omega) (by omega)).mono ?_; rintro e w3 ⟨v3, rfl, o3, b3⟩
  have X3 := Lib.hid (kept_below X2.out b3)
  have O3 : Hid (Own w3 5 w.heap.size v3 (pay p 0)) := by
    show Own _ _ _ _ _
    have e : pay p 0 = octs N 2 ++ octs p.v 8 := by simp [pay, gens, HT.out]
    rw [e]
    exact o3.more B2.out.size
  have B3 : Hid (Below w.heap.size w w3) := bthen B2.out b3
  clear o3 b3 x0 x1 x2 x3 x4 x5 x6 x7
  obtain ⟨x0, x1, x2, x3, x4, x5, x6, x7⟩ := gp_cells X3.out
  go_wp2
  go_loopw [4, 6, 20] (fun v _ q wr => ∃ j : Nat, j ≤ 6 ∧ q = .int .i64 j ∧ Hid (Own wr 5 w.heap.size v (pay p j)) ∧ Hid (Below w.heap.size w wr)) (fun _ _ q _ => 6 - (intOf q).toNat)
  case atStart => exact ⟨0, by omega, rfl, O3, B3⟩
  case round =>
    obtain ⟨j, hj, rfl, OJ, BJ⟩ := hrel
    obtain ⟨A4, c4, rfl, l4, s4⟩ := OJ.out.form (pay_length p j)
    have S4 := Lib.hid s4
    clear s4
    by_cases hlt : j < 6
    · have hx := index_gen p.g hlt
      go_wp2_with fail
      refine (put_yes A4 _ c4 (pay p j) (p.g j) 8 _ (by omega) S4.out (isG64 (HG.out j hlt)) (by omega) (by omega)).mono ?_; rintro e w5 ⟨v5, rfl, o5, b5⟩
      rw [← pay_succ] at o5
      have O5 := Lib.hid (o5.more BJ.out.size)
      have B5 : Hid (Below w.heap.size w w5) := bthen BJ.out b5
      clear o5 b5
      go_wp2
      go_roundw
      case rel => exact ⟨j + 1, by omega, rfl, O5, B5⟩
      case measure => simp [intOf]; omega
    · have h6 : j = 6 := by omega
      have h58 : 10 + 8 * j = 58 := by omega
      have S6 : Hid (Oct wr A4 58 (pay p 6)) := by have h := S4.out; rw [h58, h6] at h; exact h
      rw [h58]
      clear h6
      go_wp2_with fail
      refine (pput_any A4 58 c4 (pay p 6) 1 _ (by omega) S6.out (HE.out.below BJ.out)).mono ?_; rintro e w6 ⟨v6, rfl, o6, b6⟩
      rw [putE_pay]
      rw [putL_pay] at o6
      have O6 := Lib.hid (o6.more BJ.out.size)
      have B6 : Hid (Below w.heap.size w w6) := bthen BJ.out b6
      clear o6 b6
      go_wp2
      go_ret2
      exact ⟨v6, rfl, O6.out, B6.out⟩
theorem gput_any (p : Gp) (w : World) (he : Env w) : Calls Tryz.prog 99 #[(.agg #[.int .i64 p.no, .int .u64 (p.v : Int), .int .u64 (p.g 0 : Int), .int .u64 (p.g 1 : Int), .int .u64 (p.g 2 : Int), .int .u64 (p.g 3 : Int), .int .u64 (p.g 4 : Int), .int .u64 (p.g 5 : Int)])] w (GPut w p) := by
  by_cases h : MayBe p
  · exact (gput_ok p w h he).mono fun e w' h2 => .inl ⟨h, h2⟩
  · exact (gput_no p w h).mono fun e w' h2 => .inr ⟨h, h2⟩
end Go.Proofs.YtgdgehfapfgdfaaGreatDoor.W
