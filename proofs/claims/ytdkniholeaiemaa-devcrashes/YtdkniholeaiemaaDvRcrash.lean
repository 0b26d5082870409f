/-
  The document's devices: Crash. No conditions.
-/
import Derived.Test.YtdkniholeaiemaaDvFit
import Derived.Test.YtdkniholeaiemaaGate
namespace Go.Proofs.Ytdkniholeaiemaa.W
open Go.RowKit Oc Dm Gt
set_option linter.unusedVariables false
set_option maxRecDepth 100000
/-- what a crash of the document's leaves -/
def RCrashed (w : World) (q2 n : Nat) (S : Nat → Sec) (e : Ending) (w' : World) : Prop := ∃ X gs vs, e = .returned (.tuple #[.pointer (some ⟨X, 0, none⟩), .int .i64 0]) ∧ w.heap.size ≤ X ∧ RvAt w' (Fresh w w') X q2 n S 0 0 gs vs ∧ Below w.heap.size w w'
theorem wrap_le {x : Nat} (h : x ≤ 1000000000) : IntKind.i64.wrap (x : Int) = (x : Int) := by
  unfold IntKind.wrap
  simp [IntKind.signed, IntKind.bits]
  omega
def kmid (S : Nat → Sec) (j i : Nat) : Sec := if i < j then keptS S i else sec0
theorem kmid_step (S : Nat → Sec) (j : Nat) : upd (kmid S j) j ⟨(S j).fixed, [], (S j).rotten⟩ = kmid S (j + 1) := by
  funext i
  unfold upd
  show (if i = j then _ else kmid S j i) = _
  unfold kmid
  by_cases e : i = j
  · subst e
    rw [if_pos rfl, if_pos (by omega)]; rfl
  · rw [if_neg e]
    by_cases h1 : i < j
    · rw [if_pos h1, if_pos (by omega)]
    · rw [if_neg h1, if_neg (by omega)]
section
variable {w w' : World} {G G' : Nat → Prop} {E q q2 n k c : Nat} {S : Nat → Sec} {rd wx gs : Nat} {vs : Nat → Value} {s : PS} {A : Option Addr} {fs : List Int}
theorem rcrash_long (h : RvAt w G E q n S rd wx gs vs) (hf : Fi w A k fs) (hk : (looseOf n S).length < k) : Calls Try.prog 37 #[.pointer (some ⟨E, 0, none⟩), .pointer (some ⟨q2, 0, none⟩), .slice A k c] w fun e w' => e = .returned (.tuple #[.pointer none, .int .i64 7]) ∧ Below w.heap.size w w' := by
  have H := Lib.hid h
  clear h hf
  go_enter Try.func37, Try.ntmps37
  go_wp2_with fail
  refine (rloose_any H.out).mono ?_; rintro e w1 ⟨A1, c1, rfl, lo1, b1⟩
  have B1 := Lib.hid b1
  have hkk : ((looseOf n S).length : Int) < (k : Int) := by omega
  clear lo1 b1 hk
  generalize (looseOf n S).length = k0 at hkk
  go_wp2
  go_ret2
  exact ⟨rfl, B1.out⟩
theorem rcrash_range (h : RvAt w G E q n S rd wx gs vs) (hf : Fi w A k fs) (hk : k ≤ (looseOf n S).length) (J : Nat) (hJ : J < k) (hbad : ¬ Good (looseOf n S) fs J) : Calls Try.prog 37 #[.pointer (some ⟨E, 0, none⟩), .pointer (some ⟨q2, 0, none⟩), .slice A k c] w fun e w' => e = .returned (.tuple #[.pointer none, .int .i64 3]) ∧ Below w.heap.size w w' := by
  have H := Lib.hid h
  have HF := Lib.hid hf
  have HB := Lib.hid hbad
  have hn := h.hn
  clear h hf hbad
  go_enter Try.func37, Try.ntmps37
  go_wp2_with fail
  refine (rloose_any H.out).mono ?_; rintro e w1 ⟨A1, c1, rfl, lo1, b1⟩
  have hk4 := loose_len n S
  obtain ⟨k0, hk0⟩ : ∃ k0, (looseOf n S).length = k0 := ⟨_, rfl⟩
  rw [hk0] at lo1 hk hk4
  rw [hk0]
  have LO1 := Lib.hid lo1
  have B1 := Lib.hid b1
  have F1 := Lib.hid (HF.out.below b1)
  have hdk : decide (k0 < k) = false := by simp; omega
  have hkk : ¬ (k0 : Int) < (k : Int) := by omega
  have HK0 := Lib.hid hk0
  clear lo1 b1 hk0
  go_wp2
  go_loopw [9] (fun p wr => ∃ j : Nat, j ≤ J ∧ p = .int .i64 j ∧ Hid (Below w1.heap.size w1 wr)) (fun p _ => J - (intOf p).toNat)
  case atStart => exact ⟨0, Nat.zero_le _, rfl, Below.refl _ _⟩
  case round =>
    obtain ⟨j, hj, rfl, BJ⟩ := hrel
    have hjk : j < k := by omega
    have hjk0 : (j : Int) < (k0 : Int) := by omega
    have hjk1 : (j : Int) < (k : Int) := by omega
    obtain ⟨f, hf⟩ : ∃ f, fs[j]? = some f := ⟨_, List.getElem?_eq_getElem (by rw [F1.out.len]; exact hjk)⟩
    obtain ⟨x, hx⟩ : ∃ x, (looseOf n S)[j]? = some x := ⟨_, List.getElem?_eq_getElem (by rw [HK0.out]; omega)⟩
    obtain ⟨fb, fo, rfl, hfc⟩ := (F1.out.below BJ.out).at_ hf
    obtain ⟨lb, rfl, hl0, hl1⟩ := (LO1.out.below BJ.out).at_ hx
    have HFX := Lib.hid hf
    have HXX := Lib.hid hx
    clear hf hx
    by_cases h1 : f < 0
    · go_wp2_with fail
      go_quiet (fail)
      go_wp2
      go_ret2
      exact ⟨rfl, bthen B1.out (below_drewN BJ.out _)⟩
    · by_cases h2 : (x.2 : Int) < f
      · go_wp2_with fail
        go_quiet (fail)
        go_wp2
        go_ret2
        exact ⟨rfl, bthen B1.out (below_drewN BJ.out _)⟩
      · have hjJ : j ≠ J := fun e => HB.out (by
          subst e
          intro f' x' hf' hx'
          rw [HFX.out] at hf'
          rw [HXX.out] at hx'
          rw [← Option.some.inj hf', ← Option.some.inj hx']
          omega)
        have hd : decide ((x.2 : Int) < f) = false := by simp; omega
        go_wp2_with fail
        go_quiet (fail)
        go_wp2
        go_roundw
        case rel => exact ⟨j + 1, by omega, by go_num, below_drewN BJ.out _⟩
        case measure => simp [intOf]; omega
set_option maxHeartbeats 8000000 in
theorem rcrash_ok (h : RvAt w G E q n S rd wx gs vs) (hN9 : ∀ i, i < n → (S i).loose.length ≤ 1000000000) (hf : Fi w A k fs) (hk : k ≤ (looseOf n S).length) (hgood : ∀ j, j < k → Good (looseOf n S) fs j) : Calls Try.prog 37 #[.pointer (some ⟨E, 0, none⟩), .pointer (some ⟨q2, 0, none⟩), .slice A k c] w (RCrashed w q2 n (crashTo n S fs k)) := by
  have H := Lib.hid h
  have HF := Lib.hid hf
  have HG := Lib.hid hgood
  have HN9 := Lib.hid hN9
  have hn := h.hn
  clear h hf hgood hN9
  go_enter Try.func37, Try.ntmps37
  go_wp2_with fail
  refine (rloose_any H.out).mono ?_; rintro e w1 ⟨A1, c1, rfl, lo1, b1⟩
  have hk4 := loose_len n S
  obtain ⟨k0, hk0⟩ : ∃ k0, (looseOf n S).length = k0 := ⟨_, rfl⟩
  rw [hk0] at lo1 hk hk4
  rw [hk0]
  have LO1 := Lib.hid lo1
  have B1 := Lib.hid b1
  have F1 := Lib.hid (HF.out.below b1)
  have H1 := Lib.hid (H.out.below b1)
  have hdk : decide (k0 < k) = false := by simp; omega
  have hkk : ¬ (k0 : Int) < (k : Int) := by omega
  have HK0 := Lib.hid hk0
  clear lo1 b1 hk0 H HF
  go_wp2
  go_loopw [9] (fun p wr => ∃ j : Nat, j ≤ k ∧ p = .int .i64 j ∧ Hid (Below w1.heap.size w1 wr)) (fun p _ => k - (intOf p).toNat)
  case atStart => exact ⟨0, Nat.zero_le _, rfl, Below.refl _ _⟩
  case round =>
    obtain ⟨j, hj, rfl, BJ⟩ := hrel
    by_cases hjk : j < k
    · have hjk0 : (j : Int) < (k0 : Int) := by omega
      have hjk1 : (j : Int) < (k : Int) := by omega
      obtain ⟨f, hf⟩ : ∃ f, fs[j]? = some f := ⟨_, List.getElem?_eq_getElem (by rw [F1.out.len]; exact hjk)⟩
      obtain ⟨x, hx⟩ : ∃ x, (looseOf n S)[j]? = some x := ⟨_, List.getElem?_eq_getElem (by rw [HK0.out]; omega)⟩
      obtain ⟨h1, h2⟩ := HG.out j hjk f x hf hx
      obtain ⟨fb, fo, rfl, hfc⟩ := (F1.out.below BJ.out).at_ hf
      obtain ⟨lb, rfl, hl0, hl1⟩ := (LO1.out.below BJ.out).at_ hx
      have hd : decide ((x.2 : Int) < f) = false := by simp; omega
      have h3 : ¬ f < 0 := by omega
      have h4 : ¬ (x.2 : Int) < f := by omega
      clear hf hx h1 h2
      go_wp2_with fail
      go_quiet (fail)
      go_wp2
      go_roundw
      case rel => exact ⟨j + 1, by omega, by go_num, below_drewN BJ.out _⟩
      case measure => simp [intOf]; omega
    · have hjk1 : ¬ (j : Int) < (k : Int) := by omega
      have HJ := Lib.hid (H1.out.below BJ.out)
      have LOJ := Lib.hid (LO1.out.below BJ.out)
      have FJ := Lib.hid (F1.out.below BJ.out)
      have B1J := Lib.hid (bthen B1.out BJ.out)
      clear LO1 F1 H1 B1 BJ
      obtain ⟨c0, cc1, c2, c3, fr⟩ := HJ.out.cells
      clear hj hjk
      go_wp2_with fail
      refine (rnew_any _ n q2 hn).mono ?_; rintro e w2 ⟨X, gx, rfl, hX, rv2, b2⟩
      have X2 := Lib.hid rv2
      have B2 := Lib.hid b2
      have HX := Lib.hid hX
      have HGX : Hid (wr.heap.size ≤ gx) := rv2.inG.2.1
      clear rv2 b2 hX c0 cc1 c2 c3 fr hjk1
      obtain ⟨wo, hwo⟩ : ∃ wo, wo = wr := ⟨_, rfl⟩
      subst hwo
      have hneX := X2.out.ne.1
      have LX : Hid (X < w2.heap.size ∧ gx < w2.heap.size) := ⟨X2.out.bound X X2.out.inG.1, X2.out.bound gx X2.out.inG.2⟩
      have OLD : Hid (∀ w3, Chg (fun a => a = gx) w2 w3 → Below wo.heap.size wo w3) := fun w3 hc => B2.out.trans (hc.below B2.out.size (fun a ha e => by have := HGX.out; omega))
      have hEg : gx ≠ E := fun e => by have := HJ.out.bound E HJ.out.inG.1; have := HGX.out; omega
      have hgg : gx ≠ gs := fun e => by have := HJ.out.bound gs HJ.out.inG.2; have := HGX.out; omega
      have hEg2 : E ≠ gx := fun e => hEg e.symm
      have hgg2 : gs ≠ gx := fun e => hgg e.symm
      have hXg2 : gx ≠ X := fun e => hneX e.symm
      go_wp2
      go_loopw [11] (fun p wr => ∃ j : Nat, j ≤ n ∧ p = .int .i64 (j : Int) ∧ Hid (∃ vx, RvAt wr (Fresh wo w2) X q2 n (kmid S j) 0 0 gx vx) ∧ Hid (Chg (fun a => a = gx) w2 wr)) (fun p _ => n - (intOf p).toNat)
      case atStart => exact ⟨0, Nat.zero_le _, rfl, ⟨_, X2.out.congrS (fun i _ => if_neg (by omega))⟩, Chg.refl _ _⟩
      case round =>
        obtain ⟨j, hj, rfl, XJ0, CJ⟩ := hrel
        clear X2
        obtain ⟨vx, xj⟩ := XJ0.out
        have XJ := Lib.hid xj
        have BJ := Lib.hid (OLD.out _ CJ.out)
        have EJ := Lib.hid (HJ.out.below BJ.out)
        obtain ⟨_, x1, _, _, _⟩ := xj.cells
        obtain ⟨_, e1, _, _, _⟩ := EJ.out.cells
        clear XJ0 xj
        by_cases hlt : j < n
        · have hlt2 : (j : Int) < (n : Int) := by omega
          obtain ⟨s0, s1, s2, sf⟩ := EJ.out.sec hlt
          obtain ⟨t0, t1, t2, tf⟩ := XJ.out.sec hlt
          have EB0 : Hid (tx (S j).fixed = .string (bstr (S j).fixed)) := rfl
          have s0' : wr.cell? ⟨gs, j * 3, none⟩ = some (.string (bstr (S j).fixed)) := s0
          clear s0 s1
          obtain ⟨B0, hB0⟩ : ∃ B, bstr (S j).fixed = B := ⟨_, rfl⟩
          rw [hB0] at EB0 s0'
          obtain ⟨r0, hr0⟩ : ∃ r, (S j).rotten = r := ⟨_, rfl⟩
          have HR0 := Lib.hid hr0
          rw [hr0] at s2
          clear hB0 hr0
          go_wp2_with fail
          go_region_held (fun w' => w'.cell? ⟨X, 1, none⟩ = some (.slice (some ⟨gx, 0, none⟩) n n) ∧ w'.cell? ⟨E, 1, none⟩ = some (.slice (some ⟨gs, 0, none⟩) n n) ∧ w'.cell? ⟨gs, j * 3, none⟩ = some (.string B0) ∧ w'.cell? ⟨gs, j * 3 + 2, none⟩ = some (.bool r0)) (go_keep) (fail)
          all_goals
            go_wp2
            go_roundw
            case rel =>
              have KST := kmid_step S j
              rw [HR0.out] at KST
              have P3 := put3_at XJ.out hlt ⟨(S j).fixed, [], r0⟩ rfl EB0.out
              exact ⟨j + 1, by omega, by go_num, ⟨_, KST ▸ P3.1⟩, CJ.out.trans P3.2.2 (fun i _ e => e)⟩
            case measure => simp [intOf]; omega
        · have hlt2 : ¬ (j : Int) < (n : Int) := by omega
          have X3 : Hid (RvAt wr (Fresh wo w2) X q2 n (crashTo n S fs 0) 0 0 gx vx) := XJ.out.congrS (fun i hi => (if_pos (by omega) : kmid S j i = keptS S i).symm)
          have C3 := CJ
          obtain ⟨w3, hw3⟩ : ∃ w3, w3 = wr := ⟨_, rfl⟩
          subst hw3
          clear XJ CJ BJ EJ hj hlt
          go_wp2
          clear x1 e1
          go_loopw [12] (fun p wr => ∃ i : Nat, i ≤ k ∧ p = .int .i64 (i : Int) ∧ Hid (∃ vx, RvAt wr (Fresh wo w2) X q2 n (crashTo n S fs i) 0 0 gx vx) ∧ Hid (Chg (fun a => a = gx) w2 wr)) (fun p _ => k - (intOf p).toNat)
          case atStart => exact ⟨0, Nat.zero_le _, rfl, ⟨_, X3.out⟩, C3⟩
          case round =>
            obtain ⟨i, hi, rfl, XJ0, CJ⟩ := hrel
            clear X3 C3
            obtain ⟨vx, xj⟩ := XJ0.out
            have XJ := Lib.hid xj
            have BJ := Lib.hid (OLD.out _ CJ.out)
            have EJ := Lib.hid (HJ.out.below BJ.out)
            obtain ⟨_, x1, _, _, _⟩ := xj.cells
            obtain ⟨_, e1, _, _, _⟩ := EJ.out.cells
            clear XJ0 xj
            by_cases hik : i < k
            · have hik1 : (i : Int) < (k : Int) := by omega
              have hik0 : (i : Int) < (k0 : Int) := by omega
              obtain ⟨f, hf⟩ : ∃ f, fs[i]? = some f := ⟨_, List.getElem?_eq_getElem (by rw [FJ.out.len]; exact hik)⟩
              obtain ⟨x, hx⟩ : ∃ x, (looseOf n S)[i]? = some x := ⟨_, List.getElem?_eq_getElem (by rw [HK0.out]; omega)⟩
              obtain ⟨h1, h2⟩ := HG.out i hik f x hf hx
              obtain ⟨fb, fo, rfl, hfc0⟩ := FJ.out.at_ hf
              obtain ⟨lb, rfl, hl00, hl10⟩ := LOJ.out.at_ hx
              have lfb := World.block_lt_of_cell? wo _ hfc0
              have llb := World.block_lt_of_cell? wo _ hl00
              have hfc := (BJ.out.cell (p := ⟨fb, fo + i, none⟩) lfb).trans hfc0
              have hl0 := (BJ.out.cell (p := ⟨lb, i * 2, none⟩) llb).trans hl00
              have hfg : gx ≠ fb := fun e => by have := HGX.out; have : fb < wo.heap.size := lfb; omega
              have hlg : gx ≠ lb := fun e => by have := HGX.out; have : lb < wo.heap.size := llb; omega
              have hfg2 : fb ≠ gx := fun e => hfg e.symm
              have hlg2 : lb ≠ gx := fun e => hlg e.symm
              have HFX := Lib.hid hf
              have HXX := Lib.hid hx
              obtain ⟨m1, m2, m3⟩ := mem_loose.1 (List.mem_of_getElem? hx)
              clear hf hx hfc0 hl00 hl10 lfb llb
              obtain ⟨xa, xm⟩ := x
              dsimp only at *
              by_cases h3 : 0 < f
              · have HYes := Lib.hid (crashTo_yes HFX.out HXX.out h3)
                obtain ⟨φ, hφf⟩ : ∃ φ : Nat, f - 1 = (φ : Int) := ⟨(f - 1).toNat, by omega⟩
                have ee : (f - 1).toNat = φ := by omega
                rw [ee] at HYes
                obtain ⟨A9, c9, hv, hlc, hcm, hsl0, hG9⟩ := HJ.out.loose xa m1
                obtain ⟨_, s1, _, sf⟩ := EJ.out.sec m1
                rw [hv] at s1
                have hφ : φ < (S xa).loose.length := by omega
                obtain ⟨b9, o9, rfl, hc90⟩ := Rw.Sl.at_ hsl0 (k := φ) (u := .string (bstr ((S xa).loose.getD φ []))) (by rw [List.getElem?_map, List.getElem?_eq_getElem hφ]; simp [tx, List.getD, List.getElem?_eq_getElem hφ])
                have lb9 := World.block_lt_of_cell? wo _ hc90
                have hc9 := (BJ.out.cell (p := ⟨b9, o9 + φ, none⟩) lb9).trans hc90
                have hbg : gx ≠ b9 := fun e => by have := HGX.out; have : b9 < wo.heap.size := lb9; omega
                have hbg2 : b9 ≠ gx := fun e => hbg e.symm
                obtain ⟨t0, t1, t2, tf⟩ := XJ.out.sec m1
                have EB0 : Hid (tx ((S xa).loose.getD φ []) = .string (bstr ((S xa).loose.getD φ []))) := rfl
                obtain ⟨B0, hB0⟩ : ∃ B, bstr ((S xa).loose.getD φ []) = B := ⟨_, rfl⟩
                rw [hB0] at EB0 hc9
                obtain ⟨l9, hl9⟩ : ∃ l, (S xa).loose.length = l := ⟨_, rfl⟩
                rw [hl9] at s1 hφ
                have hφ2 : (φ : Int) < (l9 : Int) := by omega
                have hxa : (xa : Int) < (n : Int) := by omega
                have hφ9 : φ ≤ 1000000000 := by have := HN9.out xa m1; omega
                have hwrap : IntKind.i64.wrap (φ : Int) = (φ : Int) := wrap_le hφ9
                have M1 := Lib.hid m1
                clear hv hlc hcm hsl0 hG9 hc90 lb9 hB0 hl9 m2 m3 ee h1 h2 m1
                go_wp2_with fail
                refine gate (fun w' => w'.cell? ⟨X, 1, none⟩ = some (.slice (some ⟨gx, 0, none⟩) n n) ∧ w'.cell? ⟨E, 1, none⟩ = some (.slice (some ⟨gs, 0, none⟩) n n) ∧ w'.cell? ⟨lb, i * 2, none⟩ = some (.int .i64 (xa : Int)) ∧ w'.cell? ⟨fb, fo + i, none⟩ = some (.int .i64 f) ∧ w'.cell? ⟨gs, xa * 3 + 1, none⟩ = some (.slice (some ⟨b9, o9, none⟩) l9 c9) ∧ w'.cell? ⟨b9, o9 + φ, none⟩ = some (.string B0)) 30 [0, 1, 2, 3, 4, 5, 6, 7, 8, 9, 10, 11, 12, 13, 14, 15, 16, 17, 18, 19, 20, 21, 22, 23, 24, 25, 26, 27, 28, 29] 1 (by kernel_rfl) (by kernel_rfl) (by kernel_rfl) rfl ?_ ⟨x1, e1, hl0, hfc, s1, hc9⟩ ?_
                · intro d v c a w h
                  cases d <;> exact h
                iterate 25
                  refine yields_step ?_ rfl rfl ?_ ?_
                  rotate_left
                  · intro w' hS; obtain ⟨hS1, hS2, hS3, hS4, hS5, hS6⟩ := hS; go_simp; rfl
                refine yields_step (.int .i64 (φ : Int)) rfl rfl ?_ ?_
                · intro w' hS
                  go_simp
                iterate 4
                  refine yields_step ?_ rfl rfl ?_ ?_
                  rotate_left
                  · intro w' hS; obtain ⟨hS1, hS2, hS3, hS4, hS5, hS6⟩ := hS; go_simp; rfl
                refine Gate.next (i := 30) (by kernel_rfl) rfl rfl (fun K hK => ?_)
                go_simp
                refine hK _ _ (fun h => absurd rfl h) ?_
                clear hK K
                refine Gate.done (by kernel_rfl) ?_
                go_wp2
                go_roundw
                case rel =>
                  have P3 := put3_at XJ.out M1.out ⟨(S xa).loose.getD φ [], [], false⟩ rfl EB0.out
                  exact ⟨i + 1, by omega, by go_num, ⟨_, HYes.out ▸ P3.1⟩, CJ.out.trans P3.2.2 (fun i _ e => e)⟩
                case measure => simp [intOf]; omega
              · have HNo := Lib.hid (crashTo_no HFX.out HXX.out h3)
                go_wp2
                go_roundw
                case rel => exact ⟨i + 1, by omega, by go_num, ⟨vx, HNo.out ▸ XJ.out⟩, CJ⟩
                case measure => simp [intOf]; omega
            · have hik1 : ¬ (i : Int) < (k : Int) := by omega
              have hIk : Hid (i = k) := Lib.hid (by omega)
              clear hik hi
              go_wp2
              go_ret2
              refine ⟨X, gx, vx, rfl, Nat.le_trans B1J.out.size HX.out, ?_, bthen B1J.out BJ.out⟩
              have hXJ := XJ.out
              rw [hIk.out] at hXJ
              refine hXJ.frame (fun a x => ⟨Nat.le_trans B1J.out.size x.1, Nat.lt_of_lt_of_le x.2 CJ.out.size⟩) (fun a x => x.2) (fun _ _ => rfl)
end
end Go.Proofs.Ytdkniholeaiemaa.W
