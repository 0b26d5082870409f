/-
  Contract of Crash. No conditions.
-/
import Derived.Test.YtdkniholeaiemaaDvKept
namespace Go.Proofs.Ytdkniholeaiemaa.W
open Go.RowKit Oc Dm
set_option linter.unusedVariables false
/-- the slice at A reads as fates -/
def Fi (w : World) (A : Option Addr) (k : Nat) (fs : List Int) : Prop := Rw.Sl w A k (fs.map (Value.int .i64))
section
variable {w w' : World} {A : Option Addr} {k : Nat} {fs : List Int}
theorem Fi.len (h : Fi w A k fs) : fs.length = k := by have := Rw.Sl.len h; simpa using this
theorem Fi.below (h : Fi w A k fs) (hb : Below w.heap.size w w') : Fi w' A k fs := Rw.Sl.below h hb
theorem Fi.at_ (h : Fi w A k fs) {j : Nat} {f : Int} (hf : fs[j]? = some f) : ∃ b off, A = some ⟨b, off, none⟩ ∧ w.cell? ⟨b, off + j, none⟩ = some (.int .i64 f) := Rw.Sl.at_ h (by rw [List.getElem?_map, hf]; rfl)
end
/-- fates that may be -/
def Good (L : List (Nat × Nat)) (fs : List Int) (j : Nat) : Prop := ∀ f x, fs[j]? = some f → L[j]? = some x → 0 ≤ f ∧ f ≤ (x.2 : Int)
/-- what a crash makes of sectors, behind k fates -/
def crashTo (n : Nat) (S : Nat → Sec) (fs : List Int) : Nat → Nat → Sec
  | 0 => keptS S
  | k + 1 => match fs[k]?, (looseOf n S)[k]? with
    | some f, some x => if 0 < f then upd (crashTo n S fs k) x.1 ⟨(S x.1).loose.getD (f - 1).toNat [], [], false⟩ else crashTo n S fs k
    | _, _ => crashTo n S fs k
theorem crashTo_loose (n : Nat) (S : Nat → Sec) (fs : List Int) : ∀ k i, (crashTo n S fs k i).loose = []
  | 0, i => rfl
  | k + 1, i => by
    rw [crashTo]
    cases fs[k]? with
    | none => exact crashTo_loose n S fs k i
    | some f =>
      cases (looseOf n S)[k]? with
      | none => exact crashTo_loose n S fs k i
      | some x =>
        dsimp only
        by_cases h : 0 < f
        · rw [if_pos h]
          unfold upd
          split
          · rfl
          · exact crashTo_loose n S fs k i
        · rw [if_neg h]
          exact crashTo_loose n S fs k i
theorem crashTo_yes {n : Nat} {S : Nat → Sec} {fs : List Int} {k : Nat} {f : Int} {x : Nat × Nat} (hf : fs[k]? = some f) (hx : (looseOf n S)[k]? = some x) (h : 0 < f) : crashTo n S fs (k + 1) = upd (crashTo n S fs k) x.1 ⟨(S x.1).loose.getD (f - 1).toNat [], [], false⟩ := by
  rw [crashTo, hf, hx]
  exact if_pos h
theorem crashTo_no {n : Nat} {S : Nat → Sec} {fs : List Int} {k : Nat} {f : Int} {x : Nat × Nat} (hf : fs[k]? = some f) (hx : (looseOf n S)[k]? = some x) (h : ¬ 0 < f) : crashTo n S fs (k + 1) = crashTo n S fs k := by
  rw [crashTo, hf, hx]
  exact if_neg h
/-- a new device is told -/
def Crashed (w : World) (p2 n N : Nat) (S : Nat → Sec) (e : Ending) (w' : World) : Prop := ∃ X fx' m' r', e = .returned (.tuple #[.pointer (some ⟨X, 0, none⟩), .int .i64 0]) ∧ w.heap.size ≤ X ∧ DvAt w' (Fresh w w') X p2 n N S 0 0 fx' m' r' (fun _ => none) ∧ Below w.heap.size w w'
section
variable {w w' : World} {F : Nat → Prop} {D p n N : Nat} {S : Nat → Sec} {rd wr fx m r : Nat} {g : Nat → Option Pl} {s : PS} {A : Option Addr} {k c p2 : Nat} {fs : List Int}
theorem crash_long (h : DvAt w F D p n N S rd wr fx m r g) (hp : Pw w p2 s) (hf : Fi w A k fs) (hk : (looseOf n S).length < k) : Calls Try.prog 11 #[.pointer (some ⟨D, 0, none⟩), .pointer (some ⟨p2, 0, none⟩), .slice A k c] w fun e w' => e = .returned (.tuple #[.pointer none, .int .i64 7]) ∧ Below w.heap.size w w' := by
  have H := Lib.hid h
  have HP := Lib.hid hp
  clear h hp hf
  go_enter Try.func11, Try.ntmps11
  go_wp2_with fail
  refine (dmade_any H.out).mono ?_; rintro e w' ⟨rfl, rfl⟩
  go_wp2_with fail
  refine (pmade_any HP.out).mono ?_; rintro e w' ⟨rfl, rfl⟩
  go_wp2_with fail
  refine (loose_any H.out).mono ?_; rintro e w1 ⟨b, k0, c0, rfl, lo1, hb, b1⟩
  have hlen := lo1.1
  clear lo1
  have hlt : (k0 : Int) < (k : Int) := by omega
  go_wp2
  go_ret2
  exact ⟨rfl, b1⟩
set_option maxRecDepth 100000 in
set_option maxHeartbeats 4000000 in
theorem crash_range (h : DvAt w F D p n N S rd wr fx m r g) (hp : Pw w p2 s) (hf : Fi w A k fs) (hk : k ≤ (looseOf n S).length) (J : Nat) (hJ : J < k) (hbad : ¬ Good (looseOf n S) fs J) : Calls Try.prog 11 #[.pointer (some ⟨D, 0, none⟩), .pointer (some ⟨p2, 0, none⟩), .slice A k c] w fun e w' => e = .returned (.tuple #[.pointer none, .int .i64 3]) ∧ Below w.heap.size w w' := by
  have H := Lib.hid h
  have HP := Lib.hid hp
  have HF := Lib.hid hf
  have HB := Lib.hid hbad
  clear h hp hf hbad
  go_enter Try.func11, Try.ntmps11
  go_wp2_with fail
  refine (dmade_any H.out).mono ?_; rintro e w' ⟨rfl, rfl⟩
  go_wp2_with fail
  refine (pmade_any HP.out).mono ?_; rintro e w' ⟨rfl, rfl⟩
  go_wp2_with fail
  refine (loose_any H.out).mono ?_; rintro e w1 ⟨b, k0, c0, rfl, lo1, hb, b1⟩
  have hlen := lo1.1
  have LO1 := Lib.hid lo1
  have B1 := Lib.hid b1
  have F1 := Lib.hid (HF.out.below b1)
  have hkk : ¬ (k0 : Int) < (k : Int) := by omega
  have hkk2 : k ≤ k0 := by omega
  have hn := H.out.hn
  have hk4 : k0 ≤ 4096 := by have := loose_len n S; omega
  clear lo1 b1 hlen hb hk
  go_wp2
  go_loop [32] (fun q => ∃ j : Nat, j ≤ J ∧ q = .int .i64 j) (fun q => J - (intOf q).toNat)
  case atStart => exact ⟨0, Nat.zero_le _, rfl⟩
  case round =>
    obtain ⟨j, hj, rfl⟩ := hrel
    have hjk : j < k := by omega
    have hjk0 : (j : Int) < (k0 : Int) := by omega
    have hjk1 : (j : Int) < (k : Int) := by omega
    obtain ⟨f, hf⟩ : ∃ f, fs[j]? = some f := ⟨_, List.getElem?_eq_getElem (by rw [F1.out.len]; exact hjk)⟩
    obtain ⟨x, hx⟩ : ∃ x, (looseOf n S)[j]? = some x := ⟨_, List.getElem?_eq_getElem (by rw [LO1.out.1]; omega)⟩
    obtain ⟨fb, fo, rfl, hfc⟩ := F1.out.at_ hf
    obtain ⟨lb, hle, hl0, hl1⟩ := LO1.out.at_ hx
    injection hle with hle
    injection hle with hle
    subst hle
    have HFX := Lib.hid hf
    have HXX := Lib.hid hx
    clear hf hx
    by_cases h1 : f < 0
    · go_wp2
      go_ret2
      exact ⟨rfl, B1.out⟩
    · by_cases h2 : (x.2 : Int) < f
      · go_wp2
        go_ret2
        exact ⟨rfl, B1.out⟩
      · have hjJ : j ≠ J := fun e => HB.out (by
          subst e
          intro f' x' hf' hx'
          rw [HFX.out] at hf'
          rw [HXX.out] at hx'
          rw [← Option.some.inj hf', ← Option.some.inj hx']
          omega)
        have hd : decide ((x.2 : Int) < f) = false := by simp; omega
        go_wp2
        go_round
        case rel => exact ⟨j + 1, by omega, rfl⟩
        case measure => simp [intOf]; omega
set_option maxRecDepth 100000 in
set_option maxHeartbeats 8000000 in
theorem crash_ok (h : DvAt w F D p n N S rd wr fx m r g) (hp : Pw w p2 s) (hf : Fi w A k fs) (hk : k ≤ (looseOf n S).length) (hgood : ∀ j, j < k → Good (looseOf n S) fs j) : Calls Try.prog 11 #[.pointer (some ⟨D, 0, none⟩), .pointer (some ⟨p2, 0, none⟩), .slice A k c] w (Crashed w p2 n N (crashTo n S fs k)) := by
  have H := Lib.hid h
  have HP := Lib.hid hp
  have HF := Lib.hid hf
  have HG := Lib.hid hgood
  clear h hp hf hgood
  go_enter Try.func11, Try.ntmps11
  go_wp2_with fail
  refine (dmade_any H.out).mono ?_; rintro e w' ⟨rfl, rfl⟩
  go_wp2_with fail
  refine (pmade_any HP.out).mono ?_; rintro e w' ⟨rfl, rfl⟩
  go_wp2_with fail
  refine (loose_any H.out).mono ?_; rintro e w1 ⟨b, k0, c0, rfl, lo1, hb, b1⟩
  have hlen := lo1.1
  have LO1 := Lib.hid lo1
  have B1 := Lib.hid b1
  have F1 := Lib.hid (HF.out.below b1)
  have hkk : ¬ (k0 : Int) < (k : Int) := by omega
  have hkk2 : k ≤ k0 := by omega
  have hn := H.out.hn
  have hk4 : k0 ≤ 4096 := by have := loose_len n S; omega
  clear lo1 b1 hlen hb hk
  go_wp2
  go_loop [32] (fun q => ∃ j : Nat, j ≤ k ∧ q = .int .i64 j) (fun q => k - (intOf q).toNat)
  case atStart => exact ⟨0, Nat.zero_le _, rfl⟩
  case round =>
    obtain ⟨j, hj, rfl⟩ := hrel
    by_cases hjk : j < k
    · have hjk0 : (j : Int) < (k0 : Int) := by omega
      have hjk1 : (j : Int) < (k : Int) := by omega
      obtain ⟨f, hf⟩ : ∃ f, fs[j]? = some f := ⟨_, List.getElem?_eq_getElem (by rw [F1.out.len]; exact hjk)⟩
      obtain ⟨x, hx⟩ : ∃ x, (looseOf n S)[j]? = some x := ⟨_, List.getElem?_eq_getElem (by rw [LO1.out.1]; omega)⟩
      obtain ⟨h1, h2⟩ := HG.out j hjk f x hf hx
      obtain ⟨fb, fo, rfl, hfc⟩ := F1.out.at_ hf
      obtain ⟨lb, hle, hl0, hl1⟩ := LO1.out.at_ hx
      injection hle with hle
      injection hle with hle
      subst hle
      have hd : decide ((x.2 : Int) < f) = false := by simp; omega
      have h3 : ¬ f < 0 := by omega
      have h4 : ¬ (x.2 : Int) < f := by omega
      clear hf hx h1 h2
      go_wp2
      go_round
      case rel => exact ⟨j + 1, by omega, rfl⟩
      case measure => simp [intOf]; omega
    · have hjk1 : ¬ (j : Int) < (k : Int) := by omega
      clear hj
      have H1 := Lib.hid (H.out.below B1.out)
      go_wp2_with fail
      refine (kept_any H1.out p2).mono ?_; rintro e w2 ⟨X, fx', m', r', rfl, hX, hx2, b2⟩
      have X2 := Lib.hid hx2
      have B2 := Lib.hid b2
      have HX := Lib.hid hX
      have LO2 := Lib.hid (LO1.out.below b2)
      have F2 := Lib.hid (F1.out.below b2)
      have H2 := Lib.hid (H1.out.below b2)
      clear hx2 b2 hX hjk1 hjk
      have hZ1 := B1.out.size
      go_wp2
      go_loopw [54] (fun q wr' => ∃ i : Nat, i ≤ k ∧ q = .int .i64 i ∧ Hid (DvAt wr' (Fresh w1 w2) X p2 n N (crashTo n S fs i) 0 0 fx' m' r' (fun _ => none)) ∧ Hid (Below w2.heap.size w2 w2 → Chg (fun a => a = fx' ∨ a = r') w2 wr')) (fun q _ => k - (intOf q).toNat)
      case atStart => exact ⟨0, Nat.zero_le _, rfl, X2.out, fun _ => Chg.refl _ _⟩
      case round =>
        obtain ⟨i, hi, rfl, XJ, CJ'⟩ := hrel
        have CJ := Lib.hid (CJ'.out (Below.refl _ _))
        clear CJ'
        have hfx0 : w1.heap.size ≤ fx' := X2.out.inF.2.1.1
        have hr0 : w1.heap.size ≤ r' := X2.out.inF.2.2.2.1
        have BJ := Lib.hid (show Below w1.heap.size w2 _ from CJ.out.below B2.out.size (fun a ha e => by rcases e with e | e <;> omega))
        have B1J := Lib.hid (B2.out.trans BJ.out)
        have HJ := Lib.hid (H1.out.below B1J.out)
        have LOJ := Lib.hid (LO1.out.below B1J.out)
        have FJ := Lib.hid (F1.out.below B1J.out)
        obtain ⟨c0', c1, c2, c3, c4, c5, fr⟩ := HJ.out.cells
        clear hfx0 hr0
        by_cases hik : i < k
        · have hik1 : (i : Int) < (k : Int) := by omega
          have hik0 : (i : Int) < (k0 : Int) := by omega
          obtain ⟨f, hf⟩ : ∃ f, fs[i]? = some f := ⟨_, List.getElem?_eq_getElem (by rw [F1.out.len]; exact hik)⟩
          obtain ⟨x, hx⟩ : ∃ x, (looseOf n S)[i]? = some x := ⟨_, List.getElem?_eq_getElem (by rw [LO1.out.1]; omega)⟩
          obtain ⟨h1, h2⟩ := HG.out i hik f x hf hx
          obtain ⟨fb, fo, rfl, hfc⟩ := FJ.out.at_ hf
          obtain ⟨lb, hle, hl0, hl1⟩ := LOJ.out.at_ hx
          injection hle with hle
          injection hle with hle
          subst hle
          have HFX := Lib.hid hf
          have HXX := Lib.hid hx
          obtain ⟨m1, m2, m3⟩ := mem_loose.1 (List.mem_of_getElem? hx)
          have HM3 := Lib.hid m3
          clear hf hx m3
          by_cases h3 : 0 < f
          · have HYes := Lib.hid (crashTo_yes HFX.out HXX.out h3)
            obtain ⟨φ, rfl⟩ : ∃ φ : Nat, f = (φ : Int) + 1 := ⟨(f - 1).toNat, by omega⟩
            have e1 : (((φ : Int) + 1) - 1).toNat = φ := by omega
            rw [e1] at HYes
            obtain ⟨t, ht⟩ : ∃ t, g x.1 = some t := by
              cases hg : g x.1 with
              | none => exact absurd (H.out.none_ _ m1 hg) m2
              | some t => exact ⟨t, rfl⟩
            obtain ⟨tb, tk, tc⟩ := t
            obtain ⟨_, q2, q3, _, _⟩ := HJ.out.some_ _ _ m1 ht
            dsimp only at q2 q3
            have hφ : φ < tk := by have := HM3.out; omega
            have hφ2 : (φ : Int) < (tk : Int) := by omega
            have hφ3 : φ ≤ 1000000000 := by have := HJ.out.hl _ m1; have := HJ.out.hN; omega
            have HV : Hid (slv (g x.1) = .slice (some ⟨tb, 0, none⟩) tk tc) := Lib.hid (congrArg slv ht)
            have Q3 := Lib.hid q3
            have QL := Lib.hid (q3.len hφ)
            clear q2 q3 ht h2 h1 e1 m2
            go_wp2_with (first | ((with_reducible refine L_look ?_ ?_ HJ.out.lm m1 hn HV.out ?_); exact rfl; exact rfl) | ((with_reducible refine L_load ?_ (Q3.out.oct hφ) ?_); exact rfl) | fail)
            refine (fix_any XJ.out x.1 m1 _ QL.out).mono ?_; rintro e w5 ⟨rfl, h5, c5'⟩
            have H5 := Lib.hid h5
            have C5 := Lib.hid c5'
            clear h5 c5'
            go_wp2
            go_roundw
            case rel =>
              refine ⟨i + 1, by omega, rfl, ?_, fun _ => CJ.out.trans C5.out (fun _ _ x => x)⟩
              rw [HYes.out]
              have := H5.out
              rw [crashTo_loose] at this
              exact this
            case measure => simp [intOf]; omega
          · have HNo := Lib.hid (crashTo_no HFX.out HXX.out h3)
            go_wp2
            go_roundw
            case rel => exact ⟨i + 1, by omega, rfl, by rw [HNo.out]; exact XJ, fun _ => CJ.out⟩
            case measure => simp [intOf]; omega
        · have hik1 : ¬ (i : Int) < (k : Int) := by omega
          have : i = k := by omega
          subst this
          go_wp2
          go_ret2
          refine ⟨X, fx', m', r', rfl, by have := HX.out; omega, XJ.out.frame (fun a x => ⟨by have := x.1; omega, Nat.lt_of_lt_of_le x.2 CJ.out.size⟩) (fun a x => x.2) (fun _ _ => rfl), B1.out.trans (B1J.out.mono hZ1)⟩
end
end Go.Proofs.Ytdkniholeaiemaa.W
