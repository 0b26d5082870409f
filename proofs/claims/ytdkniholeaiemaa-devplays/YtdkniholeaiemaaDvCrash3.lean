/-
  A crash of both pairs, with fates made to fit: the walk. No conditions.
-/
import Derived.Test.YtdkniholeaiemaaDvCrash2
namespace Go.Proofs.Ytdkniholeaiemaa.W
open Go.RowKit Oc Dm Gt Tn
set_option linter.unusedVariables false
set_option maxRecDepth 100000
section
variable {oo : Nat → Nat} {w : World} {T p q : Nat} {D E ns : Nat → Nat} {N : Nat} {s : PS} {d : Nat → DD}
theorem cr_start {w1 w2 : World} (m : Mid oo w T p q D E ns N s d s d) (hp : Pw w1 w.heap.size ⟨false, none, 0⟩) (b1 : Below w.heap.size w w1) (z1 : w1.heap.size = w.heap.size + 1) (h2 : w2 = w1.alloc (.cells #[.bool false, .bool false, .int .i64 0, .int .i64 0] 80)) (dn : Nat → DD) :
    ∃ o, Cr o w w2 T p q w.heap.size w1.heap.size D E D E ns N s d dn 0 := by
  subst h2
  have b2 := bthen b1 (balloc w1 (.cells #[.bool false, .bool false, .int .i64 0, .int .i64 0] 80))
  have hT := lt_of_heap m.head
  refine ⟨fun b => if b = w.heap.size then 2 else if b = w1.heap.size then 3 else 0, (b2.block T hT).trans m.head, fun b hb _ => b2.block b hb, ⟨b2.os, b2.tape, b2.output, b2.size⟩, hp.heap (ha_old _ _ _ hp.lt), ⟨0, heap_alloc_new w1 _, fun k e => by cases e⟩, ⟨Nat.le_refl _, by omega, by omega⟩, fun b x => ?_, fun b hb => ?_, if_pos rfl, ?_, fun k _ hk => absurd hk (Nat.not_lt_zero _), fun k _ hk => absurd hk (Nat.not_lt_zero _)⟩
  · have hz : (w1.alloc (.cells #[.bool false, .bool false, .int .i64 0, .int .i64 0] 80)).heap.size = w1.heap.size + 1 := by simp
    rw [hz]
    by_cases e1 : b = w.heap.size
    · omega
    · by_cases e2 : b = w1.heap.size
      · omega
      · simp [e1, e2] at x
  · exact (if_neg (by omega)).trans (if_neg (by omega))
  · exact (if_neg (by omega)).trans (if_pos rfl)
set_option maxHeartbeats 8000000 in
theorem crash2_any (m : Mid oo w T p q D E ns N s d s d) (A : Option Addr) (l c : Nat) (fs : List Int) (hf : Fo oo w A l fs) (hl : l ≤ maxLen) :
    Calls Try.prog 36 #[.pointer (some ⟨T, 0, none⟩), .slice A l c] w fun e w' => e = .returned (.bool true) ∧ After oo w T ns N w' := by
  have M := Lib.hid m
  have hT := lt_of_heap m.head
  have hfl := hf.1.len
  have HF := Lib.hid hf
  have hl9 : l ≤ 9223372036854775807 := by unfold maxLen at hl; omega
  have HN := Lib.hid m.hN
  have HR : Hid (∀ k, fitD ns d fs k = ⟨(fitD ns d fs k).S, 0, 0⟩) := fun k => rfl
  have HD : Hid (∀ k, (fitD ns d fs k).S = crashTo (ns k) (d k).S (fitOf (looseOf (ns k) (d k).S) fs (min l (looseOf (ns k) (d k).S).length)) (fitOf (looseOf (ns k) (d k).S) fs (min l (looseOf (ns k) (d k).S).length)).length) := fun k => by rw [fitOf_len, ← hfl]; rfl
  generalize fitD ns d fs = dn at HR HD
  have HFL := Lib.hid hfl
  clear m hf hfl hl
  go_enter Try.func36, Try.ntmps36
  go_wp2_with fail
  refine (newpower_any w).mono ?_; rintro e w1 ⟨rfl, p1, b1, z1⟩
  have C0 := Lib.hid (cr_start M.out p1 b1 z1 rfl dn)
  clear p1 b1 z1
  go_wp2_with fail
  generalize w1.alloc (.cells #[.bool false, .bool false, .int .i64 0, .int .i64 0] 80) = w2 at C0 ⊢
  generalize w1.heap.size = q2 at C0 ⊢
  generalize hp2 : w.heap.size = p2 at C0 ⊢
  have HP2 := Lib.hid hp2
  clear hp2
  go_loopw [7] (fun q7 wr => ∃ j : Nat, j ≤ 2 ∧ q7 = .int .i64 (j : Int) ∧ Hid (∃ o X Y, Cr o w wr T p q p2 q2 D E X Y ns N s d dn j)) (fun q7 _ => 2 - (intOf q7).toNat)
  case atStart => obtain ⟨o, h⟩ := C0.out; exact ⟨0, by omega, rfl, ⟨o, D, E, h⟩⟩
  case round =>
    obtain ⟨j, hj, rfl, CJ⟩ := hrel
    clear C0
    obtain ⟨o, X, Y, cr⟩ := CJ.out
    have CR := Lib.hid cr
    clear CJ
    by_cases hlt : j < 2
    · have hj2 : (j : Int) < 2 := by omega
      obtain ⟨olds, gs0, vs0, rv0⟩ := cr.olds M.out hlt
      have RV0 := Lib.hid rv0
      obtain ⟨tD, tE, tf⟩ := cr.cells hlt
      clear cr olds rv0
      go_wp2_with fail
      refine (rloose_any RV0.out).mono ?_; rintro e w3 ⟨A3, c3, rfl, lo3, b3⟩
      have LO3 := Lib.hid lo3
      have CR3 := Lib.hid (CR.out.below hT b3)
      clear lo3 b3 tD tE tf CR RV0
      obtain ⟨tD, tE, tf⟩ := CR3.out.cells hlt
      have hL4 := loose_len (ns j) (d j).S
      have hn4 := (M.out.secs hlt).1
      have HM : Hid (∀ x ∈ looseOf (ns j) (d j).S, x.2 ≤ 1000000000) := fun x hx => by
        obtain ⟨m1, m2, m3⟩ := mem_loose.1 hx
        have := ((M.out.secs hlt).2 x.1 m1).1
        have := HN.out
        omega
      have F3 : Hid (Fi w3 A l fs) := Rw.Sl.heap HF.out.1 (fun b off hk e => CR3.out.old b (Rw.Sl.lt HF.out.1 hk e) (fun e2 => by
        have h1 := HF.out.2 b off hk e
        rw [e2, M.out.oT] at h1
        omega))
      go_wp2_with fail
      refine (fit_any w3 A3 A _ _ l _ (looseOf (ns j) (d j).S) fs LO3.out F3.out (by omega) HM.out hl9).mono ?_; rintro e w4 ⟨A4, c4, rfl, f4, b4⟩
      have F4 := Lib.hid f4
      have CR4 := Lib.hid (CR3.out.below hT b4)
      clear f4 b4 tD tE tf CR3 LO3 F3 HM
      obtain ⟨tD, tE, tf⟩ := CR4.out.cells hlt
      obtain ⟨⟨fx4, m4, r4, g4, dv4⟩, gs4, vs4, rv4⟩ := CR4.out.olds M.out hlt
      have DV4 := Lib.hid dv4
      have HK : Hid ((fitOf (looseOf (ns j) (d j).S) fs (min l (looseOf (ns j) (d j).S).length)).length ≤ (looseOf (ns j) (d j).S).length) := by rw [fitOf_len]; exact Nat.min_le_right _ _
      have HG : Hid (∀ i, i < (fitOf (looseOf (ns j) (d j).S) fs (min l (looseOf (ns j) (d j).S).length)).length → Good (looseOf (ns j) (d j).S) (fitOf (looseOf (ns j) (d j).S) fs (min l (looseOf (ns j) (d j).S).length)) i) := fun i _ => fitOf_good _ _ _ i
      have HBD : Hid (∀ i, i < ns j → ((d j).S i).loose.length ≤ 1000000000) := fun i hi => by have := ((M.out.secs hlt).2 i hi).1; have := HN.out; omega
      have HDJ := Lib.hid (HD.out j)
      generalize fitOf (looseOf (ns j) (d j).S) fs (min l (looseOf (ns j) (d j).S).length) = ft at F4 HK HG HDJ ⊢
      have hft : ft.length ≤ 4096 := by have := HK.out; omega
      clear dv4 rv4 hL4
      generalize hfl : ft.length = fl at F4 HK HG HDJ hft ⊢
      clear hfl
      go_wp2_with fail
      refine (crash_ok DV4.out CR4.out.pw F4.out HK.out HG.out).mono ?_; rintro e w5 ⟨X5, fx5, m5, r5, rfl, hX5, dv5, b5⟩
      have DV5 : Hid (Dv w5 (Fresh w4 w5) X5 p2 (ns j) N (dn j).S 0 0) := by rw [HDJ.out]; exact ⟨_, _, _, _, dv5⟩
      have B5 := Lib.hid b5
      have CR5 := Lib.hid (CR4.out.below hT b5)
      have F5 := Lib.hid (F4.out.below b5)
      clear dv5 b5 hX5 tD tE tf DV4
      obtain ⟨tD, tE, tf⟩ := CR5.out.cells hlt
      obtain ⟨_, gs5, vs5, rv5⟩ := CR5.out.olds M.out hlt
      have RV5 := Lib.hid rv5
      clear rv5
      go_wp2_with fail
      refine (rcrash_ok RV5.out HBD.out F5.out HK.out HG.out).mono ?_; rintro e w6 ⟨Y6, gs6, vs6, rfl, hY6, rv6, b6⟩
      have RV6 : Hid (RvAt w6 (Fresh w5 w6) Y6 q2 (ns j) (dn j).S 0 0 gs6 vs6) := by rw [HDJ.out]; exact rv6
      have B6 := Lib.hid b6
      have CR6 := Lib.hid (CR5.out.below hT b6)
      clear rv6 b6 hY6 tD tE tf CR5 RV5 F5 F4 HK HG HBD HDJ
      obtain ⟨tD, tE, tf⟩ := CR6.out.cells hlt
      have HS := Lib.hid (CR4.out.step hlt hT DV5.out B5.out RV6.out B6.out)
      clear CR6
      go_wp2
      go_roundw
      case rel => obtain ⟨o', h'⟩ := HS.out; exact ⟨j + 1, by omega, by go_num, ⟨o', _, _, h'⟩⟩
      case measure => simp [intOf]; omega
    · have hj2 : j = 2 := by omega
      subst hj2
      obtain ⟨t0, t3, tf⟩ := cr.ends
      clear cr
      go_wp2
      go_ret
      exact ⟨rfl, CR.out.done M.out HR.out⟩
end
end Go.Proofs.Ytdkniholeaiemaa.W
