/-
  A call on both pairs: any act. No conditions.
-/
import Derived.Test.YtdkniholeaiemaaDvDoA
import Derived.Test.YtdkniholeaiemaaDvDoB
import Derived.Test.YtdkniholeaiemaaDvDoC
import Derived.Test.YtdkniholeaiemaaDvDoD
namespace Go.Proofs.Ytdkniholeaiemaa.W
open Go.RowKit Oc Dm Gt Tn
set_option linter.unusedVariables false
theorem rem_two (z : Int) : (∃ k : Nat, k < 2 ∧ z.tmod 2 = (k : Int)) ∨ z.tmod 2 = -1 := by
  have h1 : (z.tmod 2).natAbs = z.natAbs % 2 := Int.natAbs_tmod z 2
  have h2 : z.natAbs % 2 < 2 := Nat.mod_lt _ (by decide)
  by_cases h : z.tmod 2 < 0
  · exact .inr (by omega)
  · exact .inl ⟨(z.tmod 2).toNat, by omega, by omega⟩
theorem u8_is {z : Int} (h : (Lit.int .u8 z).wf = true) : ∃ y : UInt8, z = (y.toNat : Int) := by
  simp [Lit.wf, IntKind.min, IntKind.max, IntKind.signed, IntKind.bits] at h
  refine ⟨UInt8.ofNat z.toNat, ?_⟩
  rw [UInt8.toNat_ofNat_of_lt' (by show z.toNat < 256; omega)]; omega
theorem u32_is {z : Int} (h : (Lit.int .u32 z).wf = true) : ∃ y : Nat, z = (y : Int) ∧ y < 4294967296 := by
  simp [Lit.wf, IntKind.min, IntKind.max, IntKind.signed, IntKind.bits] at h
  exact ⟨z.toNat, by omega, by omega⟩
theorem u64_is {z : Int} (h : (Lit.int .u64 z).wf = true) : ∃ y : Nat, z = (y : Int) ∧ y < 18446744073709551616 := by
  simp [Lit.wf, IntKind.min, IntKind.max, IntKind.signed, IntKind.bits] at h
  exact ⟨z.toNat, by omega, by omega⟩
theorem do_any {o : Nat → Nat} {w : World} {T p q : Nat} {D E ns : Nat → Nat} {N : Nat} {s : PS} {d : Nat → DD} (h : Mid o w T p q D E ns N s d s d) (hN : N + 1 ≤ 1000000) (a : ActV) (ha : a.wf) (hf : Fo o w a.fa a.fl a.fs) :
    Calls Try.prog 8 #[.pointer (some ⟨T, 0, none⟩), .agg a.cells.toArray] w fun e w' => e = .returned (.bool true) ∧ After o w T ns (N + 1) w' := by
  obtain ⟨z0, z1, z2, z3, z4, z5, z6, z7, z8, z9, fa, fl, fc, fs⟩ := a
  obtain ⟨_, _, _, _, _, h5, h6, h7, h8, _, hfl, hfc, _⟩ := ha
  obtain ⟨tn, rfl, ht⟩ := u32_is h5
  obtain ⟨u6, rfl, hu6⟩ := u64_is h6
  obtain ⟨u7, rfl, hu7⟩ := u64_is h7
  obtain ⟨y, rfl⟩ := u8_is h8
  have hfl2 : fl ≤ maxLen := Nat.le_trans hfl hfc
  by_cases n0 : z0 = 0
  · subst n0
    rcases rem_two z1 with ⟨k, hk, hr⟩ | hr
    · exact do0a h hN k hk _ _ _ _ _ _ _ _ _ _ hr
    · exact do0b h hN _ _ _ _ _ _ _ _ _ _ hr
  by_cases n1 : z0 = 1
  · subst n1
    rcases rem_two z1 with ⟨k, hk, hr⟩ | hr
    · exact do1a h hN k hk _ _ _ _ _ _ _ _ _ y hr
    · exact do1b h hN _ _ _ _ _ _ _ _ _ y hr
  by_cases n2 : z0 = 2
  · subst n2
    rcases rem_two z1 with ⟨k, hk, hr⟩ | hr
    · exact do2a h hN k hk _ _ _ _ _ _ _ _ _ _ hr
    · exact do2b h hN _ _ _ _ _ _ _ _ _ _ hr
  by_cases n3 : z0 = 3
  · subst n3
    rcases rem_two z1 with ⟨k, hk, hr⟩ | hr
    · exact do3a h hN k hk _ _ _ _ _ _ _ _ u6 u7 hu6 hu7 hr
    · exact do3b h hN _ _ _ _ _ _ _ _ u6 u7 hu6 hu7 hr
  by_cases n4 : z0 = 4
  · subst n4
    rcases rem_two z1 with ⟨k, hk, hr⟩ | hr
    · exact do4a h hN k hk _ _ _ _ _ _ _ _ _ tn ht hr
    · exact do4b h hN _ _ _ _ _ _ _ _ _ tn ht hr
  by_cases n5 : z0 = 5
  · subst n5
    rcases rem_two z1 with ⟨k, hk, hr⟩ | hr
    · exact do5a h hN k hk _ _ _ _ _ _ _ _ _ _ hr
    · exact do5b h hN _ _ _ _ _ _ _ _ _ _ hr
  by_cases n6 : z0 = 6
  · subst n6
    rcases rem_two z1 with ⟨k, hk, hr⟩ | hr
    · exact do6a h hN k hk _ _ _ _ _ _ _ _ _ _ hr
    · exact do6b h hN _ _ _ _ _ _ _ _ _ _ hr
  by_cases n7 : z0 = 7
  · subst n7
    rcases rem_two z1 with ⟨k, hk, hr⟩ | hr
    · exact do7a h hN k hk _ _ _ _ _ _ _ _ _ fa fl fc fs hf hfl2 hr
    · exact do7b h hN _ _ _ _ _ _ _ _ _ fa fl fc fs hf hfl2 hr
  by_cases n8 : z0 = 8
  · subst n8
    rcases rem_two z1 with ⟨k, hk, hr⟩ | hr
    · exact do8a h hN k hk _ _ _ _ _ _ _ _ _ fa fl fc fs hf hr
    · exact do8b h hN _ _ _ _ _ _ _ _ _ fa fl fc fs hf hr
  rcases rem_two z1 with ⟨k, hk, hr⟩ | hr
  · exact do9a h hN k hk _ _ _ _ _ _ _ _ _ _ z0 n0 n1 n2 n3 n4 n5 n6 n7 n8 hr
  · exact do9b h hN _ _ _ _ _ _ _ _ _ _ z0 n0 n1 n2 n3 n4 n5 n6 n7 n8 hr
end Go.Proofs.Ytdkniholeaiemaa.W
