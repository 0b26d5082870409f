/-
  Contract of Masks. No conditions but bounds of the numbers.
-/
import Derived.Test.YtpaakakkcbahcaaPnMaskNum
import Derived.Test.YtpaakakkcbahcaaPnGood
import Derived.Test.YtpaakakkcbahcaaRowMem
import Derived.Test.YtpaakakkcbahcaaOctMem
import Derived.Deep.RegionLaw
namespace Go.Proofs.Ytpaakakkcbahcaa.W
open Go.RowKit Num Rw Mk
set_option linter.unusedVariables false

theorem it : ElTy Try.prog 56 3 (.int .i64 0) 8 := ⟨Try.underlying56, by kernel_rfl, rfl, by decide⟩
theorem bt8 : ElTy Try.prog 57 5 (.int .u8 0) 1 := ⟨Try.underlying57, by kernel_rfl, rfl, by decide⟩
/-- rows of unlike types lie apart -/
theorem far {w w' : World} {e e2 : TypeId} {B B2 : Nat} {v v2 : Value} {xs xs2 : List Value} (h : OwnV w e B v xs) (h2 : OwnV w e2 B2 v2 xs2) (hne : e ≠ e2) (hg : w.grownBy w' v.ownBlock) : OwnV w' e2 B2 v2 xs2 := by
  refine h2.keep fun k hk => hg.block k (h2.ge k hk).2 fun e' => ?_
  rcases h.2 with ⟨rfl, _⟩ | ⟨g, cap, cur, rfl, _, hh, _⟩
  · cases e'
  · rcases h2.2 with ⟨rfl, _⟩ | ⟨g2, cap2, cur2, rfl, _, hh2, _⟩
    · cases hk
    · simp [Value.ownBlock] at e' hk
      subst e'
      subst hk
      rw [hh] at hh2
      injection hh2 with hh2
      injection hh2 with _ h4
      exact hne h4
/-- append of one value: another row stays as it is -/
theorem step_append_two {wr : World} {ops : Array Oper} {o : Oper} {a : Act} {K : Act → World → Prop} {Q : Exit → Act → World → Prop} {E : Prop} (hgd : o.guard = none) (s x : Operand) (t : TypeId)
    (ho : o.op = .call { callee := .builtin .append, args := #[s, x], argTypes := #[t, t] }) {e e2 e' : TypeId} {z : Value} {bytes : Nat} (hT : ElTy Try.prog t e z bytes) {w0 : World} {v v2 : Value} {xs xs2 : List Value} (hs : a.eval s = v) (hown : OwnV wr e w0.heap.size v xs) (hown2 : OwnV wr e2 w0.heap.size v2 xs2) (hne : e ≠ e2) (hb : Below w0.heap.size w0 wr)
    (c : Nat) {u : Value} (hx : a.eval x = .slice (some ⟨wr.heap.size, 0, none⟩) 1 c) (h1 : u.oneCell' = true) (hl : xs.length + 1 ≤ 1000000000000)
    (h : ∀ v' w', OwnV w' e w0.heap.size v' (xs ++ [u]) → OwnV w' e2 w0.heap.size v2 xs2 → Below w0.heap.size w0 w' → K (a.put o.dst v') w') :
    if Region.wanted o (yielded ops a.tmps) = true then Oper.wp Try.prog o a (wr.alloc (.cells #[u] e')) K Q else E := by
  rw [if_pos (by simp [Region.wanted, hgd])]
  have hb1 : Below w0.heap.size w0 (wr.alloc (.cells #[u] e')) := hb.alloc hb.size _
  obtain ⟨v', w', hrun, h2, h3, _⟩ := run_append_row (P := Try.prog) (ty := o.type) c hT (hown.alloc _) (Sl.one wr e' u) (by intro y hy; simp at hy; subst hy; exact h1) hl hb1.size
  unfold Oper.wp execOp
  simp only [ho, resolve, invoke, builtin, Sem.run_bind, Sem.run_pure, Result.andThen_ok, List.map_toArray, List.map_cons, List.map_nil, hs, hx, hrun]
  exact h v' w' h2 (far (hown.alloc _) (hown2.alloc _) hne h3) (hb1.grown h3 hb1.size fun g hg => (hown.ge g hg).1)
theorem wpList_append_two {wr : World} {ops : Array Oper} {rest : List Oper} {o : Oper} {a : Act} {Q : Exit → Act → World → Prop} (hgd : o.guard = none) (s x : Operand) (t : TypeId)
    (ho : o.op = .call { callee := .builtin .append, args := #[s, x], argTypes := #[t, t] }) {e e2 e' : TypeId} {z : Value} {bytes : Nat} (hT : ElTy Try.prog t e z bytes) {w0 : World} {v v2 : Value} {xs xs2 : List Value} (hs : a.eval s = v) (hown : OwnV wr e w0.heap.size v xs) (hown2 : OwnV wr e2 w0.heap.size v2 xs2) (hne : e ≠ e2) (hb : Below w0.heap.size w0 wr)
    (c : Nat) {u : Value} (hx : a.eval x = .slice (some ⟨wr.heap.size, 0, none⟩) 1 c) (h1 : u.oneCell' = true) (hl : xs.length + 1 ≤ 1000000000000)
    (h : ∀ v' w', OwnV w' e w0.heap.size v' (xs ++ [u]) → OwnV w' e2 w0.heap.size v2 xs2 → Below w0.heap.size w0 w' → wpList Try.prog ops Q rest (a.put o.dst v') w') : wpList Try.prog ops Q (o :: rest) a (wr.alloc (.cells #[u] e')) := by
  refine wpList_plain hgd fun K hK => ?_
  have hb1 : Below w0.heap.size w0 (wr.alloc (.cells #[u] e')) := hb.alloc hb.size _
  obtain ⟨v', w', hrun, h2, h3, _⟩ := run_append_row (P := Try.prog) (ty := o.type) c hT (hown.alloc _) (Sl.one wr e' u) (by intro y hy; simp at hy; subst hy; exact h1) hl hb1.size
  unfold Oper.wp execOp
  simp only [ho, resolve, invoke, builtin, Sem.run_bind, Sem.run_pure, Result.andThen_ok, List.map_toArray, List.map_cons, List.map_nil, hs, hx, hrun]
  exact hK _ _ (h v' w' h2 (far (hown.alloc _) (hown2.alloc _) hne h3) (hb1.grown h3 hb1.size fun g hg => (hown.ge g hg).1))

/-- the extents, as values -/
def exs (L j : Nat) : List Value := (List.range j).map fun t => .int .i64 ((L / 8 + t : Nat) : Int)
theorem exs_len (L j : Nat) : (exs L j).length = j := by simp [exs]
theorem exs_succ (L j : Nat) : exs L (j + 1) = exs L j ++ [.int .i64 ((L / 8 + j : Nat) : Int)] := by unfold exs; rw [List.range_succ, List.map_append]; rfl
/-- the masks, as values -/
def mkv (L h j : Nat) : List Value := (mks L h j).map Oc.ov
theorem mkv_len (L h j : Nat) : (mkv L h j).length = j := by unfold mkv; rw [List.length_map, mks_len]
theorem ov_of {x : Nat} (h : x < 256) : Oc.ov (UInt8.ofNat x) = .int .u8 (x : Int) := by
  unfold Oc.ov
  rw [show (UInt8.ofNat x).toNat = x by simp; omega]
theorem mkv_succ (L h j : Nat) : mkv L h (j + 1) = mkv L h j ++ [.int .u8 ((mk L h (L / 8 + j) : Nat) : Int)] := by
  unfold mkv mks
  rw [List.range_succ, List.map_append, List.map_append]
  simp only [List.map_cons, List.map_nil]
  rw [ov_of (mk_lt _ _ _)]

theorem wrap_mask {T F : Nat} (h : F < T) (h8 : T ≤ 8) : IntKind.u8.wrap (IntKind.u8.wrap (2 ^ T) - IntKind.u8.wrap (2 ^ F)) = ((2 ^ T - 2 ^ F : Nat) : Int) := by
  have e1 : (2 : Int) ^ T = ((2 ^ T : Nat) : Int) := by simp
  have e2 : (2 : Int) ^ F = ((2 ^ F : Nat) : Int) := by simp
  have l1 : 2 ^ F < 2 ^ T := Nat.pow_lt_pow_right (by decide) h
  have l2 : 2 ^ T ≤ 2 ^ 8 := Nat.pow_le_pow_right (by decide) h8
  have l3 : 1 ≤ 2 ^ F := Nat.one_le_two_pow
  rw [e1, e2]
  generalize 2 ^ T = a at *
  generalize 2 ^ F = b at *
  simp [IntKind.wrap, IntKind.bits, IntKind.signed]
  omega
set_option maxHeartbeats 4000000 in
theorem masks_any (p : Pl) (lba n : Int) (nb L : Nat) (E : Int) (h0 : p.a0 = nb) (hb : nb ≤ 512) (hL : (if lba < 0 then 0 else lba) = (L : Int)) (hE : (if (nb : Int) < sat (lba + n) then (nb : Int) else sat (lba + n)) = E) (w : World) (h1 : -9223372036854775808 ≤ lba) (h2 : lba ≤ 9223372036854775807) (h3 : -9223372036854775808 ≤ n) (h4 : n ≤ 9223372036854775807) :
    Calls Try.prog 24 #[(.agg #[.int .i64 p.a0, .int .i64 p.a1, .int .i64 p.a2, .int .i64 p.a3, .int .i64 p.a4, .int .i64 p.a5, .int .i64 p.a6, .int .i64 p.a7, .int .i64 p.a8, .int .i64 p.a9, .int .i64 p.a10, .int .i64 p.a11, .int .i64 p.a12]), .int .i64 lba, .int .i64 n] w fun e w' => ∃ v1 v2, e = .returned (.tuple #[v1, v2]) ∧ OwnV w' 3 w.heap.size v1 (exs L (cnt L E.toNat)) ∧ OwnV w' 5 w.heap.size v2 (mkv L E.toNat (cnt L E.toNat)) ∧ Below w.heap.size w w' := by
  have H0 := Lib.hid h0
  have hEn : E ≤ nb := by split at hE <;> omega
  clear h0
  go_enter Try.func24, Try.ntmps24
  go_wp2_with fail
  have Z := Lib.hid (balloc w (.cells #[.int .i64 p.a0, .int .i64 p.a1, .int .i64 p.a2, .int .i64 p.a3, .int .i64 p.a4, .int .i64 p.a5, .int .i64 p.a6, .int .i64 p.a7, .int .i64 p.a8, .int .i64 p.a9, .int .i64 p.a10, .int .i64 p.a11, .int .i64 p.a12] 32))
  have Y0 : Hid (∀ wr, Below (w.alloc (.cells #[.int .i64 p.a0, .int .i64 p.a1, .int .i64 p.a2, .int .i64 p.a3, .int .i64 p.a4, .int .i64 p.a5, .int .i64 p.a6, .int .i64 p.a7, .int .i64 p.a8, .int .i64 p.a9, .int .i64 p.a10, .int .i64 p.a11, .int .i64 p.a12] 32)).heap.size (w.alloc (.cells #[.int .i64 p.a0, .int .i64 p.a1, .int .i64 p.a2, .int .i64 p.a3, .int .i64 p.a4, .int .i64 p.a5, .int .i64 p.a6, .int .i64 p.a7, .int .i64 p.a8, .int .i64 p.a9, .int .i64 p.a10, .int .i64 p.a11, .int .i64 p.a12] 32)) wr → wr.heap[w.heap.size]? = some (.cells #[.int .i64 p.a0, .int .i64 p.a1, .int .i64 p.a2, .int .i64 p.a3, .int .i64 p.a4, .int .i64 p.a5, .int .i64 p.a6, .int .i64 p.a7, .int .i64 p.a8, .int .i64 p.a9, .int .i64 p.a10, .int .i64 p.a11, .int .i64 p.a12] 32 (0, 0))) := fun wr b => (b.block _ (lt1 _ _)).trans (heap_alloc_new _ _)
  generalize w.alloc (.cells #[.int .i64 p.a0, .int .i64 p.a1, .int .i64 p.a2, .int .i64 p.a3, .int .i64 p.a4, .int .i64 p.a5, .int .i64 p.a6, .int .i64 p.a7, .int .i64 p.a8, .int .i64 p.a9, .int .i64 p.a10, .int .i64 p.a11, .int .i64 p.a12] 32) = w0 at Z Y0 ⊢
  have y0 : w0.cell? ⟨w.heap.size, 0, none⟩ = some (.int .i64 (nb : Int)) := by rw [← H0.out]; exact heap_cell (Y0.out _ (Below.refl _ _)) rfl
  go_region_held (fun w' => w'.cell? ⟨w.heap.size, 0, none⟩ = some (.int .i64 (nb : Int))) (first | go_keep) (first | (go_at_call 35; (with_reducible refine (add_any _ _ _ h1 h2 h3 h4).mono ?_); rintro e w' ⟨rfl, rfl⟩))
  go_wp2
  have HL := Lib.hid hL
  have HE := Lib.hid hE
  clear hL hE y0
  go_loopw [9, 10, 11] (fun v1 v2 q wr => ∃ j : Nat, j ≤ cnt L E.toNat ∧ q = .int .i64 ((pos L j : Nat) : Int) ∧ Hid (OwnV wr 3 w0.heap.size v1 (exs L j)) ∧ Hid (OwnV wr 5 w0.heap.size v2 (mkv L E.toNat j)) ∧ Hid (Below w0.heap.size w0 wr)) (fun _ _ q _ => (E - intOf q).toNat)
  case atStart => exact ⟨0, by omega, rfl, OwnV.nil _ _ _, OwnV.nil _ _ _, (Below.refl _ _).drew⟩
  case round =>
    obtain ⟨j, hj, rfl, O1, O2, BJ⟩ := hrel
    by_cases hlt : j < cnt L E.toNat
    · have hp := (pos_lt (L := L) (h := E.toNat) (j := j)).2 hlt
      obtain ⟨d1, d2⟩ := pos_div L j
      obtain ⟨P, hP⟩ : ∃ P, pos L j = P := ⟨_, rfl⟩
      obtain ⟨X, hX⟩ : ∃ X, L / 8 + j = X := ⟨_, rfl⟩
      obtain ⟨F, hF⟩ : ∃ F, L - 8 * X = F := ⟨_, rfl⟩
      rw [hP] at hp d1 d2
      rw [hX] at d1 d2
      rw [hF] at d2
      obtain ⟨T, hT⟩ : ∃ T : Nat, (if E - (X : Int) * 8 < 8 then E - (X : Int) * 8 else 8) = (T : Int) := ⟨(min 8 (E - (X : Int) * 8)).toNat, by split <;> omega⟩
      have hT1 : 1 ≤ T ∧ T ≤ 8 := by split at hT <;> omega
      have hTm : min 8 (E.toNat - 8 * X) = T := by split at hT <;> omega
      have hFT : F < T := by omega
      have hF8 : F ≤ 7 := by omega
      have EX := Lib.hid (fun w => (extent_yes p P w (by omega) (by rw [H0.out]; omega) (by omega)).mono (R' := fun e w' => e = .returned (.tuple #[.int .i64 (X : Int), .int .i64 (F : Int), .bool true]) ∧ Below w.heap.size w w') fun e w' h => ⟨h.1.trans (by rw [show (P : Int) / 8 = (X : Int) by omega, show (P : Int) % 8 = (F : Int) by omega]), h.2⟩)
      rw [hP]
      have hPE : (P : Int) < E := by omega
      have hPX : X ≤ 64 := by omega
      have hj5 : j ≤ 512 := by have := cnt_le (L := L) (i := E.toNat); omega
      have HP := Lib.hid hP
      have HX := Lib.hid hX
      have HF := Lib.hid hF
      have HTM := Lib.hid hTm
      have D1 := Lib.hid d1
      clear hP hX hF hTm hp d1 d2
      go_wp2_with ((with_reducible apply L_loadMap); exact rfl; exact Y0.out _ BJ.out; exact rfl)
      refine (EX.out _).mono ?_; rintro e w1 ⟨rfl, b1⟩
      have O11 := Lib.hid (O1.out.below b1)
      have O12 := Lib.hid (O2.out.below b1)
      have B1 : Hid (Below w0.heap.size w0 w1) := bthen BJ.out b1
      clear b1 O1 O2 BJ
      go_wp2_with (at_builtin; refine wpList_append_two rfl _ _ 56 rfl it rfl O11.out O12.out (by decide) B1.out _ rfl rfl (by rw [exs_len]; omega) ?_; intro v3 w2 o1 o2 b2; have O21 := Lib.hid o1; have O22 := Lib.hid o2; have B2 := Lib.hid b2; clear o1 o2 b2)
      go_region_law (refine step_append_two (by rfl) _ _ 57 (by rfl) bt8 (w0 := w0) (by rfl) O22.out.drew O21.out.drew (by decide) B2.out.drew _ (by rfl) (by rfl) (by rw [mkv_len]; omega) ?_; intro v4 w3 o2 o1 b3; have O32 := Lib.hid o2; have O31 := Lib.hid o1; have B3 := Lib.hid b3; clear o1 o2 b3)
      go_wp2
      refine ⟨⟨j + 1, by omega, ?_, ?_, ?_, B3⟩, ?_⟩
      · rw [show ((X : Int) + 1) * 8 = ((pos L (j + 1) : Nat) : Int) by unfold pos; rw [if_neg (by omega)]; have := HX.out; omega]
      · show OwnV _ _ _ _ _
        rw [exs_succ, HX.out]
        exact O31.out
      · show OwnV _ _ _ _ _
        rw [mkv_succ, HX.out, show mk L E.toNat X = 2 ^ T - 2 ^ F by unfold mk; rw [HTM.out, HF.out], ← wrap_mask hFT hT1.2]
        exact O32.out
      · simp only [intOf]
        have := D1.out
        omega
    · have hp : ¬ pos L j < E.toNat := fun h => hlt (pos_lt.1 h)
      have : j = cnt L E.toNat := by omega
      have hp2 : ¬ ((pos L j : Nat) : Int) < E := by omega
      have HJ := Lib.hid this
      clear this
      go_wp2
      go_ret2
      exact ⟨_, _, rfl, by rw [← HJ.out]; exact O1.out.more Z.out.size, by rw [← HJ.out]; exact O2.out.more Z.out.size, bthen Z.out BJ.out⟩
end Go.Proofs.Ytpaakakkcbahcaa.W
