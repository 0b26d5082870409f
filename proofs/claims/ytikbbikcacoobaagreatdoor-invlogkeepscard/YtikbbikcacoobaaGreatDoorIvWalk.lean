/-
  What the walks of this layer's statements share: the acts that are looked at, a pair as it begins. No conditions.
-/
import Derived.Test.YtikbbikcacoobaaGreatDoorKIo
import Derived.Test.YtikbbikcacoobaaGreatDoorIvTold
import Derived.Test.YtikbbikcacoobaaGreatDoorIvAwake
namespace Go.Proofs.YtikbbikcacoobaaGreatDoor.Pd.Iv
open Go.RowKit Oc Dm W Dw Sr Gt
set_option linter.unusedVariables false
set_option maxRecDepth 100000

theorem act_info : (Tryz.prog.info? 33).map (·.size) = some 13 := by kernel_rfl
section
variable {w0 w w' w1 : World} {P n N la lg B k c : Nat} {p : Pn.Pl} {A : Option Addr} {Z1 Z : Nat → Prop} {m1 m2 : Vs} {g : Lg} {t1 t2 : Option Lg} {L : Nat → ActV}
/-- an act loaded -/
theorem act_load (h : Acts w A k L) {i : Nat} (hi : i < k) : ∃ b off, A = some ⟨b, off, none⟩ ∧ (∀ y, Below w.heap.size w y → (Instr.loadAt 33 (.pointer (some ⟨b, off + i * 13, none⟩))).run Tryz.prog y = .ok (.agg (L i).cells.toArray) y) ∧ ActOk w (L i) := by
  obtain ⟨b, off, e, hc, hok⟩ := h i hi
  refine ⟨b, off, e, fun y hy => run_load_cells Tryz.underlying33 rfl act_info rfl fun j v hv => ?_, hok⟩
  have c := hc j v hv
  rw [hy.cell (p := ⟨b, _, none⟩) (World.block_lt_of_cell? w _ c)]
  exact c
theorem St.kp (h : St w0 P p n N m1 m2 t1 t2 w1 Z1 w) : ∃ Z, Kp' w1 P Z1 w Z := by
  obtain ⟨pw, D, q, E, T, U, F, G, H1, H2, r, h2, kk⟩ := h
  exact ⟨_, kk⟩
theorem St.bel (h : St w0 P p n N m1 m2 t1 t2 w1 Z1 w) : Below w0.heap.size w0 w := by
  obtain ⟨pw, D, q, E, T, U, F, G, H1, H2, r, h2, kk⟩ := h
  exact r.bel
theorem st_told (h : St w0 P p n N m1 m2 (some g) (some g) w1 Z1 w) (hp : Pln p la lg n) (hg : GOk B lg g) :
    Calls Tryz.prog 8 #[.pointer (some ⟨P, 0, none⟩)] w fun e w' => e = .returned (.bool true) ∧ Below w.heap.size w w' := by
  obtain ⟨pw, D, q, E, T, U, F, G, H1, H2, r, h2, kk⟩ := h
  exact told_any r h2 hp hg
/-- a plan of so many sectors -/
theorem pln_any (x : Nat) (hx : x ≤ 255) (c : Pn.Cf) (hc : c = Pn.cfOf (1 + (0 : Int) % 512) (1 + (0 : Int) % 192) (1 + (x : Int) % 256)) (p : Pn.Pl) (hp : p = Pn.planOf c.c0 c.c1 c.c2) : Pln p 4 (1 + x) (7 + x) := by
  have e : p = Pn.planOf 1 1 (1 + (x : Int)) := by
    rw [hp, hc]
    show Pn.planOf (1 + (0 : Int) % 512) (1 + (0 : Int) % 192) (1 + (x : Int) % 256) = _
    rw [show (x : Int) % 256 = (x : Int) by omega]
    rfl
  rw [e]
  exact pln_plan x hx
/-- begin, for some plan -/
theorem begin_some (x : Nat) (hx : x ≤ 255) (f : Nat) (hf : f ≤ 65535) (w : World) (he : Env w) : ∃ p la lg n, Pln p la lg n ∧ Calls Tryz.prog 6 #[.int .u16 (x : Int), .int .u64 (f : Int)] w fun e w' => ∃ P, e = .returned (.tuple #[.pointer (some ⟨P, 0, none⟩), .bool true]) ∧ St w P p n 0 m00 m00 (some ⟨f, f, 0⟩) (some ⟨f, f, 0⟩) w (fun b => w.heap.size ≤ b) w' := by
  obtain ⟨c, hc⟩ : ∃ c, c = Pn.cfOf (1 + (0 : Int) % 512) (1 + (0 : Int) % 192) (1 + (x : Int) % 256) := ⟨_, rfl⟩
  obtain ⟨p, hp⟩ : ∃ p, p = Pn.planOf c.c0 c.c1 c.c2 := ⟨_, rfl⟩
  have hP := pln_any x hx c hc p hp
  refine ⟨p, _, _, _, hP, (begin_any x hx f hf c hc p hp _ _ _ hP w he).mono ?_⟩
  rintro e w' ⟨P, pw, D, q, E, T, U, e1, ⟨F, G, H1, H2, r⟩, h2⟩
  refine ⟨P, e1, pw, D, q, E, some ⟨T, 0, none⟩, some ⟨U, 0, none⟩, F, G, H1, H2, r, h2, ?_⟩
  exact ⟨r.bel.size, fun b hb _ => ⟨r.bel.block b hb, fun y => by
    rcases y with y | y
    · have := (r.ubound y).1; omega
    · have := r.lt.2; omega⟩⟩
theorem gok_first {f lg : Nat} (hf : f ≤ 65535) : GOk 70000 lg ⟨f, f, 0⟩ := ⟨Nat.le_refl _, Nat.le_add_right _ _, by show f ≤ 70000; omega, Nat.zero_le _, by decide⟩
end
end Go.Proofs.YtikbbikcacoobaaGreatDoor.Pd.Iv
