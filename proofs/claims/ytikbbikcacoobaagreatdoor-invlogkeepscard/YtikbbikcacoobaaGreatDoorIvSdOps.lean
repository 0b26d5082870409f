/-
  A device with a log, without the document's: what it is asked, and what it answers. Logs and records beside it. No conditions.
-/
import Derived.Test.YtikbbikcacoobaaGreatDoorIvInv
namespace Go.Proofs.YtikbbikcacoobaaGreatDoor.Pd.Iv
open Go.RowKit Oc Dm W Dw Sr Gt
set_option linter.unusedVariables false
set_option maxRecDepth 100000

/-- a log beside the device's blocks, and the records that were read with it -/
structure Lr (w : World) (F : Nat → Prop) (p : Pn.Pl) (D T : Nat) (g : Lg) (A : Option Addr) (L : List Rc) : Prop where
  lg : LgAt w 101 T D p g
  rs : Rs w A L.length L
  nT : ¬ F T
  nA : ∀ b off, 0 < L.length → A = some ⟨b, off, none⟩ → ¬ F b
section
variable {w0 w w' : World} {P n N N' pw D q E t T la lg f ep B : Nat} {p : Pn.Pl} {U A : Option Addr} {F G : Nat → Prop} {m m' : Vs} {g g' : Lg} {L : List Rc} {c : Int}
theorem Rs.kept (h : Rs w A L.length L) (hc : Chg F w w') (hA : ∀ b off, 0 < L.length → A = some ⟨b, off, none⟩ → ¬ F b) : Rs w' A L.length L :=
  ⟨h.1, fun h0 => by
    obtain ⟨b, off, e, hx⟩ := h.2 h0
    refine ⟨b, off, e, fun i r hr j u hu => ?_⟩
    have cx := hx i r hr j u hu
    exact (World.cell?_of_block (a := ⟨b, off + i * 5 + j, none⟩) (hc.block b (World.block_lt_of_cell? w _ cx) (hA b off h0 e))).trans cx⟩
theorem Lr.kept (h : Lr w F p D T g A L) (hc : Chg F w w') : Lr w' F p D T g A L := ⟨h.lg.kept hc h.nT, h.rs.kept hc h.nA, h.nT, h.nA⟩
theorem Lr.below (h : Lr w F p D T g A L) (hb : Below w.heap.size w w') : Lr w' F p D T g A L := ⟨h.lg.below hb, h.rs.below hb, h.nT, h.nA⟩
theorem Sd.fail0 (h : Sd w0 P p n N pw D q E t U F m g w) :
    Calls Tryz.prog 24 #[.pointer (some ⟨D, 0, none⟩), .int .u64 0, .int .u64 0] w fun e w' => e = .returned (.tuple #[]) ∧ ∃ F', Sd w0 P p n N pw D q E t U F' { m with rd := 0, wr := 0 } g w' := by
  obtain ⟨fx, a, b, gg, x⟩ := h.pd.dv
  refine (fail_any x 0 0 (by decide) (by decide)).mono fun e w' ⟨e1, e2, e3⟩ => ⟨e1, ?_⟩
  exact ⟨_, (h.turn0 (m' := { m with rd := 0, wr := 0 }) ⟨h.pd.pw.heap (e3.block pw h.pd.pw.lt h.pd.np), e2, ext_np (w1 := w) h.pd rfl, h.pd.hs, h.pd.hN⟩ (e3.mono (fun _ _ y => .inl y))).1⟩
theorem Sd.first (h : Sd w0 P p n N pw D q E t U F m g w) : Calls Tryz.prog 15 #[.pointer (some ⟨t, 0, none⟩)] w fun e w' => e = .returned (.int .u64 (g.f : Int)) ∧ w = w' := first_any h.lg
theorem Sd.next (h : Sd w0 P p n N pw D q E t U F m g w) : Calls Tryz.prog 11 #[.pointer (some ⟨t, 0, none⟩)] w fun e w' => e = .returned (.int .u64 (g.nx : Int)) ∧ w = w' := next_any h.lg
theorem Sd.epoch (h : Sd w0 P p n N pw D q E t U F m g w) : Calls Tryz.prog 12 #[.pointer (some ⟨t, 0, none⟩)] w fun e w' => e = .returned (.int .u64 (g.ep : Int)) ∧ w = w' := epoch_any h.lg
/-- a log opened on it -/
theorem Sd.open_yes (h : Sd w0 P p n N pw D q E t U F m g w) (he : Env w0) (hp : Pln p la lg n) (ho : m.s.off = false) (hf : f ≤ most) (hep : ep ≤ most) (hL : rdl la lg ep lg f 0 m = (L, m)) :
    Calls Tryz.prog 22 #[.pointer (some ⟨D, 0, none⟩), (.agg #[.int .i64 p.a0, .int .i64 p.a1, .int .i64 p.a2, .int .i64 p.a3, .int .i64 p.a4, .int .i64 p.a5, .int .i64 p.a6, .int .i64 p.a7, .int .i64 p.a8, .int .i64 p.a9, .int .i64 p.a10, .int .i64 p.a11, .int .i64 p.a12]), .int .u64 (f : Int), .int .u64 (ep : Int)] w fun e w' => ∃ T A c, e = .returned (.tuple #[.pointer (some ⟨T, 0, none⟩), .slice A L.length c, .int .i64 0]) ∧ L.length ≤ c ∧ Lr w' F p D T ⟨f, f + L.length, ep⟩ A L ∧ Sd w0 P p n N pw D q E t U F m g w' ∧ Chg F w w' := by
  obtain ⟨he1, he2⟩ := h.env he
  refine (Iv.open_yes h.pd he1 he2 hp ho hp.h12.symm hf hep (L, m) hL).mono fun e w' ⟨A, c, e1, e2, e3, e4, e5⟩ => ?_
  have hb : ∀ k, F k → k < w.heap.size := fun k x => h.pd.bound k (.inl x)
  obtain ⟨A', c', e6, e7, _⟩ := e3.form (n := L.length) (by rw [List.length_map])
  injection e6 with e6 e8 e9
  subst e6 e9
  exact ⟨_, A, c, e1, e7, ⟨e2, rs_own e3 rfl, fun x => by have := hb _ x; omega, fun b off h0 e x => by
    have := (e3.ge b (by rw [e]; rfl)).1
    have := hb b x
    omega⟩, (h.same e4 e5).1, e5⟩
theorem Sd.open_off (h : Sd w0 P p n N pw D q E t U F m g w) (hp : Pln p la lg n) (ho : m.s.off = true) (hf : f ≤ most) (hep : ep ≤ most) :
    Calls Tryz.prog 22 #[.pointer (some ⟨D, 0, none⟩), (.agg #[.int .i64 p.a0, .int .i64 p.a1, .int .i64 p.a2, .int .i64 p.a3, .int .i64 p.a4, .int .i64 p.a5, .int .i64 p.a6, .int .i64 p.a7, .int .i64 p.a8, .int .i64 p.a9, .int .i64 p.a10, .int .i64 p.a11, .int .i64 p.a12]), .int .u64 (f : Int), .int .u64 (ep : Int)] w fun e w' => e = .returned (.tuple #[.pointer none, .slice none 0 0, .int .i64 80]) ∧ Below w.heap.size w w' :=
  open_no h.pd f ep 80 (by
    unfold chk
    rw [if_neg, ho]
    · rfl
    · have := hp.h12
      have := hp.hn
      have := hp.hl
      rintro (x | x | x | x) <;> omega) (by decide)
theorem Sd.cells (h : Sd w0 P p n N pw D q E t U F m g w) : w.cell? ⟨P, 26, none⟩ = some (.pointer (some ⟨pw, 0, none⟩)) ∧ w.cell? ⟨P, 27, none⟩ = some (.pointer (some ⟨D, 0, none⟩)) ∧ w.cell? ⟨P, 28, none⟩ = some (.pointer (some ⟨t, 0, none⟩)) :=
  ⟨(h.hd.cell 26).1, (h.hd.cell 27).1, (h.hd.cell 28).1⟩
/-- the map, the device, the log: the cells that Open's arguments are loaded from -/
theorem Sd.map (h : Sd w0 P p n N pw D q E t U F m g w) : w.cell? ⟨P, 0, none⟩ = some (.int .i64 p.a0) ∧ w.cell? ⟨P, 1, none⟩ = some (.int .i64 p.a1) ∧ w.cell? ⟨P, 2, none⟩ = some (.int .i64 p.a2) ∧ w.cell? ⟨P, 3, none⟩ = some (.int .i64 p.a3) ∧ w.cell? ⟨P, 4, none⟩ = some (.int .i64 p.a4) ∧ w.cell? ⟨P, 5, none⟩ = some (.int .i64 p.a5) ∧ w.cell? ⟨P, 6, none⟩ = some (.int .i64 p.a6) ∧ w.cell? ⟨P, 7, none⟩ = some (.int .i64 p.a7) ∧ w.cell? ⟨P, 8, none⟩ = some (.int .i64 p.a8) ∧ w.cell? ⟨P, 9, none⟩ = some (.int .i64 p.a9) ∧ w.cell? ⟨P, 10, none⟩ = some (.int .i64 p.a10) ∧ w.cell? ⟨P, 11, none⟩ = some (.int .i64 p.a11) ∧ w.cell? ⟨P, 12, none⟩ = some (.int .i64 p.a12) ∧ w.cell? ⟨P, 27, none⟩ = some (.pointer (some ⟨D, 0, none⟩)) ∧ w.cell? ⟨P, 28, none⟩ = some (.pointer (some ⟨t, 0, none⟩)) := by
  refine ⟨?_, ?_, ?_, ?_, ?_, ?_, ?_, ?_, ?_, ?_, ?_, ?_, ?_, ?_, ?_⟩ <;> rw [(h.hd.cell _).1] <;> rfl
/-- a log's room, beside the device -/
theorem Lr.room (h : Lr w F p D T g A L) (hp : Pln p la lg n) (hg : GOk B lg g) : Calls Tryz.prog 25 #[.pointer (some ⟨T, 0, none⟩)] w fun e w' => e = .returned (.int .i64 (room lg g)) ∧ Below w.heap.size w w' := room_any h.lg hp hg
theorem Lr.next (h : Lr w F p D T g A L) : Calls Tryz.prog 11 #[.pointer (some ⟨T, 0, none⟩)] w fun e w' => e = .returned (.int .u64 (g.nx : Int)) ∧ w = w' := next_any h.lg
end
end Go.Proofs.YtikbbikcacoobaaGreatDoor.Pd.Iv
