/-
  Elder texts, one behind the other: HdNum, HdMem, HdMay, HdPut. No conditions.
-/
import Derived.Test.YtapklelkcicjlaaGreatDoorKPage
import Derived.Test.YtapklelkcicjlaaGreatDoorKRow
import Derived.Deep.QuietTactic
import Derived.BigQuiet
import Derived.Laws.Tables
import Derived.Laws.ResultCell
import Derived.Laws.Rows
import Derived.Deep.CutRange
import Derived.Deep.CutBlock
/-! Heads of slots: plain facts on which octets are one. No conditions. -/
namespace Go.Proofs.YtapklelkcicjlaaGreatDoor.W.Hd
set_option maxRecDepth 100000
open Go.RowKit Oc
set_option linter.unusedVariables false

/-- a head: whether it is used, its block, its generation, its sum, its wear -/
structure Hd where
  u : Bool
  l : Int
  g : Nat
  s : UInt32
  r : UInt32
/-- the head of zeros -/
def zr : Hd := ⟨false, 0, 0, 0, 0⟩
abbrev isG (n : Nat) : Prop := 1 ≤ n ∧ n ≤ 4611686018427387904
/-- may a head be? -/
def MayBe (p : Hd) : Prop := (p.u = true ∧ (0 ≤ p.l ∧ p.l < 65536) ∧ isG p.g) ∨ (p.u = false ∧ p.l = 0 ∧ p.g = 0 ∧ p.s.toNat = 0)
/-- a bool as a number -/
def ub (b : Bool) : Nat := cond b 1 0
theorem ub_lt (b : Bool) : ub b < 2 := by cases b <;> decide
/-- a head's payload -/
def pay (p : Hd) : List UInt8 := octs (ub p.u) 1 ++ octs p.l.toNat 2 ++ octs p.g 8 ++ octs p.s.toNat 4 ++ octs p.r.toNat 4
theorem pay_length (p : Hd) : (pay p).length = 19 := by simp [pay, octs_length]
/-- what stands in a payload -/
def dec (ps : List UInt8) : Hd := ⟨decide (num (ps.take 1) = 1), (num ((ps.drop 1).take 2) : Int), num ((ps.drop 3).take 8), UInt32.ofNat (num ((ps.drop 11).take 4)), UInt32.ofNat (num ((ps.drop 15).take 4))⟩
theorem octs_num (xs : List UInt8) : octs (num xs) xs.length = xs := by
  induction xs with
  | nil => rfl
  | cons x xs ih =>
    have hx := x.toNat_lt
    show UInt8.ofNat (x.toNat + 256 * num xs) :: octs ((x.toNat + 256 * num xs) / 256) xs.length = x :: xs
    rw [show (x.toNat + 256 * num xs) / 256 = num xs by omega, ih]
    congr 1
    apply UInt8.toNat_inj.1
    simp
theorem octs_num' {xs : List UInt8} {k : Nat} (h : xs.length = k) : octs (num xs) k = xs := by subst h; exact octs_num xs
theorem num_lt_of {xs : List UInt8} {k : Nat} (h : xs.length = k) : num xs < 256 ^ k := by subst h; exact num_lt xs
theorem may_l {p : Hd} (h : MayBe p) : 0 ≤ p.l ∧ p.l < 65536 := by
  rcases h with ⟨_, h, _⟩ | ⟨_, h, _⟩
  · exact h
  · omega
theorem may_g {p : Hd} (h : MayBe p) : p.g ≤ 4611686018427387904 := by
  rcases h with ⟨_, _, h⟩ | ⟨_, _, h, _⟩
  · exact h.2
  · omega
theorem s_lt (x : UInt32) : x.toNat < 4294967296 := x.toNat_lt
/-- what is put is got -/
theorem dec_pay {p : Hd} (h : MayBe p) (zs : List UInt8) : dec (pay p ++ zs) = p := by
  have hl := may_l h
  have hg := may_g h
  obtain ⟨u, l, g, s, r⟩ := p
  dsimp only at hl hg
  have hs := s_lt s
  have hr := s_lt r
  have l1 := octs_length (ub u) 1
  have l2 := octs_length l.toNat 2
  have l3 := octs_length g 8
  have l4 := octs_length s.toNat 4
  have l5 := octs_length r.toNat 4
  unfold dec pay
  dsimp only
  have e1 : (octs (ub u) 1 ++ octs l.toNat 2 ++ octs g 8 ++ octs s.toNat 4 ++ octs r.toNat 4 ++ zs).take 1 = octs (ub u) 1 := by
    simp only [List.append_assoc]
    rw [List.take_append_of_le_length (by omega), List.take_of_length_le (by omega)]
  have e2 : ((octs (ub u) 1 ++ octs l.toNat 2 ++ octs g 8 ++ octs s.toNat 4 ++ octs r.toNat 4 ++ zs).drop 1).take 2 = octs l.toNat 2 := by
    simp only [List.append_assoc]
    rw [List.drop_left' l1, List.take_append_of_le_length (by omega), List.take_of_length_le (by omega)]
  have e3 : ((octs (ub u) 1 ++ octs l.toNat 2 ++ octs g 8 ++ octs s.toNat 4 ++ octs r.toNat 4 ++ zs).drop 3).take 8 = octs g 8 := by
    rw [show 3 = 1 + 2 from rfl, ← List.drop_drop]
    simp only [List.append_assoc]
    rw [List.drop_left' l1, List.drop_left' l2, List.take_append_of_le_length (by omega), List.take_of_length_le (by omega)]
  have e4 : ((octs (ub u) 1 ++ octs l.toNat 2 ++ octs g 8 ++ octs s.toNat 4 ++ octs r.toNat 4 ++ zs).drop 11).take 4 = octs s.toNat 4 := by
    rw [show 11 = 1 + 2 + 8 from rfl, ← List.drop_drop, ← List.drop_drop]
    simp only [List.append_assoc]
    rw [List.drop_left' l1, List.drop_left' l2, List.drop_left' l3, List.take_append_of_le_length (by omega), List.take_of_length_le (by omega)]
  have e5 : ((octs (ub u) 1 ++ octs l.toNat 2 ++ octs g 8 ++ octs s.toNat 4 ++ octs r.toNat 4 ++ zs).drop 15).take 4 = octs r.toNat 4 := by
    rw [show 15 = 1 + 2 + 8 + 4 from rfl, ← List.drop_drop, ← List.drop_drop, ← List.drop_drop]
    simp only [List.append_assoc]
    rw [List.drop_left' l1, List.drop_left' l2, List.drop_left' l3, List.drop_left' l4, List.take_append_of_le_length (by omega), List.take_of_length_le (by omega)]
  rw [e1, e2, e3, e4, e5]
  have e6 : num (octs l.toNat 2) = l.toNat := by rw [num_octs]; exact Nat.mod_eq_of_lt (by omega)
  have e7 : num (octs (ub u) 1) = ub u := by rw [num_octs]; exact Nat.mod_eq_of_lt (by have := ub_lt u; omega)
  have e8 : num (octs g 8) = g := by rw [num_octs]; exact Nat.mod_eq_of_lt (by omega)
  have e9 : num (octs s.toNat 4) = s.toNat := by rw [num_octs]; exact Nat.mod_eq_of_lt (by omega)
  have e10 : num (octs r.toNat 4) = r.toNat := by rw [num_octs]; exact Nat.mod_eq_of_lt (by omega)
  have f1 : decide (ub u = 1) = u := by cases u <;> rfl
  have f2 : ((l.toNat : Nat) : Int) = l := by omega
  rw [e6, e7, e8, e9, e10, f1, f2, UInt32.ofNat_toNat, UInt32.ofNat_toNat]

theorem r3 : Right ((3 : Nat) : Int) := by unfold Right; omega
/-- a head's sector -/
def sect (p : Hd) : List UInt8 := sealed (body 3 (pay p))
theorem pay_fits (p : Hd) : (pay p).length ≤ 58 := by rw [pay_length]; omega
theorem sect_length (p : Hd) : (sect p).length = 64 := (page_facts (k := 3) r3 (pay_fits p)).1
theorem sect_get (p : Hd) : getE (sect p) 3 = 0 := page_get (k := 3) r3 (pay_fits p)
theorem sect_got (p : Hd) : getL (sect p) 3 = pay p ++ List.replicate 39 0 := by
  have h := page_got (k := 3) r3 (ps := pay p) (pay_fits p)
  rw [pay_length] at h
  exact h
theorem get58 {ys : List UInt8} {k : Int} (h : getE ys k = 0) : (getL ys k).length = 58 := by
  obtain ⟨h1, h2, _⟩ := getE_zero h
  rw [getL_ok h, List.length_drop, openL_length h1 h2]

/-- what a call that gets a head tells of a sector: the head, and the error -/
def GWay (ys : List UInt8) (p : Hd) (E : Int) : Prop :=
  (getE ys 3 ≠ 0 ∧ E = getE ys 3 ∧ p = zr) ∨ (getE ys 3 = 0 ∧ E = 31 ∧ p = zr ∧ ¬ MayBe (dec (getL ys 3))) ∨ (getE ys 3 = 0 ∧ E = 31 ∧ p = zr ∧ MayBe (dec (getL ys 3)) ∧ ¬ sect (dec (getL ys 3)) = ys) ∨
    (getE ys 3 = 0 ∧ E = 0 ∧ p = dec (getL ys 3) ∧ MayBe p ∧ sect p = ys)
theorem gway_some (ys : List UInt8) : ∃ p E, GWay ys p E := by
  by_cases h : getE ys 3 = 0
  · by_cases h2 : MayBe (dec (getL ys 3))
    · by_cases hb : sect (dec (getL ys 3)) = ys
      · exact ⟨_, 0, .inr (.inr (.inr ⟨h, rfl, rfl, h2, hb⟩))⟩
      · exact ⟨zr, 31, .inr (.inr (.inl ⟨h, rfl, rfl, h2, hb⟩))⟩
    · exact ⟨zr, 31, .inr (.inl ⟨h, rfl, rfl, h2⟩)⟩
  · exact ⟨zr, _, .inl ⟨h, rfl, rfl⟩⟩
theorem gway_facts {ys : List UInt8} {p : Hd} {E : Int} (h : GWay ys p E) : (E ≠ 0 ∧ p = zr) ∨ (E = 0 ∧ MayBe p ∧ sect p = ys) := by
  rcases h with ⟨h1, h2, h3⟩ | ⟨h1, h2, h3, _⟩ | ⟨h1, h2, h3, _⟩ | ⟨h1, h2, h3, h4, h5⟩
  · exact .inl ⟨by rw [h2]; exact h1, h3⟩
  · exact .inl ⟨by rw [h2]; decide, h3⟩
  · exact .inl ⟨by rw [h2]; decide, h3⟩
  · exact .inr ⟨h2, h4, h5⟩
theorem way_own {p : Hd} (h : MayBe p) : GWay (sect p) p 0 := by
  have e : dec (getL (sect p) 3) = p := by rw [sect_got, dec_pay h]
  exact .inr (.inr (.inr ⟨sect_get p, rfl, e.symm, h, rfl⟩))
theorem way_rot (p : Hd) (at_ T : Nat) (h : ¬ sect p = turned (sect p) at_ T 32) : GWay (turned (sect p) at_ T 32) zr 40 := by
  have h1 := (page_rots (k := 3) (ps := pay p) (pay_fits p) at_ T h 3).1
  exact .inl ⟨by rw [sect, h1]; decide, by rw [sect, h1], rfl⟩
theorem way_nil : GWay [] zr 30 := .inl ⟨by decide, by decide, rfl⟩
end Go.Proofs.YtapklelkcicjlaaGreatDoor.W.Hd

/-! Heads of slots in memory: loads and stores of a whole head; the table of widths; contracts of few, Free, Of, Matches and of the reference's Of and Matches. No conditions. -/
namespace Go.Proofs.YtapklelkcicjlaaGreatDoor.W.Hd
set_option maxRecDepth 100000
open Go.RowKit Oc Gt
set_option linter.unusedVariables false

theorem info_hd : (Tryz.prog.info? 32).map (·.size) = some 5 := by kernel_rfl
/-- a store of a whole struct -/
theorem L_storeRow {ops : Array Oper} {rest : List Oper} {a : Act} {w : World} {Q : Exit → Act → World → Prop} {dst : Option Tmp} {ty : TypeId} {pos : String} {af : Array Edge} {x y : Operand} {g N : Nat} {T t : TypeId} {cs old : Array Value}
    (hi : (Tryz.prog.info? T).map (·.size) = some N) (hx : a.eval x = .pointer (some ⟨g, 0, none⟩)) (hy : a.eval y = .agg cs) (hg : w.heap[g]? = some (.cells old t (0, 0))) (ho : old.size = N) (hc : cs.size = N) (h1 : cs.all (·.oneCell') = true)
    (hK : ∀ w', w'.heap[g]? = some (.cells cs t (0, 0)) → w.grownBy w' (some g) → wpList Tryz.prog ops Q rest (a.put dst undef) w') : wpList Tryz.prog ops Q (⟨dst, .store T x y, ty, pos, af, none⟩ :: rest) a w :=
  wpList_store_row rfl T x y rfl g cs hx hy t old hg (by rw [hi, hc]) (by omega) h1
    (hK _ (setRow_heap w g old _ t _ hg) ⟨rfl, rfl, rfl, by simp, fun k _ hk => setRow_other w g k _ (fun e => hk (by rw [e]))⟩)
/-- a load of a whole head -/
theorem L_loadHd {ops : Array Oper} {rest : List Oper} {a : Act} {w : World} {Q : Exit → Act → World → Prop} {dst : Option Tmp} {ty : TypeId} {pos : String} {af : Array Edge} {x : Operand} {g : Nat} {t : TypeId} {cs : Array Value}
    (hx : a.eval x = .pointer (some ⟨g, 0, none⟩)) (hg : w.heap[g]? = some (.cells cs t (0, 0))) (hc : cs.size = 5)
    (hK : wpList Tryz.prog ops Q rest (a.put dst (.agg cs)) w) : wpList Tryz.prog ops Q (⟨dst, .load 32 x, ty, pos, af, none⟩ :: rest) a w :=
  wpList_load_row rfl 32 x rfl g hx t cs (0, 0) _ hg Tryz.underlying32 rfl (by rw [hc]; exact info_hd) hK
theorem below_up {w0 w w' : World} {B : Nat} (h : Below w0.heap.size w0 w) (hg : w.grownBy w' (some B)) (hB : w0.heap.size ≤ B) : Below w0.heap.size w0 w' := h.grown hg h.size fun g e => by injection e with e; omega
/-- a block that another's change leaves -/
theorem kept_by {w w' : World} {R B : Nat} {o : Obj} (h : w.heap[B]? = some o) (hg : w.grownBy w' (some R)) (hne : B ≠ R) : w'.heap[B]? = some o :=
  (hg.block B (Array.getElem?_eq_some_iff.1 h).1 (fun e => by injection e with e; exact hne e)).trans h
theorem kept_below {w w' : World} {B : Nat} {o : Obj} (h : w.heap[B]? = some o) (hb : Below w.heap.size w w') : w'.heap[B]? = some o := (hb.block B (Array.getElem?_eq_some_iff.1 h).1).trans h
theorem hd_new (w : World) : (w.alloc (.cells #[.bool false, .int .i64 0, .int .u64 0, .int .u32 0, .int .u32 0] 32)).heap[w.heap.size]? = some (.cells #[.bool false, .int .i64 0, .int .u64 0, .int .u32 0, .int .u32 0] 32 (0, 0)) := heap_alloc_new w _
/-- a row's cells, one by one -/
theorem cells5 {w : World} {B : Nat} {T : TypeId} {v0 v1 v2 v3 v4 : Value} (h : w.heap[B]? = some (.cells #[v0, v1, v2, v3, v4] T (0, 0))) : w.cell? ⟨B, 0, none⟩ = some v0 ∧ w.cell? ⟨B, 1, none⟩ = some v1 ∧ w.cell? ⟨B, 2, none⟩ = some v2 ∧ w.cell? ⟨B, 3, none⟩ = some v3 ∧ w.cell? ⟨B, 4, none⟩ = some v4 := by
  refine ⟨?_, ?_, ?_, ?_, ?_⟩ <;> (rw [cell_of_row _ _ _ _ _ _ h]; rfl)
/-- a struct and a number come back -/
theorem results_cell_tmp_row {fn : Func} {p u : Tmp} {ty : TypeId} (h : fn.results = #[.cell p ty, .tmp u]) (tmps : Array Value) (w : World) (g : Nat) (cs : Array Value)
    (hp : tmps.getD p undef = .pointer (some ⟨g, 0, none⟩)) (hl : (loadVar ty ⟨g, 0, none⟩).run Tryz.prog w = .ok (.agg cs) w) :
    (results fn tmps).run Tryz.prog w = .ok (.tuple #[.agg cs, tmps.getD u undef]) w := by
  rw [results_cell_tmp h, hp]
  simp [asAddr, hl, Result.andThen]
theorem exec_ld {P : Program} {o : Oper} {ev : Operand → Value} {ty : TypeId} {x : Operand} {p r : Value} {w : World} (ho : o.op = .load ty x) (hx : ev x = p) (hrun : (Instr.loadAt ty p).run P w = .ok r w) : (execOp ev o).run P w = .ok (.value r) w := by
  unfold execOp
  simp only [ho, hx, Sem.run_bind, hrun, Result.andThen_ok, Sem.run_pure]
theorem run_load5 {w : World} {b : Nat} {T : TypeId} {cs : Array Value} (hc : cs.size = 5) (hg : w.heap[b]? = some (.cells cs T (0, 0))) : (Instr.loadAt 32 (.pointer (some ⟨b, 0, none⟩))).run Tryz.prog w = .ok (.agg cs) w := by
  simp only [Instr.loadAt, Instr.sureAddr, Sem.run_bind, Sem.run_pure, Result.andThen_ok, run_loadVar_row w b T 32 _ (0, 0) _ hg Tryz.underlying32 rfl (by rw [hc]; exact info_hd)]
theorem below_drew1 {B : Nat} {a w : World} (h : Below B a w) : Below B a w.drew := ⟨h.os, h.tape, h.output, h.size, h.block⟩
theorem below_drewN {B : Nat} {a w : World} (h : Below B a w) (n : Nat) : Below B a (w.drewN n) := ⟨h.os, h.tape, h.output, h.size, h.block⟩

/-- how many octets each number takes -/
def wd (k : Nat) : Nat := [1, 2, 8, 4, 4].getD k 0
theorem wd_lt {k : Nat} (h : k < 5) : 1 ≤ wd k ∧ wd k ≤ 8 := by
  match k, h with
  | 0, _ => decide
  | 1, _ => decide
  | 2, _ => decide
  | 3, _ => decide
  | 4, _ => decide
def widArr : Array Value := #[.int .i64 1, .int .i64 2, .int .i64 8, .int .i64 4, .int .i64 4]
theorem wid_at {k : Nat} (h : k < 5) : widArr[k]? = some (.int .i64 ((wd k : Nat) : Int)) := by
  match k, h with
  | 0, _ => rfl
  | 1, _ => rfl
  | 2, _ => rfl
  | 3, _ => rfl
  | 4, _ => rfl
/-- both tables hold what the text lays -/
def EnvH (w : World) : Prop := Env w ∧ ∃ t fr, w.heap[0]? = some (.cells widArr t fr)
theorem EnvH.cell {w : World} (h : EnvH w) {k : Nat} (hk : k < 5) : w.cell? ⟨0, k, none⟩ = some (.int .i64 ((wd k : Nat) : Int)) := by
  obtain ⟨_, t, fr, hh⟩ := h
  rw [cell_of_row w _ k _ _ _ hh]
  exact wid_at hk
theorem EnvH.below {w w' : World} (h : EnvH w) (hb : Below w.heap.size w w') : EnvH w' := by
  obtain ⟨h1, t, fr, hh⟩ := h
  exact ⟨h1.below hb, t, fr, (hb.block _ (Array.getElem?_eq_some_iff.1 hh).1).trans hh⟩
theorem EnvH.alloc {w : World} (h : EnvH w) (o : Obj) : EnvH (w.alloc o) := h.below (balloc _ _)

theorem free_any (r : Int) (w : World) : Calls Tryz.prog 64 #[.int .u32 r] w fun e w' => e = .returned (.agg #[.bool false, .int .i64 0, .int .u64 0, .int .u32 0, .int .u32 r]) ∧ Below w.heap.size w w' := by
  have X := Lib.hid (hd_new w)
  go_enter Tryz.func64, Tryz.ntmps64
  go_wp2_with ((with_reducible apply L_storeRow (N := 5) info_hd); exact rfl; exact rfl; exact X.out; exact rfl; exact rfl; (simp [Value.oneCell']); intro w4 h4 g4; have H4 := Lib.hid h4; have G4 := Lib.hid g4; clear h4 g4)
  refine bodyPost_ret (results_cell_row rfl _ _ _ _ _ _ _ rfl H4.out Tryz.underlying32 rfl info_hd) rfl ?_
  exact ⟨rfl, below_up (balloc _ _) G4.out (Nat.le_refl _)⟩
/-- a sum of octets in a row that is laid just so -/
theorem sum_at (A : Option Addr) (n c : Nat) (xs : List UInt8) (s b : Nat) (y : World) (hb : b = y.heap.size) (hn : n ≤ 1000000) (ho : Oct y A n xs) (he : Env y) (hs : sum xs = s) :
    Calls Tryz.prog 107 #[.slice (some ⟨b, 0, none⟩) 1 1] (y.alloc (.cells #[.slice A n c] 57)) fun e w' => e = .returned (.int .u32 (s : Int)) ∧ y.alloc (.cells #[.slice A n c] 57) = w' := by
  subst hb
  exact sum_new A n c xs s y (by omega) ho he hs
set_option maxHeartbeats 1000000 in
/-- what Of leaves -/
theorem of_any (A : Option Addr) (n c : Nat) (xs : List UInt8) (l g r : Int) (s : Nat) (w : World) (hn : n ≤ 1000000) (ho : Oct w A n xs) (he : Env w) (hs : sum xs = s) :
    Calls Tryz.prog 59 #[.int .i64 l, .int .u64 g, .slice A n c, .int .u32 r] w fun e w' => e = .returned (.agg #[.bool true, .int .i64 l, .int .u64 g, .int .u32 (s : Int), .int .u32 r]) ∧ Below w.heap.size w w' := by
  have HO := Lib.hid ho
  have HE := Lib.hid he
  have HS := Lib.hid hs
  have X := Lib.hid (kept_below (hd_new w) (balloc _ (.cells #[.slice A n c] 57)))
  clear ho he hs
  go_enter Tryz.func59, Tryz.ntmps59
  go_wp2_with fail
  refine (sum_at _ _ _ xs s _ _ (by simp) hn (HO.out.alloc _) (HE.out.alloc _) HS.out).mono ?_; rintro e w' ⟨rfl, rfl⟩
  go_wp2_with ((with_reducible apply L_storeRow (N := 5) info_hd); exact rfl; exact rfl; exact X.out; exact rfl; exact rfl; (simp [Value.oneCell']); intro w4 h4 g4; have H4 := Lib.hid h4; have G4 := Lib.hid g4; clear h4 g4)
  refine bodyPost_ret (results_cell_row rfl _ _ _ _ _ _ _ rfl H4.out Tryz.underlying32 rfl info_hd) rfl ?_
  exact ⟨rfl, below_up (bthen (balloc _ _) (balloc _ _)) G4.out (Nat.le_refl _)⟩
set_option maxHeartbeats 1000000 in
theorem rof_any (A : Option Addr) (n c : Nat) (xs : List UInt8) (l g r : Int) (s : Nat) (w : World) (hn : n ≤ 1000000) (ho : Oct w A n xs) (hs : sum xs = s) :
    Calls Tryz.prog 91 #[.int .i64 l, .int .u64 g, .slice A n c, .int .u32 r] w fun e w' => e = .returned (.agg #[.bool true, .int .i64 l, .int .u64 g, .int .u32 (s : Int), .int .u32 r]) ∧ Below w.heap.size w w' := by
  have HO := Lib.hid ho
  have HS := Lib.hid hs
  have X := Lib.hid (hd_new w)
  clear ho hs
  go_enter Tryz.func91, Tryz.ntmps91
  go_wp2_with fail
  refine (rsum_any _ _ _ xs s _ (by omega) (HO.out.alloc _) HS.out).mono ?_; rintro e w' ⟨rfl, rfl⟩
  go_wp2_with ((with_reducible apply L_storeRow (N := 5) info_hd); exact rfl; exact rfl; exact X.out; exact rfl; exact rfl; (simp [Value.oneCell']); intro w4 h4 g4; have H4 := Lib.hid h4; have G4 := Lib.hid g4; clear h4 g4)
  refine bodyPost_ret (results_cell_row rfl _ _ _ _ _ _ _ rfl H4.out Tryz.underlying32 rfl info_hd) rfl ?_
  exact ⟨rfl, below_up (balloc _ _) G4.out (Nat.le_refl _)⟩
end Go.Proofs.YtapklelkcicjlaaGreatDoor.W.Hd

/-! Contracts of mayBe and of the reference's May, of both Matches. No conditions. -/
namespace Go.Proofs.YtapklelkcicjlaaGreatDoor.W.Hd
set_option maxRecDepth 100000
open Go.RowKit Oc Gt
set_option linter.unusedVariables false

theorem bool_of {b : Bool} {P : Prop} (h : b = true ↔ P) (hp : P) : (.returned (.bool true) : Ending) = .returned (.bool b) := by rw [h.2 hp]
theorem bool_not {b : Bool} {P : Prop} (h : b = true ↔ P) (hp : ¬ P) : (.returned (.bool false) : Ending) = .returned (.bool b) := by
  cases b
  · rfl
  · exact absurd (h.1 rfl) hp

set_option maxHeartbeats 1000000 in
theorem maybe_free (l g s r : Int) (b : Bool) (w : World) (hb : b = true ↔ (l = 0 ∧ g = 0 ∧ s = 0)) :
    Calls Tryz.prog 108 #[.agg #[.bool false, .int .i64 l, .int .u64 g, .int .u32 s, .int .u32 r]] w fun e w' => e = .returned (.bool b) ∧ Below w.heap.size w w' := by
  have HB := Lib.hid hb
  have X := Lib.hid (heap_alloc_new w (.cells #[.bool false, .int .i64 l, .int .u64 g, .int .u32 s, .int .u32 r] 32))
  clear hb
  go_enter Tryz.func108, Tryz.ntmps108
  go_upto_region 2 with fail
  obtain ⟨y, hy⟩ : ∃ y, y = w.alloc (.cells #[.bool false, .int .i64 l, .int .u64 g, .int .u32 s, .int .u32 r] 32) := ⟨_, rfl⟩
  have XY : Hid (y.heap[w.heap.size]? = some (.cells #[.bool false, .int .i64 l, .int .u64 g, .int .u32 s, .int .u32 r] 32 (0, 0))) := by show _ = _; rw [hy]; exact X.out
  have BY : Hid (Below w.heap.size w y) := by show Below _ _ _; rw [hy]; exact balloc _ _
  rw [← hy]
  clear hy X
  go_wp2_with fail
  refine gate (fun x => x.heap[w.heap.size]? = some (.cells #[.bool false, .int .i64 l, .int .u64 g, .int .u32 s, .int .u32 r] 32 (0, 0))) 5 [0, 1, 2] 3 (by kernel_rfl) (by kernel_rfl) (by kernel_rfl) rfl ?_ XY.out ?_
  · intro d v c a w h
    cases d <;> exact h
  refine yields_step (.agg #[.bool false, .int .i64 l, .int .u64 g, .int .u32 s, .int .u32 r]) rfl rfl ?_ ?_
  · intro x hS; exact exec_ld rfl (by go_simp) (run_load5 rfl hS)
  refine yields_step ?_ rfl rfl ?_ ?_
  rotate_left
  · intro x hS; go_simp; rfl
  refine yields_step (.int .u32 r) rfl rfl ?_ ?_
  · intro x hS; have c4 := (cells5 hS).2.2.2.2; go_simp
  refine Gate.next (i := 3) (by kernel_rfl) rfl rfl (fun K hK => ?_)
  go_simp
  refine (free_any r _).mono ?_; rintro e w1 ⟨rfl, b1⟩
  have X1 := Lib.hid (kept_below (w := y.drew) XY.out b1)
  have B1 : Hid (Below w.heap.size w w1) := bthen (below_drew1 BY.out) b1
  refine hK _ _ (fun _ => X1.out) ?_
  clear hK K b1
  refine Gate.next (i := 4) (by kernel_rfl) rfl rfl (fun K hK => ?_)
  have hx : (l = 0 ∧ g = 0 ∧ s = 0 ∧ b = true) ∨ (¬ l = 0 ∧ b = false) ∨ (l = 0 ∧ ¬ g = 0 ∧ b = false) ∨ (l = 0 ∧ g = 0 ∧ ¬ s = 0 ∧ b = false) := by
    have h := HB.out
    by_cases h1 : l = 0
    · by_cases h2 : g = 0
      · by_cases h3 : s = 0
        · exact .inl ⟨h1, h2, h3, h.2 ⟨h1, h2, h3⟩⟩
        · exact .inr (.inr (.inr ⟨h1, h2, h3, by cases b; rfl; exact absurd (h.1 rfl).2.2 h3⟩))
      · exact .inr (.inr (.inl ⟨h1, h2, by cases b; rfl; exact absurd (h.1 rfl).2.1 h2⟩))
    · exact .inr (.inl ⟨h1, by cases b; rfl; exact absurd (h.1 rfl).1 h1⟩)
  clear HB
  rcases hx with ⟨h1, h2, h3, rfl⟩ | ⟨h1, rfl⟩ | ⟨h1, h2, rfl⟩ | ⟨h1, h2, h3, rfl⟩
  all_goals
    go_simp
    refine hK _ _ (fun _ => X1.out) ?_
    clear hK K
    refine Gate.next (i := 5) (by kernel_rfl) rfl rfl (fun K hK => ?_)
    go_simp
    refine hK _ _ (fun h => absurd rfl h) ?_
    clear hK K
    refine Gate.done (by kernel_rfl) ?_
    go_wp2
    go_ret
    exact ⟨rfl, B1.out⟩

set_option maxHeartbeats 1000000 in
theorem maybe_used (l g s r : Int) (b : Bool) (w : World) (hb : b = true ↔ ((0 ≤ l ∧ l < 65536) ∧ (1 ≤ g ∧ g ≤ 4611686018427387904))) :
    Calls Tryz.prog 108 #[.agg #[.bool true, .int .i64 l, .int .u64 g, .int .u32 s, .int .u32 r]] w fun e w' => e = .returned (.bool b) ∧ Below w.heap.size w w' := by
  obtain ⟨B, h3⟩ : ∃ A : Int, (if l < 0 then (0 : Int) else l) = A := ⟨_, rfl⟩
  obtain ⟨A3, h4⟩ : ∃ A : Int, (if (65535 : Int) < B then (65535 : Int) else B) = A := ⟨_, rfl⟩
  obtain ⟨G, h5⟩ : ∃ A : Int, (if g < 1 then (1 : Int) else g) = A := ⟨_, rfl⟩
  obtain ⟨A4, h6⟩ : ∃ A : Int, (if (4611686018427387904 : Int) < G then (4611686018427387904 : Int) else G) = A := ⟨_, rfl⟩
  have e3 : (l = A3) ↔ (0 ≤ l ∧ l < 65536) := by rw [← h4, ← h3]; split <;> split <;> omega
  have e4 : (g = A4) ↔ (1 ≤ g ∧ g ≤ 4611686018427387904) := by rw [← h6, ← h5]; split <;> split <;> omega
  have E3 := Lib.hid e3
  have E4 := Lib.hid e4
  have HB := Lib.hid hb
  clear e3 e4 hb
  go_enter Tryz.func108, Tryz.ntmps108
  go_wp2
  all_goals go_ret
  all_goals refine ⟨?_, balloc _ _⟩
  all_goals first
    | exact bool_of HB.out ⟨E3.out.1 (by assumption), E4.out.1 (by assumption)⟩
    | exact bool_not HB.out fun k => by first | exact absurd (E3.out.2 k.1) (by assumption) | exact absurd (E4.out.2 k.2) (by assumption)

theorem maybe_any (p : Hd) (b : Bool) (w : World) (hb : b = true ↔ MayBe p) : Calls Tryz.prog 108 #[(.agg #[.bool p.u, .int .i64 p.l, .int .u64 (p.g : Int), .int .u32 (p.s.toNat : Int), .int .u32 (p.r.toNat : Int)])] w fun e w' => e = .returned (.bool b) ∧ Below w.heap.size w w' := by
  obtain ⟨u, l, g, s, r⟩ := p
  cases u
  · refine maybe_free l g s.toNat r.toNat b w (hb.trans ?_)
    unfold MayBe
    dsimp only
    constructor
    · rintro (⟨h, _⟩ | ⟨_, h1, h2, h3⟩)
      · cases h
      · omega
    · rintro ⟨h1, h2, h3⟩
      exact .inr ⟨rfl, h1, by omega, by omega⟩
  · refine maybe_used l g s.toNat r.toNat b w (hb.trans ?_)
    unfold MayBe
    dsimp only
    constructor
    · rintro (⟨_, h1, h2, h3⟩ | ⟨h, _⟩)
      · omega
      · cases h
    · rintro ⟨h1, h2, h3⟩
      exact .inl ⟨rfl, h1, by omega, by omega⟩

set_option maxHeartbeats 1000000 in
theorem rmay_free (l g s r : Int) (b : Bool) (w : World) (hb : b = true ↔ (l = 0 ∧ g = 0 ∧ s = 0)) :
    Calls Tryz.prog 90 #[.agg #[.bool false, .int .i64 l, .int .u64 g, .int .u32 s, .int .u32 r]] w fun e w' => e = .returned (.bool b) ∧ Below w.heap.size w w' := by
  have HB := Lib.hid hb
  clear hb
  by_cases h1 : l = 0
  · by_cases h2 : g = 0
    · by_cases h3 : s = 0
      · go_enter Tryz.func90, Tryz.ntmps90
        go_wp2
        go_ret
        exact ⟨bool_of HB.out ⟨h1, h2, h3⟩, balloc _ _⟩
      · have h4 : (s == 0) = false := by simpa using h3
        go_enter Tryz.func90, Tryz.ntmps90
        go_wp2
        go_ret
        exact ⟨bool_not HB.out fun k => h3 k.2.2, balloc _ _⟩
    · go_enter Tryz.func90, Tryz.ntmps90
      go_wp2
      go_ret
      exact ⟨bool_not HB.out fun k => h2 k.2.1, balloc _ _⟩
  · go_enter Tryz.func90, Tryz.ntmps90
    go_wp2
    go_ret
    exact ⟨bool_not HB.out fun k => h1 k.1, balloc _ _⟩
set_option maxHeartbeats 1000000 in
theorem rmay_used (l g s r : Int) (b : Bool) (w : World) (hb : b = true ↔ ((0 ≤ l ∧ l < 65536) ∧ (1 ≤ g ∧ g ≤ 4611686018427387904))) :
    Calls Tryz.prog 90 #[.agg #[.bool true, .int .i64 l, .int .u64 g, .int .u32 s, .int .u32 r]] w fun e w' => e = .returned (.bool b) ∧ Below w.heap.size w w' := by
  have HB := Lib.hid hb
  clear hb
  by_cases c3 : 0 ≤ l
  · by_cases c4 : l < 65536
    · by_cases c5 : 1 ≤ g
      · by_cases c6 : g ≤ 4611686018427387904
        · go_enter Tryz.func90, Tryz.ntmps90
          go_wp2
          go_ret
          exact ⟨bool_of HB.out ⟨⟨c3, c4⟩, c5, c6⟩, balloc _ _⟩
        · go_enter Tryz.func90, Tryz.ntmps90
          go_wp2
          go_ret
          exact ⟨bool_not HB.out fun k => (by have := k.1.1; have := k.1.2; have := k.2.1; have := k.2.2; omega), balloc _ _⟩
      · go_enter Tryz.func90, Tryz.ntmps90
        go_wp2
        go_ret
        exact ⟨bool_not HB.out fun k => (by have := k.1.1; have := k.1.2; have := k.2.1; have := k.2.2; omega), balloc _ _⟩
    · go_enter Tryz.func90, Tryz.ntmps90
      go_wp2
      go_ret
      exact ⟨bool_not HB.out fun k => (by have := k.1.1; have := k.1.2; have := k.2.1; have := k.2.2; omega), balloc _ _⟩
  · go_enter Tryz.func90, Tryz.ntmps90
    go_wp2
    go_ret
    exact ⟨bool_not HB.out fun k => (by have := k.1.1; have := k.1.2; have := k.2.1; have := k.2.2; omega), balloc _ _⟩
theorem rmay_any (p : Hd) (b : Bool) (w : World) (hb : b = true ↔ MayBe p) : Calls Tryz.prog 90 #[(.agg #[.bool p.u, .int .i64 p.l, .int .u64 (p.g : Int), .int .u32 (p.s.toNat : Int), .int .u32 (p.r.toNat : Int)])] w fun e w' => e = .returned (.bool b) ∧ Below w.heap.size w w' := by
  obtain ⟨u, l, g, s, r⟩ := p
  cases u
  · refine rmay_free l g s.toNat r.toNat b w (hb.trans ?_)
    unfold MayBe
    dsimp only
    constructor
    · rintro (⟨h, _⟩ | ⟨_, h1, h2, h3⟩)
      · cases h
      · omega
    · rintro ⟨h1, h2, h3⟩
      exact .inr ⟨rfl, h1, by omega, by omega⟩
  · refine rmay_used l g s.toNat r.toNat b w (hb.trans ?_)
    unfold MayBe
    dsimp only
    constructor
    · rintro (⟨_, h1, h2, h3⟩ | ⟨h, _⟩)
      · omega
      · cases h
    · rintro ⟨h1, h2, h3⟩
      exact .inl ⟨rfl, h1, by omega, by omega⟩

/-- what both Matches tell -/
def MWay (u : Bool) (l s b : Int) (z : Nat) (E : Int) : Prop := (u = false ∧ E = 4) ∨ (u = true ∧ ¬ l = b ∧ E = 4) ∨ (u = true ∧ l = b ∧ ¬ s = (z : Int) ∧ E = 40) ∨ (u = true ∧ l = b ∧ s = (z : Int) ∧ E = 0)
theorem mway_some (u : Bool) (l s b : Int) (z : Nat) : ∃ E, MWay u l s b z E := by
  cases u
  · exact ⟨4, .inl ⟨rfl, rfl⟩⟩
  · by_cases h : l = b
    · by_cases h2 : s = (z : Int)
      · exact ⟨0, .inr (.inr (.inr ⟨rfl, h, h2, rfl⟩))⟩
      · exact ⟨40, .inr (.inr (.inl ⟨rfl, h, h2, rfl⟩))⟩
    · exact ⟨4, .inr (.inl ⟨rfl, h, rfl⟩)⟩
set_option maxHeartbeats 1000000 in
theorem rmatches_any (A : Option Addr) (n c : Nat) (xs : List UInt8) (u : Bool) (l g s r b E : Int) (z : Nat) (w : World) (hn : n ≤ 1000000) (ho : Oct w A n xs) (hz : sum xs = z) (hE : MWay u l s b z E) :
    Calls Tryz.prog 96 #[.agg #[.bool u, .int .i64 l, .int .u64 g, .int .u32 s, .int .u32 r], .int .i64 b, .slice A n c] w fun e w' => e = .returned (.int .i64 E) ∧ Below w.heap.size w w' := by
  have HO := Lib.hid ho
  have HZ := Lib.hid hz
  clear ho hz
  rcases hE with ⟨rfl, rfl⟩ | ⟨rfl, h1, rfl⟩ | ⟨rfl, rfl, h2, rfl⟩ | ⟨rfl, rfl, rfl, rfl⟩
  · go_enter Tryz.func96, Tryz.ntmps96
    go_wp2
    go_ret
    exact ⟨rfl, balloc _ _⟩
  · go_enter Tryz.func96, Tryz.ntmps96
    go_wp2
    go_ret
    exact ⟨rfl, balloc _ _⟩
  · have R := Lib.hid (fun m => rsum_any A n c xs z ((w.alloc (.cells #[.bool true, .int .i64 l, .int .u64 g, .int .u32 s, .int .u32 r] 32)).drewN m) (by omega) ((HO.out.alloc _).drewN m) HZ.out)
    go_enter Tryz.func96, Tryz.ntmps96
    go_wp2_with fail
    go_quiet ((first | (exact quiet (R.out _))))
    go_wp2
    go_ret
    exact ⟨rfl, below_drewN (balloc _ _) _⟩
  · have R := Lib.hid (fun m => rsum_any A n c xs z ((w.alloc (.cells #[.bool true, .int .i64 l, .int .u64 g, .int .u32 (z : Int), .int .u32 r] 32)).drewN m) (by omega) ((HO.out.alloc _).drewN m) HZ.out)
    go_enter Tryz.func96, Tryz.ntmps96
    go_wp2_with fail
    go_quiet ((first | (exact quiet (R.out _))))
    go_wp2
    go_ret
    exact ⟨rfl, below_drewN (balloc _ _) _⟩
set_option maxHeartbeats 2000000 in
theorem matches_any (A : Option Addr) (n c : Nat) (xs : List UInt8) (u : Bool) (l g s r b E : Int) (z : Nat) (w : World) (hn : n ≤ 1000000) (ho : Oct w A n xs) (he : Env w) (hz : sum xs = z) (hE : MWay u l s b z E) :
    Calls Tryz.prog 83 #[.agg #[.bool u, .int .i64 l, .int .u64 g, .int .u32 s, .int .u32 r], .int .i64 b, .slice A n c] w fun e w' => e = .returned (.int .i64 E) ∧ Below w.heap.size w w' := by
  have HO := Lib.hid ho
  have HE := Lib.hid he
  have HZ := Lib.hid hz
  clear ho hz he
  rcases hE with ⟨rfl, rfl⟩ | ⟨rfl, h1, rfl⟩ | ⟨rfl, rfl, h2, rfl⟩ | ⟨rfl, rfl, rfl, rfl⟩
  · go_enter Tryz.func83, Tryz.ntmps83
    go_wp2
    go_ret
    exact ⟨rfl, balloc _ _⟩
  · go_enter Tryz.func83, Tryz.ntmps83
    go_wp2
    go_ret
    exact ⟨rfl, balloc _ _⟩
  · go_enter Tryz.func83, Tryz.ntmps83
    go_wp2_with fail
    go_region_with (first | (go_at_call 107; refine (sum_at A n c xs z _ (w.alloc (.cells #[.bool true, .int .i64 l, .int .u64 g, .int .u32 s, .int .u32 r] 32)).drew (by simp) (by omega) (HO.out.alloc _).drew (HE.out.alloc _) HZ.out).mono ?_; rintro e w' ⟨rfl, rfl⟩))
    all_goals go_wp2
    all_goals go_ret
    all_goals exact ⟨rfl, below_drew1 (bthen (balloc _ _) (balloc _ _))⟩
  · go_enter Tryz.func83, Tryz.ntmps83
    go_wp2_with fail
    go_region_with (first | (go_at_call 107; refine (sum_at A n c xs z _ (w.alloc (.cells #[.bool true, .int .i64 l, .int .u64 g, .int .u32 (z : Int), .int .u32 r] 32)).drew (by simp) (by omega) (HO.out.alloc _).drew (HE.out.alloc _) HZ.out).mono ?_; rintro e w' ⟨rfl, rfl⟩))
    all_goals go_wp2
    all_goals go_ret
    all_goals exact ⟨rfl, below_drew1 (bthen (balloc _ _) (balloc _ _))⟩
end Go.Proofs.YtapklelkcicjlaaGreatDoor.W.Hd

/-! The contracts of numbersOf and of Put. No conditions. -/
namespace Go.Proofs.YtapklelkcicjlaaGreatDoor.W.Hd
set_option maxRecDepth 100000
open Go.RowKit Oc Gt
set_option linter.unusedVariables false

/-- the numbers of a head -/
def nth (p : Hd) (k : Nat) : Nat := [ub p.u, p.l.toNat, p.g, p.s.toNat, p.r.toNat].getD k 0
def numArr (p : Hd) : Array Value := #[.int .u64 ((ub p.u : Nat) : Int), .int .u64 ((p.l.toNat : Nat) : Int), .int .u64 (p.g : Int), .int .u64 (p.s.toNat : Int), .int .u64 (p.r.toNat : Int)]
theorem num_at (p : Hd) {k : Nat} (h : k < 5) : (numArr p)[k]? = some (.int .u64 ((nth p k : Nat) : Int)) := by
  match k, h with
  | 0, _ => rfl
  | 1, _ => rfl
  | 2, _ => rfl
  | 3, _ => rfl
  | 4, _ => rfl
theorem nth_lt {p : Hd} (h : MayBe p) {k : Nat} (hk : k < 5) : nth p k < 18446744073709551616 := by
  have h1 := may_l h
  have h2 := may_g h
  have h3 := s_lt p.s
  have h4 := s_lt p.r
  have h5 := ub_lt p.u
  match k, hk with
  | 0, _ => show ub p.u < _; omega
  | 1, _ => show p.l.toNat < _; omega
  | 2, _ => show p.g < _; omega
  | 3, _ => show p.s.toNat < _; omega
  | 4, _ => show p.r.toNat < _; omega
/-- what the first numbers make -/
def pre (p : Hd) : Nat → List UInt8
  | 0 => []
  | k + 1 => pre p k ++ octs (nth p k) (wd k)
theorem pre_all (p : Hd) : pre p 5 = pay p := by
  show ((((([] ++ octs (ub p.u) 1) ++ octs p.l.toNat 2) ++ octs p.g 8) ++ octs p.s.toNat 4) ++ octs p.r.toNat 4) = pay p
  rw [List.nil_append]
  rfl
theorem pre_len (p : Hd) : ∀ k, k ≤ 5 → (pre p k).length ≤ 8 * k
  | 0, _ => by simp [pre]
  | k + 1, h => by
    have h1 := pre_len p k (by omega)
    have h2 := (wd_lt (k := k) (by omega)).2
    show (pre p k ++ octs (nth p k) (wd k)).length ≤ _
    rw [List.length_append, octs_length]
    omega
theorem info_five : (Tryz.prog.info? 166).map (·.size) = some 5 := by kernel_rfl
theorem row_new2 (w : World) (o : Obj) (cs : Array Value) (T : TypeId) : ((w.alloc o).alloc (.cells cs T)).heap[w.heap.size + 1]? = some (.cells cs T (0, 0)) := by
  have h := heap_alloc_new (w.alloc o) (.cells cs T)
  rw [show (w.alloc o).heap.size = w.heap.size + 1 by simp] at h
  exact h

set_option maxHeartbeats 1000000 in
theorem nums_at (u : Bool) (l g s r : Int) (w : World) (hl : IntKind.u64.wrap l = l) (hs : IntKind.u64.wrap s = s) (hr : IntKind.u64.wrap r = r) :
    Calls Tryz.prog 109 #[.agg #[.bool u, .int .i64 l, .int .u64 g, .int .u32 s, .int .u32 r]] w fun e w' => e = .returned (.agg #[.int .u64 ((ub u : Nat) : Int), .int .u64 l, .int .u64 g, .int .u64 s, .int .u64 r]) ∧ Below w.heap.size w w' := by
  have X := Lib.hid (row_new2 w (.cells #[.bool u, .int .i64 l, .int .u64 g, .int .u32 s, .int .u32 r] 32) #[.int .u64 0, .int .u64 0, .int .u64 0, .int .u64 0, .int .u64 0] 166)
  cases u
  · go_enter Tryz.func109, Tryz.ntmps109
    go_wp2_with ((with_reducible apply L_storeRow (N := 5) info_five); exact rfl; exact rfl; exact X.out; exact rfl; exact rfl; (simp [Value.oneCell']); intro w4 h4 g4; have H4 := Lib.hid h4; have G4 := Lib.hid g4; clear h4 g4)
    refine bodyPost_ret (results_cell_row rfl _ _ _ _ _ _ _ rfl H4.out Tryz.underlying166 rfl info_five) rfl ?_
    exact ⟨rfl, below_up (bthen (balloc _ _) (balloc _ _)) G4.out (by omega)⟩
  · go_enter Tryz.func109, Tryz.ntmps109
    go_wp2_with ((with_reducible apply L_storeRow (N := 5) info_five); exact rfl; exact rfl; exact X.out; exact rfl; exact rfl; (simp [Value.oneCell']); intro w4 h4 g4; have H4 := Lib.hid h4; have G4 := Lib.hid g4; clear h4 g4)
    refine bodyPost_ret (results_cell_row rfl _ _ _ _ _ _ _ rfl H4.out Tryz.underlying166 rfl info_five) rfl ?_
    exact ⟨rfl, below_up (bthen (balloc _ _) (balloc _ _)) G4.out (by omega)⟩
theorem nums_any (p : Hd) (w : World) (h : MayBe p) : Calls Tryz.prog 109 #[(.agg #[.bool p.u, .int .i64 p.l, .int .u64 (p.g : Int), .int .u32 (p.s.toNat : Int), .int .u32 (p.r.toNat : Int)])] w fun e w' => e = .returned (.agg (numArr p)) ∧ Below w.heap.size w w' := by
  have h1 := may_l h
  have h3 := s_lt p.s
  have h4 := s_lt p.r
  refine (nums_at p.u p.l p.g p.s.toNat p.r.toNat w ?_ (wrap_in (by omega)) (wrap_in (by omega))).mono ?_
  · rw [show p.l = ((p.l.toNat : Nat) : Int) by omega]; exact wrap_in (by omega)
  · rintro e w' ⟨rfl, b⟩
    refine ⟨?_, b⟩
    unfold numArr
    rw [show ((p.l.toNat : Nat) : Int) = p.l by omega]

theorem putE_pay (p : Hd) : putE 3 (pay p).length = 0 := putE_ok (k := 3) r3 (pay_fits p)
theorem putL_pay (p : Hd) : putL 3 (pay p) = sect p := putL_ok (k := 3) r3 (pay_fits p)
set_option maxHeartbeats 2000000 in
theorem hdput_no (p : Hd) (w : World) (h : ¬ MayBe p) : Calls Tryz.prog 60 #[(.agg #[.bool p.u, .int .i64 p.l, .int .u64 (p.g : Int), .int .u32 (p.s.toNat : Int), .int .u32 (p.r.toNat : Int)])] w fun e w' => e = .returned (.tuple #[.slice none 0 0, .int .i64 1]) ∧ Below w.heap.size w w' := by
  have H := Lib.hid h
  clear h
  go_enter Tryz.func60, Tryz.ntmps60
  go_wp2_with fail
  refine (maybe_any p false _ ⟨fun h => (by cases h), fun h => absurd h H.out⟩).mono ?_; rintro e w1 ⟨rfl, b1⟩
  have B1 : Hid (Below w.heap.size w w1) := bthen (balloc _ _) b1
  clear b1
  go_wp2
  go_ret2
  exact ⟨rfl, B1.out⟩

set_option maxRecDepth 100000 in
set_option maxHeartbeats 4000000 in
theorem hdput_ok (p : Hd) (w : World) (h : MayBe p) (he : EnvH w) : Calls Tryz.prog 60 #[(.agg #[.bool p.u, .int .i64 p.l, .int .u64 (p.g : Int), .int .u32 (p.s.toNat : Int), .int .u32 (p.r.toNat : Int)])] w fun e w' => ∃ v, e = .returned (.tuple #[v, .int .i64 0]) ∧ Own w' 5 w.heap.size v (sect p) ∧ Below w.heap.size w w' := by
  have H := Lib.hid h
  have HE := Lib.hid he
  clear h he
  go_enter Tryz.func60, Tryz.ntmps60
  go_wp2_with fail
  refine (maybe_any p true _ ⟨fun _ => H.out, fun _ => rfl⟩).mono ?_; rintro e w1 ⟨rfl, b1⟩
  have X1 := Lib.hid (kept_below (heap_alloc_new w (.cells #[.bool p.u, .int .i64 p.l, .int .u64 (p.g : Int), .int .u32 (p.s.toNat : Int), .int .u32 (p.r.toNat : Int)] 32)) b1)
  have B1 : Hid (Below w.heap.size w w1) := bthen (balloc _ _) b1
  clear b1
  go_wp2_with ((with_reducible apply L_loadHd); exact rfl; exact X1.out; exact rfl)
  refine (nums_any p _ H.out).mono ?_; rintro e w2 ⟨rfl, b2⟩
  have B2 : Hid (Below w.heap.size w w2) := bthen B1.out b2
  have Z2 := Lib.hid (heap_alloc_new w2 (.cells #[.int .u64 0, .int .u64 0, .int .u64 0, .int .u64 0, .int .u64 0] 166))
  have B3 : Hid (Below w.heap.size w (w2.alloc (.cells #[.int .u64 0, .int .u64 0, .int .u64 0, .int .u64 0, .int .u64 0] 166))) := bthen B2.out (balloc _ _)
  have hD : w.heap.size ≤ w2.heap.size := B2.out.size
  obtain ⟨D, hDe⟩ : ∃ D, D = w2.heap.size := ⟨_, rfl⟩
  obtain ⟨NA, hNA⟩ : ∃ a, a = numArr p := ⟨_, rfl⟩
  rw [← hDe] at Z2 hD
  rw [← hNA]
  have HNA := Lib.hid hNA
  have HDE := Lib.hid hDe
  clear hNA hDe b2
  go_wp2_with ((with_reducible apply L_storeRow (N := 5) info_five); exact rfl; exact rfl; exact HDE.out ▸ Z2.out; exact rfl; (rw [HNA.out]; exact rfl); (rw [HNA.out]; simp [numArr, Value.oneCell']); intro w4 h4 g4; have H4 := Lib.hid (HDE.out ▸ h4); have G4 := Lib.hid (HDE.out ▸ g4); clear h4 g4)
  have B4 : Hid (Below w.heap.size w w4) := below_up B3.out G4.out hD
  have E4 : Hid (EnvH w4) := HE.out.below B4.out
  clear Z2 B2 B3 X1 B1 G4
  have O4 : Hid (Own w4 5 w.heap.size (.slice none 0 0) (pre p 0)) := Own.nil _ _ _
  rw [← HDE.out]
  go_loopw [5, 12] (fun v q wr => ∃ j : Nat, j ≤ 5 ∧ q = .int .i64 (j : Int) ∧ Hid (Own wr 5 w.heap.size v (pre p j)) ∧ Hid (Below w.heap.size w wr) ∧ Hid (wr.heap[D]? = some (.cells NA 166 (0, 0)))) (fun _ q _ => 5 - (intOf q).toNat)
  case atStart => exact ⟨0, by omega, rfl, O4, B4, H4⟩
  case round =>
    obtain ⟨j, hj, rfl, OJ, BJ, HJ⟩ := hrel
    obtain ⟨n, hn⟩ : ∃ n, (pre p j).length = n := ⟨_, rfl⟩
    have hn8 : n ≤ 40 := by have := pre_len p j hj; omega
    obtain ⟨A, c, rfl, l, s⟩ := OJ.out.form hn
    have SJ := Lib.hid s
    clear s hn l
    by_cases hlt : j < 5
    · have hlt2 : (j : Int) < 5 := by omega
      obtain ⟨N, hN⟩ : ∃ N, nth p j = N := ⟨_, rfl⟩
      obtain ⟨k, hk⟩ : ∃ k, wd j = k := ⟨_, rfl⟩
      have hN64 : N < 18446744073709551616 := by rw [← hN]; exact nth_lt H.out hlt
      have hk1 : 1 ≤ k := by rw [← hk]; exact (wd_lt hlt).1
      have hk8 : k ≤ 8 := by rw [← hk]; exact (wd_lt hlt).2
      have hcell : NA[j]? = some (.int .u64 (N : Int)) := by rw [HNA.out, num_at p hlt, hN]
      have HC := Lib.hid hcell
      have HN := Lib.hid hN
      have HK := Lib.hid hk
      have EJ : Hid (EnvH wr) := HE.out.below BJ.out
      clear hcell hN hk
      have hgl : 0 < wr.heap.size := by obtain ⟨_, t, fr, hh⟩ := EJ.out; exact (Array.getElem?_eq_some_iff.1 hh).1
      obtain ⟨y0, hy0⟩ : ∃ y, y = wr.drew := ⟨_, rfl⟩
      have ES : Hid (EnvH y0) := by show EnvH _; rw [hy0]; exact EJ.out
      have HS : Hid (y0.heap[D]? = some (.cells NA 166 (0, 0))) := by show _ = _; rw [hy0]; exact HJ.out
      have SS : Hid (Oct y0 A n (pre p j)) := by show Oct _ _ _ _; rw [hy0]; exact SJ.out.drew
      have BS : Hid (Below w.heap.size w y0) := by show Below _ _ _; rw [hy0]; exact below_drew1 BJ.out
      go_upto_region 8 with fail
      go_wp2_with fail
      refine gate (fun x => x.heap[D]? = some (.cells NA 166 (0, 0)) ∧ EnvH x) 8 [0, 1, 2, 3, 4, 5, 6] 2 (by kernel_rfl) (by kernel_rfl) (by kernel_rfl) rfl ?_ ⟨HJ.out, EJ.out⟩ ?_
      · intro d v c a w h
        cases d <;> exact h
      rw [← hy0]
      clear hy0 SJ OJ BJ HJ EJ
      refine yields_step ?_ rfl rfl ?_ ?_
      rotate_left
      · intro x hS; go_simp; rfl
      refine yields_step ?_ rfl rfl ?_ ?_
      rotate_left
      · intro x hS; go_simp; rfl
      refine yields_step (.pointer (some ⟨D, j, none⟩)) rfl rfl ?_ ?_
      · intro x hS; go_simp
      refine yields_step (.int .u64 (N : Int)) rfl rfl ?_ ?_
      · intro x hS
        have hc : x.cell? ⟨D, j, none⟩ = some (.int .u64 (N : Int)) := by rw [cell_of_row _ _ _ _ _ _ hS.1]; exact HC.out
        go_simp
      refine yields_step ?_ rfl rfl ?_ ?_
      rotate_left
      · intro x hS; go_simp; rfl
      refine yields_step (.pointer (some ⟨0, j, none⟩)) rfl rfl ?_ ?_
      · intro x hS; go_simp
      refine yields_step (.int .i64 (k : Int)) rfl rfl ?_ ?_
      · intro x hS
        have hc : x.cell? ⟨0, j, none⟩ = some (.int .i64 (k : Int)) := by rw [hS.2.cell hlt, HK.out]
        go_simp
      refine Gate.next (i := 7) (by kernel_rfl) rfl rfl (fun K hK => ?_)
      go_simp
      refine (put_yes A n c (pre p j) N k y0 (by omega) SS.out hN64 hk1 hk8).mono ?_; rintro e y1 ⟨v1, rfl, o1, b⟩
      have O1 : Hid (Own y1 5 w.heap.size v1 (pre p (j + 1))) := by
        show Own _ _ _ _ (pre p j ++ octs (nth p j) (wd j))
        rw [HN.out, HK.out]
        exact o1.more BS.out.size
      have H1 := Lib.hid (kept_below HS.out b)
      have E1 : Hid (EnvH y1) := ES.out.below b
      have B1 : Hid (Below w.heap.size w y1) := bthen BS.out b
      clear b o1
      refine hK _ _ (fun _ => ⟨H1.out, E1.out⟩) ?_
      clear hK K
      refine Gate.next (i := 8) (by kernel_rfl) rfl rfl (fun K hK => ?_)
      go_simp
      refine hK _ _ (fun h => absurd rfl h) ?_
      clear hK K
      refine Gate.done (by kernel_rfl) ?_
      go_wp2
      go_roundw
      case rel => exact ⟨j + 1, by omega, by go_num, O1, B1, H1⟩
      case measure => simp [intOf]; omega
    · have hj5 : j = 5 := by omega
      subst hj5
      have h19 : n = 19 := by rw [← SJ.out.len, pre_all, pay_length]
      subst h19
      have S5 : Hid (Oct wr A 19 (pay p)) := by show Oct _ _ _ _; rw [← pre_all]; exact SJ.out
      have E5 : Hid (EnvH wr) := HE.out.below BJ.out
      clear SJ OJ HJ
      go_wp2_with fail
      refine (pput_any A 19 c (pay p) 3 _ (by omega) S5.out E5.out.1).mono ?_; rintro e w9 ⟨v9, rfl, o9, b9⟩
      rw [putE_pay]
      rw [putL_pay] at o9
      have O9 := Lib.hid (o9.more BJ.out.size)
      have B9 : Hid (Below w.heap.size w w9) := bthen BJ.out b9
      clear o9 b9
      go_wp2
      go_ret2
      exact ⟨v9, rfl, O9.out, B9.out⟩
/-- what a call leaves that puts a head -/
def HPut (w : World) (p : Hd) (e : Ending) (w' : World) : Prop :=
  (MayBe p ∧ ∃ v, e = .returned (.tuple #[v, .int .i64 0]) ∧ Own w' 5 w.heap.size v (sect p) ∧ Below w.heap.size w w') ∨ (¬ MayBe p ∧ e = .returned (.tuple #[.slice none 0 0, .int .i64 1]) ∧ Below w.heap.size w w')
theorem hdput_any (p : Hd) (w : World) (he : EnvH w) : Calls Tryz.prog 60 #[(.agg #[.bool p.u, .int .i64 p.l, .int .u64 (p.g : Int), .int .u32 (p.s.toNat : Int), .int .u32 (p.r.toNat : Int)])] w (HPut w p) := by
  by_cases h : MayBe p
  · exact (hdput_ok p w h he).mono fun e w' h2 => .inl ⟨h, h2⟩
  · exact (hdput_no p w h).mono fun e w' h2 => .inr ⟨h, h2⟩
end Go.Proofs.YtapklelkcicjlaaGreatDoor.W.Hd
