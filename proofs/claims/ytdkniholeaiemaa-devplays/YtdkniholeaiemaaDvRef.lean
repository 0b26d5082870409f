/-
  The document's devices behind pointers; the contract of New. No conditions.
-/
import Derived.Test.YtdkniholeaiemaaDvAwake
import Derived.Deep.OwnRows
namespace Go.Proofs.Ytdkniholeaiemaa.W
open Go.RowKit Oc Dm Gt
set_option linter.unusedVariables false
/-- a sector's text -/
def tx (x : List UInt8) : Value := .string (bstr x)
/-- sectors as cells, three each -/
def oc (S : Nat → Sec) (vs : Nat → Value) (j : Nat) : Value := if j % 3 = 0 then tx (S (j / 3)).fixed else if j % 3 = 1 then vs (j / 3) else .bool (S (j / 3)).rotten
theorem oc0 (S : Nat → Sec) (vs : Nat → Value) (i : Nat) : oc S vs (i * 3) = tx (S i).fixed := by unfold oc; rw [if_pos (by omega), show i * 3 / 3 = i by omega]
theorem oc1 (S : Nat → Sec) (vs : Nat → Value) (i : Nat) : oc S vs (i * 3 + 1) = vs i := by unfold oc; rw [if_neg (by omega), if_pos (by omega), show (i * 3 + 1) / 3 = i by omega]
theorem oc2 (S : Nat → Sec) (vs : Nat → Value) (i : Nat) : oc S vs (i * 3 + 2) = .bool (S i).rotten := by unfold oc; rw [if_neg (by omega), if_neg (by omega), show (i * 3 + 2) / 3 = i by omega]
/-- A DEVICE OF THE DOCUMENT's BEHIND A POINTER, with its parts -/
structure RvAt (w : World) (G : Nat → Prop) (E q n : Nat) (S : Nat → Sec) (rd wr gs : Nat) (vs : Nat → Value) : Prop where
  head : w.heap[E]? = some (.cells #[.pointer (some ⟨q, 0, none⟩), .slice (some ⟨gs, 0, none⟩) n n, .int .u64 (rd : Int), .int .u64 (wr : Int)] 51 (0, 0))
  row : w.rowIs gs 57 (n * 3) (oc S vs)
  loose : ∀ i, i < n → ∃ A c, vs i = .slice A (S i).loose.length c ∧ (S i).loose.length ≤ c ∧ c ≤ maxLen ∧ Rw.Sl w A (S i).loose.length ((S i).loose.map tx) ∧ ∀ b off, 0 < (S i).loose.length → A = some ⟨b, off, none⟩ → G b ∧ b ≠ gs
  hn : n ≤ 4096
  hrd : rd < 18446744073709551616
  hwr : wr < 18446744073709551616
  inG : G E ∧ G gs
  bound : ∀ k, G k → k < w.heap.size
section
variable {w w' : World} {G G' : Nat → Prop} {E q n : Nat} {S : Nat → Sec} {rd wr gs : Nat} {vs : Nat → Value}
theorem RvAt.frame (h : RvAt w G E q n S rd wr gs vs) (hG : ∀ k, G k → G' k) (hb : ∀ k, G' k → k < w'.heap.size) (hk : ∀ k, G k → w'.heap[k]? = w.heap[k]?) : RvAt w' G' E q n S rd wr gs vs where
  head := (hk _ h.inG.1).trans h.head
  row := h.row.of_block (hk _ h.inG.2)
  loose := fun i hi => by
    obtain ⟨A, c, e, h1, h2, h3, h4⟩ := h.loose i hi
    exact ⟨A, c, e, h1, h2, h3.heap (fun b off hn e => hk _ (h4 b off hn e).1), fun b off hn e => ⟨hG _ (h4 b off hn e).1, (h4 b off hn e).2⟩⟩
  hn := h.hn
  hrd := h.hrd
  hwr := h.hwr
  inG := ⟨hG _ h.inG.1, hG _ h.inG.2⟩
  bound := hb
theorem RvAt.kept (h : RvAt w G E q n S rd wr gs vs) {F : Nat → Prop} (hc : Chg F w w') (hF : ∀ k, G k → ¬ F k) : RvAt w' G E q n S rd wr gs vs :=
  h.frame (fun _ x => x) (fun k x => Nat.lt_of_lt_of_le (h.bound k x) hc.size) (fun k x => hc.block k (h.bound k x) (hF k x))
theorem RvAt.below (h : RvAt w G E q n S rd wr gs vs) (hc : Below w.heap.size w w') : RvAt w' G E q n S rd wr gs vs := h.kept (F := fun _ => False) (Chg.of_below hc) (fun _ _ x => x)
end
theorem gate_cell {P : Program} {md : Region.Mode} {ops : Array Oper} {Q : Exit → Act → World → Prop} {S : World → Prop} {t j fuel : Nat} {listed : Array Bool} {a : Act} {w w' : World} {dst : Option Tmp} {ty0 ty : TypeId} {pos : String} {af : Array Edge} {x y : Operand} {p : Value} (hr : Region.ready md ops listed = [j]) (hr2 : Region.ready md ops (listed.setIfInBounds j true) = []) (hit : j = t) (ho : ops[j]? = some ⟨dst, .store ty0 x y, ty, pos, af, none⟩)
    (hx : a.eval x = p) (hrun : (Instr.storeAt ty0 p (a.eval y)).run P w = .ok () w') (hK : Q .normal (a.put dst undef) w') : Gate P md ops Q S t (fuel + 1) listed a w :=
  gate_last hr hr2 hit ho rfl (fun K hK' => by
    unfold Oper.wp
    simp [execOp, hx, hrun, Result.andThen]
    exact hK' _ _ hK)
theorem one_info : (Try.prog.info? 57).map (fun i => (i.zero, i.size, i.bytes)) = some (some (.agg #[.string ⟨#[]⟩, .slice none 0 0, .bool false]), 3, 48) := by kernel_rfl
/-- a row of sectors that nobody wrote on, as it is made: k of them have their noughts -/
def madeS (k : Nat) (i : Nat) : Sec := if i < k then sec0 else ⟨[], [], false⟩
def nilv (_ : Nat) : Value := .slice none 0 0
theorem made_row {w w' : World} {n : Nat} {i0 : TypeInfo} (hi : Try.prog.info? 57 = some i0) (hz : i0.zero = some (.agg #[.string ⟨#[]⟩, .slice none 0 0, .bool false])) (hs : i0.size = 3) (hb : i0.bytes = 48) (hn : n ≤ 4096) :
    (Instr.makeSlice 49 (.int .i64 (n : Int)) (.int .i64 (n : Int))).run Try.prog w = .ok (.slice (some ⟨w.heap.size, 0, none⟩) n n) (w.alloc (.cells (madeCells #[.string ⟨#[]⟩, .slice none 0 0, .bool false] (n * 3)) 57)) ∧
    (w.alloc (.cells (madeCells #[.string ⟨#[]⟩, .slice none 0 0, .bool false] (n * 3)) 57)).rowIs w.heap.size 57 (n * 3) (oc (madeS 0) nilv) := by
  constructor
  · have := run_make (P := Try.prog) w 49 57 i0 (.agg #[.string ⟨#[]⟩, .slice none 0 0, .bool false]) Try.underlying49 hi hz .i64 .i64 (n : Int) (n : Int) (by omega) (Int.le_refl _) (by rw [hb]; omega) (by omega)
    rw [Int.toNat_natCast, hs] at this
    exact this
  · have := World.rowIs_alloc w (madeCells #[.string ⟨#[]⟩, .slice none 0 0, .bool false] (n * 3)) 57 (oc (madeS 0) nilv) (fun j hj => by
      rw [size_madeCells] at hj
      unfold madeCells
      rw [Array.getElem?_map]
      simp only [Array.getElem?_range, hj, if_true, Option.map_some]
      have hm : j % 3 = 0 ∨ j % 3 = 1 ∨ j % 3 = 2 := by omega
      unfold oc
      rcases hm with h | h | h
      · simp [h, madeS, tx, bstr]
      · simp [h, nilv]
      · simp [h, madeS])
    rw [size_madeCells] at this
    exact this
end Go.Proofs.Ytdkniholeaiemaa.W
