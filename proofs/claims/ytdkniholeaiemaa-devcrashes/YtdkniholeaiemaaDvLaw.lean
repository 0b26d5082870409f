/-
  The laws at the operations, each for its operation alone. No conditions.
-/
import Derived.Test.YtdkniholeaiemaaDvMap
namespace Go.Proofs.Ytdkniholeaiemaa.Dm
open Go.RowKit Oc
set_option linter.unusedVariables false
section
variable {ops : Array Oper} {rest : List Oper} {a : Act} {w : World} {Q : Exit → Act → World → Prop} {dst : Option Tmp} {ty : TypeId} {pos : String} {af : Array Edge} {x y k : Operand} {b off i n m r N cap cnt : Nat} {z : Int} {xs : List UInt8} {f : Nat → List UInt8} {g : Nat → Option Pl} {q left : Nat → Bool}
theorem L_load (hx : a.eval x = .pointer (some ⟨b, off, none⟩)) (h : Oct w (some ⟨b, off, none⟩) 64 xs) (hK : wpList Try.prog ops Q rest (a.put dst (sv xs)) w) : wpList Try.prog ops Q (⟨dst, .load 95 x, ty, pos, af, none⟩ :: rest) a w := wpList_load_sec rfl x rfl hx h hK
theorem L_store (hp : a.eval x = .pointer (some ⟨b, i * 64, none⟩)) (hy : a.eval y = sv xs) (h : SRow w b n cap f) (hi : i < n) (hx : xs.length = 64)
    (hK : ∀ w', SRow w' b n cap (upd f i xs) → w.grownBy w' (some b) → w'.heap.size = w.heap.size → wpList Try.prog ops Q rest (a.put dst undef) w') : wpList Try.prog ops Q (⟨dst, .store 95 x y, ty, pos, af, none⟩ :: rest) a w := wpList_store_sec rfl x y rfl hp rfl hy h hi hx hK
theorem L_alloc (hK : ∀ w', SRow w' w.heap.size 1 1 (fun _ => zs) → w.grownBy w' none → w'.heap.size = w.heap.size + 1 → wpList Try.prog ops Q rest (a.put dst (.pointer (some ⟨w.heap.size, 0, none⟩))) w') : wpList Try.prog ops Q (⟨dst, .alloc 95, ty, pos, af, none⟩ :: rest) a w := wpList_alloc_sec rfl rfl hK
theorem L_box (hy : a.eval y = sv xs) (hx : xs.length = 64)
    (hK : ∀ w', SRow w' w.heap.size 1 1 (fun _ => xs) → w.grownBy w' none → w'.heap.size = w.heap.size + 1 → wpList Try.prog ops Q rest (a.put dst (.pointer (some ⟨w.heap.size, 0, none⟩))) w') : wpList Try.prog ops Q (⟨dst, .box 95 y, ty, pos, af, none⟩ :: rest) a w := wpList_box_sec rfl y rfl hy hx hK
theorem L_slice (hy : a.eval y = .pointer (some ⟨b, off, none⟩)) (hK : wpList Try.prog ops Q rest (a.put dst (.slice (some ⟨b, off, none⟩) 64 64)) w) : wpList Try.prog ops Q (⟨dst, .slice 95 y none none none, ty, pos, af, none⟩ :: rest) a w := wpList_slice_sec rfl y rfl hy hK
theorem L_look {v : Value} (hx : a.eval x = .map (some m)) (hk : a.eval k = .int .i64 (i : Int)) (h : LM w m N n g) (hi : i < n) (hn : n ≤ 4096) (hv : slv (g i) = v) (hK : wpList Try.prog ops Q rest (a.put dst v) w) :
    wpList Try.prog ops Q (⟨dst, .lookup 69 x k false, ty, pos, af, none⟩ :: rest) a w := wpList_look rfl x k rfl hx hk rfl h hi hn hv hK
theorem L_put {c l : Nat} (hx : a.eval x = .map (some m)) (hk : a.eval k = .int .i64 (i : Int)) (hy : a.eval y = .slice (some ⟨b, 0, none⟩) l c) (h : LM w m N n g) (hi : i < n) (hn : n ≤ 4096) (hN : N < maxLen)
    (hK : ∀ w', LM w' m (N + 1) n (upd g i (some (b, l, c))) → w.grownBy w' (some m) → w'.heap.size = w.heap.size → wpList Try.prog ops Q rest (a.put dst undef) w') : wpList Try.prog ops Q (⟨dst, .mapUpdate 69 x k y, ty, pos, af, none⟩ :: rest) a w := wpList_put rfl x k y rfl hx hk rfl hy h hi hn hN hK
theorem L_clear (hx : a.eval x = .map (some m)) (h : LM w m N n g) (hK : ∀ w', LM w' m N n (fun _ => none) → w.grownBy w' (some m) → w'.heap.size = w.heap.size → wpList Try.prog ops Q rest (a.put dst (.tuple #[])) w') :
    wpList Try.prog ops Q (⟨dst, Op.call { callee := Callee.builtin Builtin.clear, args := #[x], argTypes := #[69] }, ty, pos, af, none⟩ :: rest) a w := wpList_clear rfl x rfl hx h hK
theorem L_len (hx : a.eval x = .map (some m)) (h : LM w m N n g) (hK : ∀ L : Nat, L ≤ N → wpList Try.prog ops Q rest (a.put dst (.int .i64 (L : Int))) w) :
    wpList Try.prog ops Q (⟨dst, Op.call { callee := Callee.builtin Builtin.len, args := #[x], argTypes := #[69] }, ty, pos, af, none⟩ :: rest) a w := wpList_len_lm rfl x rfl hx h hK
theorem L_range (hx : a.eval x = .map (some m)) (h : LM w m N n g)
    (hK : ∀ w' cnt, LR w' m w.heap.size N n g (fun i => (g i).isSome) cnt → cnt ≤ N → w.grownBy w' none → w'.heap.size = w.heap.size + 1 → wpList Try.prog ops Q rest (a.put dst (.pointer (some ⟨w.heap.size, 0, none⟩))) w') :
    wpList Try.prog ops Q (⟨dst, Op.range 69 x, ty, pos, af, none⟩ :: rest) a w := wpList_range_lm rfl x rfl hx h hK
theorem L_next (hit : a.eval x = .pointer (some ⟨r, 0, none⟩)) (h : LR w m r N n g left cnt)
    (hDone : (∀ i, i < n → left i = false) → wpList Try.prog ops Q rest (a.put dst (.tuple #[.bool false])) w)
    (hMore : ∀ (i : Nat) (t : Pl) (w' : World) (cnt' : Nat), i < n → left i = true → g i = some t → LR w' m r N n g (upd left i false) cnt' → cnt' < cnt → w.grownBy w' (some r) → w'.heap.size = w.heap.size →
      (Instr.entry (.pointer (some ⟨r, 0, none⟩))).run Try.prog w' = .ok (.tuple #[.int .i64 (i : Int), .slice (some ⟨t.1, 0, none⟩) t.2.1 t.2.2]) w' → wpList Try.prog ops Q rest (a.put dst (.tuple #[.bool true, .int .i64 (i : Int), .slice (some ⟨t.1, 0, none⟩) t.2.1 t.2.2])) w') :
    wpList Try.prog ops Q (⟨dst, Op.next x false, ty, pos, af, none⟩ :: rest) a w := wpList_next_lm rfl x rfl hit h hDone hMore
theorem L_lookr {c : Bool} (hx : a.eval x = .map (some r)) (hk : a.eval k = .int .i64 (i : Int)) (h : RM w r N n q) (hi : i < n) (hn : n ≤ 4096) (hb : q i = c) (hK : wpList Try.prog ops Q rest (a.put dst (.tuple #[.agg #[], .bool c])) w) :
    wpList Try.prog ops Q (⟨dst, .lookup 70 x k true, ty, pos, af, none⟩ :: rest) a w := wpList_look_rm rfl x k rfl hx hk rfl h hi hn hb hK
theorem L_putr (hx : a.eval x = .map (some r)) (hk : a.eval k = .int .i64 (i : Int)) (hy : a.eval y = .agg #[]) (h : RM w r N n q) (hi : i < n) (hn : n ≤ 4096) (hN : N < maxLen)
    (hK : ∀ w', RM w' r (N + 1) n (upd q i true) → w.grownBy w' (some r) → wpList Try.prog ops Q rest (a.put dst undef) w') : wpList Try.prog ops Q (⟨dst, .mapUpdate 70 x k y, ty, pos, af, none⟩ :: rest) a w := wpList_put_rm rfl x k y rfl hx hk rfl hy h hi hn hN hK
theorem L_dropr (hx : a.eval x = .map (some r)) (hk : a.eval k = .int .i64 (i : Int)) (h : RM w r N n q) (hi : i < n) (hn : n ≤ 4096)
    (hK : ∀ w', RM w' r N n (upd q i false) → w.grownBy w' (some r) → wpList Try.prog ops Q rest (a.put dst (.tuple #[])) w') :
    wpList Try.prog ops Q (⟨dst, Op.call { callee := Callee.builtin Builtin.delete, args := #[x, k], argTypes := #[70, 3] }, ty, pos, af, none⟩ :: rest) a w := wpList_drop_rm rfl x k rfl hx hk rfl h hi hn hK
end
end Go.Proofs.Ytdkniholeaiemaa.Dm
