/-
  What a call answers, and what it leaves, told once for the program's devices and the document's. No conditions.
-/
import Derived.Test.YtdkniholeaiemaaDvPair
import Derived.Test.YtdkniholeaiemaaDvRwrite
namespace Go.Proofs.Ytdkniholeaiemaa.W
open Go.RowKit Oc Dm Gt Tn
set_option linter.unusedVariables false

/-- what a reading call answers: that the power is off; that there is no such sector; that it fails; the sector -/
def ReadWay (n : Nat) (s : PS) (d : DD) (z v : Int) (xs : List UInt8) (d' : DD) : Prop :=
  (s.off = true ∧ v = 80 ∧ xs = [] ∧ d' = d) ∨ (s.off = false ∧ (z < 0 ∨ (n : Int) ≤ z) ∧ v = 3 ∧ xs = [] ∧ d' = d) ∨
  (∃ i : Nat, s.off = false ∧ i < n ∧ z = (i : Int) ∧ d.rd % 2 = 1 ∧ v = 81 ∧ xs = [] ∧ d' = ⟨d.S, d.rd / 2, d.wr⟩) ∨
  (∃ i : Nat, s.off = false ∧ i < n ∧ z = (i : Int) ∧ d.rd % 2 = 0 ∧ v = 0 ∧ xs = (d.S i).stands ∧ d' = ⟨d.S, d.rd / 2, d.wr⟩)
theorem ReadWay.off {n : Nat} {s : PS} {d : DD} {z : Int} (h : s.off = true) : ReadWay n s d z 80 [] d := Or.inl ⟨h, rfl, rfl, rfl⟩
theorem ReadWay.no {n : Nat} {s : PS} {d : DD} {z : Int} (h : s.off = false) (hz : z < 0 ∨ (n : Int) ≤ z) : ReadWay n s d z 3 [] d := Or.inr (Or.inl ⟨h, hz, rfl, rfl, rfl⟩)
theorem ReadWay.io {n : Nat} {s : PS} {d : DD} {z : Int} (h : s.off = false) (i : Nat) (hi : i < n) (hz : z = (i : Int)) (hr : d.rd % 2 = 1) : ReadWay n s d z 81 [] ⟨d.S, d.rd / 2, d.wr⟩ := Or.inr (Or.inr (Or.inl ⟨i, h, hi, hz, hr, rfl, rfl, rfl⟩))
theorem ReadWay.yes {n : Nat} {s : PS} {d : DD} {z : Int} (h : s.off = false) (i : Nat) (hi : i < n) (hz : z = (i : Int)) (hr : d.rd % 2 = 0) : ReadWay n s d z 0 (d.S i).stands ⟨d.S, d.rd / 2, d.wr⟩ := Or.inr (Or.inr (Or.inr ⟨i, h, hi, hz, hr, rfl, rfl, rfl⟩))
theorem read_way (n : Nat) (s : PS) (d : DD) (z : Int) : ∃ v xs d', ReadWay n s d z v xs d' := by
  cases ho : s.off
  · by_cases hz : z < 0 ∨ (n : Int) ≤ z
    · exact ⟨_, _, _, .no ho hz⟩
    · rcases Nat.mod_two_eq_zero_or_one d.rd with hr | hr
      · exact ⟨_, _, _, .yes ho z.toNat (by omega) (by omega) hr⟩
      · exact ⟨_, _, _, .io ho z.toNat (by omega) (by omega) hr⟩
  · exact ⟨_, _, _, .off ho⟩
/-- what a write answers, and what it leaves -/
def WrWay (n : Nat) (s : PS) (d : DD) (z : Int) (xs : List UInt8) (v : Int) (s' : PS) (d' : DD) : Prop :=
  (s.off = true ∧ v = 80 ∧ s' = s ∧ d' = d) ∨ (s.off = false ∧ (z < 0 ∨ (n : Int) ≤ z) ∧ v = 3 ∧ s' = s ∧ d' = d) ∨
  (∃ i : Nat, s.off = false ∧ i < n ∧ z = (i : Int) ∧ xs.length ≠ 64 ∧ v = 1 ∧ s' = s ∧ d' = d) ∨
  (∃ i : Nat, s.off = false ∧ i < n ∧ z = (i : Int) ∧ xs.length = 64 ∧ s.goes = true ∧ v = 80 ∧ s' = s.spend ∧ d' = d) ∨
  (∃ i : Nat, s.off = false ∧ i < n ∧ z = (i : Int) ∧ xs.length = 64 ∧ s.goes = false ∧ d.wr % 2 = 1 ∧ v = 81 ∧ s' = s.spend ∧ d' = ⟨d.S, d.rd, d.wr / 2⟩) ∨
  (∃ i : Nat, s.off = false ∧ i < n ∧ z = (i : Int) ∧ xs.length = 64 ∧ s.goes = false ∧ d.wr % 2 = 0 ∧ v = 0 ∧ s' = s.spend ∧ d' = ⟨wrote d.S i xs, d.rd, d.wr / 2⟩)
theorem WrWay.off {n : Nat} {s : PS} {d : DD} {z : Int} {xs : List UInt8} (h : s.off = true) : WrWay n s d z xs 80 s d := Or.inl ⟨h, rfl, rfl, rfl⟩
theorem WrWay.no {n : Nat} {s : PS} {d : DD} {z : Int} {xs : List UInt8} (h : s.off = false) (hz : z < 0 ∨ (n : Int) ≤ z) : WrWay n s d z xs 3 s d := Or.inr (Or.inl ⟨h, hz, rfl, rfl, rfl⟩)
theorem WrWay.arg {n : Nat} {s : PS} {d : DD} {z : Int} {xs : List UInt8} (h : s.off = false) (i : Nat) (hi : i < n) (hz : z = (i : Int)) (hl : xs.length ≠ 64) : WrWay n s d z xs 1 s d := Or.inr (Or.inr (Or.inl ⟨i, h, hi, hz, hl, rfl, rfl, rfl⟩))
theorem WrWay.goes {n : Nat} {s : PS} {d : DD} {z : Int} {xs : List UInt8} (h : s.off = false) (i : Nat) (hi : i < n) (hz : z = (i : Int)) (hl : xs.length = 64) (hg : s.goes = true) : WrWay n s d z xs 80 s.spend d := Or.inr (Or.inr (Or.inr (Or.inl ⟨i, h, hi, hz, hl, hg, rfl, rfl, rfl⟩)))
theorem WrWay.io {n : Nat} {s : PS} {d : DD} {z : Int} {xs : List UInt8} (h : s.off = false) (i : Nat) (hi : i < n) (hz : z = (i : Int)) (hl : xs.length = 64) (hg : s.goes = false) (hw : d.wr % 2 = 1) : WrWay n s d z xs 81 s.spend ⟨d.S, d.rd, d.wr / 2⟩ := Or.inr (Or.inr (Or.inr (Or.inr (Or.inl ⟨i, h, hi, hz, hl, hg, hw, rfl, rfl, rfl⟩))))
theorem WrWay.ok {n : Nat} {s : PS} {d : DD} {z : Int} {xs : List UInt8} (h : s.off = false) (i : Nat) (hi : i < n) (hz : z = (i : Int)) (hl : xs.length = 64) (hg : s.goes = false) (hw : d.wr % 2 = 0) : WrWay n s d z xs 0 s.spend ⟨wrote d.S i xs, d.rd, d.wr / 2⟩ := Or.inr (Or.inr (Or.inr (Or.inr (Or.inr ⟨i, h, hi, hz, hl, hg, hw, rfl, rfl, rfl⟩))))
theorem wr_way (n : Nat) (s : PS) (d : DD) (z : Int) (xs : List UInt8) : ∃ v s' d', WrWay n s d z xs v s' d' := by
  cases ho : s.off
  · by_cases hz : z < 0 ∨ (n : Int) ≤ z
    · exact ⟨_, _, _, .no ho hz⟩
    · by_cases hl : xs.length = 64
      · cases hg : s.goes
        · rcases Nat.mod_two_eq_zero_or_one d.wr with hr | hr
          · exact ⟨_, _, _, .ok ho z.toNat (by omega) (by omega) hl hg hr⟩
          · exact ⟨_, _, _, .io ho z.toNat (by omega) (by omega) hl hg hr⟩
        · exact ⟨_, _, _, .goes ho z.toNat (by omega) (by omega) hl hg⟩
      · exact ⟨_, _, _, .arg ho z.toNat (by omega) (by omega) hl⟩
  · exact ⟨_, _, _, .off ho⟩
/-- what a flush answers, and what it leaves -/
def FlWay (s : PS) (d : DD) (v : Int) (s' : PS) (d' : DD) : Prop :=
  (s.off = true ∧ v = 80 ∧ s' = s ∧ d' = d) ∨ (s.off = false ∧ s.goes = true ∧ v = 80 ∧ s' = s.spend ∧ d' = d) ∨ (s.off = false ∧ s.goes = false ∧ v = 0 ∧ s' = s.spend ∧ d' = ⟨flushS d.S, d.rd, d.wr⟩)
theorem FlWay.off {s : PS} {d : DD} (h : s.off = true) : FlWay s d 80 s d := Or.inl ⟨h, rfl, rfl, rfl⟩
theorem FlWay.goes {s : PS} {d : DD} (h : s.off = false) (hg : s.goes = true) : FlWay s d 80 s.spend d := Or.inr (Or.inl ⟨h, hg, rfl, rfl, rfl⟩)
theorem FlWay.ok {s : PS} {d : DD} (h : s.off = false) (hg : s.goes = false) : FlWay s d 0 s.spend ⟨flushS d.S, d.rd, d.wr⟩ := Or.inr (Or.inr ⟨h, hg, rfl, rfl, rfl⟩)
theorem fl_way (s : PS) (d : DD) : ∃ v s' d', FlWay s d v s' d' := by
  cases ho : s.off
  · cases hg : s.goes
    · exact ⟨_, _, _, .ok ho hg⟩
    · exact ⟨_, _, _, .goes ho hg⟩
  · exact ⟨_, _, _, .off ho⟩
/-- what a rot answers, and what it leaves -/
def RotWay (n : Nat) (d : DD) (z bit : Int) (T : Nat) (v : Int) (d' : DD) : Prop :=
  ((z < 0 ∨ (n : Int) ≤ z ∨ bit < 0 ∨ 512 ≤ bit) ∧ v = 3 ∧ d' = d) ∨
  (∃ i : Nat, i < n ∧ z = (i : Int) ∧ (0 ≤ bit ∧ bit < 512) ∧ ((d.S i).rotten = true ∨ (d.S i).loose ≠ []) ∧ v = 6 ∧ d' = d) ∨
  (∃ i : Nat, i < n ∧ z = (i : Int) ∧ (0 ≤ bit ∧ bit < 512) ∧ (d.S i).rotten = false ∧ (d.S i).loose = [] ∧ rotTo d.S i bit T = (d.S i).fixed ∧ v = 1 ∧ d' = d) ∨
  (∃ i : Nat, i < n ∧ z = (i : Int) ∧ (0 ≤ bit ∧ bit < 512) ∧ (d.S i).rotten = false ∧ (d.S i).loose = [] ∧ rotTo d.S i bit T ≠ (d.S i).fixed ∧ v = 0 ∧ d' = ⟨upd d.S i ⟨rotTo d.S i bit T, [], true⟩, d.rd, d.wr⟩)
theorem RotWay.range {n : Nat} {d : DD} {z bit : Int} {T : Nat} (hz : z < 0 ∨ (n : Int) ≤ z ∨ bit < 0 ∨ 512 ≤ bit) : RotWay n d z bit T 3 d := Or.inl ⟨hz, rfl, rfl⟩
theorem RotWay.state {n : Nat} {d : DD} {z bit : Int} {T : Nat} (i : Nat) (hi : i < n) (hz : z = (i : Int)) (hb : 0 ≤ bit ∧ bit < 512) (hs : (d.S i).rotten = true ∨ (d.S i).loose ≠ []) : RotWay n d z bit T 6 d := Or.inr (Or.inl ⟨i, hi, hz, hb, hs, rfl, rfl⟩)
theorem RotWay.arg {n : Nat} {d : DD} {z bit : Int} {T : Nat} (i : Nat) (hi : i < n) (hz : z = (i : Int)) (hb : 0 ≤ bit ∧ bit < 512) (hr : (d.S i).rotten = false) (hl : (d.S i).loose = []) (hx : rotTo d.S i bit T = (d.S i).fixed) : RotWay n d z bit T 1 d := Or.inr (Or.inr (Or.inl ⟨i, hi, hz, hb, hr, hl, hx, rfl, rfl⟩))
theorem RotWay.ok {n : Nat} {d : DD} {z bit : Int} {T : Nat} (i : Nat) (hi : i < n) (hz : z = (i : Int)) (hb : 0 ≤ bit ∧ bit < 512) (hr : (d.S i).rotten = false) (hl : (d.S i).loose = []) (hx : rotTo d.S i bit T ≠ (d.S i).fixed) : RotWay n d z bit T 0 ⟨upd d.S i ⟨rotTo d.S i bit T, [], true⟩, d.rd, d.wr⟩ := Or.inr (Or.inr (Or.inr ⟨i, hi, hz, hb, hr, hl, hx, rfl, rfl⟩))
theorem rot_way (n : Nat) (d : DD) (z bit : Int) (T : Nat) : ∃ v d', RotWay n d z bit T v d' := by
  by_cases hz : z < 0 ∨ (n : Int) ≤ z ∨ bit < 0 ∨ 512 ≤ bit
  · exact ⟨_, _, .range hz⟩
  · cases hr : (d.S z.toNat).rotten
    · by_cases hl : (d.S z.toNat).loose = []
      · by_cases hx : rotTo d.S z.toNat bit T = (d.S z.toNat).fixed
        · exact ⟨_, _, .arg z.toNat (by omega) (by omega) (by omega) hr hl hx⟩
        · exact ⟨_, _, .ok z.toNat (by omega) (by omega) (by omega) hr hl hx⟩
      · exact ⟨_, _, .state z.toNat (by omega) (by omega) (by omega) (.inr hl)⟩
    · exact ⟨_, _, .state z.toNat (by omega) (by omega) (by omega) (.inl hr)⟩

theorem upd_self {α : Type} (f : Nat → α) (k : Nat) : upd f k (f k) = f := by
  funext j
  unfold upd
  split
  · rename_i e; rw [e]
  · rfl
theorem fuse_done (s : PS) (z : Int) : (PS.fuseS s z).done = s.done := by
  unfold PS.fuseS
  split
  · rfl
  · split <;> rfl
theorem size_tx {xs : List UInt8} {B : ByteArray} (h : tx xs = .string B) : B.size = xs.length := by
  unfold tx at h
  injection h with h
  subst h
  rfl
section
variable {o : Nat → Nat} {w w' w1 : World} {T p q : Nat} {D E ns : Nat → Nat} {N N' : Nat} {s s' s2 s2' : PS} {d d2 : Nat → DD} {d' : DD} {k : Nat} {z v bit : Int} {xs : List UInt8}
/-- the program's half -/
def DMid (o : Nat → Nat) (w : World) (T p q : Nat) (D E ns : Nat → Nat) (N : Nat) (s : PS) (d : Nat → DD) (s2 : PS) (d2 : Nat → DD) (w' : World) : Prop := ∃ o', Mid o' w' T p q D E ns N s d s2 d2 ∧ Ex o o' w w'
theorem Mid.nF (h : Mid o w T p q D E ns N s d s2 d2) : ¬ (o p = 4 + k) := by rw [h.op]; omega
theorem Mid.nG (h : Mid o w T p q D E ns N s d s2 d2) : ¬ (o q = 6 + k) := by rw [h.oq]; omega
theorem DMid.same (h : Mid o w T p q D E ns N s d s2 d2) : DMid o w T p q D E ns N s (upd d k (d k)) s2 d2 w := by
  rw [upd_self]; exact ⟨o, h, Ex.refl _ _⟩
theorem DMid.same2 (h : Mid o w T p q D E ns N s d s2 d2) : DMid o w T p q D E ns N s d s2 (upd d2 k (d2 k)) w := by
  rw [upd_self]; exact ⟨o, h, Ex.refl _ _⟩
theorem DMid.then (h : DMid o w T p q D E ns N s d s2 d2 w1) (hb : Below w1.heap.size w1 w') : DMid o w T p q D E ns N s d s2 d2 w' := by
  obtain ⟨o', h1, h2⟩ := h
  exact ⟨o', h1.below hb, h2.trans (Ex.of_below hb)⟩
/-- only the power turned -/
theorem DMid.pow (h : Mid o w T p q D E ns N s d s2 d2) (hN : N ≤ N') (hb : N' ≤ 1000000) (hs : s'.done ≤ N') (hp : Pw w' p s') (hg : w.grownBy w' (some p)) : DMid o w T p q D E ns N' s' d s2 d2 w' := by
  have hc : Chg (fun b => b = p) w w' := Chg.of_grown hg (fun k e _ => by injection e with e; exact e.symm)
  have := h.dev (k := 0) (d' := d 0) (by decide) hN hb hs hp ((((h.dv 0 (by decide)).more hN (by omega)).kept hc (fun b x e => by rw [e, h.op] at x; omega)).frame (fun b x => .inl x) (fun b x => x.elim (fun x => Nat.lt_of_lt_of_le (h.lt b (by omega)) hg.size) (fun x => x.2)) (fun _ _ => rfl)) (hc.mono (fun b _ e => .inr e))
  rw [upd_self] at this
  exact ⟨_, this⟩
theorem DMid.rpow (h : Mid o w T p q D E ns N s d s2 d2) (hs : s2'.done ≤ N) (hf : ∀ k, s2'.fuse = some k → k ≤ 1048576) (hq : Qw w' q s2') (hg : w.grownBy w' (some q)) : DMid o w T p q D E ns N s d s2' d2 w' := by
  have hc : Chg (fun b => b = q) w w' := Chg.of_grown hg (fun k e _ => by injection e with e; exact e.symm)
  have := h.ref (k := 0) (d' := d2 0) (by decide) hs hf hq (by
    obtain ⟨gs, vs, x⟩ := h.rv 0 (by decide)
    exact ⟨gs, vs, (x.kept hc (fun b y e => by rw [e, h.oq] at y; omega)).frame (fun b x => .inl x) (fun b x => x.elim (fun x => Nat.lt_of_lt_of_le (h.lt b (by omega)) hg.size) (fun x => x.2)) (fun _ _ => rfl)⟩) (hc.mono (fun b _ e => .inr e))
  rw [upd_self] at this
  exact ⟨_, this⟩
/-- device k alone turned -/
theorem DMid.turn (h : Mid o w T p q D E ns N s d s2 d2) (hk : k < 2) (hN : N ≤ N') (hb : N' ≤ 1000000) (hd : Dv w' (Ext (fun b => o b = 4 + k) w w') (D k) p (ns k) N' d'.S d'.rd d'.wr) (hc : Chg (fun b => o b = 4 + k) w w') : DMid o w T p q D E ns N' s (upd d k d') s2 d2 w' :=
  ⟨_, h.dev hk hN hb (Nat.le_trans h.hs hN) (h.pw.heap (hc.block p h.pw.lt h.nF)) hd (hc.mono (fun b _ e => .inl e))⟩
theorem DMid.rturn (h : Mid o w T p q D E ns N s d s2 d2) (hk : k < 2) (hd : ∃ gs vs, RvAt w' (Ext (fun b => o b = 6 + k) w w') (E k) q (ns k) d'.S d'.rd d'.wr gs vs) (hc : Chg (fun b => o b = 6 + k) w w') : DMid o w T p q D E ns N s d s2 (upd d2 k d') w' :=
  ⟨_, h.ref hk h.hs2 h.hf2 (h.qw.heap (hc.block q h.qw.lt h.nG)) hd (hc.mono (fun b _ e => .inl e))⟩
theorem rext {G : Nat → Prop} {gs : Nat} {vs : Nat → Value} {S : Nat → Sec} {rd wx e0 n : Nat} (h : RvAt w' G e0 q n S rd wx gs vs) (hs : w.heap.size ≤ w'.heap.size) (hb : ∀ b, G b → b < w.heap.size) : RvAt w' (Ext G w w') e0 q n S rd wx gs vs :=
  h.frame (fun b x => .inl x) (fun b x => x.elim (fun x => Nat.lt_of_lt_of_le (hb b x) hs) (fun x => x.2)) (fun _ _ => rfl)

theorem mid_read (h : Mid o w T p q D E ns N s d s2 d2) (hk : k < 2) (hw : ReadWay (ns k) s (d k) z v xs d') : Calls Try.prog 27 #[.pointer (some ⟨D k, 0, none⟩), .int .i64 z] w fun e w' => ∃ A l c o', e = .returned (.tuple #[.slice A l c, .int .i64 v]) ∧ Oct w' A l xs ∧ (∀ b off, 0 < l → A = some ⟨b, off, none⟩ → o' b = 0) ∧ Mid o' w' T p q D E ns N s (upd d k d') s2 d2 ∧ Ex o o' w w' := by
  obtain ⟨fx, m, r, g, x⟩ := h.dv k hk
  rcases hw with ⟨ho, rfl, rfl, rfl⟩ | ⟨ho, hz, rfl, rfl, rfl⟩ | ⟨i, ho, hi, hz, hr, rfl, rfl, rfl⟩ | ⟨i, ho, hi, hz, hr, rfl, rfl, rfl⟩
  · exact (read_off x h.pw ho z).mono fun e w' ⟨h1, h2⟩ => by subst h1 h2; exact ⟨_, _, _, o, rfl, Oct.nil _ _, fun _ _ hl => absurd hl (Nat.lt_irrefl _), by rw [upd_self]; exact h, Ex.refl _ _⟩
  · exact (read_no x h.pw ho z hz).mono fun e w' ⟨h1, h2⟩ => by subst h1 h2; exact ⟨_, _, _, o, rfl, Oct.nil _ _, fun _ _ hl => absurd hl (Nat.lt_irrefl _), by rw [upd_self]; exact h, Ex.refl _ _⟩
  · subst hz
    exact (read_io x h.pw ho i hi hr).mono fun e w' ⟨h1, h2, h3, h4⟩ => by
      subst h1
      obtain ⟨o', m1, m2⟩ := DMid.turn (d' := ⟨(d k).S, (d k).rd / 2, (d k).wr⟩) h hk (Nat.le_refl _) h.hN ⟨_, _, _, _, h2.ext (Nat.le_of_eq h4.symm)⟩ (Chg.of_grown h3 (fun b e _ => by injection e with e; subst e; exact x.inF.1))
      exact ⟨_, _, _, o', rfl, Oct.nil _ _, fun _ _ hl => absurd hl (Nat.lt_irrefl _), m1, m2⟩
  · subst hz
    exact (read_yes x h.pw ho i hi hr).mono fun e w' ⟨w1, ⟨b, h1, hb, h5, h6⟩, h2, h3, h4⟩ => by
      subst h1
      obtain ⟨o', m1, m2⟩ := DMid.turn (d' := ⟨(d k).S, (d k).rd / 2, (d k).wr⟩) h hk (Nat.le_refl _) h.hN ⟨_, _, _, _, h2.ext (Nat.le_of_eq h4.symm)⟩ (Chg.of_grown h3 (fun b e _ => by injection e with e; subst e; exact x.inF.1))
      refine ⟨_, _, _, o', rfl, h5.oct (i := 0) (by decide), fun b' off _ e => ?_, m1.below h6, m2.trans (Ex.of_below h6)⟩
      injection e with e
      injection e with e
      subst e
      rcases Nat.eq_zero_or_pos (o' b) with e0 | e0
      · exact e0
      · have := m1.lt b (by omega); omega
theorem mid_rread (h : Mid o w T p q D E ns N s d s2 d2) (hk : k < 2) (hw : ReadWay (ns k) s2 (d2 k) z v xs d') : Calls Try.prog 31 #[.pointer (some ⟨E k, 0, none⟩), .int .i64 z] w fun e w' => ∃ B, e = .returned (.tuple #[.string B, .int .i64 v]) ∧ tx xs = .string B ∧ DMid o w T p q D E ns N s d s2 (upd d2 k d') w' := by
  obtain ⟨gs, vs, x⟩ := h.rv k hk
  rcases hw with ⟨ho, rfl, rfl, rfl⟩ | ⟨ho, hz, rfl, rfl, rfl⟩ | ⟨i, ho, hi, hz, hr, rfl, rfl, rfl⟩ | ⟨i, ho, hi, hz, hr, rfl, rfl, rfl⟩
  · exact (rread_off x h.qw ho z).mono fun e w' ⟨h1, h2⟩ => by subst h1 h2; exact ⟨_, rfl, rfl, .same2 h⟩
  · exact (rread_no x h.qw ho z hz).mono fun e w' ⟨h1, h2⟩ => by subst h1 h2; exact ⟨_, rfl, rfl, .same2 h⟩
  · subst hz
    exact (rread_io x h.qw ho i hi hr).mono fun e w' ⟨h1, h2, h3, h4⟩ => by
      subst h1
      exact ⟨_, rfl, rfl, .rturn h hk ⟨_, _, rext h2 (Nat.le_of_eq h4.symm) (fun b y => h.lt b (by omega))⟩ (Chg.of_grown h3 (fun b e _ => by injection e with e; subst e; exact x.inG.1))⟩
  · subst hz
    exact (rread_yes x h.qw ho i hi hr).mono fun e w' ⟨h1, h2, h3, h4⟩ => by
      subst h1
      exact ⟨_, rfl, rfl, .rturn h hk ⟨_, _, rext h2 (Nat.le_of_eq h4.symm) (fun b y => h.lt b (by omega))⟩ (Chg.of_grown h3 (fun b e _ => by injection e with e; subst e; exact x.inG.1))⟩

theorem mid_write {A : Option Addr} {l c : Nat} (h : Mid o w T p q D E ns N s d s2 d2) (hk : k < 2) (hN : N + 1 ≤ 1000000) (hb : Below w.heap.size w w1) (hx : Oct w1 A l xs) (hA : ∀ b off, A = some ⟨b, off, none⟩ → w.heap.size ≤ b) (hw : WrWay (ns k) s (d k) z xs v s' d') :
    Calls Try.prog 21 #[.pointer (some ⟨D k, 0, none⟩), .int .i64 z, .slice A l c] w1 fun e w' => e = .returned (.int .i64 v) ∧ DMid o w1 T p q D E ns (N + 1) s' (upd d k d') s2 d2 w' := by
  have h1 := h.below hb
  obtain ⟨fx, m, r, g, x⟩ := h1.dv k hk
  have hdone : s.done < 1000000000000 := by have := h.hs; omega
  have hsp : s.spend.done ≤ N + 1 := Nat.le_trans s.done_le (by have := h.hs; omega)
  have hl0 := hx.len
  rcases hw with ⟨ho, rfl, rfl, rfl⟩ | ⟨ho, hz, rfl, rfl, rfl⟩ | ⟨i, ho, hi, hz, hl, rfl, rfl, rfl⟩ | ⟨i, ho, hi, hz, hl, hg, rfl, rfl, rfl⟩ | ⟨i, ho, hi, hz, hl, hg, hwr, rfl, rfl, rfl⟩ | ⟨i, ho, hi, hz, hl, hg, hwr, rfl, rfl, rfl⟩
  · exact (write_off x h1.pw ho z _).mono fun e w' ⟨h1', h2⟩ => by subst h1' h2; exact ⟨rfl, .same (h1.more (Nat.le_succ _) hN)⟩
  · exact (write_no x h1.pw ho z _ hz).mono fun e w' ⟨h1', h2⟩ => by subst h1' h2; exact ⟨rfl, .same (h1.more (Nat.le_succ _) hN)⟩
  · subst hz; exact (write_arg x h1.pw ho i hi (by omega)).mono fun e w' ⟨h1', h2⟩ => by subst h1' h2; exact ⟨rfl, .same (h1.more (Nat.le_succ _) hN)⟩
  · subst hz
    have hl' : l = 64 := by omega
    subst hl'
    exact (write_goes x h1.pw hdone ho i hi hg).mono fun e w' ⟨h1', h2, h3, h4⟩ => by
      subst h1'
      refine ⟨rfl, ?_⟩
      rw [upd_self]
      exact .pow h1 (Nat.le_succ _) hN hsp h2 h3
  · subst hz
    have hl' : l = 64 := by omega
    subst hl'
    exact (write_io x h1.nF h1.pw hdone ho i hi hg hwr).mono fun e w' ⟨h1', h2, h3, h4⟩ => by
      subst h1'
      exact ⟨rfl, _, h1.dev (d' := ⟨(d k).S, (d k).rd, (d k).wr / 2⟩) hk (Nat.le_succ _) hN hsp h2 (h3.more (Nat.le_succ _) (by omega)) h4⟩
  · subst hz
    have hl' : l = 64 := by omega
    subst hl'
    obtain ⟨b, off, hA2, _⟩ := hx.2 (by decide)
    have hbw := hA b off hA2
    exact (write_ok x (by omega) h1.nF h1.pw hdone ho i hi hg hwr hA2 hx (fun e => by have := h.pw.lt; omega) (fun e => by have := h.lt b (by omega); omega)).mono fun e w' ⟨h1', h2, h3, h4⟩ => by
      subst h1'
      exact ⟨rfl, _, h1.dev (d' := ⟨wrote (d k).S i xs, (d k).rd, (d k).wr / 2⟩) hk (Nat.le_succ _) hN hsp h2 h3 h4⟩
theorem mid_rwrite {B : ByteArray} (h : Mid o w T p q D E ns N s d s2 d2) (hk : k < 2) (hs : s2.done + 1 ≤ N) (hbd : ∀ i, i < ns k → ((d2 k).S i).loose.length ≤ 1000000000) (hB : tx xs = .string B) (hw : WrWay (ns k) s2 (d2 k) z xs v s2' d') :
    Calls Try.prog 32 #[.pointer (some ⟨E k, 0, none⟩), .int .i64 z, .string B] w fun e w' => e = .returned (.int .i64 v) ∧ DMid o w T p q D E ns N s d s2' (upd d2 k d') w' := by
  obtain ⟨gs, vs, x⟩ := h.rv k hk
  have hdone : s2.done < 1000000000000 := by have := h.hs2; have := h.hN; omega
  have hsp : s2.spend.done ≤ N := Nat.le_trans s2.done_le hs
  have hfs : ∀ j, s2.spend.fuse = some j → j ≤ 1048576 := fun j hj => by
    have hf := h.hf2
    obtain ⟨off, fuse, done⟩ := s2
    rcases fuse with _ | _ | m
    · simp [PS.spend] at hj
    · simp [PS.spend] at hj; omega
    · simp [PS.spend] at hj; have := hf (m + 1) rfl; omega
  have hsz := size_tx hB
  rcases hw with ⟨ho, rfl, rfl, rfl⟩ | ⟨ho, hz, rfl, rfl, rfl⟩ | ⟨i, ho, hi, hz, hl, rfl, rfl, rfl⟩ | ⟨i, ho, hi, hz, hl, hg, rfl, rfl, rfl⟩ | ⟨i, ho, hi, hz, hl, hg, hwr, rfl, rfl, rfl⟩ | ⟨i, ho, hi, hz, hl, hg, hwr, rfl, rfl, rfl⟩
  · exact (rwrite_off x h.qw ho z _).mono fun e w' ⟨h1', h2⟩ => by subst h1' h2; exact ⟨rfl, .same2 h⟩
  · exact (rwrite_no x h.qw ho z _ hz).mono fun e w' ⟨h1', h2⟩ => by subst h1' h2; exact ⟨rfl, .same2 h⟩
  · subst hz; exact (rwrite_arg x h.qw ho i hi B (by omega)).mono fun e w' ⟨h1', h2⟩ => by subst h1' h2; exact ⟨rfl, .same2 h⟩
  · subst hz
    exact (rwrite_goes x h.qw h.hf2 hdone ho i hi B (by omega) hg).mono fun e w' ⟨h1', h2, h3, h4⟩ => by
      subst h1'
      refine ⟨rfl, ?_⟩
      rw [upd_self]
      exact .rpow h hsp hfs h2 h3
  · subst hz
    exact (rwrite_io x h.nG h.qw h.hf2 hdone ho i hi (hbd i hi) xs B hB (by omega) hg hwr).mono fun e w' ⟨h1', h2, ⟨vs', h3⟩, h4⟩ => by
      subst h1'
      exact ⟨rfl, _, h.ref (d' := ⟨(d2 k).S, (d2 k).rd, (d2 k).wr / 2⟩) hk hsp hfs h2 ⟨_, _, h3⟩ h4⟩
  · subst hz
    exact (rwrite_ok x h.nG h.qw h.hf2 hdone ho i hi (hbd i hi) xs B hB (by omega) hg hwr).mono fun e w' ⟨h1', h2, ⟨vs', h3⟩, h4⟩ => by
      subst h1'
      exact ⟨rfl, _, h.ref (d' := ⟨wrote (d2 k).S i xs, (d2 k).rd, (d2 k).wr / 2⟩) hk hsp hfs h2 ⟨_, _, h3⟩ h4⟩
theorem spend_fuse (hf : ∀ j, s2.fuse = some j → j ≤ 1048576) : ∀ j, s2.spend.fuse = some j → j ≤ 1048576 := fun j hj => by
  obtain ⟨off, fuse, done⟩ := s2
  rcases fuse with _ | _ | m
  · simp [PS.spend] at hj
  · simp [PS.spend] at hj; omega
  · simp [PS.spend] at hj; have := hf (m + 1) rfl; omega
theorem mid_flush (h : Mid o w T p q D E ns N s d s2 d2) (hk : k < 2) (hN : N + 1 ≤ 1000000) (hw : FlWay s (d k) v s' d') :
    Calls Try.prog 16 #[.pointer (some ⟨D k, 0, none⟩)] w fun e w' => e = .returned (.int .i64 v) ∧ DMid o w T p q D E ns (N + 1) s' (upd d k d') s2 d2 w' := by
  obtain ⟨fx, m, r, g, x⟩ := h.dv k hk
  have hdone : s.done < 1000000000000 := by have := h.hs; omega
  have hsp : s.spend.done ≤ N + 1 := Nat.le_trans s.done_le (by have := h.hs; omega)
  rcases hw with ⟨ho, rfl, rfl, rfl⟩ | ⟨ho, hg, rfl, rfl, rfl⟩ | ⟨ho, hg, rfl, rfl, rfl⟩
  · exact (flush_off x h.pw ho).mono fun e w' ⟨h1', h2⟩ => by subst h1' h2; exact ⟨rfl, .same (h.more (Nat.le_succ _) hN)⟩
  · exact (flush_goes x h.pw hdone ho hg).mono fun e w' ⟨h1', h2, h3, h4⟩ => by
      subst h1'
      refine ⟨rfl, ?_⟩
      rw [upd_self]
      exact .pow h (Nat.le_succ _) hN hsp h2 h3
  · exact (flush_ok x h.nF h.pw hdone ho hg).mono fun e w' ⟨h1', h2, h3, h4⟩ => by
      subst h1'
      exact ⟨rfl, _, h.dev (d' := ⟨flushS (d k).S, (d k).rd, (d k).wr⟩) hk (Nat.le_succ _) hN hsp h2 (h3.more (Nat.le_succ _) (by omega)) h4⟩
theorem mid_rflush (h : Mid o w T p q D E ns N s d s2 d2) (hk : k < 2) (hs : s2.done + 1 ≤ N) (hw : FlWay s2 (d2 k) v s2' d') :
    Calls Try.prog 33 #[.pointer (some ⟨E k, 0, none⟩)] w fun e w' => e = .returned (.int .i64 v) ∧ DMid o w T p q D E ns N s d s2' (upd d2 k d') w' := by
  obtain ⟨gs, vs, x⟩ := h.rv k hk
  have hdone : s2.done < 1000000000000 := by have := h.hs2; have := h.hN; omega
  have hsp : s2.spend.done ≤ N := Nat.le_trans s2.done_le hs
  rcases hw with ⟨ho, rfl, rfl, rfl⟩ | ⟨ho, hg, rfl, rfl, rfl⟩ | ⟨ho, hg, rfl, rfl, rfl⟩
  · exact (rflush_off x h.qw ho).mono fun e w' ⟨h1', h2⟩ => by subst h1' h2; exact ⟨rfl, .same2 h⟩
  · exact (rflush_goes x h.qw h.hf2 hdone ho hg).mono fun e w' ⟨h1', h2, h3, h4⟩ => by
      subst h1'
      refine ⟨rfl, ?_⟩
      rw [upd_self]
      exact .rpow h hsp (spend_fuse h.hf2) h2 h3
  · exact (rflush_ok x h.nG h.qw h.hf2 hdone ho hg).mono fun e w' ⟨h1', h2, ⟨vs', h3⟩, h4⟩ => by
      subst h1'
      exact ⟨rfl, _, h.ref (d' := ⟨flushS (d2 k).S, (d2 k).rd, (d2 k).wr⟩) hk hsp (spend_fuse h.hf2) h2 ⟨_, _, rext h3 h4.size (fun b y => h.lt b (by omega))⟩ (h4.mono (fun b _ e => e.elim .inr (fun e => .inl (e ▸ x.inG.2))))⟩
theorem mid_rot {Tn : Nat} (h : Mid o w T p q D E ns N s d s2 d2) (hk : k < 2) (hN : N + 1 ≤ 1000000) (hT : Tn < 4294967296) (hw : RotWay (ns k) (d k) z bit Tn v d') :
    Calls Try.prog 28 #[.pointer (some ⟨D k, 0, none⟩), .int .i64 z, .int .i64 bit, .int .u32 (Tn : Int)] w fun e w' => e = .returned (.int .i64 v) ∧ DMid o w T p q D E ns (N + 1) s (upd d k d') s2 d2 w' := by
  obtain ⟨fx, m, r, g, x⟩ := h.dv k hk
  have hm := h.more (Nat.le_succ N) hN
  rcases hw with ⟨hz, rfl, rfl⟩ | ⟨i, hi, hz, hb, hs, rfl, rfl⟩ | ⟨i, hi, hz, hb, hr, hl, hx, rfl, rfl⟩ | ⟨i, hi, hz, hb, hr, hl, hx, rfl, rfl⟩
  · exact (rot_range x z bit _ hz).mono fun e w' ⟨h1', h2⟩ => by subst h1' h2; exact ⟨rfl, .same hm⟩
  · subst hz; exact (rot_state x i hi bit _ hb hs).mono fun e w' ⟨h1', h2⟩ => by subst h1'; exact ⟨rfl, DMid.then (.same hm) h2⟩
  · subst hz
    exact (rot_clean x (by omega) i hi bit Tn hb hT hr hl).mono fun e w' hh => by
      rcases hh with ⟨_, h2, h3⟩ | ⟨h1, _⟩
      · subst h2; exact ⟨rfl, DMid.then (.same hm) h3⟩
      · exact absurd hx h1
  · subst hz
    exact (rot_clean x (by omega) i hi bit Tn hb hT hr hl).mono fun e w' hh => by
      rcases hh with ⟨h1, _⟩ | ⟨_, h2, h3, h4⟩
      · exact absurd h1 hx
      · subst h2; exact ⟨rfl, .turn h hk (Nat.le_succ _) hN h3 h4⟩
theorem mid_rrot {Tn : Nat} (h : Mid o w T p q D E ns N s d s2 d2) (hk : k < 2) (hT : Tn < 4294967296) (hfl : ∀ i, i < ns k → ((d2 k).S i).fixed.length = 64) (hw : RotWay (ns k) (d2 k) z bit Tn v d') :
    Calls Try.prog 34 #[.pointer (some ⟨E k, 0, none⟩), .int .i64 z, .int .i64 bit, .int .u32 (Tn : Int)] w fun e w' => e = .returned (.int .i64 v) ∧ DMid o w T p q D E ns N s d s2 (upd d2 k d') w' := by
  obtain ⟨gs, vs, x⟩ := h.rv k hk
  rcases hw with ⟨hz, rfl, rfl⟩ | ⟨i, hi, hz, hb, hs, rfl, rfl⟩ | ⟨i, hi, hz, hb, hr, hl, hx, rfl, rfl⟩ | ⟨i, hi, hz, hb, hr, hl, hx, rfl, rfl⟩
  · exact (rrot_range x z bit _ hz).mono fun e w' ⟨h1', h2⟩ => by subst h1' h2; exact ⟨rfl, .same2 h⟩
  · subst hz; exact (rrot_state x i hi bit _ hb hs).mono fun e w' ⟨h1', h2⟩ => by subst h1' h2; exact ⟨rfl, .same2 h⟩
  · subst hz
    exact (rrot_clean x i hi bit Tn hb hT hr hl (hfl i hi)).mono fun e w' hh => by
      rcases hh with ⟨_, h2, h3⟩ | ⟨h1, _⟩
      · subst h2; exact ⟨rfl, DMid.then (.same2 h) h3⟩
      · exact absurd hx h1
  · subst hz
    exact (rrot_clean x i hi bit Tn hb hT hr hl (hfl i hi)).mono fun e w' hh => by
      rcases hh with ⟨h1, _⟩ | ⟨_, h2, ⟨vs', h3⟩, h4⟩
      · exact absurd h1 hx
      · subst h2
        exact ⟨rfl, .rturn h hk ⟨_, _, rext h3 h4.size (fun b y => h.lt b (by omega))⟩ (h4.mono (fun b _ e => e ▸ x.inG.2))⟩
theorem mid_fuse (h : Mid o w T p q D E ns N s d s2 d2) (z : Int) : Calls Try.prog 19 #[.pointer (some ⟨p, 0, none⟩), .int .i64 z] w fun e w' => e = .returned (.int .i64 (PS.fuseE s z)) ∧ DMid o w T p q D E ns N (PS.fuseS s z) d s2 d2 w' := by
  exact (fuse_any h.pw z).mono fun e w' ⟨h1, h2, h3, _⟩ => by
    subst h1
    refine ⟨rfl, .pow h (Nat.le_refl _) h.hN ?_ h2 h3⟩
    rw [fuse_done]; exact h.hs
theorem mid_rfuse (h : Mid o w T p q D E ns N s d s2 d2) (z : Int) : Calls Try.prog 35 #[.pointer (some ⟨q, 0, none⟩), .int .i64 z] w fun e w' => e = .returned (.int .i64 (PS.fuseE s2 z)) ∧ DMid o w T p q D E ns N s d (PS.fuseS s2 z) d2 w' := by
  exact (rfuse_any h.qw z).mono fun e w' ⟨h1, h2, h3, _⟩ => by
    subst h1
    refine ⟨rfl, .rpow h ?_ ?_ h2 h3⟩
    · rw [fuse_done]; exact h.hs2
    · intro j hj
      unfold PS.fuseS at hj
      split at hj
      · exact h.hf2 j hj
      · split at hj
        · exact h.hf2 j hj
        · rename_i hz
          by_cases hz0 : z < 0
          · simp [hz0] at hj
          · simp [hz0] at hj; omega
theorem mid_cut (h : Mid o w T p q D E ns N s d s2 d2) : Calls Try.prog 26 #[.pointer (some ⟨p, 0, none⟩)] w fun e w' => e = .returned (.tuple #[]) ∧ DMid o w T p q D E ns N { s with off := true } d s2 d2 w' := by
  exact (cut_any h.pw).mono fun e w' ⟨h1, h2, h3, _⟩ => by
    subst h1
    exact ⟨rfl, .pow h (Nat.le_refl _) h.hN h.hs h2 h3⟩
theorem mid_rcut (h : Mid o w T p q D E ns N s d s2 d2) : DMid o w T p q D E ns N s d { s2 with off := true } d2 (w.setCell ⟨q, 0, none⟩ (.bool true)) := by
  refine .rpow h h.hs2 h.hf2 ?_ (grown_cell ..)
  obtain ⟨l, h1, h2⟩ := h.qw.head
  exact ⟨l, by rw [heap_setCell_same _ _ _ _ _ _ h1]; rfl, h2⟩
theorem mid_fail (h : Mid o w T p q D E ns N s d s2 d2) (hk : k < 2) (u v : Nat) (hu : u < 18446744073709551616) (hv : v < 18446744073709551616) : Calls Try.prog 25 #[.pointer (some ⟨D k, 0, none⟩), .int .u64 (u : Int), .int .u64 (v : Int)] w fun e w' => e = .returned (.tuple #[]) ∧ DMid o w T p q D E ns N s (upd d k ⟨(d k).S, u, v⟩) s2 d2 w' := by
  obtain ⟨fx, m, r, g, x⟩ := h.dv k hk
  exact (fail_any x u v hu hv).mono fun e w' ⟨h1, h2, h3⟩ => by
    subst h1
    exact ⟨rfl, .turn h hk (Nat.le_refl _) h.hN h2 h3⟩
theorem mid_rfail (h : Mid o w T p q D E ns N s d s2 d2) (hk : k < 2) (u v : Nat) (hu : u < 18446744073709551616) (hv : v < 18446744073709551616) : DMid o w T p q D E ns N s d s2 (upd d2 k ⟨(d2 k).S, u, v⟩) ((w.setCell ⟨E k, 2, none⟩ (.int .u64 (u : Int))).setCell ⟨E k, 3, none⟩ (.int .u64 (v : Int))) := by
  obtain ⟨gs, vs, x⟩ := h.rv k hk
  exact .rturn h hk ⟨gs, vs, rext ((x.set2 u hu).set3 v hv) (by rw [size_cell, size_cell]; exact Nat.le_refl _) (fun b y => h.lt b (by omega))⟩ (Chg.of_grown (grown2 (grown_cell ..) (grown_cell ..)) (fun b e _ => by injection e with e; subst e; exact x.inG.1))
/-- what sectors are like -/
theorem Mid.secs (h : Mid o w T p q D E ns N s d s2 d2) (hk : k < 2) : ns k ≤ 4096 ∧ ∀ i, i < ns k → ((d k).S i).loose.length ≤ N ∧ ((d k).S i).fixed.length = 64 := by
  obtain ⟨fx, m, r, g, x⟩ := h.dv k hk
  exact ⟨x.hn, fun i hi => ⟨x.hl i hi, x.fixd.len hi⟩⟩
end
end Go.Proofs.Ytdkniholeaiemaa.W
