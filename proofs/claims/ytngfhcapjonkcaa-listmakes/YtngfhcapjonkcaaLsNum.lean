/-
  Rings of links and rows of numbers, as plain mathematics. No conditions.
-/
import Derived.Test.YtngfhcapjonkcaaLsTurn
namespace Go.Proofs.Ytngfhcapjonkcaa.Ls
open W
set_option linter.unusedVariables false

/-- each one's next is the one behind it, whose previous one it is -/
def Lk (f : Nat → Lnk) : List Nat → Prop
  | a :: b :: t => (f a).next = b ∧ (f b).prev = a ∧ Lk f (b :: t)
  | _ => True

theorem Lk.right {f : Nat → Lnk} : ∀ (u : List Nat) {v : List Nat}, Lk f (u ++ v) → Lk f v
  | [], v, h => h
  | [a], [], _ => trivial
  | [a], b :: t, h => h.2.2
  | a :: b :: u, v, h => Lk.right (b :: u) h.2.2
theorem Lk.left {f : Nat → Lnk} {a : Nat} {v : List Nat} : ∀ (u : List Nat), Lk f (u ++ a :: v) → Lk f (u ++ [a])
  | [], _ => trivial
  | [b], h => ⟨h.1, h.2.1, trivial⟩
  | b :: c :: u, h => ⟨h.1, h.2.1, Lk.left (c :: u) h.2.2⟩
theorem Lk.join {f : Nat → Lnk} {a : Nat} {v : List Nat} : ∀ (u : List Nat), Lk f (u ++ [a]) → Lk f (a :: v) → Lk f (u ++ a :: v)
  | [], _, h => h
  | [b], h, k => ⟨h.1, h.2.1, k⟩
  | b :: c :: u, h, k => ⟨h.1, h.2.1, Lk.join (c :: u) h.2.2 k⟩
theorem Lk.mid {f : Nat → Lnk} {a b : Nat} (u v : List Nat) (h : Lk f (u ++ a :: b :: v)) : (f a).next = b ∧ (f b).prev = a := by
  have := Lk.right u h
  exact ⟨this.1, this.2.1⟩
theorem Lk.congr {f g : Nat → Lnk} : ∀ (l : List Nat), (∀ x ∈ l.dropLast, (g x).next = (f x).next) → (∀ x ∈ l.tail, (g x).prev = (f x).prev) → Lk f l → Lk g l
  | [], _, _, _ => trivial
  | [_], _, _, _ => trivial
  | a :: b :: t, h1, h2, h => by
    refine ⟨?_, ?_, Lk.congr (b :: t) (fun x hx => h1 x ?_) (fun x hx => h2 x ?_) h.2.2⟩
    · rw [h1 a (by simp)]; exact h.1
    · rw [h2 b (by simp)]; exact h.2.1
    · rw [List.dropLast_cons_cons]; exact List.mem_cons_of_mem _ hx
    · exact List.mem_cons_of_mem _ hx

/-- two lists next to each other, linked across -/
theorem Lk.two {f g : Nat → Lnk} {p q : Nat} {u v : List Nat} (hu : Lk f (u ++ [p])) (hv : Lk f (q :: v)) (h1 : ∀ x ∈ u, (g x).next = (f x).next) (h2 : ∀ x ∈ (u ++ [p]).tail, (g x).prev = (f x).prev)
    (h3 : (g p).next = q) (h4 : (g q).prev = p) (h5 : ∀ x ∈ (q :: v).dropLast, (g x).next = (f x).next) (h6 : ∀ x ∈ v, (g x).prev = (f x).prev) : Lk g (u ++ p :: q :: v) :=
  Lk.join u (Lk.congr _ (by rw [List.dropLast_concat]; exact h1) h2 hu) ⟨h3, h4, Lk.congr _ h5 h6 hv⟩

/-- the links behind a cut -/
def cutF (f : Nat → Lnk) (a p q : Nat) : Nat → Lnk := setLnk (setPrev (setNext f p q) q p) a ⟨a, a, -1⟩
/-- the links behind an insertion -/
def putF (f : Nat → Lnk) (a p q : Nat) (k : Int) : Nat → Lnk := setPrev (setNext (setLnk f a ⟨p, q, k⟩) p a) q a

theorem cut_next {f : Nat → Lnk} {a p q x : Nat} (ha : x ≠ a) : (cutF f a p q x).next = if x = p then q else (f x).next := by
  unfold cutF setLnk setPrev setNext
  simp only [ha, if_false]
  by_cases h1 : x = q <;> by_cases h2 : x = p <;> simp [h1, h2] <;> split <;> simp_all
theorem cut_prev {f : Nat → Lnk} {a p q x : Nat} (ha : x ≠ a) : (cutF f a p q x).prev = if x = q then p else (f x).prev := by
  unfold cutF setLnk setPrev setNext
  simp only [ha, if_false]
  by_cases h1 : x = q <;> by_cases h2 : x = p <;> simp [h1, h2] <;> split <;> simp_all
theorem cut_list {f : Nat → Lnk} {a p q x : Nat} (ha : x ≠ a) : (cutF f a p q x).list = (f x).list := by
  unfold cutF setLnk setPrev setNext
  simp only [ha, if_false]
  by_cases h1 : x = q <;> by_cases h2 : x = p <;> simp [h1, h2] <;> split <;> simp_all
theorem cut_self {f : Nat → Lnk} {a p q : Nat} : cutF f a p q a = ⟨a, a, -1⟩ := if_pos rfl
theorem cut_far {f : Nat → Lnk} {a p q x : Nat} (ha : x ≠ a) (hp : x ≠ p) (hq : x ≠ q) : cutF f a p q x = f x := by
  unfold cutF setLnk setPrev setNext
  simp [ha, hp, hq]
theorem put_next {f : Nat → Lnk} {a p q x : Nat} {k : Int} (ha : x ≠ a) : (putF f a p q k x).next = if x = p then a else (f x).next := by
  unfold putF setLnk setPrev setNext
  by_cases h1 : x = q <;> by_cases h2 : x = p <;> simp [h1, h2, ha] <;> split <;> simp_all
theorem put_prev {f : Nat → Lnk} {a p q x : Nat} {k : Int} (ha : x ≠ a) : (putF f a p q k x).prev = if x = q then a else (f x).prev := by
  unfold putF setLnk setPrev setNext
  by_cases h1 : x = q <;> by_cases h2 : x = p <;> simp [h1, h2, ha] <;> split <;> simp_all
theorem put_list {f : Nat → Lnk} {a p q x : Nat} {k : Int} (ha : x ≠ a) : (putF f a p q k x).list = (f x).list := by
  unfold putF setLnk setPrev setNext
  by_cases h1 : x = q <;> by_cases h2 : x = p <;> simp [h1, h2, ha] <;> split <;> simp_all
theorem put_self {f : Nat → Lnk} {a p q : Nat} {k : Int} (hp : p ≠ a) (hq : q ≠ a) : putF f a p q k a = ⟨p, q, k⟩ := by
  unfold putF setLnk setPrev setNext
  simp [hp.symm, hq.symm]
theorem put_far {f : Nat → Lnk} {a p q x : Nat} {k : Int} (ha : x ≠ a) (hp : x ≠ p) (hq : x ≠ q) : putF f a p q k x = f x := by
  unfold putF setLnk setPrev setNext
  simp [ha, hp, hq]


structure Nd (h a : Nat) (u v : List Nat) : Prop where
  hu : h ∉ u
  ha : h ≠ a
  hv : h ∉ v
  un : u.Nodup
  vn : v.Nodup
  au : a ∉ u
  av : a ∉ v
  uv : ∀ x ∈ u, x ∉ v
theorem nd_of {h a : Nat} {u v : List Nat} (hnd : (h :: (u ++ a :: v)).Nodup) : Nd h a u v := by
  rw [List.nodup_cons, List.mem_append, List.mem_cons, List.nodup_append, List.nodup_cons] at hnd
  obtain ⟨h1, h2, ⟨h3, h4⟩, h5⟩ := hnd
  exact ⟨fun x => h1 (.inl x), fun x => h1 (.inr (.inl x)), fun x => h1 (.inr (.inr x)), h2, h4, fun x => h5 a x a (by simp) rfl, h3, fun x hx hx2 => h5 x hx x (by simp [hx2]) rfl⟩
theorem nd_in {h a : Nat} {u v : List Nat} (hnd : (h :: (u ++ v)).Nodup) (ha : a ∉ h :: (u ++ v)) : Nd h a u v := by
  rw [List.nodup_cons, List.mem_append, List.nodup_append] at hnd
  rw [List.mem_cons, List.mem_append] at ha
  obtain ⟨h1, h2, h4, h5⟩ := hnd
  exact ⟨fun x => h1 (.inl x), fun x => ha (.inl x.symm), fun x => h1 (.inr x), h2, h4, fun x => ha (.inr (.inl x)), fun x => ha (.inr (.inr x)), fun x hx hx2 => h5 x hx x hx2 rfl⟩
structure Ends (h a p q : Nat) (u v u' v' : List Nat) : Prop where
  pa : p ≠ a
  qa : q ≠ a
  pu : p ∉ u'
  qv : q ∉ v'
  au' : a ∉ u'
  av' : a ∉ v'
  pv : p ∉ v
  qu : q ∉ u
theorem ends {h a p q : Nat} {u v u' v' : List Nat} (d : Nd h a u v) (e1 : h :: u = u' ++ [p]) (e2 : v ++ [h] = q :: v') : Ends h a p q u v u' v' := by
  have hp : p ∈ h :: u := by rw [e1]; simp
  have hq : q ∈ v ++ [h] := by rw [e2]; simp
  have n1 : (u' ++ [p]).Nodup := by rw [← e1, List.nodup_cons]; exact ⟨d.hu, d.un⟩
  have n2 : (q :: v').Nodup := by rw [← e2, List.nodup_append]; exact ⟨d.vn, by simp, fun x hx y hy => by simp at hy; subst hy; exact fun e => d.hv (e ▸ hx)⟩
  rw [List.nodup_append] at n1
  rw [List.nodup_cons] at n2
  have a1 : a ∉ h :: u := by simp [d.ha.symm, d.au]
  have a2 : a ∉ v ++ [h] := by simp [d.ha.symm, d.av]
  refine ⟨fun e => a1 (e ▸ hp), fun e => a2 (e ▸ hq), fun x => n1.2.2 p x p (by simp) rfl, n2.1, fun x => a1 (by rw [e1]; simp [x]), fun x => a2 (by rw [e2]; simp [x]), ?_, ?_⟩
  · rcases List.mem_cons.1 hp with rfl | hp
    · exact d.hv
    · exact d.uv p hp
  · rcases List.mem_append.1 hq with hq | hq
    · exact fun x => d.uv q x hq
    · simp at hq; subst hq; exact d.hu
theorem tail_u {h p : Nat} {u u' : List Nat} (e1 : h :: u = u' ++ [p]) : (u' ++ [p]).tail = u := by rw [← e1]; rfl
theorem drop_v {h q : Nat} {v v' : List Nat} (e2 : v ++ [h] = q :: v') : (q :: v').dropLast = v := by rw [← e2, List.dropLast_concat]

theorem nm {x a : Nat} {l : List Nat} (hx : x ∈ l) (ha : a ∉ l) : x ≠ a := fun e => ha (e ▸ hx)
/-- WHAT IS CUT OUT LEAVES A RING -/
theorem ring_cut {f : Nat → Lnk} {h a p q : Nat} {u v u' v' : List Nat} (hnd : (h :: (u ++ a :: v)).Nodup) (e1 : h :: u = u' ++ [p]) (e2 : v ++ [h] = q :: v') (hl : Lk f (h :: (u ++ a :: v) ++ [h])) :
    p ≠ a ∧ q ≠ a ∧ (f a).prev = p ∧ (f a).next = q ∧ Lk (cutF f a p q) (h :: (u ++ v) ++ [h]) := by
  have d := nd_of hnd
  have E := ends d e1 e2
  have ec : h :: (u ++ a :: v) ++ [h] = u' ++ p :: a :: q :: v' := by
    have : h :: (u ++ a :: v) ++ [h] = (h :: u) ++ a :: (v ++ [h]) := by simp
    rw [this, e1, e2]; simp
  have ec2 : h :: (u ++ v) ++ [h] = u' ++ p :: q :: v' := by
    have : h :: (u ++ v) ++ [h] = (h :: u) ++ (v ++ [h]) := by simp
    rw [this, e1, e2]; simp
  rw [ec] at hl
  have m1 := Lk.mid u' (q :: v') hl
  have hl2 : Lk f ((u' ++ [p]) ++ a :: q :: v') := by simpa using hl
  have m2 := Lk.mid (u' ++ [p]) v' hl2
  refine ⟨E.pa, E.qa, m1.2, m2.1, ?_⟩
  rw [ec2]
  have hr : Lk f (q :: v') := Lk.right (u' ++ [p, a]) (by simpa using hl)
  refine Lk.two (Lk.left u' hl) hr (fun x hx => ?_) (fun x hx => ?_) ?_ ?_ (fun x hx => ?_) (fun x hx => ?_)
  · rw [cut_next (nm hx E.au'), if_neg (nm hx E.pu)]
  · rw [tail_u e1] at hx
    rw [cut_prev (nm hx d.au), if_neg (nm hx E.qu)]
  · rw [cut_next E.pa, if_pos rfl]
  · rw [cut_prev E.qa, if_pos rfl]
  · rw [drop_v e2] at hx
    rw [cut_next (nm hx d.av), if_neg (nm hx E.pv)]
  · rw [cut_prev (nm hx E.av'), if_neg (nm hx E.qv)]

/-- WHAT IS PUT IN LEAVES A RING -/
theorem ring_put {f : Nat → Lnk} {h a p q : Nat} {k : Int} {u v u' v' : List Nat} (hnd : (h :: (u ++ v)).Nodup) (ha : a ∉ h :: (u ++ v)) (e1 : h :: u = u' ++ [p]) (e2 : v ++ [h] = q :: v') (hl : Lk f (h :: (u ++ v) ++ [h])) :
    p ≠ a ∧ q ≠ a ∧ (f p).next = q ∧ Lk (putF f a p q k) (h :: (u ++ a :: v) ++ [h]) := by
  have d := nd_in hnd ha
  have E := ends d e1 e2
  have ec : h :: (u ++ a :: v) ++ [h] = u' ++ p :: a :: q :: v' := by
    have : h :: (u ++ a :: v) ++ [h] = (h :: u) ++ a :: (v ++ [h]) := by simp
    rw [this, e1, e2]; simp
  have ec2 : h :: (u ++ v) ++ [h] = u' ++ p :: q :: v' := by
    have : h :: (u ++ v) ++ [h] = (h :: u) ++ (v ++ [h]) := by simp
    rw [this, e1, e2]; simp
  rw [ec2] at hl
  have m1 := Lk.mid u' v' hl
  refine ⟨E.pa, E.qa, m1.1, ?_⟩
  rw [ec]
  have hr : Lk f (q :: v') := Lk.right (u' ++ [p]) (by simpa using hl)
  have hr2 : Lk (putF f a p q k) (q :: v') := by
    refine Lk.congr _ (fun x hx => ?_) (fun x hx => ?_) hr
    · rw [drop_v e2] at hx
      rw [put_next (nm hx d.av), if_neg (nm hx E.pv)]
    · have hx' : x ∈ v' := hx
      rw [put_prev (nm hx' E.av'), if_neg (nm hx' E.qv)]
  have hs := put_self (f := f) (k := k) E.pa E.qa
  refine Lk.join u' (Lk.congr _ (fun x hx => ?_) (fun x hx => ?_) (Lk.left u' hl)) ⟨?_, ?_, ?_, ?_, hr2⟩
  · rw [List.dropLast_concat] at hx
    rw [put_next (nm hx E.au'), if_neg (nm hx E.pu)]
  · rw [tail_u e1] at hx
    rw [put_prev (nm hx d.au), if_neg (nm hx E.qu)]
  · rw [put_next E.pa, if_pos rfl]
  · rw [hs]
  · rw [hs]
  · rw [put_prev E.qa, if_pos rfl]

/-- rows in which no number stands twice, all below n -/
structure Ok (n : Nat) (L : List (List Nat)) : Prop where
  lt : ∀ (k : Nat) (r : List Nat), L[k]? = some r → ∀ x ∈ r, x < n
  nd : ∀ (k : Nat) (r : List Nat), L[k]? = some r → r.Nodup
  one : ∀ (j k : Nat) (r t : List Nat) (x : Nat), L[j]? = some r → L[k]? = some t → x ∈ r → x ∈ t → j = k
/-- links that fit to rows -/
structure Fit (n : Nat) (L : List (List Nat)) (f : Nat → Lnk) : Prop where
  ring : ∀ (k : Nat) (r : List Nat), L[k]? = some r → Lk f ((n + k) :: r ++ [n + k])
  list : ∀ (k : Nat) (r : List Nat), L[k]? = some r → ∀ x ∈ (n + k) :: r, (f x).list = (k : Int)
  free : ∀ x, x < n → (∀ (k : Nat) (r : List Nat), L[k]? = some r → x ∉ r) → f x = ⟨x, x, -1⟩

theorem get_set {L : List (List Nat)} {k j : Nat} {r r' t : List Nat} (hk : L[k]? = some r) : (L.set k r')[j]? = some t ↔ (j = k ∧ t = r') ∨ (j ≠ k ∧ L[j]? = some t) := by
  have hlt := (List.getElem?_eq_some_iff.1 hk).1
  rw [List.getElem?_set]
  by_cases e : k = j
  · subst e
    simp [hlt, eq_comm]
  · have : j ≠ k := fun x => e x.symm
    simp [e, this]
theorem ok_set {n : Nat} {L : List (List Nat)} {k : Nat} {r r' : List Nat} (h : Ok n L) (hk : L[k]? = some r) (h1 : ∀ x ∈ r', x < n) (h2 : r'.Nodup) (h3 : ∀ x ∈ r', ∀ (j : Nat) (t : List Nat), L[j]? = some t → j ≠ k → x ∉ t) : Ok n (L.set k r') := by
  refine ⟨fun j t hj x hx => ?_, fun j t hj => ?_, fun j i t t2 x hj hi hx hx2 => ?_⟩
  · rcases (get_set hk).1 hj with ⟨rfl, rfl⟩ | ⟨_, hj⟩
    · exact h1 x hx
    · exact h.lt j t hj x hx
  · rcases (get_set hk).1 hj with ⟨rfl, rfl⟩ | ⟨_, hj⟩
    · exact h2
    · exact h.nd j t hj
  · rcases (get_set hk).1 hj with ⟨rfl, rfl⟩ | ⟨nj, hj⟩ <;> rcases (get_set hk).1 hi with ⟨rfl, rfl⟩ | ⟨ni, hi⟩
    · rfl
    · exact absurd hx2 (h3 x hx i t2 hi ni)
    · exact absurd hx (h3 x hx2 j t (by assumption) nj)
    · exact h.one j i t t2 x hj hi hx hx2
/-- the first behind a head, and the last ahead of it -/
theorem first_of (v : List Nat) (h : Nat) : ∃ q v', v ++ [h] = q :: v' ∧ (q ∈ v ∨ q = h) := by
  cases v with
  | nil => exact ⟨h, [], rfl, .inr rfl⟩
  | cons a v => exact ⟨a, v ++ [h], rfl, .inl (by simp)⟩
theorem last_of (h : Nat) (u : List Nat) : ∃ u' p, h :: u = u' ++ [p] ∧ (p ∈ u ∨ p = h) := by
  have hne : h :: u ≠ [] := by simp
  refine ⟨(h :: u).dropLast, (h :: u).getLast hne, (List.dropLast_concat_getLast hne).symm, ?_⟩
  have := List.getLast_mem hne
  rcases List.mem_cons.1 this with e | e
  · exact .inr e
  · exact .inl e
end Go.Proofs.Ytngfhcapjonkcaa.Ls
