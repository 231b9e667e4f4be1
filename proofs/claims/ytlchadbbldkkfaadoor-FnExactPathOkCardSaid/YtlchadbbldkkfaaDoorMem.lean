/- Words for slices of bytes: what a slice reads as (Sl), a row that a call made itself (Own), and how both are kept while memory grows. No program is named here. -/
import Derived.Below
import Derived.Laws.OwnMore
import Derived.Deep.Draws
import Derived.OwnWalk
import Derived.Laws.AppendOwnNone
import Derived.WalkKit
namespace Go.Proofs.YtlchadbbldkkfaaDoor
open Go.RowKit

/-- The number in cell k of a list of bytes. -/
def bt (l : List UInt8) (k : Nat) : Int := ((l.getD k 0).toNat : Int)
theorem bt_lo (l : List UInt8) (k : Nat) : 0 ≤ bt l k := by unfold bt; omega
theorem bt_hi (l : List UInt8) (k : Nat) : bt l k ≤ 255 := by
  unfold bt
  have := (l.getD k 0).toNat_lt
  omega
theorem bt_app_lt (l m : List UInt8) (k : Nat) (h : k < l.length) : bt (l ++ m) k = bt l k := by
  unfold bt
  simp [List.getD_eq_getElem?_getD, List.getElem?_append_left h]
theorem bt_app_ge (l m : List UInt8) (k : Nat) : bt (l ++ m) (l.length + k) = bt m k := by
  unfold bt
  simp [List.getD_eq_getElem?_getD, List.getElem?_append_right]
theorem bt_cons_zero (c : UInt8) (l : List UInt8) : bt (c :: l) 0 = (c.toNat : Int) := rfl
theorem bt_cons_succ (c : UInt8) (l : List UInt8) (k : Nat) : bt (c :: l) (k + 1) = bt l k := rfl
theorem bt_ext {l m : List UInt8} (hl : l.length = m.length) (h : ∀ k, k < l.length → bt l k = bt m k) : l = m := by
  apply List.ext_getElem hl
  intro k h1 h2
  have := h k h1
  unfold bt at this
  rw [List.getD_eq_getElem?_getD, List.getD_eq_getElem?_getD, List.getElem?_eq_getElem h1, List.getElem?_eq_getElem h2] at this
  exact UInt8.toNat_inj.1 (by simp at this; omega)

/-- The cells of a list of bytes. -/
def us (l : List UInt8) : List Value := l.map fun c => Value.int .u8 (c.toNat : Int)
theorem us_length (l : List UInt8) : (us l).length = l.length := by simp [us]
theorem us_nil : us [] = [] := rfl
theorem us_app (l m : List UInt8) : us (l ++ m) = us l ++ us m := by simp [us]
theorem us_one (c : UInt8) : us [c] = [.int .u8 (c.toNat : Int)] := rfl
theorem us_get (l : List UInt8) (k : Nat) (h : k < l.length) : (us l)[k]? = some (.int .u8 (bt l k)) := by
  simp [us, bt, List.getElem?_eq_getElem h, List.getD_eq_getElem?_getD]
theorem us_cell (l : List UInt8) : ∀ u ∈ us l, u.oneCell' = true := by
  intro u hu
  simp only [us, List.mem_map] at hu
  obtain ⟨c, _, rfl⟩ := hu
  rfl
theorem us_set (l : List UInt8) (k : Nat) (c : UInt8) : (us l).set k (.int .u8 (c.toNat : Int)) = us (l.set k c) := by
  simp [us, List.map_set]

/-- The slice v reads as l, in blocks below B. -/
def Sl (w : World) (B : Nat) (v : Value) (l : List UInt8) : Prop :=
  ∃ A c, v = .slice A l.length c ∧ l.length ≤ c ∧ c ≤ maxLen ∧ (A = none → c = 0) ∧
    (0 < l.length → ∃ b off, A = some ⟨b, off, none⟩ ∧ b < B ∧ ∀ k, k < l.length → w.cell? ⟨b, off + k, none⟩ = some (.int .u8 (bt l k)))
/-- A slice of the call's own that reads as l. -/
def Own (E : TypeId) (w : World) (B : Nat) (v : Value) (l : List UInt8) : Prop := w.ownsRow B E 1 v l.length (us l)

section
variable {E : TypeId} {w w' : World} {B B' : Nat} {v : Value} {l : List UInt8}
theorem Sl.nil_ : Sl w B (.slice none 0 0) [] := ⟨none, 0, rfl, Nat.le_refl _, by simp [maxLen], fun _ => rfl, fun h => absurd h (by simp)⟩
theorem Sl.mono (h : Sl w B v l) (hB : B ≤ B') : Sl w B' v l := by
  obtain ⟨A, c, rfl, h1, h2, h0, h3⟩ := h
  exact ⟨A, c, rfl, h1, h2, h0, fun hp => by
    obtain ⟨b, off, e, hb, hc⟩ := h3 hp
    exact ⟨b, off, e, by omega, hc⟩⟩
theorem Sl.below (h : Sl w B v l) (hb : Below B w w') : Sl w' B v l := by
  obtain ⟨A, c, rfl, h1, h2, h0, h3⟩ := h
  exact ⟨A, c, rfl, h1, h2, h0, fun hp => by
    obtain ⟨b, off, e, hbb, hc⟩ := h3 hp
    exact ⟨b, off, e, hbb, fun k hk => (hb.cell (p := ⟨b, off + k, none⟩) hbb).trans (hc k hk)⟩⟩
theorem Sl.up (h : Sl w w.heap.size v l) (hb : Below w.heap.size w w') : Sl w' w'.heap.size v l := (h.below hb).mono hb.size
theorem Own.sl (h : Own E w B v l) : Sl w w.heap.size v l := by
  rcases h.2 with ⟨rfl, h0⟩ | ⟨g, cap, cur, rfl, hb, hg, hn, hm, hs, ht⟩
  · have : l = [] := List.eq_nil_of_length_eq_zero h0
    subst this
    exact Sl.nil_
  · refine ⟨_, cap, rfl, hn, hm, (fun e => by cases e), fun _ => ⟨g, 0, rfl, (Array.getElem?_eq_some_iff.1 hg).1, fun k hk => ?_⟩⟩
    have hcell := (World.ownsRow.cellAt (base := B) (e := E) (size := 1) (n := l.length) (xs := us l) h k (by simpa using hk)).trans (us_get l k hk)
    simpa using hcell
theorem Own.lt (h : Own E w B v l) : ∀ g, v.ownBlock = some g → B ≤ g ∧ g < w.heap.size := World.ownsRow.lt h
theorem Own.kept {row : Option Nat} (h : Own E w B v l) (hg : w.grownBy w' row) (hne : v.ownBlock = none ∨ v.ownBlock ≠ row) : Own E w' B v l := World.ownsRow.kept h hg hne
theorem grown_of_below (h : Below w.heap.size w w') (row : Option Nat) : w.grownBy w' row := ⟨h.os, h.tape, h.output, h.size, fun i hi _ => h.block i hi⟩
theorem Own.up (h : Own E w B v l) (hb : Below w.heap.size w w') : Own E w' B v l := by
  refine h.kept (grown_of_below hb (some w.heap.size)) ?_
  rcases hv : v.ownBlock with _ | g
  · exact .inl rfl
  · refine .inr fun e => ?_
    have := (h.lt g hv).2
    injection e with e
    omega
theorem Own.mono (h : Own E w B v l) (hB : B' ≤ B) : Own E w B' v l := by
  refine ⟨h.1, ?_⟩
  rcases h.2 with hn | ⟨g, cap, cur, rfl, hb, rest⟩
  · exact .inl hn
  · exact .inr ⟨g, cap, cur, rfl, by omega, rest⟩
theorem Own.len (h : Own E w B v l) : l.length ≤ maxLen := by
  rcases h.2 with ⟨rfl, h0⟩ | ⟨g, cap, cur, rfl, hb, hg, hn, hm, hs, ht⟩
  · omega
  · omega
theorem Own.drewN (h : Own E w B v l) (n : Nat) : Own E (w.drewN n) B v l := h
theorem Sl.drewN (h : Sl w B v l) (n : Nat) : Sl (w.drewN n) B v l := h
theorem below_drewN {a : World} (h : Below B a w) (n : Nat) : Below B a (w.drewN n) := ⟨h.os, h.tape, h.output, h.size, h.block⟩
end

theorem gtrans {a b c : World} {row : Option Nat} (h : a.grownBy b row) (k : b.grownBy c row) : a.grownBy c row :=
  ⟨k.os.trans h.os, k.tape.trans h.tape, k.output.trans h.output, Nat.le_trans h.size k.size, fun i hi hne => (k.block i (Nat.lt_of_lt_of_le hi h.size) hne).trans (h.block i hi hne)⟩

/-- The rows that a call has made so far: none is shared, none lies in memory that was there before. -/
def Inv (E : TypeId) (W w : World) (rs : List (Value × List UInt8)) : Prop :=
  Below W.heap.size W w ∧ (∀ p ∈ rs, Own E w W.heap.size p.1 p.2) ∧ rs.Pairwise fun p q => p.1.ownBlock = none ∨ p.1.ownBlock ≠ q.1.ownBlock

section
variable {E : TypeId} {W w w' : World} {rs : List (Value × List UInt8)}
theorem Inv.start (W : World) : Inv E W W [] := by
  refine ⟨Below.refl _ _, ?_, List.Pairwise.nil⟩
  intro p hp
  cases hp
theorem Inv.bel (H : Inv E W w rs) : Below W.heap.size W w := H.1
theorem Inv.le (H : Inv E W w rs) : W.heap.size ≤ w.heap.size := H.1.size
theorem Inv.old {v : Value} {l : List UInt8} (H : Inv E W w rs) (h : Sl W W.heap.size v l) : Sl w w.heap.size v l := h.up H.1
theorem Inv.own (H : Inv E W w rs) {v : Value} {l : List UInt8} (hm : (v, l) ∈ rs) : Own E w W.heap.size v l := H.2.1 _ hm
theorem Inv.sl (H : Inv E W w rs) {v : Value} {l : List UInt8} (hm : (v, l) ∈ rs) : Sl w w.heap.size v l := (H.own hm).sl
theorem Inv.sub (H : Inv E W w rs) {qs : List (Value × List UInt8)} (h : qs.Sublist rs) : Inv E W w qs := ⟨H.1, fun p hp => H.2.1 p (h.subset hp), H.2.2.sublist h⟩
/-- Nothing that was there has turned: every row stays. -/
theorem Inv.up (H : Inv E W w rs) (hb : Below w.heap.size w w') : Inv E W w' rs := ⟨H.1.trans (hb.mono H.le), fun p hp => (H.2.1 p hp).up hb, H.2.2⟩
/-- A call has made a row more. -/
theorem Inv.more (H : Inv E W w rs) {v : Value} {l : List UInt8} (ho : Own E w' w.heap.size v l) (hb : Below w.heap.size w w') : Inv E W w' ((v, l) :: rs) := by
  have H' := H.up hb
  refine ⟨H'.1, fun p hp => ?_, List.pairwise_cons.2 ⟨fun q hq => ?_, H'.2.2⟩⟩
  · rcases List.mem_cons.1 hp with rfl | hp
    · exact ho.mono H.le
    · exact H'.2.1 p hp
  · rcases hv : v.ownBlock with _ | g
    · exact .inl rfl
    · refine .inr fun e => ?_
      have h1 := (ho.lt g hv).1
      have h2 := ((H.2.1 q hq).lt g e.symm).2
      omega
theorem Inv.drewN (H : Inv E W w rs) (n : Nat) : Inv E W (w.drewN n) rs := ⟨below_drewN H.1 n, H.2.1, H.2.2⟩
/-- A call has written into one row alone, the head of the list. -/
theorem Inv.wrote {v : Value} {l l' : List UInt8} (H : Inv E W w ((v, l) :: rs)) (ho : Own E w' W.heap.size v l') (hg : w.grownBy w' v.ownBlock) : Inv E W w' ((v, l') :: rs) := by
  obtain ⟨hr, hp⟩ := List.pairwise_cons.1 H.2.2
  refine ⟨H.1.grown hg H.le (fun k hk => ((H.own (.head _)).lt k hk).1), fun p hpm => ?_, List.pairwise_cons.2 ⟨hr, hp⟩⟩
  rcases List.mem_cons.1 hpm with rfl | hpm
  · exact ho
  · refine (H.2.1 p (.tail _ hpm)).kept hg ?_
    rcases hr p hpm with e | e
    · rcases hq : p.1.ownBlock with _ | g
      · exact .inl rfl
      · refine .inr ?_
        simp only at e
        rw [e]
        simp
    · rcases hq : p.1.ownBlock with _ | g
      · exact .inl rfl
      · exact .inr fun e' => e (by rw [← e', hq])
/-- The rows in another order. -/
theorem Inv.perm {qs : List (Value × List UInt8)} (H : Inv E W w rs) (h : rs.Perm qs) : Inv E W w qs :=
  ⟨H.1, fun p hp => H.2.1 p (h.mem_iff.2 hp), (h.pairwise_iff (fun {p q} hpq => by
    rcases hpq with e | e
    · rcases hq : q.1.ownBlock with _ | g
      · exact .inl rfl
      · exact .inr (by rw [e]; simp)
    · rcases hq : q.1.ownBlock with _ | g
      · exact .inl rfl
      · exact .inr fun e' => e (by rw [← e', hq]))).1 H.2.2⟩
/-- A call has written into row i alone. -/
theorem Inv.wroteAt (i : Nat) {v : Value} {l l' : List UInt8} (hi : rs[i]? = some (v, l)) (H : Inv E W w rs) (ho : Own E w' W.heap.size v l') (hg : w.grownBy w' v.ownBlock) : Inv E W w' (rs.set i (v, l')) := by
  obtain ⟨hlt, he⟩ := List.getElem?_eq_some_iff.1 hi
  have e1 : rs = rs.take i ++ (v, l) :: rs.drop (i + 1) := by
    rw [← he, ← List.drop_eq_getElem_cons hlt, List.take_append_drop]
  have e2 : rs.set i (v, l') = rs.take i ++ (v, l') :: rs.drop (i + 1) := List.set_eq_take_append_cons_drop.trans (if_pos hlt)
  rw [e2]
  rw [e1] at H
  exact ((H.perm List.perm_middle).wrote ho hg).perm List.perm_middle.symm
end

/-- A call makes a row of its own by appending: what it has is its own, and nothing that was there when it began has turned. -/
theorem below_of_own {E : TypeId} {W w w' : World} {v : Value} {l : List UInt8} (hown : Own E w W.heap.size v l) (hb : Below W.heap.size W w) (hg : w.grownBy w' v.ownBlock) : Below W.heap.size W w' :=
  hb.grown hg hb.size fun k hk => (hown.lt k hk).1

/-- 'append(out, c)' for one byte c: out is nil or the call's own. -/
theorem wpList_app1 {P : Program} {W w : World} {ops : Array Oper} {rest : List Oper} {o : Oper} {a : Act} {Q : Exit → Act → World → Prop} (hgd : o.guard = none) (s x : Operand) (t : TypeId)
    (ho : o.op = .call { callee := .builtin .append, args := #[s, x], argTypes := #[t, t] }) (E : TypeId) (i : TypeInfo) (ht : P.underlying t = some (.slice E)) (hi : P.info? E = some i)
    (hz : i.zero = some (.int .u8 0)) (hsize : i.size = 1) (hby : i.bytes = 1) (v : Value) (l : List UInt8) (hs : a.eval s = v) (z : Int) (c : UInt8) (hzc : Hid (z = (c.toNat : Int)))
    (hx : a.eval x = .slice (some ⟨w.heap.size, 0, none⟩) 1 1) (hown : Own E w W.heap.size v l) (hb : Below W.heap.size W w) (hlen : l.length ≤ 70368744177664)
    (h : ∀ v' w', Own E w' W.heap.size v' (l ++ [c]) → Below W.heap.size W w' → wpList P ops Q rest (a.put o.dst v') w') : wpList P ops Q (o :: rest) a (w.alloc (.cells #[.int .u8 z] E)) := by
  have hzc := hzc.out
  subst hzc
  have hba : Below w.heap.size w (w.alloc (.cells #[.int .u8 (c.toNat : Int)] E)) := (Below.refl _ _).alloc (Nat.le_refl _) _
  have hown' := hown.up hba
  refine wpList_append_own _ hgd s x t ho W.heap.size E i (.int .u8 0) 1 1 ht hi hz hsize hby rfl (by omega) v l.length (us l) hs hown' ⟨w.heap.size, 0, none⟩ 1 1 (us [c]) hx rfl ?_ (us_cell _) ?_ ?_ ?_ ?_
  · intro j u hj
    rcases j with _ | j
    · rw [us_one] at hj
      injection hj with hj
      subst hj
      simp [Addr.add]
    · simp [us_one] at hj
  · unfold maxLen; omega
  · omega
  · simp; have := hb.size; omega
  · intro v' w' h1 h2 _
    refine h v' w' ?_ ?_
    · unfold Own
      rw [us_app, List.length_append]
      exact h1
    · exact below_of_own hown' (hb.alloc hb.size _) h2

/-- 'append(out, x...)' for a slice x of bytes: out is nil or the call's own. -/
theorem wpList_appS {P : Program} {W w : World} {ops : Array Oper} {rest : List Oper} {o : Oper} {a : Act} {Q : Exit → Act → World → Prop} (hgd : o.guard = none) (s x : Operand) (t : TypeId)
    (ho : o.op = .call { callee := .builtin .append, args := #[s, x], argTypes := #[t, t] }) (E : TypeId) (i : TypeInfo) (ht : P.underlying t = some (.slice E)) (hi : P.info? E = some i)
    (hz : i.zero = some (.int .u8 0)) (hsize : i.size = 1) (hby : i.bytes = 1) (v : Value) (l : List UInt8) (hs : a.eval s = v) (u : Value) (m : List UInt8)
    (hx : a.eval x = u) (hm : Sl w w.heap.size u m) (hown : Own E w W.heap.size v l) (hb : Below W.heap.size W w) (hlen : l.length + m.length ≤ 70368744177664)
    (h : ∀ v' w', Own E w' W.heap.size v' (l ++ m) → Below W.heap.size W w' → wpList P ops Q rest (a.put o.dst v') w') : wpList P ops Q (o :: rest) a w := by
  obtain ⟨A, c, rfl, h1, h2, h0, h3⟩ := hm
  have fin : ∀ v' w', w'.ownsRow W.heap.size E 1 v' (l.length + m.length) (us l ++ us m) → w.grownBy w' v.ownBlock → wpList P ops Q rest (a.put o.dst v') w' := fun v' w' k1 k2 => by
    refine h v' w' ?_ (below_of_own hown hb k2)
    unfold Own
    rw [us_app, List.length_append]
    exact k1
  rcases A with _ | ad
  · have hm0 : m = [] := by
      rcases m with _ | ⟨y, m⟩
      · rfl
      · obtain ⟨b, off, e, _⟩ := h3 (by simp)
        cases e
    subst hm0
    obtain rfl := h0 rfl
    exact wpList_append_own_none hgd s x t ho W.heap.size E i 1 ht hi v l.length (us l) hs hown hx (by simpa using h v w (by simpa using hown) hb)
  · refine wpList_append_own _ hgd s x t ho W.heap.size E i (.int .u8 0) 1 1 ht hi hz hsize hby rfl (by omega) v l.length (us l) hs hown ad m.length c (us m) hx (by rw [us_length]; omega) ?_ (us_cell _) ?_ ?_ hb.size (fun v' w' k1 k2 _ => fin v' w' k1 k2)
    · intro j y hj
      have hjm : j < m.length := by
        rw [← us_length m]
        exact (List.getElem?_eq_some_iff.1 hj).1
      obtain ⟨b, off, e, _, hc⟩ := h3 (by omega)
      injection e with e
      subst e
      rw [us_get m j hjm] at hj
      injection hj with hj
      subst hj
      have := hc j hjm
      unfold Addr.add
      split
      · rename_i h0; subst h0; simpa using this
      · exact this
    · unfold maxLen; omega
    · omega

/-- The same as Sl for a slice whose address is known, as every row of a call's own has it. -/
def Sp (w : World) (B : Nat) (v : Value) (l : List UInt8) : Prop :=
  (v = .slice none 0 0 ∧ l = []) ∨ ∃ b off c, v = .slice (some ⟨b, off, none⟩) l.length c ∧ l.length ≤ c ∧ c ≤ maxLen ∧ b < B ∧ ∀ k, k < l.length → w.cell? ⟨b, off + k, none⟩ = some (.int .u8 (bt l k))
theorem Sp.nil_ {w : World} {B : Nat} : Sp w B (.slice none 0 0) [] := .inl ⟨rfl, rfl⟩
theorem Sp.sl {w : World} {B : Nat} {v : Value} {l : List UInt8} (h : Sp w B v l) : Sl w B v l := by
  rcases h with ⟨rfl, rfl⟩ | ⟨b, off, c, rfl, h1, h2, h3, h4⟩
  · exact Sl.nil_
  · exact ⟨_, c, rfl, h1, h2, (fun e => by cases e), fun _ => ⟨b, off, rfl, h3, h4⟩⟩
theorem Sp.mono {w : World} {B B' : Nat} {v : Value} {l : List UInt8} (h : Sp w B v l) (hB : B ≤ B') : Sp w B' v l := by
  rcases h with h | ⟨b, off, c, e, h1, h2, h3, h4⟩
  · exact .inl h
  · exact .inr ⟨b, off, c, e, h1, h2, by omega, h4⟩
theorem Sp.below {w w' : World} {B : Nat} {v : Value} {l : List UInt8} (h : Sp w B v l) (hb : Below B w w') : Sp w' B v l := by
  rcases h with h | ⟨b, off, c, e, h1, h2, h3, h4⟩
  · exact .inl h
  · exact .inr ⟨b, off, c, e, h1, h2, h3, fun k hk => (hb.cell (p := ⟨b, off + k, none⟩) h3).trans (h4 k hk)⟩
theorem Sp.up {w w' : World} {v : Value} {l : List UInt8} (h : Sp w w.heap.size v l) (hb : Below w.heap.size w w') : Sp w' w'.heap.size v l := (h.below hb).mono hb.size
theorem Own.sp {E : TypeId} {w : World} {B : Nat} {v : Value} {l : List UInt8} (h : Own E w B v l) : Sp w w.heap.size v l := by
  rcases h.2 with ⟨rfl, h0⟩ | ⟨g, cap, cur, rfl, hb, hg, hn, hm, hs, ht⟩
  · have : l = [] := List.eq_nil_of_length_eq_zero h0
    subst this
    exact Sp.nil_
  · refine .inr ⟨g, 0, cap, rfl, hn, hm, (Array.getElem?_eq_some_iff.1 hg).1, fun k hk => ?_⟩
    have hcell := (World.ownsRow.cellAt (base := B) (e := E) (size := 1) (n := l.length) (xs := us l) h k (by simpa using hk)).trans (us_get l k hk)
    simpa using hcell
theorem Inv.sp {E : TypeId} {W w : World} {rs : List (Value × List UInt8)} (H : Inv E W w rs) {v : Value} {l : List UInt8} (hm : (v, l) ∈ rs) : Sp w w.heap.size v l := (H.own hm).sp
theorem bt_drop (l : List UInt8) (a k : Nat) : bt (l.drop a) k = bt l (a + k) := by simp [bt, List.getD_eq_getElem?_getD]
theorem bt_take (l : List UInt8) (n k : Nat) (h : k < n) : bt (l.take n) k = bt l k := by simp [bt, List.getD_eq_getElem?_getD, List.getElem?_take_of_lt h]
/-- A cut of a slice. -/
theorem sl_cut {w : World} {B b off c : Nat} {l : List UInt8} (a n : Nat) (h2 : c ≤ maxLen) (h3 : b < B) (h4 : ∀ k, k < l.length → w.cell? ⟨b, off + k, none⟩ = some (.int .u8 (bt l k))) (han : a + n ≤ l.length) (off' c' : Nat) (ho : 0 < n → off' = off + a) (hc : n ≤ c') (hc' : c' ≤ c) :
    Sl w B (.slice (some ⟨b, off', none⟩) n c') ((l.drop a).take n) := by
  have hlen : ((l.drop a).take n).length = n := by simp; omega
  refine ⟨_, c', by rw [hlen], by rw [hlen]; exact hc, by omega, (fun e => by cases e), fun hp => ?_⟩
  rw [hlen] at hp ⊢
  refine ⟨b, off', rfl, h3, fun k hk => ?_⟩
  rw [ho hp, bt_take _ _ _ hk, bt_drop, Nat.add_assoc]
  exact h4 (a + k) (by omega)
end Go.Proofs.YtlchadbbldkkfaaDoor
