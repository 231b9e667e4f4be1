/- Words for slices of ints, as Mem has them for slices of bytes; and the rows of bytes and of ints that a law has made so far. No program is named here. -/
import Derived.Test.YtlchadbbldkkfaaDoorMem
namespace Go.Proofs.YtlchadbbldkkfaaDoor
open Go.RowKit

/-- The number in cell k of a list of ints. -/
def it (l : List Int) (k : Nat) : Int := l.getD k 0
/-- The cells of a list of ints. -/
def is (l : List Int) : List Value := l.map fun z => Value.int .i64 z
theorem is_length (l : List Int) : (is l).length = l.length := by simp [is]
theorem is_app (l m : List Int) : is (l ++ m) = is l ++ is m := by simp [is]
theorem is_one (z : Int) : is [z] = [.int .i64 z] := rfl
theorem is_get (l : List Int) (k : Nat) (h : k < l.length) : (is l)[k]? = some (.int .i64 (it l k)) := by
  simp [is, it, List.getElem?_eq_getElem h, List.getD_eq_getElem?_getD]
theorem is_cell (l : List Int) : ∀ u ∈ is l, u.oneCell' = true := by
  intro u hu
  simp only [is, List.mem_map] at hu
  obtain ⟨c, _, rfl⟩ := hu
  rfl
theorem is_set (l : List Int) (k : Nat) (z : Int) : (is l).set k (.int .i64 z) = is (l.set k z) := by
  simp [is, List.map_set]

/-- The slice v reads as l, in blocks below B. -/
def SlI (w : World) (B : Nat) (v : Value) (l : List Int) : Prop :=
  ∃ A c, v = .slice A l.length c ∧ l.length ≤ c ∧ c ≤ maxLen ∧ (A = none → c = 0) ∧
    (0 < l.length → ∃ b off, A = some ⟨b, off, none⟩ ∧ b < B ∧ ∀ k, k < l.length → w.cell? ⟨b, off + k, none⟩ = some (.int .i64 (it l k)))
/-- A slice of the call's own that reads as l. -/
def OwnI (E : TypeId) (w : World) (B : Nat) (v : Value) (l : List Int) : Prop := w.ownsRow B E 1 v l.length (is l)

section
variable {E : TypeId} {w w' : World} {B B' : Nat} {v : Value} {l : List Int}
theorem SlI.nil_ : SlI w B (.slice none 0 0) [] := ⟨none, 0, rfl, Nat.le_refl _, by simp [maxLen], fun _ => rfl, fun h => absurd h (by simp)⟩
theorem SlI.mono (h : SlI w B v l) (hB : B ≤ B') : SlI w B' v l := by
  obtain ⟨A, c, rfl, h1, h2, h0, h3⟩ := h
  exact ⟨A, c, rfl, h1, h2, h0, fun hp => by
    obtain ⟨b, off, e, hb, hc⟩ := h3 hp
    exact ⟨b, off, e, by omega, hc⟩⟩
theorem SlI.below (h : SlI w B v l) (hb : Below B w w') : SlI w' B v l := by
  obtain ⟨A, c, rfl, h1, h2, h0, h3⟩ := h
  exact ⟨A, c, rfl, h1, h2, h0, fun hp => by
    obtain ⟨b, off, e, hbb, hc⟩ := h3 hp
    exact ⟨b, off, e, hbb, fun k hk => (hb.cell (p := ⟨b, off + k, none⟩) hbb).trans (hc k hk)⟩⟩
theorem SlI.up (h : SlI w w.heap.size v l) (hb : Below w.heap.size w w') : SlI w' w'.heap.size v l := (h.below hb).mono hb.size
theorem OwnI.sl (h : OwnI E w B v l) : SlI w w.heap.size v l := by
  rcases h.2 with ⟨rfl, h0⟩ | ⟨g, cap, cur, rfl, hb, hg, hn, hm, hs, ht⟩
  · have : l = [] := List.eq_nil_of_length_eq_zero h0
    subst this
    exact SlI.nil_
  · refine ⟨_, cap, rfl, hn, hm, (fun e => by cases e), fun _ => ⟨g, 0, rfl, (Array.getElem?_eq_some_iff.1 hg).1, fun k hk => ?_⟩⟩
    have hcell := (World.ownsRow.cellAt (base := B) (e := E) (size := 1) (n := l.length) (xs := is l) h k (by simpa using hk)).trans (is_get l k hk)
    simpa using hcell
theorem OwnI.lt (h : OwnI E w B v l) : ∀ g, v.ownBlock = some g → B ≤ g ∧ g < w.heap.size := World.ownsRow.lt h
theorem OwnI.kept {row : Option Nat} (h : OwnI E w B v l) (hg : w.grownBy w' row) (hne : v.ownBlock = none ∨ v.ownBlock ≠ row) : OwnI E w' B v l := World.ownsRow.kept h hg hne
theorem OwnI.up (h : OwnI E w B v l) (hb : Below w.heap.size w w') : OwnI E w' B v l := by
  refine h.kept (grown_of_below hb (some w.heap.size)) ?_
  rcases hv : v.ownBlock with _ | g
  · exact .inl rfl
  · refine .inr fun e => ?_
    have := (h.lt g hv).2
    injection e with e
    omega
theorem OwnI.mono (h : OwnI E w B v l) (hB : B' ≤ B) : OwnI E w B' v l := by
  refine ⟨h.1, ?_⟩
  rcases h.2 with hn | ⟨g, cap, cur, rfl, hb, rest⟩
  · exact .inl hn
  · exact .inr ⟨g, cap, cur, rfl, by omega, rest⟩
theorem OwnI.len (h : OwnI E w B v l) : l.length ≤ maxLen := by
  rcases h.2 with ⟨rfl, h0⟩ | ⟨g, cap, cur, rfl, hb, hg, hn, hm, hs, ht⟩
  · omega
  · omega
theorem OwnI.drewN (h : OwnI E w B v l) (n : Nat) : OwnI E (w.drewN n) B v l := h
theorem SlI.drewN (h : SlI w B v l) (n : Nat) : SlI (w.drewN n) B v l := h
end


theorem below_of_ownI {E : TypeId} {W w w' : World} {v : Value} {l : List Int} (hown : OwnI E w W.heap.size v l) (hb : Below W.heap.size W w) (hg : w.grownBy w' v.ownBlock) : Below W.heap.size W w' :=
  hb.grown hg hb.size fun k hk => (hown.lt k hk).1

/-- 'append(out, c)' for one int z: out is nil or the call's own. -/
theorem wpList_appI1 {P : Program} {W w : World} {ops : Array Oper} {rest : List Oper} {o : Oper} {a : Act} {Q : Exit → Act → World → Prop} (hgd : o.guard = none) (s x : Operand) (t : TypeId)
    (ho : o.op = .call { callee := .builtin .append, args := #[s, x], argTypes := #[t, t] }) (E : TypeId) (i : TypeInfo) (ht : P.underlying t = some (.slice E)) (hi : P.info? E = some i)
    (hz : i.zero = some (.int .i64 0)) (hsize : i.size = 1) (hby : i.bytes = 8) (v : Value) (l : List Int) (hs : a.eval s = v) (z : Int)
    (hx : a.eval x = .slice (some ⟨w.heap.size, 0, none⟩) 1 1) (hown : OwnI E w W.heap.size v l) (hb : Below W.heap.size W w) (hlen : l.length ≤ 4398046511104)
    (h : ∀ v' w', OwnI E w' W.heap.size v' (l ++ [z]) → Below W.heap.size W w' → wpList P ops Q rest (a.put o.dst v') w') : wpList P ops Q (o :: rest) a (w.alloc (.cells #[.int .i64 z] E)) := by
  have hba : Below w.heap.size w (w.alloc (.cells #[.int .i64 z] E)) := (Below.refl _ _).alloc (Nat.le_refl _) _
  have hown' := hown.up hba
  refine wpList_append_own _ hgd s x t ho W.heap.size E i (.int .i64 0) 1 8 ht hi hz hsize hby rfl (by omega) v l.length (is l) hs hown' ⟨w.heap.size, 0, none⟩ 1 1 (is [z]) hx rfl ?_ (is_cell _) ?_ ?_ ?_ ?_
  · intro j u hj
    rcases j with _ | j
    · rw [is_one] at hj
      injection hj with hj
      subst hj
      simp [Addr.add]
    · simp [is_one] at hj
  · unfold maxLen; omega
  · omega
  · simp; have := hb.size; omega
  · intro v' w' h1 h2 _
    refine h v' w' ?_ ?_
    · unfold OwnI
      rw [is_app, List.length_append]
      exact h1
    · exact below_of_ownI hown' (hb.alloc hb.size _) h2


/-- Rows of whatever cells. -/
def GOwn (w : World) (B : Nat) (p : TypeId × Value × List Value) : Prop := w.ownsRow B p.1 1 p.2.1 p.2.2.length p.2.2
theorem GOwn.b {w : World} {B : Nat} {E : TypeId} {v : Value} {l : List UInt8} : GOwn w B (E, v, us l) ↔ Own E w B v l := by
  unfold GOwn Own
  rw [us_length]
theorem GOwn.i {w : World} {B : Nat} {E : TypeId} {v : Value} {l : List Int} : GOwn w B (E, v, is l) ↔ OwnI E w B v l := by
  unfold GOwn OwnI
  rw [is_length]
theorem GOwn.lt {w : World} {B : Nat} {p : TypeId × Value × List Value} (h : GOwn w B p) : ∀ g, p.2.1.ownBlock = some g → B ≤ g ∧ g < w.heap.size := World.ownsRow.lt h
theorem GOwn.kept {w w' : World} {B : Nat} {p : TypeId × Value × List Value} {row : Option Nat} (h : GOwn w B p) (hg : w.grownBy w' row) (hne : p.2.1.ownBlock = none ∨ p.2.1.ownBlock ≠ row) : GOwn w' B p := World.ownsRow.kept h hg hne
theorem GOwn.up {w w' : World} {B : Nat} {p : TypeId × Value × List Value} (h : GOwn w B p) (hb : Below w.heap.size w w') : GOwn w' B p := by
  refine h.kept (grown_of_below hb (some w.heap.size)) ?_
  rcases hv : p.2.1.ownBlock with _ | g
  · exact .inl rfl
  · refine .inr fun e => ?_
    have := (h.lt g hv).2
    injection e with e
    omega
theorem GOwn.mono {w : World} {B B' : Nat} {p : TypeId × Value × List Value} (h : GOwn w B p) (hB : B' ≤ B) : GOwn w B' p := by
  refine ⟨h.1, ?_⟩
  rcases h.2 with hn | ⟨g, cap, cur, e, hb, rest⟩
  · exact .inl hn
  · exact .inr ⟨g, cap, cur, e, by omega, rest⟩
/-- The rows that a call has made so far: none is shared, none lies in memory that was there before. -/
def InvG (W w : World) (rs : List (TypeId × Value × List Value)) : Prop :=
  Below W.heap.size W w ∧ (∀ p ∈ rs, GOwn w W.heap.size p) ∧ rs.Pairwise fun p q => p.2.1.ownBlock = none ∨ p.2.1.ownBlock ≠ q.2.1.ownBlock
section
variable {W w w' : World} {rs : List (TypeId × Value × List Value)}
theorem InvG.start (W : World) : InvG W W [] := by
  refine ⟨Below.refl _ _, ?_, List.Pairwise.nil⟩
  intro p hp
  cases hp
theorem InvG.bel (H : InvG W w rs) : Below W.heap.size W w := H.1
theorem InvG.le (H : InvG W w rs) : W.heap.size ≤ w.heap.size := H.1.size
theorem InvG.old {v : Value} {l : List UInt8} (H : InvG W w rs) (h : Sl W W.heap.size v l) : Sl w w.heap.size v l := h.up H.1
theorem InvG.oldI {v : Value} {l : List Int} (H : InvG W w rs) (h : SlI W W.heap.size v l) : SlI w w.heap.size v l := h.up H.1
theorem InvG.own (H : InvG W w rs) (E : TypeId) {v : Value} {l : List UInt8} (hm : (E, v, us l) ∈ rs) : Own E w W.heap.size v l := GOwn.b.1 (H.2.1 _ hm)
theorem InvG.ownI (H : InvG W w rs) (E : TypeId) {v : Value} {l : List Int} (hm : (E, v, is l) ∈ rs) : OwnI E w W.heap.size v l := GOwn.i.1 (H.2.1 _ hm)
theorem InvG.sl (H : InvG W w rs) (E : TypeId) {v : Value} {l : List UInt8} (hm : (E, v, us l) ∈ rs) : Sl w w.heap.size v l := (H.own E hm).sl
theorem InvG.slI (H : InvG W w rs) (E : TypeId) {v : Value} {l : List Int} (hm : (E, v, is l) ∈ rs) : SlI w w.heap.size v l := (H.ownI E hm).sl
theorem InvG.sub (H : InvG W w rs) {qs : List (TypeId × Value × List Value)} (h : qs.Sublist rs) : InvG W w qs := ⟨H.1, fun p hp => H.2.1 p (h.subset hp), H.2.2.sublist h⟩
theorem InvG.up (H : InvG W w rs) (hb : Below w.heap.size w w') : InvG W w' rs := ⟨H.1.trans (hb.mono H.le), fun p hp => (H.2.1 p hp).up hb, H.2.2⟩
theorem InvG.moreG (H : InvG W w rs) {p : TypeId × Value × List Value} (ho : GOwn w' w.heap.size p) (hb : Below w.heap.size w w') : InvG W w' (p :: rs) := by
  have H' := H.up hb
  refine ⟨H'.1, fun q hq => ?_, List.pairwise_cons.2 ⟨fun q hq => ?_, H'.2.2⟩⟩
  · rcases List.mem_cons.1 hq with rfl | hq
    · exact ho.mono H.le
    · exact H'.2.1 q hq
  · rcases hv : p.2.1.ownBlock with _ | g
    · exact .inl rfl
    · refine .inr fun e => ?_
      have h1 := (ho.lt g hv).1
      have h2 := ((H.2.1 q hq).lt g e.symm).2
      omega
theorem InvG.more (H : InvG W w rs) {E : TypeId} {v : Value} {l : List UInt8} (ho : Own E w' w.heap.size v l) (hb : Below w.heap.size w w') : InvG W w' ((E, v, us l) :: rs) := H.moreG (GOwn.b.2 ho) hb
theorem InvG.moreI (H : InvG W w rs) {E : TypeId} {v : Value} {l : List Int} (ho : OwnI E w' w.heap.size v l) (hb : Below w.heap.size w w') : InvG W w' ((E, v, is l) :: rs) := H.moreG (GOwn.i.2 ho) hb
theorem InvG.drewN (H : InvG W w rs) (n : Nat) : InvG W (w.drewN n) rs := ⟨below_drewN H.1 n, H.2.1, H.2.2⟩
theorem InvG.wrote {E : TypeId} {v : Value} {x x' : List Value} (H : InvG W w ((E, v, x) :: rs)) (ho : GOwn w' W.heap.size (E, v, x')) (hg : w.grownBy w' v.ownBlock) : InvG W w' ((E, v, x') :: rs) := by
  obtain ⟨hr, hp⟩ := List.pairwise_cons.1 H.2.2
  refine ⟨H.1.grown hg H.le (fun k hk => ((H.2.1 _ (.head _)).lt k hk).1), fun p hpm => ?_, List.pairwise_cons.2 ⟨hr, hp⟩⟩
  rcases List.mem_cons.1 hpm with rfl | hpm
  · exact ho
  · refine (H.2.1 p (.tail _ hpm)).kept hg ?_
    rcases hr p hpm with e | e
    · rcases hq : p.2.1.ownBlock with _ | g
      · exact .inl rfl
      · refine .inr ?_
        simp only at e
        rw [e]
        simp
    · rcases hq : p.2.1.ownBlock with _ | g
      · exact .inl rfl
      · exact .inr fun e' => e (by rw [← e', hq])
theorem InvG.perm {qs : List (TypeId × Value × List Value)} (H : InvG W w rs) (h : rs.Perm qs) : InvG W w qs :=
  ⟨H.1, fun p hp => H.2.1 p (h.mem_iff.2 hp), (h.pairwise_iff (fun {p q} hpq => by
    rcases hpq with e | e
    · rcases hq : q.2.1.ownBlock with _ | g
      · exact .inl rfl
      · exact .inr (by rw [e]; simp)
    · rcases hq : q.2.1.ownBlock with _ | g
      · exact .inl rfl
      · exact .inr fun e' => e (by rw [← e', hq]))).1 H.2.2⟩
theorem InvG.wroteG (i : Nat) {E : TypeId} {v : Value} {x x' : List Value} (hi : rs[i]? = some (E, v, x)) (H : InvG W w rs) (ho : GOwn w' W.heap.size (E, v, x')) (hg : w.grownBy w' v.ownBlock) : InvG W w' (rs.set i (E, v, x')) := by
  obtain ⟨hlt, he⟩ := List.getElem?_eq_some_iff.1 hi
  have e1 : rs = rs.take i ++ (E, v, x) :: rs.drop (i + 1) := by
    rw [← he, ← List.drop_eq_getElem_cons hlt, List.take_append_drop]
  have e2 : rs.set i (E, v, x') = rs.take i ++ (E, v, x') :: rs.drop (i + 1) := List.set_eq_take_append_cons_drop.trans (if_pos hlt)
  rw [e2]
  rw [e1] at H
  exact ((H.perm List.perm_middle).wrote ho hg).perm List.perm_middle.symm
theorem InvG.wroteAt (i : Nat) {E : TypeId} {v : Value} {x : List Value} {l' : List UInt8} (hi : rs[i]? = some (E, v, x)) (H : InvG W w rs) (ho : Own E w' W.heap.size v l') (hg : w.grownBy w' v.ownBlock) : InvG W w' (rs.set i (E, v, us l')) := H.wroteG i hi (GOwn.b.2 ho) hg
theorem InvG.wroteAtI (i : Nat) {E : TypeId} {v : Value} {x : List Value} {l' : List Int} (hi : rs[i]? = some (E, v, x)) (H : InvG W w rs) (ho : OwnI E w' W.heap.size v l') (hg : w.grownBy w' v.ownBlock) : InvG W w' (rs.set i (E, v, is l')) := H.wroteG i hi (GOwn.i.2 ho) hg
end
end Go.Proofs.YtlchadbbldkkfaaDoor
