/- Words for slices of strings, as Mem has them for slices of bytes and of ints. No program is named here. -/
import Derived.Test.YtemjagdlbehboaaDoorMem
namespace Go.Proofs.YtemjagdlbehboaaDoor
open Go.RowKit

/-- The string in cell k of a list of strings. -/
def tt (l : List ByteArray) (k : Nat) : ByteArray := l.getD k ⟨#[]⟩
/-- The cells of a list of strings. -/
def ts (l : List ByteArray) : List Value := l.map fun z => Value.string z
theorem ts_length (l : List ByteArray) : (ts l).length = l.length := by simp [ts]
theorem ts_app (l m : List ByteArray) : ts (l ++ m) = ts l ++ ts m := by simp [ts]
theorem ts_one (z : ByteArray) : ts [z] = [.string z] := rfl
theorem ts_get (l : List ByteArray) (k : Nat) (h : k < l.length) : (ts l)[k]? = some (.string (tt l k)) := by
  simp [ts, tt, List.getElem?_eq_getElem h, List.getD_eq_getElem?_getD]
theorem ts_cell (l : List ByteArray) : ∀ u ∈ ts l, u.oneCell' = true := by
  intro u hu
  simp only [ts, List.mem_map] at hu
  obtain ⟨c, _, rfl⟩ := hu
  rfl
theorem ts_set (l : List ByteArray) (k : Nat) (z : ByteArray) : (ts l).set k (.string z) = ts (l.set k z) := by
  simp [ts, List.map_set]

/-- The slice v reads as l, in blocks below B. -/
def SlT (w : World) (B : Nat) (v : Value) (l : List ByteArray) : Prop :=
  ∃ A c, v = .slice A l.length c ∧ l.length ≤ c ∧ c ≤ maxLen ∧ (A = none → c = 0) ∧
    (0 < l.length → ∃ b off, A = some ⟨b, off, none⟩ ∧ b < B ∧ ∀ k, k < l.length → w.cell? ⟨b, off + k, none⟩ = some (.string (tt l k)))
/-- A slice of the call's own that reads as l. -/
def OwnT (E : TypeId) (w : World) (B : Nat) (v : Value) (l : List ByteArray) : Prop := w.ownsRow B E 1 v l.length (ts l)

section
variable {E : TypeId} {w w' : World} {B B' : Nat} {v : Value} {l : List ByteArray}
theorem SlT.nil_ : SlT w B (.slice none 0 0) [] := ⟨none, 0, rfl, Nat.le_refl _, by simp [maxLen], fun _ => rfl, fun h => absurd h (by simp)⟩
theorem SlT.mono (h : SlT w B v l) (hB : B ≤ B') : SlT w B' v l := by
  obtain ⟨A, c, rfl, h1, h2, h0, h3⟩ := h
  exact ⟨A, c, rfl, h1, h2, h0, fun hp => by
    obtain ⟨b, off, e, hb, hc⟩ := h3 hp
    exact ⟨b, off, e, by omega, hc⟩⟩
theorem SlT.below (h : SlT w B v l) (hb : Below B w w') : SlT w' B v l := by
  obtain ⟨A, c, rfl, h1, h2, h0, h3⟩ := h
  exact ⟨A, c, rfl, h1, h2, h0, fun hp => by
    obtain ⟨b, off, e, hbb, hc⟩ := h3 hp
    exact ⟨b, off, e, hbb, fun k hk => (hb.cell (p := ⟨b, off + k, none⟩) hbb).trans (hc k hk)⟩⟩
theorem SlT.up (h : SlT w w.heap.size v l) (hb : Below w.heap.size w w') : SlT w' w'.heap.size v l := (h.below hb).mono hb.size
theorem OwnT.slice (h : OwnT E w B v l) : ∃ A c, v = .slice A l.length c := by
  rcases h.2 with ⟨rfl, h0⟩ | ⟨g, cap, cur, rfl, _⟩
  · exact ⟨none, 0, by rw [h0]⟩
  · exact ⟨_, _, rfl⟩
theorem OwnT.sl (h : OwnT E w B v l) : SlT w w.heap.size v l := by
  rcases h.2 with ⟨rfl, h0⟩ | ⟨g, cap, cur, rfl, hb, hg, hn, hm, hs, ht⟩
  · have : l = [] := List.eq_nil_of_length_eq_zero h0
    subst this
    exact SlT.nil_
  · refine ⟨_, cap, rfl, hn, hm, (fun e => by cases e), fun _ => ⟨g, 0, rfl, (Array.getElem?_eq_some_iff.1 hg).1, fun k hk => ?_⟩⟩
    have hcell := (World.ownsRow.cellAt (base := B) (e := E) (size := 1) (n := l.length) (xs := ts l) h k (by simpa using hk)).trans (ts_get l k hk)
    simpa using hcell
theorem OwnT.lt (h : OwnT E w B v l) : ∀ g, v.ownBlock = some g → B ≤ g ∧ g < w.heap.size := World.ownsRow.lt h
theorem OwnT.kept {row : Option Nat} (h : OwnT E w B v l) (hg : w.grownBy w' row) (hne : v.ownBlock = none ∨ v.ownBlock ≠ row) : OwnT E w' B v l := World.ownsRow.kept h hg hne
theorem OwnT.up (h : OwnT E w B v l) (hb : Below w.heap.size w w') : OwnT E w' B v l := by
  refine h.kept (grown_of_below hb (some w.heap.size)) ?_
  rcases hv : v.ownBlock with _ | g
  · exact .inl rfl
  · refine .inr fun e => ?_
    have := (h.lt g hv).2
    injection e with e
    omega
theorem OwnT.mono (h : OwnT E w B v l) (hB : B' ≤ B) : OwnT E w B' v l := by
  refine ⟨h.1, ?_⟩
  rcases h.2 with hn | ⟨g, cap, cur, rfl, hb, rest⟩
  · exact .inl hn
  · exact .inr ⟨g, cap, cur, rfl, by omega, rest⟩
theorem OwnT.len (h : OwnT E w B v l) : l.length ≤ maxLen := by
  rcases h.2 with ⟨rfl, h0⟩ | ⟨g, cap, cur, rfl, hb, hg, hn, hm, hs, ht⟩
  · omega
  · omega
theorem OwnT.drewN (h : OwnT E w B v l) (n : Nat) : OwnT E (w.drewN n) B v l := h
theorem SlT.drewN (h : SlT w B v l) (n : Nat) : SlT (w.drewN n) B v l := h
/-- The first places of a row. -/
theorem OwnT.front {A : Option Addr} {n c : Nat} (h : OwnT E w B (.slice A n c) l) (m : Nat) (hm : m ≤ l.length) : OwnT E w B (.slice A m c) (l.take m) := by
  have hl : (l.take m).length = m := by rw [List.length_take]; omega
  refine ⟨by rw [ts_length, hl, Nat.mul_one], ?_⟩
  rw [hl]
  rcases h.2 with ⟨e, h0⟩ | ⟨g, cap, cur, e, hb, hg, hn, hmx, hs, ht⟩
  · injection e with e1 e2 e3
    subst e1 e3
    exact .inl ⟨by rw [show m = 0 by omega], by omega⟩
  · injection e with e1 e2 e3
    subst e1 e3
    refine .inr ⟨g, _, cur, rfl, hb, hg, by omega, hmx, hs, ?_⟩
    have e4 : ts (l.take m) = (ts l).take m := by simp [ts, List.map_take]
    rw [e4, ← ht, List.take_take]
    congr 1
    omega
/-- Nothing but a block that is not the row's has turned. -/
theorem OwnT.beside (h : OwnT E w (B + 1) v l) (hg : w.grownBy w' (some B)) : OwnT E w' (B + 1) v l := by
  refine h.kept hg ?_
  rcases hv : v.ownBlock with _ | g
  · exact .inl rfl
  · refine .inr fun e => ?_
    have := (h.lt g hv).1
    injection e with e
    omega
end

theorem below_of_ownT {E : TypeId} {W w w' : World} {B : Nat} {v : Value} {l : List ByteArray} (hown : OwnT E w B v l) (hB : W.heap.size ≤ B) (hb : Below W.heap.size W w) (hg : w.grownBy w' v.ownBlock) : Below W.heap.size W w' :=
  hb.grown hg hb.size fun k hk => Nat.le_trans hB (hown.lt k hk).1

/-- 'append(out, z)' for one string z: out is nil or the call's own. -/
theorem wpList_appT1 {P : Program} {w : World} {ops : Array Oper} {rest : List Oper} {o : Oper} {a : Act} {Q : Exit → Act → World → Prop} (hgd : o.guard = none) (s x : Operand) (t : TypeId)
    (ho : o.op = .call { callee := .builtin .append, args := #[s, x], argTypes := #[t, t] }) (E : TypeId) (i : TypeInfo) (ht : P.underlying t = some (.slice E)) (hi : P.info? E = some i)
    (hz : i.zero = some (.string ⟨#[]⟩)) (hsize : i.size = 1) (hby : i.bytes = 16) (B : Nat) (v : Value) (l : List ByteArray) (hs : a.eval s = v) (z : ByteArray)
    (hx : a.eval x = .slice (some ⟨w.heap.size, 0, none⟩) 1 1) (hown : OwnT E w B v l) (hB : B ≤ w.heap.size) (hlen : l.length ≤ 1099511627776)
    (h : ∀ v' w', OwnT E w' B v' (l ++ [z]) → (w.alloc (.cells #[.string z] E)).grownBy w' v.ownBlock → wpList P ops Q rest (a.put o.dst v') w') : wpList P ops Q (o :: rest) a (w.alloc (.cells #[.string z] E)) := by
  have hba : Below w.heap.size w (w.alloc (.cells #[.string z] E)) := (Below.refl _ _).alloc (Nat.le_refl _) _
  have hown' := hown.up hba
  refine wpList_append_own _ hgd s x t ho B E i (.string ⟨#[]⟩) 1 16 ht hi hz hsize hby rfl (by omega) v l.length (ts l) hs hown' ⟨w.heap.size, 0, none⟩ 1 1 (ts [z]) hx rfl ?_ (ts_cell _) ?_ ?_ ?_ ?_
  · intro j u hj
    rcases j with _ | j
    · rw [ts_one] at hj
      injection hj with hj
      subst hj
      simp [Addr.add]
    · simp [ts_one] at hj
  · unfold maxLen; omega
  · omega
  · simp; omega
  · intro v' w' h1 h2 _
    refine h v' w' ?_ h2
    unfold OwnT
    rw [ts_app, List.length_append]
    exact h1

theorem GOwn.t {w : World} {B : Nat} {E : TypeId} {v : Value} {l : List ByteArray} : GOwn w B (E, v, ts l) ↔ OwnT E w B v l := by
  unfold GOwn OwnT
  rw [ts_length]
section
variable {W w w' : World} {rs : List (TypeId × Value × List Value)}
theorem InvG.ownT (H : InvG W w rs) (E : TypeId) {v : Value} {l : List ByteArray} (hm : (E, v, ts l) ∈ rs) : OwnT E w W.heap.size v l := GOwn.t.1 (H.2.1 _ hm)
theorem InvG.slT (H : InvG W w rs) (E : TypeId) {v : Value} {l : List ByteArray} (hm : (E, v, ts l) ∈ rs) : SlT w w.heap.size v l := (H.ownT E hm).sl
theorem InvG.moreT (H : InvG W w rs) {E : TypeId} {v : Value} {l : List ByteArray} (ho : OwnT E w' w.heap.size v l) (hb : Below w.heap.size w w') : InvG W w' ((E, v, ts l) :: rs) := H.moreG (GOwn.t.2 ho) hb
theorem InvG.wroteAtT (i : Nat) {E : TypeId} {v : Value} {x : List Value} {l' : List ByteArray} (hi : rs[i]? = some (E, v, x)) (H : InvG W w rs) (ho : OwnT E w' W.heap.size v l') (hg : w.grownBy w' v.ownBlock) : InvG W w' (rs.set i (E, v, ts l')) := H.wroteG i hi (GOwn.t.2 ho) hg
end
end Go.Proofs.YtemjagdlbehboaaDoor
