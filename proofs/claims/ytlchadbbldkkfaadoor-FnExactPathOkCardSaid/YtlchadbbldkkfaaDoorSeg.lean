/- The rows that a law has made so far, in segments: one segment for each value that it made (a slice: its row; a slice of slices: its row and theirs). No program is named here. -/
import Derived.Test.YtlchadbbldkkfaaDoorSS
namespace Go.Proofs.YtlchadbbldkkfaaDoor
open Go.RowKit

abbrev Row := TypeId × Value × List Value
/-- A slice of bytes. -/
def segB (E : TypeId) (v : Value) (l : List UInt8) : List Row := [(E, v, us l)]
/-- A slice of ints. -/
def segI (E : TypeId) (v : Value) (l : List Int) : List Row := [(E, v, is l)]
/-- A slice of slices of bytes, its cells vs. -/
def segS (E2 E : TypeId) (v : Value) (vs : List Value) (L : List (List UInt8)) : List Row := (E2, v, vs) :: rowsS E vs L

/-- All the rows of the segments are the call's own, no two share a block, and nothing that was there has turned. -/
def InvF (W w : World) (ss : List (List Row)) : Prop := InvG W w ss.flatten
section
variable {W w w' : World} {ss qs : List (List Row)} {s s' : List Row}
theorem InvF.start (W : World) : InvF W W [] := InvG.start W
theorem InvF.bel (H : InvF W w ss) : Below W.heap.size W w := H.1
theorem InvF.le (H : InvF W w ss) : W.heap.size ≤ w.heap.size := H.1.size
theorem InvF.up (H : InvF W w ss) (hb : Below w.heap.size w w') : InvF W w' ss := InvG.up H hb
theorem InvF.drewN (H : InvF W w ss) (n : Nat) : InvF W (w.drewN n) ss := InvG.drewN H n
/-- A call that began in w has made the rows s. -/
theorem InvF.more (H : InvF W w ss) (K : InvG w w' s) : InvF W w' (s :: ss) := by
  unfold InvF
  rw [List.flatten_cons]
  exact InvG.moreAll H K
theorem InvF.moreB {E : TypeId} {v : Value} {l : List UInt8} (H : InvF W w ss) (ho : Own E w' w.heap.size v l) (hb : Below w.heap.size w w') : InvF W w' (segB E v l :: ss) :=
  H.more ((InvG.start w).more ho hb)
theorem InvF.moreI {E : TypeId} {v : Value} {l : List Int} (H : InvF W w ss) (ho : OwnI E w' w.heap.size v l) (hb : Below w.heap.size w w') : InvF W w' (segI E v l :: ss) :=
  H.more ((InvG.start w).moreI ho hb)
theorem flatten_sub {α : Type} {l m : List (List α)} (h : l.Sublist m) : l.flatten.Sublist m.flatten := by
  induction h with
  | slnil => exact List.Sublist.slnil
  | cons a _ ih =>
    rw [List.flatten_cons]
    exact ih.trans (List.sublist_append_right _ _)
  | cons_cons a _ ih =>
    rw [List.flatten_cons, List.flatten_cons]
    exact List.Sublist.append_left ih a
theorem InvF.sub (H : InvF W w ss) (h : qs.Sublist ss) : InvF W w qs := InvG.sub H (flatten_sub h)
theorem InvF.mem (h : s ∈ ss) {p : Row} (hp : p ∈ s) : p ∈ ss.flatten := List.mem_flatten.2 ⟨s, h, hp⟩
theorem InvF.slB (E : TypeId) {v : Value} {l : List UInt8} (H : InvF W w ss) (h : segB E v l ∈ ss) : Sl w w.heap.size v l := InvG.sl H E (InvF.mem h (by simp [segB]))
theorem InvF.slI (E : TypeId) {v : Value} {l : List Int} (H : InvF W w ss) (h : segI E v l ∈ ss) : SlI w w.heap.size v l := InvG.slI H E (InvF.mem h (by simp [segI]))
theorem InvF.ownB (E : TypeId) {v : Value} {l : List UInt8} (H : InvF W w ss) (h : segB E v l ∈ ss) : Own E w W.heap.size v l := InvG.own H E (InvF.mem h (by simp [segB]))
theorem InvF.ownI (E : TypeId) {v : Value} {l : List Int} (H : InvF W w ss) (h : segI E v l ∈ ss) : OwnI E w W.heap.size v l := InvG.ownI H E (InvF.mem h (by simp [segI]))
theorem InvF.slS (E2 E : TypeId) {v : Value} {vs : List Value} {L : List (List UInt8)} (H : InvF W w ss) (hl : vs.length = L.length) (h : segS E2 E v vs L ∈ ss) : SlS w w.heap.size v L :=
  InvG.slS H E E2 hl (InvF.mem h (.head _)) fun _ hp => InvF.mem h (.tail _ hp)
theorem flatten_perm {α : Type} {l m : List (List α)} (h : l.Perm m) : l.flatten.Perm m.flatten := by
  induction h with
  | nil => exact List.Perm.refl _
  | cons a _ ih => simpa using ih.append_left a
  | swap a b l =>
    simp only [List.flatten_cons, ← List.append_assoc]
    exact List.Perm.append_right _ List.perm_append_comm
  | trans _ _ h1 h2 => exact h1.trans h2
theorem InvF.perm (H : InvF W w ss) (h : ss.Perm qs) : InvF W w qs := InvG.perm H (flatten_perm h)
/-- Segment i goes to the front. -/
theorem InvF.front (i : Nat) (hi : ss[i]? = some s) (H : InvF W w ss) : InvF W w (s :: ss.eraseIdx i) := by
  obtain ⟨hlt, he⟩ := List.getElem?_eq_some_iff.1 hi
  refine H.perm ?_
  have e1 : ss = ss.take i ++ s :: ss.drop (i + 1) := by
    rw [← he, ← List.drop_eq_getElem_cons hlt, List.take_append_drop]
  rw [List.eraseIdx_eq_take_drop_succ]
  conv => lhs; rw [e1]
  exact List.perm_middle
/-- A call has written into the row of the first segment alone. -/
theorem InvF.wroteB {E : TypeId} {v : Value} {l l' : List UInt8} (H : InvF W w (segB E v l :: ss)) (ho : Own E w' W.heap.size v l') (hg : w.grownBy w' v.ownBlock) : InvF W w' (segB E v l' :: ss) := InvG.wrote H (GOwn.b.2 ho) hg
theorem InvF.wroteI {E : TypeId} {v : Value} {l l' : List Int} (H : InvF W w (segI E v l :: ss)) (ho : OwnI E w' W.heap.size v l') (hg : w.grownBy w' v.ownBlock) : InvF W w' (segI E v l' :: ss) := InvG.wrote H (GOwn.i.2 ho) hg
end
end Go.Proofs.YtlchadbbldkkfaaDoor
