/- Slices of structs that are a call's own: the row of their cells and the rows behind them, in blocks of which S holds; what keeps them, how one is appended, how a cell or a row behind is written. No program is named here. -/
import Derived.Test.YtopbalemfljphaaDoorBox
import Derived.Maps.AppendAt
namespace Go.Proofs.YtopbalemfljphaaDoor
open Go.RowKit Go.ChangeShapes Go.WideShapes Go.ChangeAt

/-- An element: its cells, and the rows behind them. -/
abbrev Elt := List Value × List Row
def cellsE (L : List Elt) : List Value := L.flatMap (·.1)
def rowsE (L : List Elt) : List Row := L.flatMap (·.2)
theorem cellsE_cons (e : Elt) (L : List Elt) : cellsE (e :: L) = e.1 ++ cellsE L := rfl
theorem rowsE_cons (e : Elt) (L : List Elt) : rowsE (e :: L) = e.2 ++ rowsE L := rfl
theorem cellsE_app (L M : List Elt) : cellsE (L ++ M) = cellsE L ++ cellsE M := by simp [cellsE]
theorem rowsE_app (L M : List Elt) : rowsE (L ++ M) = rowsE L ++ rowsE M := by simp [rowsE]
theorem cellsE_len (s : Nat) : ∀ L : List Elt, (∀ e ∈ L, e.1.length = s) → (cellsE L).length = L.length * s
  | [], _ => by simp [cellsE]
  | e :: L, h => by
    rw [cellsE_cons, List.length_append, cellsE_len s L (fun x hx => h x (.tail _ hx)), h e (.head _), List.length_cons, Nat.add_mul, Nat.one_mul]
    omega
theorem cellsE_get (s : Nat) : ∀ (L : List Elt) (i j : Nat) (e : Elt), (∀ e ∈ L, e.1.length = s) → L[i]? = some e → j < s → (cellsE L)[i * s + j]? = e.1[j]?
  | [], i, j, e, _, h, _ => by simp at h
  | x :: L, 0, j, e, hs, h, hj => by
    simp at h
    subst h
    have := hs x (.head _)
    rw [cellsE_cons, Nat.zero_mul, Nat.zero_add, List.getElem?_append_left (by omega)]
  | x :: L, i + 1, j, e, hs, h, hj => by
    have h1 := hs x (.head _)
    have h2 := cellsE_get s L i j e (fun y hy => hs y (.tail _ hy)) (by simpa using h) hj
    rw [cellsE_cons, List.getElem?_append_right (by rw [h1, Nat.add_mul]; omega), h1, ← h2]
    congr 1
    rw [Nat.add_mul]
    omega
theorem cellsE_set (s : Nat) : ∀ (L : List Elt) (i j : Nat) (e : Elt) (u : Value), (∀ e ∈ L, e.1.length = s) → L[i]? = some e → j < s → (cellsE L).set (i * s + j) u = cellsE (L.set i (e.1.set j u, e.2))
  | [], i, j, e, _, _, h, _ => by simp at h
  | x :: L, 0, j, e, u, hs, h, hj => by
    simp at h
    subst h
    have := hs x (.head _)
    rw [List.set_cons_zero, cellsE_cons, cellsE_cons, Nat.zero_mul, Nat.zero_add, List.set_append_left _ _ (by omega)]
  | x :: L, i + 1, j, e, u, hs, h, hj => by
    have h1 := hs x (.head _)
    have h2 := cellsE_set s L i j e u (fun y hy => hs y (.tail _ hy)) (by simpa using h) hj
    rw [List.set_cons_succ, cellsE_cons, cellsE_cons, List.set_append_right _ _ (by rw [h1, Nat.add_mul]; omega), h1, ← h2]
    congr 2
    rw [Nat.add_mul]
    omega
theorem rowsE_split {L : List Elt} {i : Nat} {e : Elt} (h : L[i]? = some e) : ∃ A B, rowsE L = A ++ e.2 ++ B ∧ ∀ e' : Elt, rowsE (L.set i e') = A ++ e'.2 ++ B := by
  obtain ⟨hlt, he⟩ := List.getElem?_eq_some_iff.1 h
  refine ⟨rowsE (L.take i), rowsE (L.drop (i + 1)), ?_, fun e' => ?_⟩
  · have e1 : L = L.take i ++ e :: L.drop (i + 1) := by rw [← he, ← List.drop_eq_getElem_cons hlt, List.take_append_drop]
    conv => lhs; rw [e1]
    rw [rowsE_app, rowsE_cons, List.append_assoc]
  · have e2 : L.set i e' = L.take i ++ e' :: L.drop (i + 1) := List.set_eq_take_append_cons_drop.trans (if_pos hlt)
    rw [e2, rowsE_app, rowsE_cons, List.append_assoc]

/-- Blocks of which S does not hold are as they were. -/
structure Frm (S : Nat → Prop) (w w' : World) : Prop where
  os : w'.os = w.os
  tape : w'.tape = w.tape
  output : w'.output = w.output
  size : w.heap.size ≤ w'.heap.size
  block : ∀ b, b < w.heap.size → ¬ S b → w'.heap[b]? = w.heap[b]?
section
variable {S S' : Nat → Prop} {a w w' : World}
theorem Frm.refl (S : Nat → Prop) (w : World) : Frm S w w := ⟨rfl, rfl, rfl, Nat.le_refl _, fun _ _ _ => rfl⟩
theorem Frm.trans (h : Frm S a w) (k : Frm S w w') : Frm S a w' :=
  ⟨k.os.trans h.os, k.tape.trans h.tape, k.output.trans h.output, Nat.le_trans h.size k.size, fun b hb hs => (k.block b (Nat.lt_of_lt_of_le hb h.size) hs).trans (h.block b hb hs)⟩
theorem Frm.grown {row : Option Nat} (h : w.grownBy w' row) (hr : ∀ g, row = some g → S g) : Frm S w w' :=
  ⟨h.os, h.tape, h.output, h.size, fun b hb hs => h.block b hb (fun e => hs (hr b e.symm))⟩
theorem Frm.of_below (h : Below w.heap.size w w') : Frm S w w' := ⟨h.os, h.tape, h.output, h.size, fun b hb _ => h.block b hb⟩
theorem Frm.drewN (h : Frm S a w) (n : Nat) : Frm S a (w.drewN n) := ⟨h.os, h.tape, h.output, h.size, h.block⟩
theorem Frm.below {B : Nat} (h : Frm S w w') (hS : ∀ b, S b → B ≤ b) (hB : B ≤ w.heap.size) : Below B w w' :=
  ⟨h.os, h.tape, h.output, h.size, fun b hb => h.block b (by omega) (fun hs => by have := hS b hs; omega)⟩
end

/-- The element rows' dummy head: the slice itself. -/
def headE (T : TypeId) (v : Value) : Row := (T, v, [])
def apartR (p q : Row) : Prop := p.2.1.ownBlock = none ∨ p.2.1.ownBlock ≠ q.2.1.ownBlock
theorem apartR_symm {p q : Row} (h : apartR p q) : apartR q p := by
  unfold apartR at *
  rcases h with e | e
  · rcases hq : q.2.1.ownBlock with _ | g
    · exact .inl rfl
    · exact .inr (by rw [e]; simp)
  · rcases hq : q.2.1.ownBlock with _ | g
    · exact .inl rfl
    · exact .inr fun e' => e (by rw [← e', hq])

/-- The slice v of structs of type T, s cells each, is the call's own and has the elements L. -/
structure OwnE (S : Nat → Prop) (T : TypeId) (s : Nat) (w : World) (v : Value) (L : List Elt) : Prop where
  len : ∀ e ∈ L, e.1.length = s
  row : w.ownsRow 0 T s v L.length (cellsE L)
  at_ : ∀ g, v.ownBlock = some g → S g
  sub : ∀ p ∈ rowsE L, GOwn w 0 p ∧ ∀ g, p.2.1.ownBlock = some g → S g
  apart : (headE T v :: rowsE L).Pairwise apartR

theorem row_same {w w' : World} {B s n : Nat} {E : TypeId} {v : Value} {xs : List Value} (h : w.ownsRow B E s v n xs) (hk : ∀ g, v.ownBlock = some g → w'.heap[g]? = w.heap[g]?) : w'.ownsRow B E s v n xs := by
  refine ⟨h.1, ?_⟩
  rcases h.2 with hn | ⟨g, cap, cur, rfl, hb, hgg, rest⟩
  · exact .inl hn
  · exact .inr ⟨g, cap, cur, rfl, hb, by rw [hk g rfl]; exact hgg, rest⟩
section
variable {S S' : Nat → Prop} {T E : TypeId} {s : Nat} {w w' : World} {v : Value} {L : List Elt}
theorem OwnE.nil_ (S : Nat → Prop) (T : TypeId) (s : Nat) (w : World) : OwnE S T s w (.slice none 0 0) [] :=
  ⟨(fun e he => by cases he), World.ownsRow_nil _ _ _ _, (fun g hg => by simp [Value.ownBlock] at hg), (fun p hp => by cases hp), List.pairwise_singleton _ _⟩
theorem OwnE.kept (H : OwnE S T s w v L) (hk : ∀ b, S b → b < w.heap.size → w'.heap[b]? = w.heap[b]?) : OwnE S T s w' v L :=
  ⟨H.len, row_same H.row (fun g hg => hk g (H.at_ g hg) (H.row.lt g hg).2), H.at_, fun p hp => ⟨row_same (H.sub p hp).1 (fun g hg => hk g ((H.sub p hp).2 g hg) ((H.sub p hp).1.lt g hg).2), (H.sub p hp).2⟩, H.apart⟩
theorem OwnE.up (H : OwnE S T s w v L) (hb : Below w.heap.size w w') : OwnE S T s w' v L := H.kept (fun b _ hlt => hb.block b hlt)
theorem OwnE.drewN (H : OwnE S T s w v L) (n : Nat) : OwnE S T s (w.drewN n) v L := H.kept (fun _ _ _ => rfl)
theorem OwnE.mono (H : OwnE S T s w v L) (h : ∀ b, b < w.heap.size → S b → S' b) : OwnE S' T s w v L :=
  ⟨H.len, H.row, fun g hg => h g (H.row.lt g hg).2 (H.at_ g hg), fun p hp => ⟨(H.sub p hp).1, fun g hg => h g ((H.sub p hp).1.lt g hg).2 ((H.sub p hp).2 g hg)⟩, H.apart⟩
theorem OwnE.form (H : OwnE S T s w v L) : ∃ A c, v = .slice A L.length c ∧ L.length ≤ c ∧ c ≤ maxLen ∧ (A = none → c = 0) ∧ (0 < L.length → ∃ b, A = some ⟨b, 0, none⟩ ∧ b < w.heap.size) := by
  rcases H.row.2 with ⟨e, h0⟩ | ⟨g, cap, cur, e, hb, hg, hn, hm, hs, ht⟩
  · exact ⟨none, 0, by rw [e, h0], by omega, by simp [maxLen], fun _ => rfl, fun hp => by omega⟩
  · exact ⟨_, cap, e, hn, hm, (fun e => by cases e), fun _ => ⟨g, rfl, (Array.getElem?_eq_some_iff.1 hg).1⟩⟩
/-- The cells of an element. -/
theorem OwnE.cellE (H : OwnE S T s w v L) {g cap i j : Nat} {e : Elt} (hv : v = .slice (some ⟨g, 0, none⟩) L.length cap) (hi : L[i]? = some e) (hj : j < s) : w.cell? ⟨g, i * s + j, none⟩ = e.1[j]? := by
  have hlt := (List.getElem?_eq_some_iff.1 hi).1
  have h1 := H.row
  rw [hv] at h1
  have h2 : i * s + j < L.length * s := by
    have : (i + 1) * s ≤ L.length * s := Nat.mul_le_mul_right s hlt
    rw [Nat.add_mul] at this
    omega
  rw [World.ownsRow.cellAt h1 (i * s + j) h2, cellsE_get s L i j e H.len hi hj]
theorem OwnE.frE (H : OwnE S T s w v L) {g cap : Nat} (hv : v = .slice (some ⟨g, 0, none⟩) L.length cap) (k : Nat) : w.frozen? ⟨g, k, none⟩ = false := by
  have h1 := H.row
  rw [hv] at h1
  exact World.ownsRow.frozenAt h1 k
theorem rowsE_mem {i : Nat} {e : Elt} (hi : L[i]? = some e) {p : Row} (hp : p ∈ e.2) : p ∈ rowsE L := List.mem_flatMap.2 ⟨e, List.mem_of_getElem? hi, hp⟩
theorem OwnE.ownB (H : OwnE S T s w v L) {i : Nat} {e : Elt} (hi : L[i]? = some e) {u : Value} {l : List UInt8} (hp : (E, u, us l) ∈ e.2) : Own E w 0 u l := GOwn.b.1 (H.sub _ (rowsE_mem hi hp)).1
theorem OwnE.slB (H : OwnE S T s w v L) {i : Nat} {e : Elt} (hi : L[i]? = some e) {u : Value} {l : List UInt8} (hp : (E, u, us l) ∈ e.2) : Sl w w.heap.size u l := (H.ownB hi hp).sl
/-- A cell of an element is written. -/
theorem OwnE.setE (H : OwnE S T s w v L) {g cap i j : Nat} {e : Elt} (hv : v = .slice (some ⟨g, 0, none⟩) L.length cap) (hi : L[i]? = some e) (hj : j < s) (u : Value) :
    OwnE S T s (w.setCell ⟨g, i * s + j, none⟩ u) v (L.set i (e.1.set j u, e.2)) ∧ Frm S w (w.setCell ⟨g, i * s + j, none⟩ u) := by
  have h1 := H.row
  rw [hv] at h1
  have hst := World.ownsRow.stored h1 (i * s + j) u
  have hS : S g := H.at_ g (by rw [hv]; rfl)
  have hrows : rowsE (L.set i (e.1.set j u, e.2)) = rowsE L := by
    obtain ⟨A, B, h2, h3⟩ := rowsE_split hi
    rw [h3, h2]
  refine ⟨⟨fun x hx => ?_, ?_, H.at_, fun p hp => ?_, by rw [hrows]; exact H.apart⟩, Frm.grown hst.2 (fun b hb => by cases hb; exact hS)⟩
  · rcases List.mem_or_eq_of_mem_set hx with h | rfl
    · exact H.len x h
    · simp only [List.length_set]
      exact H.len e (List.mem_of_getElem? hi)
  · rw [List.length_set, ← cellsE_set s L i j e u H.len hi hj, hv]
    exact hst.1
  · rw [hrows] at hp
    have h2 := H.sub p hp
    refine ⟨row_same h2.1 (fun b hb => ?_), h2.2⟩
    have h3 := (List.pairwise_cons.1 H.apart).1 p hp
    refine Below.heap_setCell w ⟨g, i * s + j, none⟩ u b (fun e => ?_)
    rcases h3 with h3 | h3
    · rw [show (headE T v).2.1 = v from rfl, hv] at h3
      simp [Value.ownBlock] at h3
    · refine h3 ?_
      rw [show (headE T v).2.1 = v from rfl, hv, hb]
      simp only at e
      rw [e]
      rfl
/-- A row behind an element is written. -/
theorem OwnE.wroteE (H : OwnE S T s w v L) {i : Nat} {cs : List Value} {A B : List Row} {u : Value} {l l' : List UInt8} (hi : L[i]? = some (cs, A ++ (E, u, us l) :: B)) (ho : Own E w' 0 u l') (hg : w.grownBy w' u.ownBlock) :
    OwnE S T s w' v (L.set i (cs, A ++ (E, u, us l') :: B)) ∧ Frm S w w' := by
  have hmem : (E, u, us l) ∈ rowsE L := rowsE_mem hi (by simp)
  have hS := (H.sub _ hmem).2
  refine ⟨⟨fun x hx => ?_, ?_, H.at_, fun p hp => ?_, ?_⟩, Frm.grown hg hS⟩
  · rcases List.mem_or_eq_of_mem_set hx with h | rfl
    · exact H.len x h
    · exact H.len (cs, A ++ (E, u, us l) :: B) (List.mem_of_getElem? hi)
  · have hc : cellsE (L.set i (cs, A ++ (E, u, us l') :: B)) = cellsE L := by
      obtain ⟨hlt, he⟩ := List.getElem?_eq_some_iff.1 hi
      have e1 : L = L.take i ++ (cs, A ++ (E, u, us l) :: B) :: L.drop (i + 1) := by rw [← he, ← List.drop_eq_getElem_cons hlt, List.take_append_drop]
      have e2 : L.set i (cs, A ++ (E, u, us l') :: B) = L.take i ++ (cs, A ++ (E, u, us l') :: B) :: L.drop (i + 1) := List.set_eq_take_append_cons_drop.trans (if_pos hlt)
      rw [e2, cellsE_app, cellsE_cons]
      conv => rhs; rw [e1, cellsE_app, cellsE_cons]
    rw [hc, List.length_set]
    refine row_same H.row (fun g hgv => hg.block g (H.row.lt g hgv).2 (fun e => ?_))
    rcases (List.pairwise_cons.1 H.apart).1 _ hmem with h3 | h3
    · rw [show (headE T v).2.1 = v from rfl, hgv] at h3
      cases h3
    · exact h3 (by rw [show (headE T v).2.1 = v from rfl, hgv]; exact e)
  · obtain ⟨X, Y, h2, h3⟩ := rowsE_split hi
    have hpw := (List.pairwise_cons.1 H.apart).2
    rw [h2] at hpw
    have keep : ∀ q ∈ rowsE L, apartR (E, u, us l) q → GOwn w' 0 q ∧ ∀ g, q.2.1.ownBlock = some g → S g := fun q hq hap => by
      have h4 := H.sub q hq
      refine ⟨row_same h4.1 (fun b hb => hg.block b (h4.1.lt b hb).2 (fun e => ?_)), h4.2⟩
      rcases hap with h5 | h5
      · simp only at h5
        rw [h5] at e
        cases e
      · exact h5 (by simp only; rw [hb, e])
    rw [h3] at hp
    simp only [List.append_assoc, List.mem_append, List.mem_cons, List.cons_append] at hp hpw
    have hp2 : p = (E, u, us l') ∨ (p ∈ X ++ A ∨ p ∈ B ++ Y) := by
      rcases hp with h | h | h | h | h
      · exact .inr (.inl (List.mem_append_left _ h))
      · exact .inr (.inl (List.mem_append_right _ h))
      · exact .inl h
      · exact .inr (.inr (List.mem_append_left _ h))
      · exact .inr (.inr (List.mem_append_right _ h))
    have hpw2 : ((X ++ A) ++ (E, u, us l) :: (B ++ Y)).Pairwise apartR := by
      simpa [List.append_assoc] using hpw
    obtain ⟨hp1, hpB, hx⟩ := List.pairwise_append.1 hpw2
    rcases hp2 with rfl | h | h
    · exact ⟨GOwn.b.2 ho, hS⟩
    · refine keep p ?_ (apartR_symm (hx p h _ (.head _)))
      rw [h2]
      simp only [List.mem_append] at h ⊢
      rcases h with h | h
      · exact .inl (.inl h)
      · exact .inl (.inr (by simp [h]))
    · refine keep p ?_ ((List.pairwise_cons.1 hpB).1 p h)
      rw [h2]
      simp only [List.mem_append] at h ⊢
      rcases h with h | h
      · exact .inl (.inr (by simp [h]))
      · exact .inr h
  · obtain ⟨X, Y, h2, h3⟩ := rowsE_split hi
    rw [h3]
    have h4 := H.apart
    rw [h2] at h4
    have hm : ∀ Z : List UInt8, (headE T v :: (X ++ (A ++ (E, u, us Z) :: B) ++ Y)).map (fun p : Row => p.2.1.ownBlock) = (headE T v :: (X ++ (A ++ (E, u, us l) :: B) ++ Y)).map (fun p : Row => p.2.1.ownBlock) := fun Z => by simp
    have hpw : ∀ R : List Row, R.Pairwise apartR ↔ (R.map (fun p : Row => p.2.1.ownBlock)).Pairwise (fun a b => a = none ∨ a ≠ b) := fun R => by
      rw [List.pairwise_map]
      rfl
    rw [hpw, hm l', ← hpw]
    exact h4
end

/-- The slice is the call's own, and so are the rows rs, which will lie behind its next element. -/
structure OwnP (S : Nat → Prop) (T : TypeId) (s : Nat) (w : World) (v : Value) (L : List Elt) (rs : List Row) : Prop where
  own : OwnE S T s w v L
  sub : ∀ p ∈ rs, GOwn w 0 p ∧ ∀ g, p.2.1.ownBlock = some g → S g
  apart : (headE T v :: (rowsE L ++ rs)).Pairwise apartR
section
variable {S S' : Nat → Prop} {T E : TypeId} {s : Nat} {w w' : World} {v : Value} {L : List Elt} {rs : List Row}
theorem OwnE.pend (H : OwnE S T s w v L) : OwnP S T s w v L [] := ⟨H, (fun p hp => by cases hp), by rw [List.append_nil]; exact H.apart⟩
theorem OwnP.kept (H : OwnP S T s w v L rs) (hk : ∀ b, S b → b < w.heap.size → w'.heap[b]? = w.heap[b]?) : OwnP S T s w' v L rs :=
  ⟨H.own.kept hk, fun p hp => ⟨row_same (H.sub p hp).1 (fun g hg => hk g ((H.sub p hp).2 g hg) ((H.sub p hp).1.lt g hg).2), (H.sub p hp).2⟩, H.apart⟩
theorem OwnP.up (H : OwnP S T s w v L rs) (hb : Below w.heap.size w w') : OwnP S T s w' v L rs := H.kept (fun b _ hlt => hb.block b hlt)
theorem OwnP.drewN (H : OwnP S T s w v L rs) (n : Nat) : OwnP S T s (w.drewN n) v L rs := H.kept (fun _ _ _ => rfl)
theorem OwnP.drew (H : OwnP S T s w v L rs) : OwnP S T s w.drew v L rs := H.drewN 1
theorem OwnP.lt (H : OwnP S T s w v L rs) : ∀ p ∈ headE T v :: (rowsE L ++ rs), ∀ g, p.2.1.ownBlock = some g → g < w.heap.size := by
  intro p hp g hg
  rcases List.mem_cons.1 hp with rfl | hp
  · exact (H.own.row.lt g hg).2
  · rcases List.mem_append.1 hp with hp | hp
    · exact ((H.own.sub p hp).1.lt g hg).2
    · exact ((H.sub p hp).1.lt g hg).2
/-- A call has made a row more. -/
theorem OwnP.moreB (H : OwnP S T s w v L rs) {u : Value} {l : List UInt8} (ho : Own E w' w.heap.size u l) (hb : Below w.heap.size w w') (hS : ∀ b, w.heap.size ≤ b → S b) : OwnP S T s w' v L (rs ++ [(E, u, us l)]) := by
  have H' := H.up hb
  refine ⟨H'.own, fun p hp => ?_, ?_⟩
  · rcases List.mem_append.1 hp with hp | hp
    · exact H'.sub p hp
    · rw [List.mem_singleton] at hp
      subst hp
      exact ⟨GOwn.b.2 (ho.mono (Nat.zero_le _)), fun g hg => hS g (ho.lt g hg).1⟩
  · rw [← List.append_assoc, ← List.cons_append]
    refine List.pairwise_append.2 ⟨H.apart, List.pairwise_singleton _ _, fun p hp q hq => ?_⟩
    rw [List.mem_singleton] at hq
    subst hq
    rcases hv : p.2.1.ownBlock with _ | g
    · exact .inl hv
    · refine .inr fun e => ?_
      have h1 := H.lt p hp g hv
      have h2 := (ho.lt g (by rw [hv] at e; exact e.symm)).1
      omega
theorem OwnP.slB (H : OwnP S T s w v L rs) {u : Value} {l : List UInt8} (hp : (E, u, us l) ∈ rs) : Sl w w.heap.size u l := (GOwn.b.1 (H.sub _ hp).1).sl

/-- 'append(out, x)' for one struct x, within a drawn region: out is the call's own, the rows behind x wait. -/
theorem step_appE {P : Program} {ops : Array Oper} {o : Oper} {a : Act} {K : Act → World → Prop} {Q : Exit → Act → World → Prop} {F : Prop} (hwt : Region.wanted o (yielded ops a.tmps) = true) (x y : Operand) (t : TypeId)
    (ho : o.op = .call { callee := .builtin .append, args := #[x, y], argTypes := #[t, t] }) (i : TypeInfo) (z : Value) (bytes : Nat) (ht : P.underlying t = some (.slice T)) (hi : P.info? T = some i)
    (hz : i.zero = some z) (hzs : z.cells.size = s) (hsize : i.size = s) (hby : i.bytes = bytes) (hbb : bytes ≤ 1000) (hs0 : 0 < s) (cs : List Value) (hcs : cs.length = s) (hone : ∀ u ∈ cs, u.oneCell' = true)
    (hs : a.eval x = v) (hx : a.eval y = .slice (some ⟨w.heap.size, 0, none⟩) 1 1) (H : OwnP S T s w v L rs) (hS : ∀ b, w.heap.size ≤ b → S b) (hlen : L.length ≤ 1073741824)
    (h : ∀ v' w', OwnE S T s w' v' (L ++ [(cs, rs)]) → Frm S w w' → K (a.put o.dst v') w') :
    if Region.wanted o (yielded ops a.tmps) = true then Oper.wp P o a (w.alloc (.cells cs.toArray T)) K Q else F := by
  rw [if_pos hwt]
  have hba : Below w.heap.size w (w.alloc (.cells cs.toArray T)) := (Below.refl _ _).alloc (Nat.le_refl _) _
  have Ha := H.up hba
  have hnew : ∀ j u, cs[j]? = some u → (w.alloc (.cells cs.toArray T)).cell? ((⟨w.heap.size, 0, none⟩ : Addr).add j) = some u := by
    intro j u hj
    have hlit := World.ownsRow_lit (base := 0) (e := T) (size := s) w cs.toArray 1 (Nat.zero_le _) (by unfold maxLen; omega) (by simp [hcs])
    have hlt := (List.getElem?_eq_some_iff.1 hj).1
    have hc := World.ownsRow.cellAt hlit j (by omega)
    have hadd : (⟨w.heap.size, 0, none⟩ : Addr).add j = ⟨w.heap.size, j, none⟩ := by unfold Addr.add; split <;> simp_all
    rw [hadd, hc]
    simpa using hj
  obtain ⟨v', w', hr, k1, k2, _, k4⟩ := run_append_own_at (P := P) (w.alloc (.cells cs.toArray T)) 0 t o.type T i z s bytes ht hi hz hsize hby hzs hs0 v L.length (cellsE L) Ha.own.row ⟨w.heap.size, 0, none⟩ 1 1 cs (by omega) hnew hone (by unfold maxLen; omega) (Nat.le_trans (Nat.mul_le_mul (show L.length + 1 ≤ 1073741825 by omega) hbb) (by decide)) (Nat.zero_le _)
  unfold Oper.wp execOp
  simp only [ho, resolve, invoke, builtin, Sem.run_bind, Sem.run_pure, Result.andThen_ok, List.map_toArray, List.map_cons, List.map_nil, hs, hx, hr]
  have hf : Frm S (w.alloc (.cells cs.toArray T)) w' := Frm.grown k2 (fun g hg => H.own.at_ g hg)
  have hf0 : Frm S w w' := (Frm.of_below hba).trans hf
  have hrow : ∀ p ∈ rowsE L ++ rs, apartR (headE T v) p := (List.pairwise_cons.1 H.apart).1
  have hkeep : ∀ p ∈ rowsE L ++ rs, GOwn w' 0 p ∧ ∀ g, p.2.1.ownBlock = some g → S g := fun p hp => by
    have h4 : GOwn (w.alloc (.cells cs.toArray T)) 0 p ∧ ∀ g, p.2.1.ownBlock = some g → S g := by
      rcases List.mem_append.1 hp with hp | hp
      · exact Ha.own.sub p hp
      · exact Ha.sub p hp
    refine ⟨row_same h4.1 (fun b hb => k2.block b (h4.1.lt b hb).2 (fun e => ?_)), h4.2⟩
    rcases hrow p hp with h5 | h5
    · rw [show (headE T v).2.1 = v from rfl] at h5
      rw [h5] at e
      cases e
    · exact h5 (by rw [show (headE T v).2.1 = v from rfl, hb, e])
  have happ : rowsE (L ++ [(cs, rs)]) = rowsE L ++ rs := by rw [rowsE_app]; simp [rowsE]
  refine h v' w' ⟨fun e he => ?_, ?_, fun g hg => ?_, fun p hp => ?_, ?_⟩ hf0
  · rcases List.mem_append.1 he with he | he
    · exact H.own.len e he
    · rw [List.mem_singleton] at he
      subst he
      exact hcs
  · rw [cellsE_app, List.length_append]
    simpa [cellsE] using k1
  · rcases k4 with e | e
    · exact H.own.at_ g (by rw [← e]; exact hg)
    · rw [e] at hg
      injection hg with hg
      refine hS g ?_
      simp at hg
      omega
  · rw [happ] at hp
    exact hkeep p hp
  · rw [happ]
    refine List.pairwise_cons.2 ⟨fun q hq => ?_, (List.pairwise_cons.1 H.apart).2⟩
    show v'.ownBlock = none ∨ v'.ownBlock ≠ q.2.1.ownBlock
    rcases k4 with e | e
    · rw [e]
      exact hrow q hq
    · rw [e]
      refine .inr fun e2 => ?_
      have h6 := H.lt q (.tail _ hq) _ e2.symm
      have h7 := hba.size
      omega
end

section
variable {S : Nat → Prop} {T E : TypeId} {s : Nat} {w w' : World} {v : Value} {L : List Elt} {rs : List Row}
/-- A call has made the rows qs. -/
theorem OwnP.moreG {qs : List Row} (H : OwnP S T s w v L rs) (K : InvG w w' qs) (hS : ∀ b, w.heap.size ≤ b → S b) : OwnP S T s w' v L (rs ++ qs) := by
  have H' := H.up K.bel
  refine ⟨H'.own, fun p hp => ?_, ?_⟩
  · rcases List.mem_append.1 hp with hp | hp
    · exact H'.sub p hp
    · exact ⟨(K.2.1 p hp).mono (Nat.zero_le _), fun g hg => hS g ((K.2.1 p hp).lt g hg).1⟩
  · rw [← List.append_assoc, ← List.cons_append]
    refine List.pairwise_append.2 ⟨H.apart, K.2.2, fun p hp q hq => ?_⟩
    rcases hv : p.2.1.ownBlock with _ | g
    · exact .inl hv
    · refine .inr fun e => ?_
      have h1 := H.lt p hp g hv
      have h2 := ((K.2.1 q hq).lt g (by rw [hv] at e; exact e.symm)).1
      omega
/-- The rows that wait come to lie behind element i, in the place of those that lay there. -/
theorem OwnP.swap (H : OwnP S T s w v L rs) {i : Nat} {e : Elt} (hi : L[i]? = some e) : OwnE S T s w v (L.set i (e.1, rs)) := by
  obtain ⟨A, B, h2, h3⟩ := rowsE_split hi
  refine ⟨fun x hx => ?_, ?_, H.own.at_, fun p hp => ?_, ?_⟩
  · rcases List.mem_or_eq_of_mem_set hx with h | rfl
    · exact H.own.len x h
    · exact H.own.len e (List.mem_of_getElem? hi)
  · have hc : cellsE (L.set i (e.1, rs)) = cellsE L := by
      obtain ⟨hlt, he⟩ := List.getElem?_eq_some_iff.1 hi
      have e1 : L = L.take i ++ e :: L.drop (i + 1) := by rw [← he, ← List.drop_eq_getElem_cons hlt, List.take_append_drop]
      have e2 : L.set i (e.1, rs) = L.take i ++ (e.1, rs) :: L.drop (i + 1) := List.set_eq_take_append_cons_drop.trans (if_pos hlt)
      rw [e2, cellsE_app, cellsE_cons]
      conv => rhs; rw [e1, cellsE_app, cellsE_cons]
    rw [hc, List.length_set]
    exact H.own.row
  · rw [h3] at hp
    simp only [List.append_assoc, List.mem_append] at hp
    rcases hp with h | h | h
    · exact H.own.sub p (by rw [h2]; simp [h])
    · exact H.sub p h
    · exact H.own.sub p (by rw [h2]; simp [h])
  · rw [h3]
    have h4 := H.apart
    rw [h2] at h4
    have h5 : (headE T v :: (A ++ rs ++ B)).Perm (headE T v :: (A ++ B ++ rs)) := by
      refine List.Perm.cons _ ?_
      rw [List.append_assoc, List.append_assoc]
      exact List.Perm.append_left A List.perm_append_comm
    refine (h5.pairwise_iff (fun {p q} h => apartR_symm h)).2 (h4.sublist ?_)
    refine List.Sublist.cons_cons _ ?_
    refine List.Sublist.append ?_ (List.Sublist.refl _)
    rw [List.append_assoc]
    exact List.Sublist.append (List.Sublist.refl _) (List.sublist_append_right _ _)
end
end Go.Proofs.YtopbalemfljphaaDoor
