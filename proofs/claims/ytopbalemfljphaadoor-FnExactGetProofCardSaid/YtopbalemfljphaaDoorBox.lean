/- Variables of struct type among the segments of a call: a box of any number of cells. 'append(out, x...)' within a drawn region. No program is named here. -/
import Derived.Test.YtopbalemfljphaaDoorPut
namespace Go.Proofs.YtopbalemfljphaaDoor
open Go.RowKit Go.ChangeShapes Go.WideShapes Go.ChangeAt

/-- A variable of type T in block g whose cells are xs. -/
def segX (T : TypeId) (g : Nat) (xs : List Value) : List Row := [(T, .slice (some ⟨g, 0, none⟩) xs.length xs.length, xs)]
section
variable {W w w' : World} {ss : List (List Row)} {T : TypeId} {g : Nat}
theorem InvF.newX (T : TypeId) (c : Array Value) (H : InvF W w ss) (hc : c.size ≤ 4096 := by simp) : InvF W (w.alloc (.cells c T)) (segX T w.heap.size c.toList :: ss) := by
  refine H.more ((InvG.start w).moreG ?_ ((Below.refl _ _).alloc (Nat.le_refl _) _))
  unfold GOwn
  simp only
  have h := World.ownsRow_lit (base := w.heap.size) (e := T) (size := 1) w c c.size (Nat.le_refl _) (by unfold maxLen; omega) (by simp)
  simpa using h
/-- The same, its block by name. -/
theorem InvF.newG (T : TypeId) (c : Array Value) (g : Nat) (H : InvF W w ss) (hg : g = w.heap.size := by simp) (hc : c.size ≤ 4096 := by simp) : InvF W (w.alloc (.cells c T)) (segX T g c.toList :: ss) := by
  rw [hg]
  exact H.newX T c hc
theorem InvF.drew1 (H : InvF W w ss) : InvF W w.drew ss := H.drewN 1
theorem InvF.rowX {xs : List Value} (H : InvF W w ss) (h : segX T g xs ∈ ss) : w.ownsRow W.heap.size T 1 (.slice (some ⟨g, 0, none⟩) xs.length xs.length) xs.length xs := H.2.1 _ (InvF.mem h (.head _))
theorem InvF.atX {xs : List Value} (H : InvF W w ss) (h : segX T g xs ∈ ss) (j : Nat) {v : Value} (hv : xs[j]? = some v) : w.cell? ⟨g, j, none⟩ = some v := by
  have hl := (List.getElem?_eq_some_iff.1 hv).1
  exact (World.ownsRow.cellAt (H.rowX h) j (by omega)).trans hv
theorem InvF.frX {xs : List Value} (H : InvF W w ss) (h : segX T g xs ∈ ss) (j : Nat) : w.frozen? ⟨g, j, none⟩ = false := World.ownsRow.frozenAt (H.rowX h) j
theorem InvF.ltX {v : Value} {xs : List Value} (H : InvF W w ss) (h : segX T g (v :: xs) ∈ ss) : g < w.heap.size := ((World.ownsRow.lt (H.rowX h)) g rfl).2
theorem InvF.geX {v : Value} {xs : List Value} (H : InvF W w ss) (h : segX T g (v :: xs) ∈ ss) : W.heap.size ≤ g := ((World.ownsRow.lt (H.rowX h)) g rfl).1
/-- A store into a box. -/
theorem InvF.setX {xs : List Value} (H : InvF W w (segX T g xs :: ss)) (j : Nat) (v : Value) : InvF W (w.setCell ⟨g, j, none⟩ v) (segX T g (xs.set j v) :: ss) := by
  have hst := World.ownsRow.stored (H.rowX (.head _)) j v
  have h := InvG.wrote (x' := xs.set j v) H (by unfold GOwn; simp only [List.length_set]; exact hst.1) hst.2
  simpa [InvF, segX] using h
/-- The cells of a box of five. -/
theorem InvF.c5 {a b c d e : Value} (H : InvF W w ss) (h : segX T g [a, b, c, d, e] ∈ ss) :
    w.cell? ⟨g, 0, none⟩ = some a ∧ w.cell? ⟨g, 1, none⟩ = some b ∧ w.cell? ⟨g, 2, none⟩ = some c ∧ w.cell? ⟨g, 3, none⟩ = some d ∧ w.cell? ⟨g, 4, none⟩ = some e :=
  ⟨H.atX h 0 rfl, H.atX h 1 rfl, H.atX h 2 rfl, H.atX h 3 rfl, H.atX h 4 rfl⟩
theorem InvF.f5 {a b c d e : Value} (H : InvF W w ss) (h : segX T g [a, b, c, d, e] ∈ ss) :
    w.frozen? ⟨g, 0, none⟩ = false ∧ w.frozen? ⟨g, 1, none⟩ = false ∧ w.frozen? ⟨g, 2, none⟩ = false ∧ w.frozen? ⟨g, 3, none⟩ = false ∧ w.frozen? ⟨g, 4, none⟩ = false :=
  ⟨H.frX h 0, H.frX h 1, H.frX h 2, H.frX h 3, H.frX h 4⟩
/-- The cells of a box of eight. -/
theorem InvF.c8 {a b c d e f k m : Value} (H : InvF W w ss) (h : segX T g [a, b, c, d, e, f, k, m] ∈ ss) :
    w.cell? ⟨g, 0, none⟩ = some a ∧ w.cell? ⟨g, 1, none⟩ = some b ∧ w.cell? ⟨g, 2, none⟩ = some c ∧ w.cell? ⟨g, 3, none⟩ = some d ∧ w.cell? ⟨g, 4, none⟩ = some e ∧ w.cell? ⟨g, 5, none⟩ = some f ∧ w.cell? ⟨g, 6, none⟩ = some k ∧ w.cell? ⟨g, 7, none⟩ = some m :=
  ⟨H.atX h 0 rfl, H.atX h 1 rfl, H.atX h 2 rfl, H.atX h 3 rfl, H.atX h 4 rfl, H.atX h 5 rfl, H.atX h 6 rfl, H.atX h 7 rfl⟩
theorem InvF.f8 {a b c d e f k m : Value} (H : InvF W w ss) (h : segX T g [a, b, c, d, e, f, k, m] ∈ ss) :
    w.frozen? ⟨g, 0, none⟩ = false ∧ w.frozen? ⟨g, 1, none⟩ = false ∧ w.frozen? ⟨g, 2, none⟩ = false ∧ w.frozen? ⟨g, 3, none⟩ = false ∧ w.frozen? ⟨g, 4, none⟩ = false ∧ w.frozen? ⟨g, 5, none⟩ = false ∧ w.frozen? ⟨g, 6, none⟩ = false ∧ w.frozen? ⟨g, 7, none⟩ = false :=
  ⟨H.frX h 0, H.frX h 1, H.frX h 2, H.frX h 3, H.frX h 4, H.frX h 5, H.frX h 6, H.frX h 7⟩
theorem InvF.over8 {a b c d e f k m : Value} (H : InvF W w (segX T g [a, b, c, d, e, f, k, m] :: ss)) (a' b' c' d' e' f' k' m' : Value) :
    InvF W ((((((((w.setCell ⟨g, 0, none⟩ a').setCell ⟨g, 1, none⟩ b').setCell ⟨g, 2, none⟩ c').setCell ⟨g, 3, none⟩ d').setCell ⟨g, 4, none⟩ e').setCell ⟨g, 5, none⟩ f').setCell ⟨g, 6, none⟩ k').setCell ⟨g, 7, none⟩ m') (segX T g [a', b', c', d', e', f', k', m'] :: ss) :=
  (((((((H.setX 0 a').setX 1 b').setX 2 c').setX 3 d').setX 4 e').setX 5 f').setX 6 k').setX 7 m'
/-- A box of five is written over, cell by cell. -/
theorem InvF.over5 {a b c d e : Value} (H : InvF W w (segX T g [a, b, c, d, e] :: ss)) (a' b' c' d' e' : Value) :
    InvF W (((((w.setCell ⟨g, 0, none⟩ a').setCell ⟨g, 1, none⟩ b').setCell ⟨g, 2, none⟩ c').setCell ⟨g, 3, none⟩ d').setCell ⟨g, 4, none⟩ e') (segX T g [a', b', c', d', e'] :: ss) :=
  ((((H.setX 0 a').setX 1 b').setX 2 c').setX 3 d').setX 4 e'
end

/-- 'append(out, x...)' for a slice x of bytes that is not empty, within a drawn region: out is nil or the call's own. -/
theorem step_appB {P : Program} {W w : World} {ops : Array Oper} {o : Oper} {a : Act} {K : Act → World → Prop} {Q : Exit → Act → World → Prop} {F : Prop} (hwt : Region.wanted o (yielded ops a.tmps) = true) (s x : Operand) (t : TypeId)
    (ho : o.op = .call { callee := .builtin .append, args := #[s, x], argTypes := #[t, t] }) (E : TypeId) (i : TypeInfo) (ht : P.underlying t = some (.slice E)) (hi : P.info? E = some i)
    (hz : i.zero = some (.int .u8 0)) (hsize : i.size = 1) (hby : i.bytes = 1) (v : Value) (l : List UInt8) (hs : a.eval s = v) (u : Value) (m : List UInt8)
    (hx : a.eval x = u) (hm : Sl w w.heap.size u m) (hp : 0 < m.length) (hown : Own E w W.heap.size v l) (hb : Below W.heap.size W w) (hlen : l.length + m.length ≤ 70368744177664)
    (h : ∀ v' w', Own E w' W.heap.size v' (l ++ m) → w.grownBy w' v.ownBlock → K (a.put o.dst v') w') :
    if Region.wanted o (yielded ops a.tmps) = true then Oper.wp P o a w K Q else F := by
  rw [if_pos hwt]
  obtain ⟨A, c, rfl, h1, h2, h0, h3⟩ := hm
  obtain ⟨b, off, rfl, hbb, hcell⟩ := h3 hp
  have hadd : ∀ k, (⟨b, off, none⟩ : Addr).add k = ⟨b, off + k, none⟩ := fun k => by
    unfold Addr.add
    split
    · rename_i h0; subst h0; rfl
    · rfl
  refine wp_append_own _ s x t ho W.heap.size E i (.int .u8 0) 1 1 ht hi hz hsize hby rfl (by omega) v l.length (us l) hs hown ⟨b, off, none⟩ m.length c (us m) hx (by rw [us_length]; omega) ?_ (us_cell _) ?_ ?_ hb.size ?_
  · intro j y hj
    have hjm : j < m.length := by
      rw [← us_length m]
      exact (List.getElem?_eq_some_iff.1 hj).1
    rw [us_get m j hjm] at hj
    injection hj with hj
    subst hj
    rw [hadd]
    exact hcell j hjm
  · unfold maxLen; omega
  · omega
  · intro v' w' k1 k2 _
    refine h v' w' ?_ k2
    unfold Own
    rw [us_app, List.length_append]
    exact k1
theorem ten {p q r s t : Prop} {u : Prop} (h : p ∧ q ∧ r ∧ s ∧ t) (k : u) : p ∧ q ∧ r ∧ s ∧ t ∧ u := ⟨h.1, h.2.1, h.2.2.1, h.2.2.2.1, h.2.2.2.2, k⟩
/-- Five cells of a block that has not turned. -/
theorem five_kept {w w' : World} {r : Option Nat} {g : Nat} {a b c d e : Value} (hg : w.grownBy w' r) (hl : g < w.heap.size) (hne : r ≠ some g)
    (h : w.cell? ⟨g, 0, none⟩ = some a ∧ w.cell? ⟨g, 1, none⟩ = some b ∧ w.cell? ⟨g, 2, none⟩ = some c ∧ w.cell? ⟨g, 3, none⟩ = some d ∧ w.cell? ⟨g, 4, none⟩ = some e) :
    w'.cell? ⟨g, 0, none⟩ = some a ∧ w'.cell? ⟨g, 1, none⟩ = some b ∧ w'.cell? ⟨g, 2, none⟩ = some c ∧ w'.cell? ⟨g, 3, none⟩ = some d ∧ w'.cell? ⟨g, 4, none⟩ = some e := by
  have hk := hg.block g hl (fun e => hne e.symm)
  have hc : ∀ j, w'.cell? ⟨g, j, none⟩ = w.cell? ⟨g, j, none⟩ := fun j => World.cell?_of_block (a := ⟨g, j, none⟩) hk
  simpa only [hc] using h
end Go.Proofs.YtopbalemfljphaaDoor
