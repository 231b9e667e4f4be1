/- Boxes of ten cells (a header: three ints, two slices, a certificate's five), and of five within them. No program is named here. -/
import Derived.Test.YtopbalemfljphaaDoorBox
namespace Go.Proofs.YtopbalemfljphaaDoor
open Go.RowKit Go.ChangeShapes Go.WideShapes Go.ChangeAt

section
variable {W w w' : World} {ss : List (List Row)} {T : TypeId} {g : Nat}
/-- Ten cells of a block. -/
def Ten (w : World) (g : Nat) (a b c d e f i j k m : Value) : Prop :=
  w.cell? ⟨g, 0, none⟩ = some a ∧ w.cell? ⟨g, 1, none⟩ = some b ∧ w.cell? ⟨g, 2, none⟩ = some c ∧ w.cell? ⟨g, 3, none⟩ = some d ∧ w.cell? ⟨g, 4, none⟩ = some e ∧ w.cell? ⟨g, 5, none⟩ = some f ∧ w.cell? ⟨g, 6, none⟩ = some i ∧ w.cell? ⟨g, 7, none⟩ = some j ∧ w.cell? ⟨g, 8, none⟩ = some k ∧ w.cell? ⟨g, 9, none⟩ = some m
theorem InvF.c10 {a b c d e f i j k m : Value} (H : InvF W w ss) (h : segX T g [a, b, c, d, e, f, i, j, k, m] ∈ ss) : Ten w g a b c d e f i j k m :=
  ⟨H.atX h 0 rfl, H.atX h 1 rfl, H.atX h 2 rfl, H.atX h 3 rfl, H.atX h 4 rfl, H.atX h 5 rfl, H.atX h 6 rfl, H.atX h 7 rfl, H.atX h 8 rfl, H.atX h 9 rfl⟩
theorem InvF.f10 {a b c d e f i j k m : Value} (H : InvF W w ss) (h : segX T g [a, b, c, d, e, f, i, j, k, m] ∈ ss) :
    w.frozen? ⟨g, 0, none⟩ = false ∧ w.frozen? ⟨g, 1, none⟩ = false ∧ w.frozen? ⟨g, 2, none⟩ = false ∧ w.frozen? ⟨g, 3, none⟩ = false ∧ w.frozen? ⟨g, 4, none⟩ = false ∧ w.frozen? ⟨g, 5, none⟩ = false ∧ w.frozen? ⟨g, 6, none⟩ = false ∧ w.frozen? ⟨g, 7, none⟩ = false ∧ w.frozen? ⟨g, 8, none⟩ = false ∧ w.frozen? ⟨g, 9, none⟩ = false :=
  ⟨H.frX h 0, H.frX h 1, H.frX h 2, H.frX h 3, H.frX h 4, H.frX h 5, H.frX h 6, H.frX h 7, H.frX h 8, H.frX h 9⟩
/-- A box of ten is written over, cell by cell. -/
theorem InvF.over10 {a b c d e f i j k m : Value} (H : InvF W w (segX T g [a, b, c, d, e, f, i, j, k, m] :: ss)) (a' b' c' d' e' f' i' j' k' m' : Value) :
    InvF W ((((((((((w.setCell ⟨g, 0, none⟩ a').setCell ⟨g, 1, none⟩ b').setCell ⟨g, 2, none⟩ c').setCell ⟨g, 3, none⟩ d').setCell ⟨g, 4, none⟩ e').setCell ⟨g, 5, none⟩ f').setCell ⟨g, 6, none⟩ i').setCell ⟨g, 7, none⟩ j').setCell ⟨g, 8, none⟩ k').setCell ⟨g, 9, none⟩ m') (segX T g [a', b', c', d', e', f', i', j', k', m'] :: ss) :=
  (((((((((H.setX 0 a').setX 1 b').setX 2 c').setX 3 d').setX 4 e').setX 5 f').setX 6 i').setX 7 j').setX 8 k').setX 9 m'
/-- The last five of the ten are written over (a certificate stored into a header). -/
theorem InvF.over10b {a b c d e f i j k m : Value} (H : InvF W w (segX T g [a, b, c, d, e, f, i, j, k, m] :: ss)) (f' i' j' k' m' : Value) :
    InvF W (((((w.setCell ⟨g, 5, none⟩ f').setCell ⟨g, 6, none⟩ i').setCell ⟨g, 7, none⟩ j').setCell ⟨g, 8, none⟩ k').setCell ⟨g, 9, none⟩ m') (segX T g [a, b, c, d, e, f', i', j', k', m'] :: ss) :=
  ((((H.setX 5 f').setX 6 i').setX 7 j').setX 8 k').setX 9 m'
/-- The ten cells of a block that has not turned. -/
theorem ten_below {n : Nat} {a b c d e f i j k m : Value} (hb : Below n w w') (hl : g < n) (h : Ten w g a b c d e f i j k m) : Ten w' g a b c d e f i j k m := by
  obtain ⟨h0, h1, h2, h3, h4, h5, h6, h7, h8, h9⟩ := h
  exact ⟨(hb.cell (p := ⟨g, 0, none⟩) hl).trans h0, (hb.cell (p := ⟨g, 1, none⟩) hl).trans h1, (hb.cell (p := ⟨g, 2, none⟩) hl).trans h2, (hb.cell (p := ⟨g, 3, none⟩) hl).trans h3, (hb.cell (p := ⟨g, 4, none⟩) hl).trans h4, (hb.cell (p := ⟨g, 5, none⟩) hl).trans h5, (hb.cell (p := ⟨g, 6, none⟩) hl).trans h6, (hb.cell (p := ⟨g, 7, none⟩) hl).trans h7, (hb.cell (p := ⟨g, 8, none⟩) hl).trans h8, (hb.cell (p := ⟨g, 9, none⟩) hl).trans h9⟩
end
/-- The ten cells, spelled out. -/
theorem InvF.k10 {W w : World} {ss : List (List Row)} {T : TypeId} {g : Nat} {a b c d e f i j k m : Value} (H : InvF W w ss) (h : segX T g [a, b, c, d, e, f, i, j, k, m] ∈ ss) :
    w.cell? ⟨g, 0, none⟩ = some a ∧ w.cell? ⟨g, 1, none⟩ = some b ∧ w.cell? ⟨g, 2, none⟩ = some c ∧ w.cell? ⟨g, 3, none⟩ = some d ∧ w.cell? ⟨g, 4, none⟩ = some e ∧ w.cell? ⟨g, 5, none⟩ = some f ∧ w.cell? ⟨g, 6, none⟩ = some i ∧ w.cell? ⟨g, 7, none⟩ = some j ∧ w.cell? ⟨g, 8, none⟩ = some k ∧ w.cell? ⟨g, 9, none⟩ = some m := H.c10 h
theorem ten10 {p0 p1 p2 p3 p4 p5 p6 p7 p8 p9 u : Prop} (h : p0 ∧ p1 ∧ p2 ∧ p3 ∧ p4 ∧ p5 ∧ p6 ∧ p7 ∧ p8 ∧ p9) (k : u) : p0 ∧ p1 ∧ p2 ∧ p3 ∧ p4 ∧ p5 ∧ p6 ∧ p7 ∧ p8 ∧ p9 ∧ u :=
  ⟨h.1, h.2.1, h.2.2.1, h.2.2.2.1, h.2.2.2.2.1, h.2.2.2.2.2.1, h.2.2.2.2.2.2.1, h.2.2.2.2.2.2.2.1, h.2.2.2.2.2.2.2.2.1, h.2.2.2.2.2.2.2.2.2, k⟩
end Go.Proofs.YtopbalemfljphaaDoor
