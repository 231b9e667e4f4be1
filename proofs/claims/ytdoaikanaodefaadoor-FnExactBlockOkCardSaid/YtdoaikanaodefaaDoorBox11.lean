/- Boxes of eleven cells (a block: a header's ten and a slice of slices). No program is named here. -/
import Derived.Test.YtdoaikanaodefaaDoorMid
namespace Go.Proofs.YtdoaikanaodefaaDoor
open Go.RowKit Go.ChangeShapes Go.WideShapes Go.ChangeAt

section
variable {W w w' : World} {ss : List (List Row)} {T : TypeId} {g : Nat}
theorem InvF.c11 {a b c d e f i j k m n : Value} (H : InvF W w ss) (h : segX T g [a, b, c, d, e, f, i, j, k, m, n] ∈ ss) :
    w.cell? ⟨g, 0, none⟩ = some a ∧ w.cell? ⟨g, 1, none⟩ = some b ∧ w.cell? ⟨g, 2, none⟩ = some c ∧ w.cell? ⟨g, 3, none⟩ = some d ∧ w.cell? ⟨g, 4, none⟩ = some e ∧ w.cell? ⟨g, 5, none⟩ = some f ∧ w.cell? ⟨g, 6, none⟩ = some i ∧ w.cell? ⟨g, 7, none⟩ = some j ∧ w.cell? ⟨g, 8, none⟩ = some k ∧ w.cell? ⟨g, 9, none⟩ = some m ∧ w.cell? ⟨g, 10, none⟩ = some n :=
  ⟨H.atX h 0 rfl, H.atX h 1 rfl, H.atX h 2 rfl, H.atX h 3 rfl, H.atX h 4 rfl, H.atX h 5 rfl, H.atX h 6 rfl, H.atX h 7 rfl, H.atX h 8 rfl, H.atX h 9 rfl, H.atX h 10 rfl⟩
theorem InvF.f11 {a b c d e f i j k m n : Value} (H : InvF W w ss) (h : segX T g [a, b, c, d, e, f, i, j, k, m, n] ∈ ss) :
    w.frozen? ⟨g, 0, none⟩ = false ∧ w.frozen? ⟨g, 1, none⟩ = false ∧ w.frozen? ⟨g, 2, none⟩ = false ∧ w.frozen? ⟨g, 3, none⟩ = false ∧ w.frozen? ⟨g, 4, none⟩ = false ∧ w.frozen? ⟨g, 5, none⟩ = false ∧ w.frozen? ⟨g, 6, none⟩ = false ∧ w.frozen? ⟨g, 7, none⟩ = false ∧ w.frozen? ⟨g, 8, none⟩ = false ∧ w.frozen? ⟨g, 9, none⟩ = false ∧ w.frozen? ⟨g, 10, none⟩ = false :=
  ⟨H.frX h 0, H.frX h 1, H.frX h 2, H.frX h 3, H.frX h 4, H.frX h 5, H.frX h 6, H.frX h 7, H.frX h 8, H.frX h 9, H.frX h 10⟩
/-- Eleven cells are written over. -/
theorem InvF.sets11 {a b c d e f i j k m n : Value} (H : InvF W w (segX T g [a, b, c, d, e, f, i, j, k, m, n] :: ss)) (a' b' c' d' e' f' i' j' k' m' n' : Value) :
    InvF W (w.setCells g 0 [a', b', c', d', e', f', i', j', k', m', n']) (segX T g [a', b', c', d', e', f', i', j', k', m', n'] :: ss) :=
  ((((((((((H.setX 0 a').setX 1 b').setX 2 c').setX 3 d').setX 4 e').setX 5 f').setX 6 i').setX 7 j').setX 8 k').setX 9 m').setX 10 n'
/-- The same, cell by cell. -/
theorem InvF.over11 {a b c d e f i j k m n : Value} (H : InvF W w (segX T g [a, b, c, d, e, f, i, j, k, m, n] :: ss)) (a' b' c' d' e' f' i' j' k' m' n' : Value) :
    InvF W (((((((((((w.setCell ⟨g, 0, none⟩ a').setCell ⟨g, 1, none⟩ b').setCell ⟨g, 2, none⟩ c').setCell ⟨g, 3, none⟩ d').setCell ⟨g, 4, none⟩ e').setCell ⟨g, 5, none⟩ f').setCell ⟨g, 6, none⟩ i').setCell ⟨g, 7, none⟩ j').setCell ⟨g, 8, none⟩ k').setCell ⟨g, 9, none⟩ m').setCell ⟨g, 10, none⟩ n') (segX T g [a', b', c', d', e', f', i', j', k', m', n'] :: ss) :=
  ((((((((((H.setX 0 a').setX 1 b').setX 2 c').setX 3 d').setX 4 e').setX 5 f').setX 6 i').setX 7 j').setX 8 k').setX 9 m').setX 10 n'
/-- The first ten of eleven are written over (a header stored into a block). -/
theorem InvF.sets11h {a b c d e f i j k m n : Value} (H : InvF W w (segX T g [a, b, c, d, e, f, i, j, k, m, n] :: ss)) (a' b' c' d' e' f' i' j' k' m' : Value) :
    InvF W (w.setCells g 0 [a', b', c', d', e', f', i', j', k', m']) (segX T g [a', b', c', d', e', f', i', j', k', m', n] :: ss) :=
  (((((((((H.setX 0 a').setX 1 b').setX 2 c').setX 3 d').setX 4 e').setX 5 f').setX 6 i').setX 7 j').setX 8 k').setX 9 m'
/-- The first ten of eleven. -/
theorem InvF.range10 {a b c d e f i j k m n : Value} (H : InvF W w ss) (h : segX T g [a, b, c, d, e, f, i, j, k, m, n] ∈ ss) : w.rangeAt g 0 [a, b, c, d, e, f, i, j, k, m] := H.rangeP h 0 10
end
theorem ten11 {p0 p1 p2 p3 p4 p5 p6 p7 p8 p9 p10 u : Prop} (h : p0 ∧ p1 ∧ p2 ∧ p3 ∧ p4 ∧ p5 ∧ p6 ∧ p7 ∧ p8 ∧ p9 ∧ p10) (k : u) : p0 ∧ p1 ∧ p2 ∧ p3 ∧ p4 ∧ p5 ∧ p6 ∧ p7 ∧ p8 ∧ p9 ∧ p10 ∧ u :=
  ⟨h.1, h.2.1, h.2.2.1, h.2.2.2.1, h.2.2.2.2.1, h.2.2.2.2.2.1, h.2.2.2.2.2.2.1, h.2.2.2.2.2.2.2.1, h.2.2.2.2.2.2.2.2.1, h.2.2.2.2.2.2.2.2.2.1, h.2.2.2.2.2.2.2.2.2.2, k⟩
end Go.Proofs.YtdoaikanaodefaaDoor
