/- What an argument reads as: slices of ints, and structs of a slice of ints and a slice of slices of bytes. -/
import Derived.Test.YtdoaikanaodefaaDoorArgs
import Derived.Test.YtdoaikanaodefaaDoorStackBase
import Derived.Lib.SmallJoins
namespace Go.Proofs.YtdoaikanaodefaaDoor
open Go.RowKit Go.ChangeShapes Go.WideShapes Go.Joins Go.Deep

theorem slI_of_arg {H : Type} {enc : TypeId × Value → H} {P : Program} {W : World} {t e : TypeId} {a : Option Addr} {len cap : Nat} {d : DataW H} {p : List MemPlace} (ht : P.underlying t = some (.slice e)) (he : P.underlying e = some (.int .i64))
    (ce : P.cellsOf e = 1) (h : DataW.Trod enc P W 0 (fun _ => true) true t (.slice a len cap) d p) : ∃ l, SlI W W.heap.size (.slice a len cap) l := by
  obtain ⟨fuel, hf⟩ := h
  rcases open_ints ht he ce hf with ⟨hcs, _⟩ | ⟨x, l, c, zs, hcs, _, hl, hm, hz, _, hcell, hwz⟩
  · simp [Value.cells] at hcs
    obtain ⟨rfl, rfl, rfl⟩ := hcs
    exact ⟨[], SlI.nil_⟩
  · simp [Value.cells] at hcs
    obtain ⟨rfl, rfl, rfl⟩ := hcs
    obtain ⟨l, _, hs⟩ := slI_of_row (w := W) (a := some x) (len := len) (cap := cap) (zs := zs) (.inr ⟨_, rfl, hl, hm, by simpa using hz, hcell, hwz⟩)
    exact ⟨l, hs⟩
theorem slK_of_arg {H : Type} {enc : TypeId × Value → H} {P : Program} {W : World} {r : Reach} {b0 : Nat} {t e e1 e2 : TypeId} {f0 f1 : Field} {v : Value} {d : DataW H} {p : List MemPlace} (hs : P.underlying t = some (.struct #[f0, f1])) (hone : oneCellFields P #[f0, f1] = true) (hC : P.cellsOf t = 2)
    (h0 : P.underlying f0.type = some (.slice e)) (he : P.underlying e = some (.int .i64)) (ce : P.cellsOf e = 1)
    (h1 : P.underlying f1.type = some (.slice e1)) (he1 : P.underlying e1 = some (.slice e2)) (he2 : P.underlying e2 = some (.int .u8)) (ce1 : P.cellsOf e1 = 1) (ce2 : P.cellsOf e2 = 1)
    (hv : Value.okWide P W r b0 t v) (h : DataW.Trod enc P W 0 (fun _ => true) true t v d p) : ∃ I L, SlK W W.heap.size v I L := by
  obtain ⟨v0, v1, y0, y1, n, rfl, _, _, t0, t1⟩ := open_agg2 hs hone hC hv h
  have k0 : ∃ I, SlI W W.heap.size v0 I := by
    rcases open_ints h0 he ce t0 with ⟨hcs, _⟩ | ⟨x, l, c, zs, hcs, _, hl, hm, hz, _, hcell, hwz⟩
    · obtain rfl : v0 = .slice none 0 0 := by simpa using hcs
      exact ⟨[], SlI.nil_⟩
    · obtain rfl : v0 = .slice (some x) l c := by simpa using hcs
      obtain ⟨l, _, hs⟩ := slI_of_row (w := W) (a := some x) (len := l) (cap := c) (zs := zs) (.inr ⟨_, rfl, hl, hm, by simpa using hz, hcell, hwz⟩)
      exact ⟨l, hs⟩
  have k1 : ∃ L, SlS W W.heap.size v1 L := by
    have hsl : ∃ a len cap, v1 = .slice a len cap := by
      rcases Deep.open_slice h1 t1 with ⟨hcs, _⟩ | ⟨a, len, cap, _, _, _, _, hcs, _⟩
      · exact ⟨none, 0, 0, by simpa using hcs⟩
      · exact ⟨some a, len, cap, by simpa using hcs⟩
    obtain ⟨a, len, cap, rfl⟩ := hsl
    exact slS_of_arg h1 he1 he2 ce1 ce2 (d := y1.1) (p := y1.2) ⟨n, t1⟩
  obtain ⟨I, hI⟩ := k0
  obtain ⟨L, hL⟩ := k1
  exact ⟨I, L, v0, v1, rfl, hI, hL⟩
end Go.Proofs.YtdoaikanaodefaaDoor
