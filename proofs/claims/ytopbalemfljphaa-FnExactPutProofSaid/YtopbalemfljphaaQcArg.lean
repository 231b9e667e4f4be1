/- What an argument reads as: a field that is a slice of slices of bytes; a struct of two ints, bytes, bytes, slices of bytes (a certificate). No program is named here. -/
import Derived.Test.YtopbalemfljphaaVoteArg
namespace Go.Proofs.Ytopbalemfljphaa
open Go.RowKit Go.ChangeShapes Go.WideShapes Go.Joins Go.Deep

/-- A field of one cell that is a slice of slices of bytes. -/
theorem rows_field {H : Type} {enc : TypeId × Value → H} {P : Program} {W : World} {t e q : TypeId} {n o : Nat} {cs : List Value} {y : DataW H × List MemPlace} (ht : P.underlying t = some (.slice e)) (he : P.underlying e = some (.slice q)) (hq : P.underlying q = some (.int .u8)) (hc : P.cellsOf t = 1) (ce : P.cellsOf e = 1) (cq : P.cellsOf q = 1)
    (h : DataW.trod enc P W 0 (fun _ => true) true n t ((cs.drop o).take (P.cellsOf t)) = some y) : ∃ v L, cs[o]? = some v ∧ SlS W W.heap.size v L := by
  have hsl : ∃ a len cap, (cs.drop o).take (P.cellsOf t) = [.slice a len cap] := by
    rcases Deep.open_slice ht h with ⟨hcs, _⟩ | ⟨a, len, cap, _, _, _, _, hcs, _⟩
    · exact ⟨none, 0, 0, hcs⟩
    · exact ⟨some a, len, cap, hcs⟩
  obtain ⟨a, len, cap, hcs⟩ := hsl
  rw [hcs] at h
  obtain ⟨L, hL⟩ := slS_of_arg (W := W) (a := a) (len := len) (cap := cap) (d := y.1) (p := y.2) ht he hq ce cq ⟨n, h⟩
  refine ⟨_, L, ?_, hL⟩
  rw [hc] at hcs
  have h3 : ((cs.drop o).take 1)[0]? = some (.slice a len cap) := by rw [hcs]; rfl
  rw [List.getElem?_take_of_lt (by omega), List.getElem?_drop] at h3
  exact h3

theorem qc_of_arg {H : Type} {enc : TypeId × Value → H} {P : Program} {W : World} {r : Reach} {b0 : Nat} {t ti tb te ts : TypeId} {f0 f1 f2 f3 f4 : Field} {v : Value} {d : DataW H} {p : List MemPlace} (hs : P.underlying t = some (.struct #[f0, f1, f2, f3, f4]))
    (ho : (f0.offset, f1.offset, f2.offset, f3.offset, f4.offset) = (0, 1, 2, 3, 4)) (ht : (f0.type, f1.type, f2.type, f3.type, f4.type) = (ti, ti, tb, tb, ts)) (hC : P.cellsOf t = 5) (hi : P.underlying ti = some (.int .i64)) (ci : P.cellsOf ti = 1)
    (hb : P.underlying tb = some (.slice te)) (he : P.underlying te = some (.int .u8)) (cb : P.cellsOf tb = 1) (ce : P.cellsOf te = 1) (hS : P.underlying ts = some (.slice tb)) (cs' : P.cellsOf ts = 1)
    (hv : Value.okWide P W r b0 t v) (h : DataW.Trod enc P W 0 (fun _ => true) true t v d p) :
    ∃ (x y : Int) (a b s : Value) (l k : List UInt8) (L : List (List UInt8)), v = .agg #[.int .i64 x, .int .i64 y, a, b, s] ∧ Sl W W.heap.size a l ∧ Sl W W.heap.size b k ∧ SlS W W.heap.size s L := by
  obtain ⟨cs, n, rfl, hl, hf⟩ := fields_of_arg hs hv h
  simp only [Prod.mk.injEq] at ho ht
  obtain ⟨o0, o1, o2, o3, o4⟩ := ho
  obtain ⟨t0, t1, t2, t3, t4⟩ := ht
  obtain ⟨y0, k0⟩ := hf 0 f0 rfl
  obtain ⟨y1, k1⟩ := hf 1 f1 rfl
  obtain ⟨y2, k2⟩ := hf 2 f2 rfl
  obtain ⟨y3, k3⟩ := hf 3 f3 rfl
  obtain ⟨y4, k4⟩ := hf 4 f4 rfl
  obtain ⟨z0, g0, _⟩ := int_field (by rw [t0]; exact hi) (by rw [t0]; exact ci) k0
  obtain ⟨z1, g1, _⟩ := int_field (by rw [t1]; exact hi) (by rw [t1]; exact ci) k1
  obtain ⟨a, l, g2, s2⟩ := bytes_field (by rw [t2]; exact hb) he (by rw [t2]; exact cb) ce k2
  obtain ⟨b, k, g3, s3⟩ := bytes_field (by rw [t3]; exact hb) he (by rw [t3]; exact cb) ce k3
  obtain ⟨s, L, g4, s4⟩ := rows_field (by rw [t4]; exact hS) hb he (by rw [t4]; exact cs') cb ce k4
  rw [o0] at g0; rw [o1] at g1; rw [o2] at g2; rw [o3] at g3; rw [o4] at g4
  refine ⟨z0, z1, a, b, s, l, k, L, ?_, s2, s3, s4⟩
  rw [list5 (hl.trans hC) g0 g1 g2 g3 g4]
end Go.Proofs.Ytopbalemfljphaa
