/- What an argument reads as: a struct of three ints, bytes, slices of bytes (a proof of inclusion). No program is named here. -/
import Derived.Test.YtopbalemfljphaaQcArg
namespace Go.Proofs.Ytopbalemfljphaa
open Go.RowKit Go.ChangeShapes Go.WideShapes Go.Joins Go.Deep

theorem incl_of_arg {H : Type} {enc : TypeId × Value → H} {P : Program} {W : World} {r : Reach} {b0 : Nat} {t ti tb te ts : TypeId} {f0 f1 f2 f3 f4 : Field} {v : Value} {d : DataW H} {p : List MemPlace} (hs : P.underlying t = some (.struct #[f0, f1, f2, f3, f4]))
    (ho : (f0.offset, f1.offset, f2.offset, f3.offset, f4.offset) = (0, 1, 2, 3, 4)) (ht : (f0.type, f1.type, f2.type, f3.type, f4.type) = (ti, ti, ti, tb, ts)) (hC : P.cellsOf t = 5) (hi : P.underlying ti = some (.int .i64)) (ci : P.cellsOf ti = 1)
    (hb : P.underlying tb = some (.slice te)) (he : P.underlying te = some (.int .u8)) (cb : P.cellsOf tb = 1) (ce : P.cellsOf te = 1) (hS : P.underlying ts = some (.slice tb)) (cs' : P.cellsOf ts = 1)
    (hv : Value.okWide P W r b0 t v) (h : DataW.Trod enc P W 0 (fun _ => true) true t v d p) :
    ∃ (x y z : Int) (a s : Value) (l : List UInt8) (L : List (List UInt8)), v = .agg #[.int .i64 x, .int .i64 y, .int .i64 z, a, s] ∧ Sl W W.heap.size a l ∧ SlS W W.heap.size s L := by
  obtain ⟨cs, n, rfl, hl, hf⟩ := fields_of_arg hs hv h
  simp only [Prod.mk.injEq] at ho ht
  obtain ⟨o0, o1, o2, o3, o4⟩ := ho
  obtain ⟨t0, t1, t2, t3, t4⟩ := ht
  obtain ⟨y0, k0⟩ := hf 0 f0 rfl
  obtain ⟨y1, k1⟩ := hf 1 f1 rfl
  obtain ⟨y2, k2⟩ := hf 2 f2 rfl
  obtain ⟨y3, k3⟩ := hf 3 f3 rfl
  obtain ⟨y4, k4⟩ := hf 4 f4 rfl
  obtain ⟨z0, g0, _⟩ := int_field (by rw [t0]; exact hi) (by rw [t0]; exact ci) k0
  obtain ⟨z1, g1, _⟩ := int_field (by rw [t1]; exact hi) (by rw [t1]; exact ci) k1
  obtain ⟨z2, g2, _⟩ := int_field (by rw [t2]; exact hi) (by rw [t2]; exact ci) k2
  obtain ⟨b, k, g3, s3⟩ := bytes_field (by rw [t3]; exact hb) he (by rw [t3]; exact cb) ce k3
  obtain ⟨s, L, g4, s4⟩ := rows_field (by rw [t4]; exact hS) hb he (by rw [t4]; exact cs') cb ce k4
  rw [o0] at g0; rw [o1] at g1; rw [o2] at g2; rw [o3] at g3; rw [o4] at g4
  refine ⟨z0, z1, z2, b, s, k, L, ?_, s3, s4⟩
  rw [list5 (hl.trans hC) g0 g1 g2 g3 g4]
end Go.Proofs.Ytopbalemfljphaa
