/- What an argument reads as: a struct within a struct (a header: three ints, two slices of bytes, a certificate). No program is named here. -/
import Derived.Test.YtopbalemfljphaaQcArg
namespace Go.Proofs.Ytopbalemfljphaa
open Go.RowKit Go.ChangeShapes Go.WideShapes Go.Joins Go.Deep

/-- The fields of a struct whose cells are read, wherever they lie. -/
theorem fields_of_cells {H : Type} {enc : TypeId × Value → H} {P : Program} {W : World} {t : TypeId} {fs : Array Field} {n : Nat} {cs : List Value} {y : DataW H × List MemPlace} (hs : P.underlying t = some (.struct fs)) (h : DataW.trod enc P W 0 (fun _ => true) true n t cs = some y) :
    ∃ m, ∀ (j : Nat) (f : Field), fs[j]? = some f → ∃ y, DataW.trod enc P W 0 (fun _ => true) true m f.type ((cs.drop f.offset).take (P.cellsOf f.type)) = some y := by
  obtain ⟨xs, m, _, _, _, hxl, hfd⟩ := DataW.trod_struct hs h
  refine ⟨m, fun j f hj => ?_⟩
  have hjl : j < xs.length := by rw [hxl]; exact (Array.getElem?_eq_some_iff.1 hj).1
  exact ⟨xs[j], by rw [← List.getElem?_eq_getElem hjl]; exact hfd j f hj⟩

/-- The five cells of a certificate that is read. -/
theorem qc_of_cells {H : Type} {enc : TypeId × Value → H} {P : Program} {W : World} {t ti tb te ts : TypeId} {f0 f1 f2 f3 f4 : Field} {n : Nat} {cs : List Value} {y : DataW H × List MemPlace} (hs : P.underlying t = some (.struct #[f0, f1, f2, f3, f4]))
    (ho : (f0.offset, f1.offset, f2.offset, f3.offset, f4.offset) = (0, 1, 2, 3, 4)) (ht : (f0.type, f1.type, f2.type, f3.type, f4.type) = (ti, ti, tb, tb, ts)) (hi : P.underlying ti = some (.int .i64)) (ci : P.cellsOf ti = 1)
    (hb : P.underlying tb = some (.slice te)) (he : P.underlying te = some (.int .u8)) (cb : P.cellsOf tb = 1) (ce : P.cellsOf te = 1) (hS : P.underlying ts = some (.slice tb)) (cs' : P.cellsOf ts = 1)
    (h : DataW.trod enc P W 0 (fun _ => true) true n t cs = some y) :
    ∃ (x y : Int) (a b s : Value) (l k : List UInt8) (L : List (List UInt8)), cs[0]? = some (.int .i64 x) ∧ cs[1]? = some (.int .i64 y) ∧ cs[2]? = some a ∧ cs[3]? = some b ∧ cs[4]? = some s ∧ Sl W W.heap.size a l ∧ Sl W W.heap.size b k ∧ SlS W W.heap.size s L := by
  obtain ⟨m, hf⟩ := fields_of_cells hs h
  simp only [Prod.mk.injEq] at ho ht
  obtain ⟨o0, o1, o2, o3, o4⟩ := ho
  obtain ⟨t0, t1, t2, t3, t4⟩ := ht
  obtain ⟨y0, k0⟩ := hf 0 f0 rfl
  obtain ⟨y1, k1⟩ := hf 1 f1 rfl
  obtain ⟨y2, k2⟩ := hf 2 f2 rfl
  obtain ⟨y3, k3⟩ := hf 3 f3 rfl
  obtain ⟨y4, k4⟩ := hf 4 f4 rfl
  obtain ⟨z0, g0, _⟩ := int_field (by rw [t0]; exact hi) (by rw [t0]; exact ci) k0
  obtain ⟨z1, g1, _⟩ := int_field (by rw [t1]; exact hi) (by rw [t1]; exact ci) k1
  obtain ⟨a, l, g2, s2⟩ := bytes_field (by rw [t2]; exact hb) he (by rw [t2]; exact cb) ce k2
  obtain ⟨b, k, g3, s3⟩ := bytes_field (by rw [t3]; exact hb) he (by rw [t3]; exact cb) ce k3
  obtain ⟨s, L, g4, s4⟩ := rows_field (by rw [t4]; exact hS) hb he (by rw [t4]; exact cs') cb ce k4
  rw [o0] at g0; rw [o1] at g1; rw [o2] at g2; rw [o3] at g3; rw [o4] at g4
  exact ⟨z0, z1, a, b, s, l, k, L, g0, g1, g2, g3, g4, s2, s3, s4⟩

theorem cell_of_part {cs : List Value} {o n j : Nat} {v : Value} (h : ((cs.drop o).take n)[j]? = some v) : cs[o + j]? = some v := by
  have hj : j < n := by
    have := (List.getElem?_eq_some_iff.1 h).1
    rw [List.length_take] at this
    omega
  rw [List.getElem?_take_of_lt hj, List.getElem?_drop] at h
  exact h
/-- A list of ten by its places. -/
theorem list10 {cs : List Value} {a b c d e f g h i j : Value} (hl : cs.length = 10) (h0 : cs[0]? = some a) (h1 : cs[1]? = some b) (h2 : cs[2]? = some c) (h3 : cs[3]? = some d) (h4 : cs[4]? = some e) (h5 : cs[5]? = some f) (h6 : cs[6]? = some g) (h7 : cs[7]? = some h) (h8 : cs[8]? = some i) (h9 : cs[9]? = some j) : cs = [a, b, c, d, e, f, g, h, i, j] := by
  match cs, hl with
  | [x0, x1, x2, x3, x4, x5, x6, x7, x8, x9], _ => simp at h0 h1 h2 h3 h4 h5 h6 h7 h8 h9; subst h0 h1 h2 h3 h4 h5 h6 h7 h8 h9; rfl

theorem head_of_arg {H : Type} {enc : TypeId × Value → H} {P : Program} {W : World} {r : Reach} {b0 : Nat} {t ti tb te ts tq : TypeId} {f0 f1 f2 f3 f4 f5 g0 g1 g2 g3 g4 : Field} {v : Value} {d : DataW H} {p : List MemPlace} (hs : P.underlying t = some (.struct #[f0, f1, f2, f3, f4, f5]))
    (ho : (f0.offset, f1.offset, f2.offset, f3.offset, f4.offset, f5.offset) = (0, 1, 2, 3, 4, 5)) (ht : (f0.type, f1.type, f2.type, f3.type, f4.type, f5.type) = (ti, ti, ti, tb, tb, tq)) (hC : P.cellsOf t = 10)
    (hq : P.underlying tq = some (.struct #[g0, g1, g2, g3, g4])) (hqo : (g0.offset, g1.offset, g2.offset, g3.offset, g4.offset) = (0, 1, 2, 3, 4)) (hqt : (g0.type, g1.type, g2.type, g3.type, g4.type) = (ti, ti, tb, tb, ts))
    (hi : P.underlying ti = some (.int .i64)) (ci : P.cellsOf ti = 1)
    (hb : P.underlying tb = some (.slice te)) (he : P.underlying te = some (.int .u8)) (cb : P.cellsOf tb = 1) (ce : P.cellsOf te = 1) (hS : P.underlying ts = some (.slice tb)) (cs' : P.cellsOf ts = 1)
    (hv : Value.okWide P W r b0 t v) (h : DataW.Trod enc P W 0 (fun _ => true) true t v d p) :
    ∃ (x y z qx qy : Int) (a b qa qb qs : Value) (l k ql qk : List UInt8) (L : List (List UInt8)), v = .agg #[.int .i64 x, .int .i64 y, .int .i64 z, a, b, .int .i64 qx, .int .i64 qy, qa, qb, qs] ∧ Sl W W.heap.size a l ∧ Sl W W.heap.size b k ∧ Sl W W.heap.size qa ql ∧ Sl W W.heap.size qb qk ∧ SlS W W.heap.size qs L := by
  obtain ⟨cs, n, rfl, hl, hf⟩ := fields_of_arg hs hv h
  simp only [Prod.mk.injEq] at ho ht
  obtain ⟨o0, o1, o2, o3, o4, o5⟩ := ho
  obtain ⟨t0, t1, t2, t3, t4, t5⟩ := ht
  obtain ⟨y0, k0⟩ := hf 0 f0 rfl
  obtain ⟨y1, k1⟩ := hf 1 f1 rfl
  obtain ⟨y2, k2⟩ := hf 2 f2 rfl
  obtain ⟨y3, k3⟩ := hf 3 f3 rfl
  obtain ⟨y4, k4⟩ := hf 4 f4 rfl
  obtain ⟨y5, k5⟩ := hf 5 f5 rfl
  obtain ⟨z0, j0, _⟩ := int_field (by rw [t0]; exact hi) (by rw [t0]; exact ci) k0
  obtain ⟨z1, j1, _⟩ := int_field (by rw [t1]; exact hi) (by rw [t1]; exact ci) k1
  obtain ⟨z2, j2, _⟩ := int_field (by rw [t2]; exact hi) (by rw [t2]; exact ci) k2
  obtain ⟨a, l, j3, s3⟩ := bytes_field (by rw [t3]; exact hb) he (by rw [t3]; exact cb) ce k3
  obtain ⟨b, k, j4, s4⟩ := bytes_field (by rw [t4]; exact hb) he (by rw [t4]; exact cb) ce k4
  rw [t5, o5] at k5
  obtain ⟨qx, qy, qa, qb, qs, ql, qk, L, i0, i1, i2, i3, i4, s5, s6, s7⟩ := qc_of_cells hq hqo hqt hi ci hb he cb ce hS cs' k5
  rw [o0] at j0; rw [o1] at j1; rw [o2] at j2; rw [o3] at j3; rw [o4] at j4
  refine ⟨z0, z1, z2, qx, qy, a, b, qa, qb, qs, l, k, ql, qk, L, ?_, s3, s4, s5, s6, s7⟩
  rw [list10 (hl.trans hC) j0 j1 j2 j3 j4 (cell_of_part i0) (cell_of_part i1) (cell_of_part i2) (cell_of_part i3) (cell_of_part i4)]
end Go.Proofs.Ytopbalemfljphaa
