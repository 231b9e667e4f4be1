/- What an argument reads as: a block (a header and a slice of slices of bytes). No program is named here. -/
import Derived.Test.YtopbalemfljphaaHeadArg
namespace Go.Proofs.Ytopbalemfljphaa
open Go.RowKit Go.ChangeShapes Go.WideShapes Go.Joins Go.Deep

/-- The ten cells of a header that is read. -/
theorem head_of_cells {H : Type} {enc : TypeId × Value → H} {P : Program} {W : World} {t ti tb te ts tq : TypeId} {f0 f1 f2 f3 f4 f5 g0 g1 g2 g3 g4 : Field} {n : Nat} {cs : List Value} {y : DataW H × List MemPlace} (hs : P.underlying t = some (.struct #[f0, f1, f2, f3, f4, f5]))
    (ho : (f0.offset, f1.offset, f2.offset, f3.offset, f4.offset, f5.offset) = (0, 1, 2, 3, 4, 5)) (ht : (f0.type, f1.type, f2.type, f3.type, f4.type, f5.type) = (ti, ti, ti, tb, tb, tq))
    (hq : P.underlying tq = some (.struct #[g0, g1, g2, g3, g4])) (hqo : (g0.offset, g1.offset, g2.offset, g3.offset, g4.offset) = (0, 1, 2, 3, 4)) (hqt : (g0.type, g1.type, g2.type, g3.type, g4.type) = (ti, ti, tb, tb, ts))
    (hi : P.underlying ti = some (.int .i64)) (ci : P.cellsOf ti = 1)
    (hb : P.underlying tb = some (.slice te)) (he : P.underlying te = some (.int .u8)) (cb : P.cellsOf tb = 1) (ce : P.cellsOf te = 1) (hS : P.underlying ts = some (.slice tb)) (cs' : P.cellsOf ts = 1)
    (h : DataW.trod enc P W 0 (fun _ => true) true n t cs = some y) :
    ∃ (x y z qx qy : Int) (a b qa qb qs : Value) (l k ql qk : List UInt8) (L : List (List UInt8)),
      (cs[0]? = some (.int .i64 x) ∧ cs[1]? = some (.int .i64 y) ∧ cs[2]? = some (.int .i64 z) ∧ cs[3]? = some a ∧ cs[4]? = some b ∧ cs[5]? = some (.int .i64 qx) ∧ cs[6]? = some (.int .i64 qy) ∧ cs[7]? = some qa ∧ cs[8]? = some qb ∧ cs[9]? = some qs) ∧
      Sl W W.heap.size a l ∧ Sl W W.heap.size b k ∧ Sl W W.heap.size qa ql ∧ Sl W W.heap.size qb qk ∧ SlS W W.heap.size qs L := by
  obtain ⟨m, hf⟩ := fields_of_cells hs h
  simp only [Prod.mk.injEq] at ho ht
  obtain ⟨o0, o1, o2, o3, o4, o5⟩ := ho
  obtain ⟨t0, t1, t2, t3, t4, t5⟩ := ht
  obtain ⟨y0, k0⟩ := hf 0 f0 rfl
  obtain ⟨y1, k1⟩ := hf 1 f1 rfl
  obtain ⟨y2, k2⟩ := hf 2 f2 rfl
  obtain ⟨y3, k3⟩ := hf 3 f3 rfl
  obtain ⟨y4, k4⟩ := hf 4 f4 rfl
  obtain ⟨y5, k5⟩ := hf 5 f5 rfl
  obtain ⟨z0, j0, _⟩ := int_field (by rw [t0]; exact hi) (by rw [t0]; exact ci) k0
  obtain ⟨z1, j1, _⟩ := int_field (by rw [t1]; exact hi) (by rw [t1]; exact ci) k1
  obtain ⟨z2, j2, _⟩ := int_field (by rw [t2]; exact hi) (by rw [t2]; exact ci) k2
  obtain ⟨a, l, j3, s3⟩ := bytes_field (by rw [t3]; exact hb) he (by rw [t3]; exact cb) ce k3
  obtain ⟨b, k, j4, s4⟩ := bytes_field (by rw [t4]; exact hb) he (by rw [t4]; exact cb) ce k4
  rw [t5, o5] at k5
  obtain ⟨qx, qy, qa, qb, qs, ql, qk, L, i0, i1, i2, i3, i4, s5, s6, s7⟩ := qc_of_cells hq hqo hqt hi ci hb he cb ce hS cs' k5
  rw [o0] at j0; rw [o1] at j1; rw [o2] at j2; rw [o3] at j3; rw [o4] at j4
  exact ⟨z0, z1, z2, qx, qy, a, b, qa, qb, qs, l, k, ql, qk, L, ⟨j0, j1, j2, j3, j4, cell_of_part i0, cell_of_part i1, cell_of_part i2, cell_of_part i3, cell_of_part i4⟩, s3, s4, s5, s6, s7⟩
/-- A list of eleven by its places. -/
theorem list11 {cs : List Value} {a b c d e f g h i j k : Value} (hl : cs.length = 11) (h0 : cs[0]? = some a) (h1 : cs[1]? = some b) (h2 : cs[2]? = some c) (h3 : cs[3]? = some d) (h4 : cs[4]? = some e) (h5 : cs[5]? = some f) (h6 : cs[6]? = some g) (h7 : cs[7]? = some h) (h8 : cs[8]? = some i) (h9 : cs[9]? = some j) (h10 : cs[10]? = some k) : cs = [a, b, c, d, e, f, g, h, i, j, k] := by
  match cs, hl with
  | [x0, x1, x2, x3, x4, x5, x6, x7, x8, x9, x10], _ => simp at h0 h1 h2 h3 h4 h5 h6 h7 h8 h9 h10; subst h0 h1 h2 h3 h4 h5 h6 h7 h8 h9 h10; rfl
theorem cell_first {cs : List Value} {n j : Nat} {v : Value} (h : ((cs.drop 0).take n)[j]? = some v) : cs[j]? = some v := by
  have := cell_of_part h
  rwa [Nat.zero_add] at this

theorem block_of_arg {H : Type} {enc : TypeId × Value → H} {P : Program} {W : World} {r : Reach} {b0 : Nat} {t th ti tb te ts tq : TypeId} {e0 e1 f0 f1 f2 f3 f4 f5 g0 g1 g2 g3 g4 : Field} {v : Value} {d : DataW H} {p : List MemPlace} (hB : P.underlying t = some (.struct #[e0, e1]))
    (hBo : (e0.offset, e1.offset) = (0, 10)) (hBt : (e0.type, e1.type) = (th, ts)) (hC : P.cellsOf t = 11)
    (hs : P.underlying th = some (.struct #[f0, f1, f2, f3, f4, f5]))
    (ho : (f0.offset, f1.offset, f2.offset, f3.offset, f4.offset, f5.offset) = (0, 1, 2, 3, 4, 5)) (ht : (f0.type, f1.type, f2.type, f3.type, f4.type, f5.type) = (ti, ti, ti, tb, tb, tq))
    (hq : P.underlying tq = some (.struct #[g0, g1, g2, g3, g4])) (hqo : (g0.offset, g1.offset, g2.offset, g3.offset, g4.offset) = (0, 1, 2, 3, 4)) (hqt : (g0.type, g1.type, g2.type, g3.type, g4.type) = (ti, ti, tb, tb, ts))
    (hi : P.underlying ti = some (.int .i64)) (ci : P.cellsOf ti = 1)
    (hb : P.underlying tb = some (.slice te)) (he : P.underlying te = some (.int .u8)) (cb : P.cellsOf tb = 1) (ce : P.cellsOf te = 1) (hS : P.underlying ts = some (.slice tb)) (cs' : P.cellsOf ts = 1)
    (hv : Value.okWide P W r b0 t v) (h : DataW.Trod enc P W 0 (fun _ => true) true t v d p) :
    ∃ (x y z qx qy : Int) (a b qa qb qs tx : Value) (l k ql qk : List UInt8) (L T : List (List UInt8)), v = .agg #[.int .i64 x, .int .i64 y, .int .i64 z, a, b, .int .i64 qx, .int .i64 qy, qa, qb, qs, tx] ∧ Sl W W.heap.size a l ∧ Sl W W.heap.size b k ∧ Sl W W.heap.size qa ql ∧ Sl W W.heap.size qb qk ∧ SlS W W.heap.size qs L ∧ SlS W W.heap.size tx T := by
  obtain ⟨cs, n, rfl, hl, hf⟩ := fields_of_arg hB hv h
  simp only [Prod.mk.injEq] at hBo hBt
  obtain ⟨o0, o1⟩ := hBo
  obtain ⟨t0, t1⟩ := hBt
  obtain ⟨y0, k0⟩ := hf 0 e0 rfl
  obtain ⟨y1, k1⟩ := hf 1 e1 rfl
  rw [t0, o0] at k0
  obtain ⟨x, y, z, qx, qy, a, b, qa, qb, qs, l, k, ql, qk, L, ⟨j0, j1, j2, j3, j4, j5, j6, j7, j8, j9⟩, s0, s1, s2, s3, s4⟩ := head_of_cells hs ho ht hq hqo hqt hi ci hb he cb ce hS cs' k0
  obtain ⟨tx, T, j10, s10⟩ := rows_field (by rw [t1]; exact hS) hb he (by rw [t1]; exact cs') cb ce k1
  rw [o1] at j10
  refine ⟨x, y, z, qx, qy, a, b, qa, qb, qs, tx, l, k, ql, qk, L, T, ?_, s0, s1, s2, s3, s4, s10⟩
  rw [list11 (hl.trans hC) (cell_first j0) (cell_first j1) (cell_first j2) (cell_first j3) (cell_first j4) (cell_first j5) (cell_first j6) (cell_first j7) (cell_first j8) (cell_first j9) j10]
end Go.Proofs.Ytopbalemfljphaa
