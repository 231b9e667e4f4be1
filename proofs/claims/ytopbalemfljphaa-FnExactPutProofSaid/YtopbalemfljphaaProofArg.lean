/- What an argument reads as: a slice of headers, a commit proof. -/
import Derived.Test.YtopbalemfljphaaBlockArg
import Derived.Test.YtopbalemfljphaaHdS
namespace Go.Proofs.Ytopbalemfljphaa
open Go.RowKit Go.ChangeShapes Go.WideShapes Go.Joins Go.Deep

instance : Inhabited Ht := ⟨⟨0, 0, 0, [], [], 0, 0, [], [], []⟩⟩
theorem heads_of_arg {H : Type} {enc : TypeId × Value → H} {P : Program} {W : World} {t th ti tb te ts tq : TypeId} {f0 f1 f2 f3 f4 f5 g0 g1 g2 g3 g4 : Field} {a : Option Addr} {len cap : Nat} {d : DataW H} {p : List MemPlace} (ht : P.underlying t = some (.slice th)) (hs : P.underlying th = some (.struct #[f0, f1, f2, f3, f4, f5]))
    (ho : (f0.offset, f1.offset, f2.offset, f3.offset, f4.offset, f5.offset) = (0, 1, 2, 3, 4, 5)) (hT : (f0.type, f1.type, f2.type, f3.type, f4.type, f5.type) = (ti, ti, ti, tb, tb, tq)) (hC : P.cellsOf th = 10)
    (hq : P.underlying tq = some (.struct #[g0, g1, g2, g3, g4])) (hqo : (g0.offset, g1.offset, g2.offset, g3.offset, g4.offset) = (0, 1, 2, 3, 4)) (hqt : (g0.type, g1.type, g2.type, g3.type, g4.type) = (ti, ti, tb, tb, ts))
    (hi : P.underlying ti = some (.int .i64)) (ci : P.cellsOf ti = 1)
    (hb : P.underlying tb = some (.slice te)) (he : P.underlying te = some (.int .u8)) (cb : P.cellsOf tb = 1) (ce : P.cellsOf te = 1) (hS : P.underlying ts = some (.slice tb)) (cs' : P.cellsOf ts = 1)
    (h : DataW.Trod enc P W 0 (fun _ => true) true t (.slice a len cap) d p) : ∃ V, SlH W W.heap.size (.slice a len cap) V := by
  obtain ⟨fuel, hf⟩ := h
  rcases Deep.open_slice ht hf with ⟨hcs, _⟩ | ⟨x, len', cap', m, n, D, Pl, hcs, _, hl, hm, hmm, _, hx⟩
  · simp [Value.cells] at hcs
    obtain ⟨rfl, rfl, rfl⟩ := hcs
    exact ⟨[], SlH.nil_⟩
  · simp [Value.cells] at hcs
    obtain ⟨rfl, rfl, rfl⟩ := hcs
    simp only [if_true] at hmm
    subst hmm
    have each : ∀ i, i < m → ∃ v : Ht, ∃ (a b qa qb qs : Value) (cs : List Value), (∀ j, j < 10 → W.cell? ((x.add (i * 10)).add j) = cs[j]?) ∧ cs = [.int .i64 v.x, .int .i64 v.y, .int .i64 v.z, a, b, .int .i64 v.qx, .int .i64 v.qy, qa, qb, qs] ∧ Sl W W.heap.size a v.l ∧ Sl W W.heap.size b v.k ∧ Sl W W.heap.size qa v.ql ∧ Sl W W.heap.size qb v.qk ∧ SlS W W.heap.size qs v.L := fun i hi' => by
      obtain ⟨cs, h1, h2⟩ := hx i hi'
      rw [hC] at h1
      obtain ⟨_, hlen, hc⟩ := World.cells?_some h1
      obtain ⟨v0, v1, v2, v5, v6, a, b, qa, qb, qs, l, k, ql, qk, L, ⟨c0, c1, c2, c3, c4, c5, c6, c7, c8, c9⟩, s⟩ := head_of_cells hs ho hT hq hqo hqt hi ci hb he cb ce hS cs' h2
      refine ⟨⟨v0, v1, v2, l, k, v5, v6, ql, qk, L⟩, a, b, qa, qb, qs, cs, fun j hj => ?_, list10 hlen c0 c1 c2 c3 c4 c5 c6 c7 c8 c9, s⟩
      have h0 := hc j hj
      by_cases hz : j = 0
      · subst hz
        rw [Addr.add] at h0
        simp only [if_true] at h0
        rw [Addr.add]
        simp only [if_true]
        exact h0
      · exact h0
    obtain ⟨f, hfn⟩ := Deep.choose_lt each
    have hlen : ((List.range len).map f).length = len := by simp
    refine ⟨(List.range len).map f, some x, m, by rw [hlen], by rw [hlen]; exact hl, hm, (fun e => by cases e), fun hp => ?_⟩
    rw [hlen] at hp
    obtain ⟨b, off, spot⟩ := x
    have hspot : spot = none := by
      obtain ⟨_, _, _, _, _, cs, hc, rfl, _⟩ := hfn 0 (by omega)
      simpa [Addr.add] using World.cell?_spot (hc 0 (by decide))
    subst hspot
    have add1 : ∀ o j : Nat, (⟨b, o, none⟩ : Addr).add j = ⟨b, o + j, none⟩ := fun o j => by
      unfold Addr.add
      split
      · rename_i h0; subst h0; rfl
      · rfl
    refine ⟨b, off, rfl, ?_, fun i t hti => ?_⟩
    · obtain ⟨_, _, _, _, _, cs, hc, rfl, _⟩ := hfn 0 (by omega)
      have c0 := hc 0 (by decide)
      rw [add1, add1] at c0
      exact lt_of_cell c0
    · have hi' : i < len := by
        have := (List.getElem?_eq_some_iff.1 hti).1
        rw [hlen] at this
        exact this
      have e : t = f i := by
        rw [List.getElem?_map, List.getElem?_range hi'] at hti
        simpa using hti.symm
      subst e
      obtain ⟨a, b', qa, qb, qs, cs, hc, rfl, s⟩ := hfn i (by omega)
      simp only [add1] at hc
      exact ⟨a, b', qa, qb, qs, ⟨hc 0 (by decide), hc 1 (by decide), hc 2 (by decide), hc 3 (by decide), hc 4 (by decide), hc 5 (by decide), hc 6 (by decide), hc 7 (by decide), hc 8 (by decide), hc 9 (by decide)⟩, s⟩
theorem heads_field {H : Type} {enc : TypeId × Value → H} {P : Program} {W : World} {t th ti tb te ts tq : TypeId} {f0 f1 f2 f3 f4 f5 g0 g1 g2 g3 g4 : Field} {n o : Nat} {cs : List Value} {y : DataW H × List MemPlace} (ht : P.underlying t = some (.slice th)) (hc : P.cellsOf t = 1) (hs : P.underlying th = some (.struct #[f0, f1, f2, f3, f4, f5]))
    (ho : (f0.offset, f1.offset, f2.offset, f3.offset, f4.offset, f5.offset) = (0, 1, 2, 3, 4, 5)) (hT : (f0.type, f1.type, f2.type, f3.type, f4.type, f5.type) = (ti, ti, ti, tb, tb, tq)) (hC : P.cellsOf th = 10)
    (hq : P.underlying tq = some (.struct #[g0, g1, g2, g3, g4])) (hqo : (g0.offset, g1.offset, g2.offset, g3.offset, g4.offset) = (0, 1, 2, 3, 4)) (hqt : (g0.type, g1.type, g2.type, g3.type, g4.type) = (ti, ti, tb, tb, ts))
    (hi : P.underlying ti = some (.int .i64)) (ci : P.cellsOf ti = 1)
    (hb : P.underlying tb = some (.slice te)) (he : P.underlying te = some (.int .u8)) (cb : P.cellsOf tb = 1) (ce : P.cellsOf te = 1) (hS : P.underlying ts = some (.slice tb)) (cs' : P.cellsOf ts = 1)
    (h : DataW.trod enc P W 0 (fun _ => true) true n t ((cs.drop o).take (P.cellsOf t)) = some y) : ∃ v V, cs[o]? = some v ∧ SlH W W.heap.size v V := by
  have hsl : ∃ a len cap, (cs.drop o).take (P.cellsOf t) = [.slice a len cap] := by
    rcases Deep.open_slice ht h with ⟨hcs, _⟩ | ⟨a, len, cap, _, _, _, _, hcs, _⟩
    · exact ⟨none, 0, 0, hcs⟩
    · exact ⟨some a, len, cap, hcs⟩
  obtain ⟨a, len, cap, hcs⟩ := hsl
  rw [hcs] at h
  obtain ⟨L, hL⟩ := heads_of_arg (W := W) (a := a) (len := len) (cap := cap) (d := y.1) (p := y.2) ht hs ho hT hC hq hqo hqt hi ci hb he cb ce hS cs' ⟨n, h⟩
  refine ⟨_, L, ?_, hL⟩
  rw [hc] at hcs
  have h3 : ((cs.drop o).take 1)[0]? = some (.slice a len cap) := by rw [hcs]; rfl
  rw [List.getElem?_take_of_lt (by omega), List.getElem?_drop] at h3
  exact h3
theorem list6 {cs : List Value} {a b c d e f : Value} (hl : cs.length = 6) (h0 : cs[0]? = some a) (h1 : cs[1]? = some b) (h2 : cs[2]? = some c) (h3 : cs[3]? = some d) (h4 : cs[4]? = some e) (h5 : cs[5]? = some f) : cs = [a, b, c, d, e, f] := by
  match cs, hl with
  | [x0, x1, x2, x3, x4, x5], _ => simp at h0 h1 h2 h3 h4 h5; subst h0 h1 h2 h3 h4 h5; rfl
theorem proof_of_arg {H : Type} {enc : TypeId × Value → H} {P : Program} {W : World} {r : Reach} {b0 : Nat} {tp t th ti tb te ts tq : TypeId} {e0 e1 f0 f1 f2 f3 f4 f5 g0 g1 g2 g3 g4 : Field} {v : Value} {d : DataW H} {p : List MemPlace} (hP : P.underlying tp = some (.struct #[e0, e1]))
    (hPo : (e0.offset, e1.offset) = (0, 1)) (hPt : (e0.type, e1.type) = (t, tq)) (hPC : P.cellsOf tp = 6) (ht : P.underlying t = some (.slice th)) (hc : P.cellsOf t = 1) (hs : P.underlying th = some (.struct #[f0, f1, f2, f3, f4, f5]))
    (ho : (f0.offset, f1.offset, f2.offset, f3.offset, f4.offset, f5.offset) = (0, 1, 2, 3, 4, 5)) (hT : (f0.type, f1.type, f2.type, f3.type, f4.type, f5.type) = (ti, ti, ti, tb, tb, tq)) (hC : P.cellsOf th = 10)
    (hq : P.underlying tq = some (.struct #[g0, g1, g2, g3, g4])) (hqo : (g0.offset, g1.offset, g2.offset, g3.offset, g4.offset) = (0, 1, 2, 3, 4)) (hqt : (g0.type, g1.type, g2.type, g3.type, g4.type) = (ti, ti, tb, tb, ts))
    (hi : P.underlying ti = some (.int .i64)) (ci : P.cellsOf ti = 1)
    (hb : P.underlying tb = some (.slice te)) (he : P.underlying te = some (.int .u8)) (cb : P.cellsOf tb = 1) (ce : P.cellsOf te = 1) (hS : P.underlying ts = some (.slice tb)) (cs' : P.cellsOf ts = 1)
    (hv : Value.okWide P W r b0 tp v) (h : DataW.Trod enc P W 0 (fun _ => true) true tp v d p) :
    ∃ (qx qy : Int) (s qa qb qs : Value) (M : List Ht) (ql qk : List UInt8) (L : List (List UInt8)), v = .agg #[s, .int .i64 qx, .int .i64 qy, qa, qb, qs] ∧ SlH W W.heap.size s M ∧ Sl W W.heap.size qa ql ∧ Sl W W.heap.size qb qk ∧ SlS W W.heap.size qs L := by
  obtain ⟨cs, n, rfl, hl, hf⟩ := fields_of_arg hP hv h
  simp only [Prod.mk.injEq] at hPo hPt
  obtain ⟨o0, o1⟩ := hPo
  obtain ⟨t0, t1⟩ := hPt
  obtain ⟨y0, k0⟩ := hf 0 e0 rfl
  obtain ⟨y1, k1⟩ := hf 1 e1 rfl
  rw [t0] at k0
  obtain ⟨s, M, j0, s0⟩ := heads_field ht hc hs ho hT hC hq hqo hqt hi ci hb he cb ce hS cs' k0
  rw [t1, o1] at k1
  obtain ⟨qx, qy, qa, qb, qs, ql, qk, L, i0, i1, i2, i3, i4, s5, s6, s7⟩ := qc_of_cells hq hqo hqt hi ci hb he cb ce hS cs' k1
  rw [o0] at j0
  refine ⟨qx, qy, s, qa, qb, qs, M, ql, qk, L, ?_, s0, s5, s6, s7⟩
  rw [list6 (hl.trans hPC) j0 (cell_of_part i0) (cell_of_part i1) (cell_of_part i2) (cell_of_part i3) (cell_of_part i4)]
end Go.Proofs.Ytopbalemfljphaa
