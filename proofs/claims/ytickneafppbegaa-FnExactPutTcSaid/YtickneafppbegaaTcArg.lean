/- What an argument reads as: a slice of entries, a timeout certificate. No program is named here but for the type of entries. -/
import Derived.Test.YtickneafppbegaaFieldArgs
import Derived.Test.YtickneafppbegaaVoteArg
import Derived.Test.YtickneafppbegaaEntM
namespace Go.Proofs.Ytickneafppbegaa
open Go.RowKit Go.ChangeShapes Go.WideShapes Go.Joins Go.Deep

/-- The three cells of an entry that is read. -/
theorem ent_of_cells {H : Type} {enc : TypeId × Value → H} {P : Program} {W : World} {t ti tb te : TypeId} {f0 f1 f2 : Field} {n : Nat} {cs : List Value} {y : DataW H × List MemPlace} (hs : P.underlying t = some (.struct #[f0, f1, f2]))
    (ho : (f0.offset, f1.offset, f2.offset) = (0, 1, 2)) (ht : (f0.type, f1.type, f2.type) = (ti, ti, tb)) (hi : P.underlying ti = some (.int .i64)) (ci : P.cellsOf ti = 1)
    (hb : P.underlying tb = some (.slice te)) (he : P.underlying te = some (.int .u8)) (cb : P.cellsOf tb = 1) (ce : P.cellsOf te = 1)
    (h : DataW.trod enc P W 0 (fun _ => true) true n t cs = some y) :
    ∃ (v : Et) (a : Value), cs[0]? = some (.int .i64 v.x) ∧ cs[1]? = some (.int .i64 v.y) ∧ cs[2]? = some a ∧ Sl W W.heap.size a v.k := by
  obtain ⟨xs, m, _, _, _, hxl, hfd⟩ := DataW.trod_struct hs h
  have hf : ∀ (j : Nat) (f : Field), (#[f0, f1, f2] : Array Field)[j]? = some f → ∃ y, DataW.trod enc P W 0 (fun _ => true) true m f.type ((cs.drop f.offset).take (P.cellsOf f.type)) = some y := fun j f hj => by
    have hjl : j < xs.length := by rw [hxl]; exact (Array.getElem?_eq_some_iff.1 hj).1
    exact ⟨xs[j], by rw [← List.getElem?_eq_getElem hjl]; exact hfd j f hj⟩
  simp only [Prod.mk.injEq] at ho ht
  obtain ⟨o0, o1, o2⟩ := ho
  obtain ⟨t0, t1, t2⟩ := ht
  obtain ⟨y0, k0⟩ := hf 0 f0 rfl
  obtain ⟨y1, k1⟩ := hf 1 f1 rfl
  obtain ⟨y2, k2⟩ := hf 2 f2 rfl
  obtain ⟨z0, g0, _⟩ := int_field (by rw [t0]; exact hi) (by rw [t0]; exact ci) k0
  obtain ⟨z1, g1, _⟩ := int_field (by rw [t1]; exact hi) (by rw [t1]; exact ci) k1
  obtain ⟨a, l, g2, s2⟩ := bytes_field (by rw [t2]; exact hb) he (by rw [t2]; exact cb) ce k2
  rw [o0] at g0; rw [o1] at g1; rw [o2] at g2
  exact ⟨⟨z0, z1, l⟩, a, g0, g1, g2, s2⟩

theorem ents_of_arg {H : Type} {enc : TypeId × Value → H} {P : Program} {W : World} {t e ti tb te : TypeId} {f0 f1 f2 : Field} {a : Option Addr} {len cap : Nat} {d : DataW H} {p : List MemPlace} (ht : P.underlying t = some (.slice e)) (hs : P.underlying e = some (.struct #[f0, f1, f2]))
    (ho : (f0.offset, f1.offset, f2.offset) = (0, 1, 2)) (hT : (f0.type, f1.type, f2.type) = (ti, ti, tb)) (hC : P.cellsOf e = 3) (hi : P.underlying ti = some (.int .i64)) (ci : P.cellsOf ti = 1)
    (hb : P.underlying tb = some (.slice te)) (he : P.underlying te = some (.int .u8)) (cb : P.cellsOf tb = 1) (ce : P.cellsOf te = 1)
    (h : DataW.Trod enc P W 0 (fun _ => true) true t (.slice a len cap) d p) : ∃ V, SlE W W.heap.size (.slice a len cap) V := by
  obtain ⟨fuel, hf⟩ := h
  rcases Deep.open_slice ht hf with ⟨hcs, _⟩ | ⟨x, len', cap', m, n, D, Pl, hcs, _, hl, hm, hmm, _, hx⟩
  · simp [Value.cells] at hcs
    obtain ⟨rfl, rfl, rfl⟩ := hcs
    exact ⟨[], SlE.nil_⟩
  · simp [Value.cells] at hcs
    obtain ⟨rfl, rfl, rfl⟩ := hcs
    simp only [if_true] at hmm
    subst hmm
    have each : ∀ i, i < m → ∃ v : Et, ∃ u, W.cell? (x.add (i * 3)) = some (.int .i64 v.x) ∧ W.cell? ((x.add (i * 3)).add 1) = some (.int .i64 v.y) ∧ W.cell? ((x.add (i * 3)).add 2) = some u ∧ Sl W W.heap.size u v.k := fun i hi' => by
      obtain ⟨cs', h1, h2⟩ := hx i hi'
      rw [hC] at h1
      obtain ⟨_, _, hc⟩ := World.cells?_some h1
      obtain ⟨v, u, g0, g1, g2, s1⟩ := ent_of_cells hs ho hT hi ci hb he cb ce h2
      have h0 := hc 0 (by decide)
      rw [Addr.add] at h0
      simp only [if_true] at h0
      exact ⟨v, u, h0.trans g0, (hc 1 (by decide)).trans g1, (hc 2 (by decide)).trans g2, s1⟩
    obtain ⟨f, hfn⟩ := Deep.choose_lt each
    have hlen : ((List.range len).map f).length = len := by simp
    refine ⟨(List.range len).map f, some x, m, by rw [hlen], by rw [hlen]; exact hl, hm, (fun e => by cases e), fun hp => ?_⟩
    rw [hlen] at hp
    obtain ⟨b, off, spot⟩ := x
    have hspot : spot = none := by
      obtain ⟨_, c0, _⟩ := hfn 0 (by omega)
      simpa [Addr.add] using World.cell?_spot c0
    subst hspot
    have add1 : ∀ o j : Nat, (⟨b, o, none⟩ : Addr).add j = ⟨b, o + j, none⟩ := fun o j => by
      unfold Addr.add
      split
      · rename_i h0; subst h0; rfl
      · rfl
    refine ⟨b, off, rfl, ?_, fun i t hti => ?_⟩
    · obtain ⟨_, c0, _⟩ := hfn 0 (by omega)
      rw [add1] at c0
      exact lt_of_cell c0
    · have hi' : i < len := by
        have := (List.getElem?_eq_some_iff.1 hti).1
        rw [hlen] at this
        exact this
      have e : t = f i := by
        rw [List.getElem?_map, List.getElem?_range hi'] at hti
        simpa using hti.symm
      subst e
      obtain ⟨u, c0, c1, c2, s1⟩ := hfn i (by omega)
      simp only [add1] at c0 c1 c2
      exact ⟨u, c0, c1, c2, s1⟩
theorem ents_field {H : Type} {enc : TypeId × Value → H} {P : Program} {W : World} {t e ti tb te : TypeId} {f0 f1 f2 : Field} {n o : Nat} {cs : List Value} {y : DataW H × List MemPlace} (ht : P.underlying t = some (.slice e)) (hc : P.cellsOf t = 1) (hs : P.underlying e = some (.struct #[f0, f1, f2]))
    (ho : (f0.offset, f1.offset, f2.offset) = (0, 1, 2)) (hT : (f0.type, f1.type, f2.type) = (ti, ti, tb)) (hC : P.cellsOf e = 3) (hi : P.underlying ti = some (.int .i64)) (ci : P.cellsOf ti = 1)
    (hb : P.underlying tb = some (.slice te)) (he : P.underlying te = some (.int .u8)) (cb : P.cellsOf tb = 1) (ce : P.cellsOf te = 1)
    (h : DataW.trod enc P W 0 (fun _ => true) true n t ((cs.drop o).take (P.cellsOf t)) = some y) : ∃ v V, cs[o]? = some v ∧ SlE W W.heap.size v V := by
  have hsl : ∃ a len cap, (cs.drop o).take (P.cellsOf t) = [.slice a len cap] := by
    rcases Deep.open_slice ht h with ⟨hcs, _⟩ | ⟨a, len, cap, _, _, _, _, hcs, _⟩
    · exact ⟨none, 0, 0, hcs⟩
    · exact ⟨some a, len, cap, hcs⟩
  obtain ⟨a, len, cap, hcs⟩ := hsl
  rw [hcs] at h
  obtain ⟨L, hL⟩ := ents_of_arg (W := W) (a := a) (len := len) (cap := cap) (d := y.1) (p := y.2) ht hs ho hT hC hi ci hb he cb ce ⟨n, h⟩
  refine ⟨_, L, ?_, hL⟩
  rw [hc] at hcs
  have h3 : ((cs.drop o).take 1)[0]? = some (.slice a len cap) := by rw [hcs]; rfl
  rw [List.getElem?_take_of_lt (by omega), List.getElem?_drop] at h3
  exact h3
theorem list2 {cs : List Value} {a b : Value} (hl : cs.length = 2) (h0 : cs[0]? = some a) (h1 : cs[1]? = some b) : cs = [a, b] := by
  match cs, hl with
  | [x0, x1], _ => simp at h0 h1; subst h0 h1; rfl
theorem tc_of_arg {H : Type} {enc : TypeId × Value → H} {P : Program} {W : World} {r : Reach} {b0 : Nat} {t ts e ti tb te : TypeId} {g0 g1 f0 f1 f2 : Field} {v : Value} {d : DataW H} {p : List MemPlace} (hT0 : P.underlying t = some (.struct #[g0, g1]))
    (hgo : (g0.offset, g1.offset) = (0, 1)) (hgt : (g0.type, g1.type) = (ti, ts)) (hCt : P.cellsOf t = 2) (ht : P.underlying ts = some (.slice e)) (hc : P.cellsOf ts = 1) (hs : P.underlying e = some (.struct #[f0, f1, f2]))
    (ho : (f0.offset, f1.offset, f2.offset) = (0, 1, 2)) (hT : (f0.type, f1.type, f2.type) = (ti, ti, tb)) (hC : P.cellsOf e = 3) (hi : P.underlying ti = some (.int .i64)) (ci : P.cellsOf ti = 1)
    (hb : P.underlying tb = some (.slice te)) (he : P.underlying te = some (.int .u8)) (cb : P.cellsOf tb = 1) (ce : P.cellsOf te = 1)
    (hv : Value.okWide P W r b0 t v) (h : DataW.Trod enc P W 0 (fun _ => true) true t v d p) :
    ∃ (x : Int) (s : Value) (L : List Et), v = .agg #[.int .i64 x, s] ∧ SlE W W.heap.size s L := by
  obtain ⟨cs, n, rfl, hl, hf⟩ := fields_of_arg hT0 hv h
  simp only [Prod.mk.injEq] at hgo hgt
  obtain ⟨o0, o1⟩ := hgo
  obtain ⟨t0, t1⟩ := hgt
  obtain ⟨y0, k0⟩ := hf 0 g0 rfl
  obtain ⟨y1, k1⟩ := hf 1 g1 rfl
  obtain ⟨z0, j0, _⟩ := int_field (by rw [t0]; exact hi) (by rw [t0]; exact ci) k0
  rw [t1] at k1
  obtain ⟨s, L, j1, s1⟩ := ents_field ht hc hs ho hT hC hi ci hb he cb ce k1
  rw [o0] at j0; rw [o1] at j1
  refine ⟨z0, s, L, ?_, s1⟩
  rw [list2 (hl.trans hCt) j0 j1]
end Go.Proofs.Ytickneafppbegaa
