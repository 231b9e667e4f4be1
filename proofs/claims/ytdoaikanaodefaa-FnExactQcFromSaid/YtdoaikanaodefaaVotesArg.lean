/- What an argument reads as: a slice of votes. -/
import Derived.Test.YtdoaikanaodefaaVoteArg
import Derived.Test.YtdoaikanaodefaaVotesM
namespace Go.Proofs.Ytdoaikanaodefaa
open Go.RowKit Go.ChangeShapes Go.WideShapes Go.Joins Go.Deep

/-- The five cells of a vote that is read. -/
theorem vote_of_cells {H : Type} {enc : TypeId × Value → H} {P : Program} {W : World} {t ti tb te : TypeId} {f0 f1 f2 f3 f4 : Field} {n : Nat} {cs : List Value} {y : DataW H × List MemPlace} (hs : P.underlying t = some (.struct #[f0, f1, f2, f3, f4]))
    (ho : (f0.offset, f1.offset, f2.offset, f3.offset, f4.offset) = (0, 1, 2, 3, 4)) (ht : (f0.type, f1.type, f2.type, f3.type, f4.type) = (ti, ti, tb, ti, tb)) (hi : P.underlying ti = some (.int .i64)) (ci : P.cellsOf ti = 1)
    (hb : P.underlying tb = some (.slice te)) (he : P.underlying te = some (.int .u8)) (cb : P.cellsOf tb = 1) (ce : P.cellsOf te = 1)
    (h : DataW.trod enc P W 0 (fun _ => true) true n t cs = some y) :
    ∃ (v : Vt) (a b : Value), cs[0]? = some (.int .i64 v.x) ∧ cs[1]? = some (.int .i64 v.y) ∧ cs[2]? = some a ∧ cs[3]? = some (.int .i64 v.z) ∧ cs[4]? = some b ∧ Sl W W.heap.size a v.l ∧ Sl W W.heap.size b v.k := by
  obtain ⟨xs, m, _, _, _, hxl, hfd⟩ := DataW.trod_struct hs h
  have hf : ∀ (j : Nat) (f : Field), (#[f0, f1, f2, f3, f4] : Array Field)[j]? = some f → ∃ y, DataW.trod enc P W 0 (fun _ => true) true m f.type ((cs.drop f.offset).take (P.cellsOf f.type)) = some y := fun j f hj => by
    have hjl : j < xs.length := by rw [hxl]; exact (Array.getElem?_eq_some_iff.1 hj).1
    exact ⟨xs[j], by rw [← List.getElem?_eq_getElem hjl]; exact hfd j f hj⟩
  simp only [Prod.mk.injEq] at ho ht
  obtain ⟨o0, o1, o2, o3, o4⟩ := ho
  obtain ⟨t0, t1, t2, t3, t4⟩ := ht
  obtain ⟨y0, k0⟩ := hf 0 f0 rfl
  obtain ⟨y1, k1⟩ := hf 1 f1 rfl
  obtain ⟨y2, k2⟩ := hf 2 f2 rfl
  obtain ⟨y3, k3⟩ := hf 3 f3 rfl
  obtain ⟨y4, k4⟩ := hf 4 f4 rfl
  obtain ⟨z0, g0, _⟩ := int_field (by rw [t0]; exact hi) (by rw [t0]; exact ci) k0
  obtain ⟨z1, g1, _⟩ := int_field (by rw [t1]; exact hi) (by rw [t1]; exact ci) k1
  obtain ⟨a, l, g2, s2⟩ := bytes_field (by rw [t2]; exact hb) he (by rw [t2]; exact cb) ce k2
  obtain ⟨z3, g3, _⟩ := int_field (by rw [t3]; exact hi) (by rw [t3]; exact ci) k3
  obtain ⟨b, k, g4, s4⟩ := bytes_field (by rw [t4]; exact hb) he (by rw [t4]; exact cb) ce k4
  rw [o0] at g0; rw [o1] at g1; rw [o2] at g2; rw [o3] at g3; rw [o4] at g4
  exact ⟨⟨z0, z1, l, z3, k⟩, a, b, g0, g1, g2, g3, g4, s2, s4⟩

theorem votes_of_arg {H : Type} {enc : TypeId × Value → H} {P : Program} {W : World} {t e ti tb te : TypeId} {f0 f1 f2 f3 f4 : Field} {a : Option Addr} {len cap : Nat} {d : DataW H} {p : List MemPlace} (ht : P.underlying t = some (.slice e)) (hs : P.underlying e = some (.struct #[f0, f1, f2, f3, f4]))
    (ho : (f0.offset, f1.offset, f2.offset, f3.offset, f4.offset) = (0, 1, 2, 3, 4)) (hT : (f0.type, f1.type, f2.type, f3.type, f4.type) = (ti, ti, tb, ti, tb)) (hC : P.cellsOf e = 5) (hi : P.underlying ti = some (.int .i64)) (ci : P.cellsOf ti = 1)
    (hb : P.underlying tb = some (.slice te)) (he : P.underlying te = some (.int .u8)) (cb : P.cellsOf tb = 1) (ce : P.cellsOf te = 1)
    (h : DataW.Trod enc P W 0 (fun _ => true) true t (.slice a len cap) d p) : ∃ V, SlV W W.heap.size (.slice a len cap) V := by
  obtain ⟨fuel, hf⟩ := h
  rcases Deep.open_slice ht hf with ⟨hcs, _⟩ | ⟨x, len', cap', m, n, D, Pl, hcs, _, hl, hm, hmm, _, hx⟩
  · simp [Value.cells] at hcs
    obtain ⟨rfl, rfl, rfl⟩ := hcs
    exact ⟨[], SlV.nil_⟩
  · simp [Value.cells] at hcs
    obtain ⟨rfl, rfl, rfl⟩ := hcs
    simp only [if_true] at hmm
    subst hmm
    have each : ∀ i, i < m → ∃ v : Vt, ∃ u u', W.cell? (x.add (i * 5)) = some (.int .i64 v.x) ∧ W.cell? ((x.add (i * 5)).add 1) = some (.int .i64 v.y) ∧ W.cell? ((x.add (i * 5)).add 2) = some u ∧ W.cell? ((x.add (i * 5)).add 3) = some (.int .i64 v.z) ∧ W.cell? ((x.add (i * 5)).add 4) = some u' ∧ Sl W W.heap.size u v.l ∧ Sl W W.heap.size u' v.k := fun i hi' => by
      obtain ⟨cs', h1, h2⟩ := hx i hi'
      rw [hC] at h1
      obtain ⟨_, _, hc⟩ := World.cells?_some h1
      obtain ⟨v, u, u', g0, g1, g2, g3, g4, s1, s2⟩ := vote_of_cells hs ho hT hi ci hb he cb ce h2
      have h0 := hc 0 (by decide)
      rw [Addr.add] at h0
      simp only [if_true] at h0
      exact ⟨v, u, u', h0.trans g0, (hc 1 (by decide)).trans g1, (hc 2 (by decide)).trans g2, (hc 3 (by decide)).trans g3, (hc 4 (by decide)).trans g4, s1, s2⟩
    obtain ⟨f, hfn⟩ := Deep.choose_lt each
    have hlen : ((List.range len).map f).length = len := by simp
    refine ⟨(List.range len).map f, some x, m, by rw [hlen], by rw [hlen]; exact hl, hm, (fun e => by cases e), fun hp => ?_⟩
    rw [hlen] at hp
    obtain ⟨b, off, spot⟩ := x
    have hspot : spot = none := by
      obtain ⟨_, _, c0, _⟩ := hfn 0 (by omega)
      simpa [Addr.add] using World.cell?_spot c0
    subst hspot
    have add1 : ∀ o j : Nat, (⟨b, o, none⟩ : Addr).add j = ⟨b, o + j, none⟩ := fun o j => by
      unfold Addr.add
      split
      · rename_i h0; subst h0; rfl
      · rfl
    refine ⟨b, off, rfl, ?_, fun i t hti => ?_⟩
    · obtain ⟨_, _, c0, _⟩ := hfn 0 (by omega)
      rw [add1] at c0
      exact lt_of_cell c0
    · have hi' : i < len := by
        have := (List.getElem?_eq_some_iff.1 hti).1
        rw [hlen] at this
        exact this
      have e : t = f i := by
        rw [List.getElem?_map, List.getElem?_range hi'] at hti
        simpa using hti.symm
      subst e
      obtain ⟨u, u', c0, c1, c2, c3, c4, s1, s2⟩ := hfn i (by omega)
      simp only [add1] at c0 c1 c2 c3 c4
      exact ⟨u, u', c0, c1, c2, c3, c4, s1, s2⟩
end Go.Proofs.Ytdoaikanaodefaa
