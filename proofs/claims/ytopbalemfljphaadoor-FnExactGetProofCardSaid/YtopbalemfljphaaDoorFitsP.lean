/- l16Fits of the model, certifiesLast of the program. -/
import Derived.Test.YtopbalemfljphaaDoorLastB
import Derived.Test.YtopbalemfljphaaDoorProof
import Derived.Test.YtopbalemfljphaaDoorLimits
namespace Go.Proofs.YtopbalemfljphaaDoor
open Go.ChangeShapes Go.WideShapes Go.ChangeAt Go.RowKit
set_option linter.unusedSimpArgs false

set_option maxRecDepth 100000 in
set_option maxHeartbeats 4000000 in
theorem l16Fits_any (qx qy : Int) (hs qa qb qs : Value) (M : List Ht) (ql qk : List UInt8) (L : List (List UInt8)) (w : World) (hm : SlH w w.heap.size hs M) (hqa : Sl w w.heap.size qa ql) (hqb : Sl w w.heap.size qb qk) (hqs : SlS w w.heap.size qs L) (hn : 0 < M.length) :
    Calls Tryd.prog 41 #[.agg #[hs, .int .i64 qx, .int .i64 qy, qa, qb, qs]] w (BoolB w (lastB M qx qy)) := by
  obtain ⟨A, c, rfl, h1, h2, h0, h3⟩ := hm
  unfold maxLen at h2
  clear h0
  obtain ⟨C, cc, rfl, p1, p2, p0, p3⟩ := id hqa
  clear p1 p2 p0 p3
  obtain ⟨D, dc, rfl, p1, p2, p0, p3⟩ := id hqb
  clear p1 p2 p0 p3
  obtain ⟨E, ec, rfl, p1, p2, p0, p3⟩ := id hqs
  clear p1 p2 p0 p3
  obtain ⟨n, hn1⟩ : ∃ n, M.length = n + 1 := ⟨M.length - 1, by omega⟩
  obtain ⟨b, off, rfl, hbb, hcell⟩ := h3 hn
  obtain ⟨t, ht⟩ := getH (L := M) (k := n) (by omega)
  obtain ⟨ua, ub, uqa, uqb, uqs, hat⟩ := hcell n t ht
  have hl := lastB_at (qx := qx) (qy := qy) (show M[M.length - 1]? = some t by rw [hn1]; exact ht)
  obtain ⟨R, hR⟩ : ∃ R, R = lastB M qx qy := ⟨_, rfl⟩
  rw [← hR]
  rw [hl] at hR
  have H1 := (InvF.start w).newG 30 #[.slice (some ⟨b, off, none⟩) M.length c, .int .i64 qx, .int .i64 qy, .slice C ql.length cc, .slice D qk.length dc, .slice E L.length ec] w.heap.size
  have hat1 := hat.below H1.bel hbb
  have hR1 := Lib.hid hat1.range
  have H2 := H1.newG 78 #[.int .i64 t.x, .int .i64 t.y, .int .i64 t.z, ua, ub, .int .i64 t.qx, .int .i64 t.qy, uqa, uqb, uqs] (w.heap.size + 1)
  obtain ⟨⟨c0, c1, c2, c3, c4, c5, c6, c7, c8, c9⟩, s1, s2, s3, s4, s5⟩ := hat1
  obtain ⟨A1, e1, rfl, _⟩ := s1
  obtain ⟨A2, e2, rfl, _⟩ := s2
  obtain ⟨A3, e3, rfl, _⟩ := s3
  obtain ⟨A4, e4, rfl, _⟩ := s4
  obtain ⟨A5, e5, rfl, _⟩ := s5
  obtain ⟨o0, o1, o2, o3, o4, o5⟩ := H2.c6 (.tail _ (.head _))
  have hk := H2.k10 (.head _)
  have hB := H2.bel
  clear h3 hn hl
  generalize M.length = N at *
  subst hn1
  have hix : ((n + 1 : Nat) : Int) - 1 = (n : Int) := by omega
  generalize t.x = tx at *; generalize t.y = ty at *; generalize t.z = tz at *; generalize t.qx = tqx at *; generalize t.qy = tqy at *
  obtain ⟨x0, g0⟩ : ∃ r : Bool, r = (qx == tx) := ⟨_, rfl⟩
  obtain ⟨x1, g1⟩ : ∃ r : Bool, r = (qy == ty) := ⟨_, rfl⟩
  rw [← g0, ← g1] at hR
  have HR := Lib.hid hR
  replace g0 := g0.symm; replace g1 := g1.symm
  have HBB := Lib.hid hB
  clear hcell ht hR H1 H2 hat hB hqa hqb hqs
  rcases x0 with _ | _
  · obtain rfl : R = false := by rw [HR.out]; rfl
    go_enter Tryd.func41, Tryd.ntmps41
    go_wp2
    go_ret
    exact ⟨rfl, HBB.out⟩
  · obtain rfl : R = x1 := by rw [HR.out, Bool.true_and]
    rcases R with _ | _
    all_goals
      go_enter Tryd.func41, Tryd.ntmps41
      go_wp2
      go_ret
      exact ⟨rfl, HBB.out⟩

set_option maxRecDepth 100000 in
set_option maxHeartbeats 4000000 in
theorem certifiesLast_any (qx qy : Int) (hs qa qb qs : Value) (M : List Ht) (ql qk : List UInt8) (L : List (List UInt8)) (w : World) (hm : SlH w w.heap.size hs M) (hqa : Sl w w.heap.size qa ql) (hqb : Sl w w.heap.size qb qk) (hqs : SlS w w.heap.size qs L) (hn : 0 < M.length) :
    Calls Tryd.prog 48 #[.agg #[hs, .int .i64 qx, .int .i64 qy, qa, qb, qs]] w (BoolB w (lastB M qx qy)) := by
  obtain ⟨A, c, rfl, h1, h2, h0, h3⟩ := hm
  unfold maxLen at h2
  clear h0
  obtain ⟨C, cc, rfl, p1, p2, p0, p3⟩ := id hqa
  clear p1 p2 p0 p3
  obtain ⟨D, dc, rfl, p1, p2, p0, p3⟩ := id hqb
  clear p1 p2 p0 p3
  obtain ⟨E, ec, rfl, p1, p2, p0, p3⟩ := id hqs
  clear p1 p2 p0 p3
  obtain ⟨n, hn1⟩ : ∃ n, M.length = n + 1 := ⟨M.length - 1, by omega⟩
  obtain ⟨b, off, rfl, hbb, hcell⟩ := h3 hn
  obtain ⟨t, ht⟩ := getH (L := M) (k := n) (by omega)
  obtain ⟨ua, ub, uqa, uqb, uqs, hat⟩ := hcell n t ht
  have hl := lastB_at (qx := qx) (qy := qy) (show M[M.length - 1]? = some t by rw [hn1]; exact ht)
  obtain ⟨R, hR⟩ : ∃ R, R = lastB M qx qy := ⟨_, rfl⟩
  rw [← hR]
  rw [hl] at hR
  have H1 := (InvF.start w).newG 30 #[.slice (some ⟨b, off, none⟩) M.length c, .int .i64 qx, .int .i64 qy, .slice C ql.length cc, .slice D qk.length dc, .slice E L.length ec] w.heap.size
  have hat1 := hat.below H1.bel hbb
  have hR1 := Lib.hid hat1.range
  have H2 := H1.newG 78 #[.int .i64 t.x, .int .i64 t.y, .int .i64 t.z, ua, ub, .int .i64 t.qx, .int .i64 t.qy, uqa, uqb, uqs] (w.heap.size + 1)
  obtain ⟨⟨c0, c1, c2, c3, c4, c5, c6, c7, c8, c9⟩, s1, s2, s3, s4, s5⟩ := hat1
  obtain ⟨A1, e1, rfl, _⟩ := s1
  obtain ⟨A2, e2, rfl, _⟩ := s2
  obtain ⟨A3, e3, rfl, _⟩ := s3
  obtain ⟨A4, e4, rfl, _⟩ := s4
  obtain ⟨A5, e5, rfl, _⟩ := s5
  obtain ⟨o0, o1, o2, o3, o4, o5⟩ := H2.c6 (.tail _ (.head _))
  have hk := H2.k10 (.head _)
  have hB := H2.bel
  clear h3 hn hl
  generalize M.length = N at *
  subst hn1
  have hix : ((n + 1 : Nat) : Int) - 1 = (n : Int) := by omega
  generalize t.x = tx at *; generalize t.y = ty at *; generalize t.z = tz at *; generalize t.qx = tqx at *; generalize t.qy = tqy at *
  obtain ⟨x0, g0⟩ : ∃ r : Bool, r = (qx == tx) := ⟨_, rfl⟩
  obtain ⟨x1, g1⟩ : ∃ r : Bool, r = (qy == ty) := ⟨_, rfl⟩
  rw [← g0, ← g1] at hR
  have HR := Lib.hid hR
  replace g0 := g0.symm; replace g1 := g1.symm
  have HBB := Lib.hid hB
  clear hcell ht hR H1 H2 hat hB hqa hqb hqs
  rcases x0 with _ | _
  · obtain rfl : R = false := by rw [HR.out]; rfl
    go_enter Tryd.func48, Tryd.ntmps48
    go_wp2
    go_ret
    exact ⟨rfl, HBB.out⟩
  · obtain rfl : R = x1 := by rw [HR.out, Bool.true_and]
    rcases R with _ | _
    all_goals
      go_enter Tryd.func48, Tryd.ntmps48
      go_wp2
      go_ret
      exact ⟨rfl, HBB.out⟩

end Go.Proofs.YtopbalemfljphaaDoor
