/- Headers: the contracts of the helpers of exact laws on them: szHead, toHead, eqHead, markHead, heldHead. -/
import Derived.Test.YtopbalemfljphaaDoorMid
import Derived.Test.YtopbalemfljphaaDoorQc
namespace Go.Proofs.YtopbalemfljphaaDoor
open Go.ChangeShapes Go.WideShapes Go.ChangeAt Go.RowKit

/-- What szHead leaves of m. -/
def szHZ (l k ql qk : List UInt8) (L : List (List UInt8)) (m : Int) : Int := if m < (l.length : Int) + (k.length : Int) + (ql.length : Int) + (qk.length : Int) + (L.length : Int) + (sumL L : Int) then -1 else m - ((l.length : Int) + (k.length : Int) + (ql.length : Int) + (qk.length : Int) + (L.length : Int) + (sumL L : Int))
theorem szHZ_big {l k ql qk : List UInt8} {L : List (List UInt8)} {m : Int} (h : m < (l.length : Int) + (k.length : Int) + (ql.length : Int) + (qk.length : Int) + (L.length : Int) + (sumL L : Int)) : szHZ l k ql qk L m = -1 := if_pos h
theorem szHZ_ok {l k ql qk : List UInt8} {L : List (List UInt8)} {m : Int} (h : ¬ m < (l.length : Int) + (k.length : Int) + (ql.length : Int) + (qk.length : Int) + (L.length : Int) + (sumL L : Int)) : szHZ l k ql qk L m = m - ((l.length : Int) + (k.length : Int) + (ql.length : Int) + (qk.length : Int) + (L.length : Int) + (sumL L : Int)) := if_neg h
/-- The call returns a header of new rows; nothing that was there has turned. -/
def FreshH (w : World) (x y z qx qy : Int) (l k ql qk : List UInt8) (L : List (List UInt8)) (e : Ending) (w' : World) : Prop :=
  ∃ a b qa qb qs vs, e = .returned (.agg #[.int .i64 x, .int .i64 y, .int .i64 z, a, b, .int .i64 qx, .int .i64 qy, qa, qb, qs]) ∧ vs.length = L.length ∧ InvF w w' [segB 5 a l, segB 5 b k, segB 5 qa ql, segB 5 qb qk, segS 24 5 qs vs L]

set_option maxHeartbeats 4000000 in
theorem eqHead_any (x y z qx qy : Int) (a b qa qb qs a' b' qa' qb' qs' : Value) (l k ql qk : List UInt8) (L : List (List UInt8)) (w : World) (ha : Sl w w.heap.size a l) (hb : Sl w w.heap.size b k) (hqa : Sl w w.heap.size qa ql) (hqb : Sl w w.heap.size qb qk) (hqs : SlS w w.heap.size qs L) (ha' : Sl w w.heap.size a' l) (hb' : Sl w w.heap.size b' k) (hqa' : Sl w w.heap.size qa' ql) (hqb' : Sl w w.heap.size qb' qk) (hqs' : SlS w w.heap.size qs' L) :
    Calls Tryd.prog 50 #[.agg #[.int .i64 x, .int .i64 y, .int .i64 z, a, b, .int .i64 qx, .int .i64 qy, qa, qb, qs], .agg #[.int .i64 x, .int .i64 y, .int .i64 z, a', b', .int .i64 qx, .int .i64 qy, qa', qb', qs']] w (Yes w) := by
  obtain ⟨A, ac, rfl, p1, p2, p0, p3⟩ := id ha
  clear p1 p2 p0 p3
  obtain ⟨B, bc, rfl, p1, p2, p0, p3⟩ := id hb
  clear p1 p2 p0 p3
  obtain ⟨C, cc, rfl, p1, p2, p0, p3⟩ := id hqa
  clear p1 p2 p0 p3
  obtain ⟨D, dc, rfl, p1, p2, p0, p3⟩ := id hqb
  clear p1 p2 p0 p3
  obtain ⟨E, ec, rfl, p1, p2, p0, p3⟩ := id hqs
  clear p1 p2 p0 p3
  obtain ⟨A', ac', rfl, p1, p2, p0, p3⟩ := id ha'
  clear p1 p2 p0 p3
  obtain ⟨B', bc', rfl, p1, p2, p0, p3⟩ := id hb'
  clear p1 p2 p0 p3
  obtain ⟨C', cc', rfl, p1, p2, p0, p3⟩ := id hqa'
  clear p1 p2 p0 p3
  obtain ⟨D', dc', rfl, p1, p2, p0, p3⟩ := id hqb'
  clear p1 p2 p0 p3
  obtain ⟨E', ec', rfl, p1, p2, p0, p3⟩ := id hqs'
  clear p1 p2 p0 p3
  have n0 : (x != x) = false := by simp
  have n1 : (y != y) = false := by simp
  have n2 : (z != z) = false := by simp
  have hB : Below w.heap.size w ((w.alloc (.cells #[.int .i64 x, .int .i64 y, .int .i64 z, .slice A l.length ac, .slice B k.length bc, .int .i64 qx, .int .i64 qy, .slice C ql.length cc, .slice D qk.length dc, .slice E L.length ec] 78)).alloc (.cells #[.int .i64 x, .int .i64 y, .int .i64 z, .slice A' l.length ac', .slice B' k.length bc', .int .i64 qx, .int .i64 qy, .slice C' ql.length cc', .slice D' qk.length dc', .slice E' L.length ec'] 78)) := ((Below.refl _ w).alloc (Nat.le_refl _) _).alloc (by simp) _
  go_enter Tryd.func50, Tryd.ntmps50
  go_wp2_with fail
  refine (eqByteS_any _ _ l _ (ha.up hB) (ha'.up hB)).mono ?_
  rintro e _ ⟨rfl, m, rfl⟩
  go_wp2_with fail
  refine (eqByteS_any _ _ k _ ((hb.up hB).drewN m) ((hb'.up hB).drewN m)).mono ?_
  rintro e _ ⟨rfl, n, rfl⟩
  have hBq := below_drewN hB (m + n)
  go_wp2_with fail
  refine (eqQc_any qx qy _ _ _ _ _ _ ql qk L _ (hqa.up hBq) (hqb.up hBq) (hqs.up hBq) (hqa'.up hBq) (hqb'.up hBq) (hqs'.up hBq)).mono ?_
  rintro e w3 ⟨rfl, h3⟩
  have hBr := hBq.trans (h3.mono hBq.size)
  clear h3
  go_wp2_with fail
  go_ret
  exact ⟨rfl, hBr⟩

end Go.Proofs.YtopbalemfljphaaDoor
