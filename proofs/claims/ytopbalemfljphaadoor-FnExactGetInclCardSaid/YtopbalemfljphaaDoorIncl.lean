/- Transaction proofs: the contracts of the helpers of exact laws on them: szIncl, toIncl, eqIncl, markIncl, heldIncl. -/
import Derived.Test.YtopbalemfljphaaDoorQc
namespace Go.Proofs.YtopbalemfljphaaDoor
open Go.ChangeShapes Go.WideShapes Go.ChangeAt Go.RowKit

/-- What szIncl leaves of m. -/
def szIZ (l : List UInt8) (L : List (List UInt8)) (m : Int) : Int := if m < (l.length : Int) + (L.length : Int) + (sumL L : Int) then -1 else m - ((l.length : Int) + (L.length : Int) + (sumL L : Int))
theorem szIZ_big {l : List UInt8} {L : List (List UInt8)} {m : Int} (h : m < (l.length : Int) + (L.length : Int) + (sumL L : Int)) : szIZ l L m = -1 := if_pos h
theorem szIZ_ok {l : List UInt8} {L : List (List UInt8)} {m : Int} (h : ¬ m < (l.length : Int) + (L.length : Int) + (sumL L : Int)) : szIZ l L m = m - ((l.length : Int) + (L.length : Int) + (sumL L : Int)) := if_neg h
/-- The call returns a transaction proof of new rows; nothing that was there has turned. -/
def FreshIn (w : World) (x y z : Int) (l : List UInt8) (L : List (List UInt8)) (e : Ending) (w' : World) : Prop :=
  ∃ a s vs, e = .returned (.agg #[.int .i64 x, .int .i64 y, .int .i64 z, a, s]) ∧ vs.length = L.length ∧ InvF w w' [segB 5 a l, segS 24 5 s vs L]
set_option maxHeartbeats 2000000 in
theorem eqIncl_any (x y z : Int) (a s a' s' : Value) (l : List UInt8) (L : List (List UInt8)) (w : World) (ha : Sl w w.heap.size a l) (hs : SlS w w.heap.size s L) (ha' : Sl w w.heap.size a' l) (hs' : SlS w w.heap.size s' L) :
    Calls Tryd.prog 16 #[.agg #[.int .i64 x, .int .i64 y, .int .i64 z, a, s], .agg #[.int .i64 x, .int .i64 y, .int .i64 z, a', s']] w (Yes w) := by
  obtain ⟨A, c, rfl, p1, p2, p0, p3⟩ := id ha
  obtain ⟨C, f, rfl, r1, r2, r0, r3⟩ := id hs
  clear p1 p2 p0 p3 r1 r2 r0 r3
  obtain ⟨A', c', rfl, p1, p2, p0, p3⟩ := id ha'
  obtain ⟨C', f', rfl, r1, r2, r0, r3⟩ := id hs'
  clear p1 p2 p0 p3 r1 r2 r0 r3
  have n0 : (x != x) = false := by simp
  have n1 : (y != y) = false := by simp
  have n2 : (z != z) = false := by simp
  have hB : Below w.heap.size w ((w.alloc (.cells #[.int .i64 x, .int .i64 y, .int .i64 z, .slice A l.length c, .slice C L.length f] 42)).alloc (.cells #[.int .i64 x, .int .i64 y, .int .i64 z, .slice A' l.length c', .slice C' L.length f'] 42)) := ((Below.refl _ w).alloc (Nat.le_refl _) _).alloc (by simp) _
  go_enter Tryd.func16, Tryd.ntmps16
  go_wp2_with fail
  refine (eqByteS_any _ _ l _ (ha.up hB) (ha'.up hB)).mono ?_
  rintro e _ ⟨rfl, m, rfl⟩
  go_wp2_with fail
  refine (eqByteSS_any _ _ L _ ((hs.up hB).drewN m) ((hs'.up hB).drewN m)).mono ?_
  rintro e _ ⟨rfl, p, rfl⟩
  go_wp2_with fail
  go_ret
  exact ⟨rfl, below_drewN hB (m + p)⟩

set_option maxHeartbeats 2000000 in
theorem markIncl_z (x y z : Int) (W w : World) (a s : Value) (vs : List Value) (l : List UInt8) (L : List (List UInt8)) (ss : List (List Row)) (m : Nat) (mz : Int) (hv : vs.length = L.length) (K : InvF W w (segB 5 a l :: segS 24 5 s vs L :: ss)) (hz : mz = (m : Int)) (hm : m ≤ 268435456) (hl : l.length ≤ 4194304) (hN : sumL L ≤ 4194304) :
    Calls Tryd.prog 17 #[.agg #[.int .i64 x, .int .i64 y, .int .i64 z, a, s], .int .i64 mz] w (fun e w' => e = .returned (.int .i64 (mz + (l.length : Int) + (sumL L : Int))) ∧
      InvF W w' (segB 5 a (marks m l.length) :: segS 24 5 s vs (marksS (m + l.length) L) :: ss)) := by
  obtain ⟨A, c, rfl⟩ := K.openB' (.head _)
  obtain ⟨C, f, rfl⟩ := K.openS hv (.tail _ (.head _))
  have HV := Lib.hid hv
  have K1 := K.newG 42 #[.int .i64 x, .int .i64 y, .int .i64 z, .slice A l.length c, .slice C L.length f] w.heap.size
  replace K1 := Lib.hid (K1.front 1 rfl)
  have HZ := Lib.hid hz
  have hz2 : Hid (mz + (l.length : Int) = ((m + l.length : Nat) : Int)) := Lib.hid (by omega)
  have hb0 : 0 ≤ mz := by omega
  have hb1 : mz ≤ 268435456 := by omega
  have HN := Lib.hid hN
  clear K hz hv hN
  go_enter Tryd.func17, Tryd.ntmps17
  go_wp2_with fail
  refine (markByteS_z _ l m _ _ _ (K1.out.ownB 5 (.head _)) HZ.out (by omega) (by omega)).mono ?_
  rintro e w2 ⟨rfl, ho, hg⟩
  have K2 := K1.out.wroteB ho hg
  clear ho hg K1
  obtain ⟨o0, o1, o2, o3, o4⟩ := K2.c5 (.tail _ (.head _))
  replace K2 := Lib.hid (K2.front 2 rfl)
  go_wp2_with fail
  refine (markByteSS_z W _ _ vs L _ (m + l.length) _ HV.out K2.out hz2.out (by omega) (by have := HN.out; omega)).mono ?_
  rintro e w4 ⟨rfl, K4⟩
  have K5 := Lib.hid ((K4.front 1 rfl).sub (qs := segB 5 (.slice A l.length c) (marks m l.length) :: segS 24 5 (.slice C L.length f) vs (marksS (m + l.length) L) :: ss) (.cons_cons _ (.cons_cons _ (.cons _ (List.Sublist.refl _)))))
  clear K4 K2 o0 o1 o2 o3 o4
  go_wp2
  go_ret
  exact ⟨rfl, K5.out⟩

set_option maxHeartbeats 2000000 in
theorem heldIncl_z (x y z : Int) (a s : Value) (m n : Nat) (L : List (List UInt8)) (mz : Int) (w : World) (ha : Sl w w.heap.size a (marks m n)) (hs : SlS w w.heap.size s (marksS (m + n) L)) (hz : mz = (m : Int)) (hm : m ≤ 268435456) (hn : n ≤ 4194304) (hN : sumL L ≤ 4194304) :
    Calls Tryd.prog 18 #[.agg #[.int .i64 x, .int .i64 y, .int .i64 z, a, s], .int .i64 mz] w (fun e w' => e = .returned (.int .i64 (mz + (n : Int) + (sumL L : Int))) ∧ Below w.heap.size w w') := by
  obtain ⟨A, c, rfl, p1, p2, p0, p3⟩ := id ha
  obtain ⟨C, f, rfl, r1, r2, r0, r3⟩ := id hs
  clear p1 p2 p0 p3 r1 r2 r0 r3
  rw [marks_length] at ha ⊢
  rw [marksS_length] at hs ⊢
  have hB : Below w.heap.size w (w.alloc (.cells #[.int .i64 x, .int .i64 y, .int .i64 z, .slice A n c, .slice C L.length f] 42)) := (Below.refl _ w).alloc (Nat.le_refl _) _
  have HZ := Lib.hid hz
  have HN := Lib.hid hN
  have hz1 : ¬ (mz + (n : Int) < 0) := by omega
  have hz4 : ¬ (mz + (n : Int) + (sumL L : Int) < 0) := by omega
  have hz5 : Hid (mz + (n : Int) = ((m + n : Nat) : Int)) := Lib.hid (by omega)
  have hb0 : 0 ≤ mz := by omega
  have hb1 : mz ≤ 268435456 := by omega
  clear hz hN
  go_enter Tryd.func18, Tryd.ntmps18
  go_wp2_with fail
  refine (heldByteS_z _ m n _ _ (ha.up hB) HZ.out (by omega) (by omega)).mono ?_
  rintro e _ ⟨rfl, i, rfl⟩
  go_wp2_with fail
  refine (heldByteSS_z _ (m + n) _ L _ ((hs.up hB).drewN i) hz5.out (by omega) (by have := HN.out; omega)).mono ?_
  rintro e _ ⟨rfl, q, rfl⟩
  go_wp2_with fail
  go_ret
  exact ⟨rfl, below_drewN hB (i + q)⟩
end Go.Proofs.YtopbalemfljphaaDoor
