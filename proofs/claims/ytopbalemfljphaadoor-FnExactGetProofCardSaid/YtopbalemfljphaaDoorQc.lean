/- Quorum certificates: the contracts of the helpers of exact laws on them: szQc, toQc, eqQc, markQc, heldQc. -/
import Derived.Test.YtopbalemfljphaaDoorBox
import Derived.Test.YtopbalemfljphaaDoorStackBase
namespace Go.Proofs.YtopbalemfljphaaDoor
open Go.ChangeShapes Go.WideShapes Go.ChangeAt Go.RowKit

/-- How much a certificate's memory counts. -/
def qcZ (l k : List UInt8) (L : List (List UInt8)) : Int := (l.length : Int) + (k.length : Int) + (L.length : Int) + (sumL L : Int)
/-- What szQc leaves of m. -/
def szQZ (l k : List UInt8) (L : List (List UInt8)) (m : Int) : Int := if m < qcZ l k L then -1 else m - qcZ l k L
theorem szQZ_big {l k : List UInt8} {L : List (List UInt8)} {m : Int} (h : m < (l.length : Int) + (k.length : Int) + (L.length : Int) + (sumL L : Int)) : szQZ l k L m = -1 := if_pos h
theorem szQZ_ok {l k : List UInt8} {L : List (List UInt8)} {m : Int} (h : ¬ m < (l.length : Int) + (k.length : Int) + (L.length : Int) + (sumL L : Int)) : szQZ l k L m = m - ((l.length : Int) + (k.length : Int) + (L.length : Int) + (sumL L : Int)) := if_neg h
theorem szZ_big {L : List (List UInt8)} {m : Int} (h : m < (L.length : Int) + (sumL L : Int)) : szZ L m = -1 := if_pos h
theorem szZ_ok {L : List (List UInt8)} {m : Int} (h : ¬ m < (L.length : Int) + (sumL L : Int)) : szZ L m = m - (L.length : Int) - (sumL L : Int) := if_neg h
/-- The call returns a certificate of new rows; nothing that was there has turned. -/
def FreshQ (w : World) (x y : Int) (l k : List UInt8) (L : List (List UInt8)) (e : Ending) (w' : World) : Prop :=
  ∃ a b s vs, e = .returned (.agg #[.int .i64 x, .int .i64 y, a, b, s]) ∧ vs.length = L.length ∧ InvF w w' [segB 5 a l, segB 5 b k, segS 24 5 s vs L]
theorem InvF.openB' {W w : World} {ss : List (List Row)} {v : Value} {l : List UInt8} (H : InvF W w ss) (h : segB 5 v l ∈ ss) : ∃ A c, v = .slice A l.length c := by
  obtain ⟨A, c, rfl, _⟩ := H.slB 5 h
  exact ⟨A, c, rfl⟩
theorem InvF.openS {W w : World} {ss : List (List Row)} {v : Value} {vs : List Value} {L : List (List UInt8)} (H : InvF W w ss) (hv : vs.length = L.length) (h : segS 24 5 v vs L ∈ ss) : ∃ A c, v = .slice A L.length c := by
  obtain ⟨A, c, rfl, _⟩ := H.slS 24 5 hv h
  exact ⟨A, c, rfl⟩

set_option maxHeartbeats 2000000 in
theorem eqQc_any (x y : Int) (a b s a' b' s' : Value) (l k : List UInt8) (L : List (List UInt8)) (w : World) (ha : Sl w w.heap.size a l) (hb : Sl w w.heap.size b k) (hs : SlS w w.heap.size s L) (ha' : Sl w w.heap.size a' l) (hb' : Sl w w.heap.size b' k) (hs' : SlS w w.heap.size s' L) :
    Calls Tryd.prog 25 #[.agg #[.int .i64 x, .int .i64 y, a, b, s], .agg #[.int .i64 x, .int .i64 y, a', b', s']] w (Yes w) := by
  obtain ⟨A, c, rfl, p1, p2, p0, p3⟩ := id ha
  obtain ⟨B, d, rfl, q1, q2, q0, q3⟩ := id hb
  obtain ⟨C, f, rfl, r1, r2, r0, r3⟩ := id hs
  clear p1 p2 p0 p3 q1 q2 q0 q3 r1 r2 r0 r3
  obtain ⟨A', c', rfl, p1, p2, p0, p3⟩ := id ha'
  obtain ⟨B', d', rfl, q1, q2, q0, q3⟩ := id hb'
  obtain ⟨C', f', rfl, r1, r2, r0, r3⟩ := id hs'
  clear p1 p2 p0 p3 q1 q2 q0 q3 r1 r2 r0 r3
  have n0 : (x != x) = false := by simp
  have n1 : (y != y) = false := by simp
  have hB : Below w.heap.size w ((w.alloc (.cells #[.int .i64 x, .int .i64 y, .slice A l.length c, .slice B k.length d, .slice C L.length f] 28)).alloc (.cells #[.int .i64 x, .int .i64 y, .slice A' l.length c', .slice B' k.length d', .slice C' L.length f'] 28)) := ((Below.refl _ w).alloc (Nat.le_refl _) _).alloc (by simp) _
  go_enter Tryd.func25, Tryd.ntmps25
  go_wp2_with fail
  refine (eqByteS_any _ _ l _ (ha.up hB) (ha'.up hB)).mono ?_
  rintro e _ ⟨rfl, m, rfl⟩
  go_wp2_with fail
  refine (eqByteS_any _ _ k _ ((hb.up hB).drewN m) ((hb'.up hB).drewN m)).mono ?_
  rintro e _ ⟨rfl, n, rfl⟩
  go_wp2_with fail
  refine (eqByteSS_any _ _ L _ ((hs.up hB).drewN (m + n)) ((hs'.up hB).drewN (m + n))).mono ?_
  rintro e _ ⟨rfl, p, rfl⟩
  go_wp2_with fail
  go_ret
  exact ⟨rfl, below_drewN hB (m + n + p)⟩

set_option maxHeartbeats 2000000 in
theorem markQc_z (x y : Int) (W w : World) (a b s : Value) (vs : List Value) (l k : List UInt8) (L : List (List UInt8)) (ss : List (List Row)) (m : Nat) (mz : Int) (hv : vs.length = L.length) (K : InvF W w (segB 5 a l :: segB 5 b k :: segS 24 5 s vs L :: ss)) (hz : mz = (m : Int)) (hm : m ≤ 268435456) (hl : l.length ≤ 4194304) (hk : k.length ≤ 4194304) (hN : sumL L ≤ 4194304) :
    Calls Tryd.prog 27 #[.agg #[.int .i64 x, .int .i64 y, a, b, s], .int .i64 mz] w (fun e w' => e = .returned (.int .i64 (mz + (l.length : Int) + (k.length : Int) + (sumL L : Int))) ∧
      InvF W w' (segB 5 a (marks m l.length) :: segB 5 b (marks (m + l.length) k.length) :: segS 24 5 s vs (marksS (m + l.length + k.length) L) :: ss)) := by
  obtain ⟨A, c, rfl⟩ := K.openB' (.head _)
  obtain ⟨B, d, rfl⟩ := K.openB' (.tail _ (.head _))
  obtain ⟨C, f, rfl⟩ := K.openS hv (.tail _ (.tail _ (.head _)))
  have HV := Lib.hid hv
  have K1 := K.newG 28 #[.int .i64 x, .int .i64 y, .slice A l.length c, .slice B k.length d, .slice C L.length f] w.heap.size
  replace K1 := Lib.hid (K1.front 1 rfl)
  have HZ := Lib.hid hz
  have hz2 : Hid (mz + (l.length : Int) = ((m + l.length : Nat) : Int)) := Lib.hid (by omega)
  have hz3 : Hid (mz + (l.length : Int) + (k.length : Int) = ((m + l.length + k.length : Nat) : Int)) := Lib.hid (by omega)
  have hb0 : 0 ≤ mz := by omega
  have hb1 : mz ≤ 268435456 := by omega
  have HN := Lib.hid hN
  clear K hz hv hN
  go_enter Tryd.func27, Tryd.ntmps27
  go_wp2_with fail
  refine (markByteS_z _ l m _ _ _ (K1.out.ownB 5 (.head _)) HZ.out (by omega) (by omega)).mono ?_
  rintro e w2 ⟨rfl, ho, hg⟩
  have K2 := K1.out.wroteB ho hg
  clear ho hg K1
  obtain ⟨o0, o1, o2, o3, o4⟩ := K2.c5 (.tail _ (.head _))
  replace K2 := Lib.hid (K2.front 2 rfl)
  go_wp2_with fail
  refine (markByteS_z _ k (m + l.length) _ _ _ (K2.out.ownB 5 (.head _)) hz2.out (by omega) (by omega)).mono ?_
  rintro e w3 ⟨rfl, ho, hg⟩
  have K3 := K2.out.wroteB ho hg
  clear ho hg K2 o0 o1 o2 o3 o4
  obtain ⟨o0, o1, o2, o3, o4⟩ := K3.c5 (.tail _ (.tail _ (.head _)))
  replace K3 := Lib.hid (K3.front 3 rfl)
  go_wp2_with fail
  refine (markByteSS_z W _ _ vs L _ (m + l.length + k.length) _ HV.out K3.out hz3.out (by omega) (by have := HN.out; omega)).mono ?_
  rintro e w4 ⟨rfl, K4⟩
  have K5 := Lib.hid (((K4.front 1 rfl).front 2 rfl).sub (qs := segB 5 (.slice A l.length c) (marks m l.length) :: segB 5 (.slice B k.length d) (marks (m + l.length) k.length) :: segS 24 5 (.slice C L.length f) vs (marksS (m + l.length + k.length) L) :: ss) (.cons_cons _ (.cons_cons _ (.cons_cons _ (.cons _ (List.Sublist.refl _))))))
  clear K4 K3 o0 o1 o2 o3 o4
  go_wp2
  go_ret
  exact ⟨rfl, K5.out⟩

theorem heldByteSS_z (v : Value) (k : Nat) (kz : Int) (L : List (List UInt8)) (w : World) (h : SlS w w.heap.size v (marksS k L)) (hz : kz = (k : Int)) (hk : k ≤ 1073741824) (hs : sumL L ≤ 1073741824) :
    Calls Tryd.prog 35 #[v, .int .i64 kz] w (Quiet (.int .i64 (kz + (sumL L : Int))) w) := by
  subst hz
  exact heldByteSS_any v k L w h hk hs

set_option maxHeartbeats 2000000 in
theorem heldQc_z (x y : Int) (a b s : Value) (m n p : Nat) (L : List (List UInt8)) (mz : Int) (w : World) (ha : Sl w w.heap.size a (marks m n)) (hb : Sl w w.heap.size b (marks (m + n) p)) (hs : SlS w w.heap.size s (marksS (m + n + p) L)) (hz : mz = (m : Int)) (hm : m ≤ 268435456) (hn : n ≤ 4194304) (hp : p ≤ 4194304) (hN : sumL L ≤ 4194304) :
    Calls Tryd.prog 29 #[.agg #[.int .i64 x, .int .i64 y, a, b, s], .int .i64 mz] w (fun e w' => e = .returned (.int .i64 (mz + (n : Int) + (p : Int) + (sumL L : Int))) ∧ Below w.heap.size w w') := by
  obtain ⟨A, c, rfl, p1, p2, p0, p3⟩ := id ha
  obtain ⟨B, d, rfl, q1, q2, q0, q3⟩ := id hb
  obtain ⟨C, f, rfl, r1, r2, r0, r3⟩ := id hs
  clear p1 p2 p0 p3 q1 q2 q0 q3 r1 r2 r0 r3
  rw [marks_length] at ha hb ⊢
  rw [marks_length]
  rw [marksS_length] at hs ⊢
  have hB : Below w.heap.size w (w.alloc (.cells #[.int .i64 x, .int .i64 y, .slice A n c, .slice B p d, .slice C L.length f] 28)) := (Below.refl _ w).alloc (Nat.le_refl _) _
  have HZ := Lib.hid hz
  have HN := Lib.hid hN
  have hz1 : ¬ (mz + (n : Int) < 0) := by omega
  have hz3 : ¬ (mz + (n : Int) + (p : Int) < 0) := by omega
  have hz4 : ¬ (mz + (n : Int) + (p : Int) + (sumL L : Int) < 0) := by omega
  have hz2 : Hid (mz + (n : Int) = ((m + n : Nat) : Int)) := Lib.hid (by omega)
  have hz5 : Hid (mz + (n : Int) + (p : Int) = ((m + n + p : Nat) : Int)) := Lib.hid (by omega)
  have hb0 : 0 ≤ mz := by omega
  have hb1 : mz ≤ 268435456 := by omega
  clear hz hN
  go_enter Tryd.func29, Tryd.ntmps29
  go_wp2_with fail
  refine (heldByteS_z _ m n _ _ (ha.up hB) HZ.out (by omega) (by omega)).mono ?_
  rintro e _ ⟨rfl, i, rfl⟩
  go_wp2_with fail
  refine (heldByteS_z _ (m + n) p _ _ ((hb.up hB).drewN i) hz2.out (by omega) (by omega)).mono ?_
  rintro e _ ⟨rfl, j, rfl⟩
  go_wp2_with fail
  refine (heldByteSS_z _ (m + n + p) _ L _ ((hs.up hB).drewN (i + j)) hz5.out (by omega) (by have := HN.out; omega)).mono ?_
  rintro e _ ⟨rfl, q, rfl⟩
  go_wp2_with fail
  go_ret
  exact ⟨rfl, below_drewN hB (i + j + q)⟩
end Go.Proofs.YtopbalemfljphaaDoor
