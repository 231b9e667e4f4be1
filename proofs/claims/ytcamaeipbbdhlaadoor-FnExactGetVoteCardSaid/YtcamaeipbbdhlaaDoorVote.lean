/- Votes: the contracts of the helpers of exact laws on votes: szVote, toVote, eqVote, markVote, heldVote. -/
import Derived.Test.YtcamaeipbbdhlaaDoorBox
import Derived.Test.YtcamaeipbbdhlaaDoorStackBase
namespace Go.Proofs.YtcamaeipbbdhlaaDoor
open Go.ChangeShapes Go.WideShapes Go.ChangeAt Go.RowKit

/-- What szVote leaves of m. -/
def szVZ (l k : List UInt8) (m : Int) : Int := if m < (l.length : Int) + (k.length : Int) then -1 else m - ((l.length : Int) + (k.length : Int))
theorem szVZ_big {l k : List UInt8} {m : Int} (h : m < (l.length : Int) + (k.length : Int)) : szVZ l k m = -1 := if_pos h
theorem szVZ_ok {l k : List UInt8} {m : Int} (h : ¬ m < (l.length : Int) + (k.length : Int)) : szVZ l k m = m - ((l.length : Int) + (k.length : Int)) := if_neg h
/-- The call returns a vote of new rows; nothing that was there has turned. -/
def FreshV (w : World) (x y z : Int) (l k : List UInt8) (e : Ending) (w' : World) : Prop :=
  ∃ a b, e = .returned (.agg #[.int .i64 x, .int .i64 y, a, .int .i64 z, b]) ∧ InvF w w' [segB 5 a l, segB 5 b k]
theorem InvF.openB {W w : World} {ss : List (List Row)} {v : Value} {l : List UInt8} (H : InvF W w ss) (h : segB 5 v l ∈ ss) : ∃ A c, v = .slice A l.length c := by
  obtain ⟨A, c, rfl, _⟩ := H.slB 5 h
  exact ⟨A, c, rfl⟩

set_option maxHeartbeats 1000000 in
theorem eqVote_any (x y z : Int) (a b a' b' : Value) (l k : List UInt8) (w : World) (ha : Sl w w.heap.size a l) (hb : Sl w w.heap.size b k) (ha' : Sl w w.heap.size a' l) (hb' : Sl w w.heap.size b' k) :
    Calls Tryd.prog 8 #[.agg #[.int .i64 x, .int .i64 y, a, .int .i64 z, b], .agg #[.int .i64 x, .int .i64 y, a', .int .i64 z, b']] w (Yes w) := by
  obtain ⟨A, c, rfl, p1, p2, p0, p3⟩ := id ha
  obtain ⟨B, d, rfl, q1, q2, q0, q3⟩ := id hb
  clear p1 p2 p0 p3 q1 q2 q0 q3
  obtain ⟨A', c', rfl, p1, p2, p0, p3⟩ := id ha'
  obtain ⟨B', d', rfl, q1, q2, q0, q3⟩ := id hb'
  clear p1 p2 p0 p3 q1 q2 q0 q3
  have n0 : (x != x) = false := by simp
  have n1 : (y != y) = false := by simp
  have n3 : (z != z) = false := by simp
  have hB : Below w.heap.size w ((w.alloc (.cells #[.int .i64 x, .int .i64 y, .slice A l.length c, .int .i64 z, .slice B k.length d] 26)).alloc (.cells #[.int .i64 x, .int .i64 y, .slice A' l.length c', .int .i64 z, .slice B' k.length d'] 26)) := ((Below.refl _ w).alloc (Nat.le_refl _) _).alloc (by simp) _
  go_enter Tryd.func8, Tryd.ntmps8
  go_wp2_with fail
  refine (eqByteS_any _ _ l _ (ha.up hB) (ha'.up hB)).mono ?_
  rintro e _ ⟨rfl, m, rfl⟩
  go_wp2_with fail
  refine (eqByteS_any _ _ k _ ((hb.up hB).drewN m) ((hb'.up hB).drewN m)).mono ?_
  rintro e _ ⟨rfl, n, rfl⟩
  go_wp2_with fail
  go_ret
  exact ⟨rfl, below_drewN hB (m + n)⟩

set_option maxHeartbeats 1000000 in
theorem markVote_z (x y z : Int) (W w : World) (a b : Value) (l k : List UInt8) (ss : List (List Row)) (m : Nat) (mz : Int) (K : InvF W w (segB 5 a l :: segB 5 b k :: ss)) (hz : mz = (m : Int)) (hm : m ≤ 536870912) (hl : l.length ≤ 4194304) (hk : k.length ≤ 4194304) :
    Calls Tryd.prog 11 #[.agg #[.int .i64 x, .int .i64 y, a, .int .i64 z, b], .int .i64 mz] w (fun e w' => e = .returned (.int .i64 (mz + (l.length : Int) + (k.length : Int))) ∧
      InvF W w' (segB 5 a (marks m l.length) :: segB 5 b (marks (m + l.length) k.length) :: ss)) := by
  obtain ⟨A, c, rfl⟩ := K.openB (.head _)
  obtain ⟨B, d, rfl⟩ := K.openB (.tail _ (.head _))
  have K1 := K.newG 26 #[.int .i64 x, .int .i64 y, .slice A l.length c, .int .i64 z, .slice B k.length d] w.heap.size
  replace K1 := Lib.hid (K1.front 1 rfl)
  have HZ := Lib.hid hz
  have hz2 : Hid (mz + (l.length : Int) = ((m + l.length : Nat) : Int)) := Lib.hid (by omega)
  have hb0 : 0 ≤ mz := by omega
  have hb1 : mz ≤ 536870912 := by omega
  clear K hz
  go_enter Tryd.func11, Tryd.ntmps11
  go_wp2_with fail
  refine (markByteS_z _ l m _ _ _ (K1.out.ownB 5 (.head _)) HZ.out (by omega) (by omega)).mono ?_
  rintro e w2 ⟨rfl, ho, hg⟩
  have K2 := K1.out.wroteB ho hg
  clear ho hg K1
  obtain ⟨o0, o1, o2, o3, o4⟩ := K2.c5 (.tail _ (.head _))
  replace K2 := Lib.hid (K2.front 2 rfl)
  go_wp2_with fail
  refine (markByteS_z _ k (m + l.length) _ _ _ (K2.out.ownB 5 (.head _)) hz2.out (by omega) (by omega)).mono ?_
  rintro e w3 ⟨rfl, ho, hg⟩
  have K3 := Lib.hid (((K2.out.wroteB ho hg).front 1 rfl).sub (qs := segB 5 (.slice A l.length c) (marks m l.length) :: segB 5 (.slice B k.length d) (marks (m + l.length) k.length) :: ss) (.cons_cons _ (.cons_cons _ (.cons _ (List.Sublist.refl _)))))
  clear ho hg K2 o0 o1 o2 o3 o4
  go_wp2
  go_ret
  exact ⟨rfl, K3.out⟩

set_option maxHeartbeats 1000000 in
theorem heldVote_z (x y z : Int) (a b : Value) (m n p : Nat) (mz : Int) (w : World) (ha : Sl w w.heap.size a (marks m n)) (hb : Sl w w.heap.size b (marks (m + n) p)) (hz : mz = (m : Int)) (hm : m ≤ 536870912) (hn : n ≤ 4194304) (hp : p ≤ 4194304) :
    Calls Tryd.prog 12 #[.agg #[.int .i64 x, .int .i64 y, a, .int .i64 z, b], .int .i64 mz] w (fun e w' => e = .returned (.int .i64 (mz + (n : Int) + (p : Int))) ∧ Below w.heap.size w w') := by
  obtain ⟨A, c, rfl, p1, p2, p0, p3⟩ := id ha
  obtain ⟨B, d, rfl, q1, q2, q0, q3⟩ := id hb
  clear p1 p2 p0 p3 q1 q2 q0 q3
  rw [marks_length] at ha hb ⊢
  rw [marks_length]
  have hB : Below w.heap.size w (w.alloc (.cells #[.int .i64 x, .int .i64 y, .slice A n c, .int .i64 z, .slice B p d] 26)) := (Below.refl _ w).alloc (Nat.le_refl _) _
  have HZ := Lib.hid hz
  have hz1 : ¬ (mz + (n : Int) < 0) := by omega
  have hz3 : ¬ (mz + (n : Int) + (p : Int) < 0) := by omega
  have hz2 : Hid (mz + (n : Int) = ((m + n : Nat) : Int)) := Lib.hid (by omega)
  have hb0 : 0 ≤ mz := by omega
  have hb1 : mz ≤ 536870912 := by omega
  clear hz
  go_enter Tryd.func12, Tryd.ntmps12
  go_wp2_with fail
  refine (heldByteS_z _ m n _ _ (ha.up hB) HZ.out (by omega) (by omega)).mono ?_
  rintro e _ ⟨rfl, i, rfl⟩
  go_wp2_with fail
  refine (heldByteS_z _ (m + n) p _ _ ((hb.up hB).drewN i) hz2.out (by omega) (by omega)).mono ?_
  rintro e _ ⟨rfl, j, rfl⟩
  go_wp2_with fail
  go_ret
  exact ⟨rfl, below_drewN hB (i + j)⟩
end Go.Proofs.YtcamaeipbbdhlaaDoor
