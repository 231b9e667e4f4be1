/- Votes: the contracts of the helpers of exact laws on votes: szVote, toVote, eqVote, markVote, heldVote. -/
import Derived.Test.YtdoaikanaodefaaBox
import Derived.Test.YtdoaikanaodefaaStackBase
namespace Go.Proofs.Ytdoaikanaodefaa
open Go.ChangeShapes Go.WideShapes Go.ChangeAt Go.RowKit

/-- What szVote leaves of m. -/
def szVZ (l k : List UInt8) (m : Int) : Int := if m < (l.length : Int) + (k.length : Int) then -1 else m - ((l.length : Int) + (k.length : Int))
theorem szVZ_big {l k : List UInt8} {m : Int} (h : m < (l.length : Int) + (k.length : Int)) : szVZ l k m = -1 := if_pos h
theorem szVZ_ok {l k : List UInt8} {m : Int} (h : ¬ m < (l.length : Int) + (k.length : Int)) : szVZ l k m = m - ((l.length : Int) + (k.length : Int)) := if_neg h
set_option maxHeartbeats 1000000 in
theorem szVote_any (x y z : Int) (a b : Value) (l k : List UInt8) (m : Int) (w : World) (ha : Sl w w.heap.size a l) (hb : Sl w w.heap.size b k) (h0 : 0 ≤ m) (hm : m ≤ 1073741824) :
    Calls Try.prog 20 #[.agg #[.int .i64 x, .int .i64 y, a, .int .i64 z, b], .int .i64 m] w (fun e w' => e = .returned (.int .i64 (szVZ l k m)) ∧ Below w.heap.size w w') := by
  obtain ⟨A, c, rfl, p1, p2, p0, p3⟩ := id ha
  obtain ⟨A', c', rfl, q1, q2, q0, q3⟩ := id hb
  clear p1 p2 p0 p3 q1 q2 q0 q3
  have hB : Below w.heap.size w (w.alloc (.cells #[.int .i64 x, .int .i64 y, .slice A l.length c, .int .i64 z, .slice A' k.length c'] 56)) := (Below.refl _ w).alloc (Nat.le_refl _) _
  obtain ⟨R, hR⟩ : ∃ R, R = szVZ l k m := ⟨_, rfl⟩
  rw [← hR]
  unfold szVZ at hR
  by_cases hlt : m < (l.length : Int)
  · rw [if_pos (by omega)] at hR
    subst hR
    go_enter Try.func20, Try.ntmps20
    go_wp2_with fail
    refine (szByteS_any _ l m _ (ha.up hB) h0 hm).mono ?_
    rw [if_pos hlt]
    rintro e w' ⟨rfl, hw⟩
    subst hw
    go_wp2
    go_ret
    exact ⟨rfl, hB⟩
  · obtain ⟨u, hu⟩ : ∃ u : Int, u = m - (l.length : Int) := ⟨_, rfl⟩
    have HU := Lib.hid hu
    have hu0 : ¬ u < 0 := by omega
    have hu1 : u ≤ 1073741824 := by omega
    by_cases hlt2 : u < (k.length : Int)
    · rw [if_pos (by omega)] at hR
      subst hR
      clear hu
      go_enter Try.func20, Try.ntmps20
      go_wp2_with fail
      refine (szByteS_any _ l m _ (ha.up hB) h0 hm).mono ?_
      rw [if_neg (show ¬ m < (l.length : Int) by omega), ← HU.out]
      rintro e w' ⟨rfl, hw⟩
      subst hw
      go_wp2_with fail
      refine (szByteS_any _ k u _ (hb.up hB) (by omega) hu1).mono ?_
      rw [if_pos hlt2]
      rintro e w' ⟨rfl, hw⟩
      subst hw
      go_wp2
      go_ret
      exact ⟨rfl, hB⟩
    · rw [if_neg (by omega)] at hR
      obtain ⟨t, ht⟩ : ∃ t : Int, t = u - (k.length : Int) := ⟨_, rfl⟩
      have HT := Lib.hid ht
      have ht0 : ¬ t < 0 := by omega
      have hRt : R = t := by omega
      subst hRt
      clear hu ht hR
      go_enter Try.func20, Try.ntmps20
      go_wp2_with fail
      refine (szByteS_any _ l m _ (ha.up hB) h0 hm).mono ?_
      rw [if_neg (show ¬ m < (l.length : Int) by omega), ← HU.out]
      rintro e w' ⟨rfl, hw⟩
      subst hw
      go_wp2_with fail
      refine (szByteS_any _ k u _ (hb.up hB) (by omega) hu1).mono ?_
      rw [if_neg (show ¬ u < (k.length : Int) by omega), ← HT.out]
      rintro e w' ⟨rfl, hw⟩
      subst hw
      go_wp2
      go_ret
      exact ⟨rfl, hB⟩

/-- The call returns a vote of new rows; nothing that was there has turned. -/
def FreshV (w : World) (x y z : Int) (l k : List UInt8) (e : Ending) (w' : World) : Prop :=
  ∃ a b, e = .returned (.agg #[.int .i64 x, .int .i64 y, a, .int .i64 z, b]) ∧ InvF w w' [segB 5 a l, segB 5 b k]
theorem InvF.openB {W w : World} {ss : List (List Row)} {v : Value} {l : List UInt8} (H : InvF W w ss) (h : segB 5 v l ∈ ss) : ∃ A c, v = .slice A l.length c := by
  obtain ⟨A, c, rfl, _⟩ := H.slB 5 h
  exact ⟨A, c, rfl⟩

set_option maxHeartbeats 1000000 in
theorem toVote_any (x y z : Int) (a b : Value) (l k : List UInt8) (w : World) (ha : Sl w w.heap.size a l) (hb : Sl w w.heap.size b k) (hl : l.length ≤ 1048576) (hk : k.length ≤ 1048576) :
    Calls Try.prog 27 #[.agg #[.int .i64 x, .int .i64 y, a, .int .i64 z, b]] w (FreshV w x y z l k) := by
  obtain ⟨A, c, rfl, p1, p2, p0, p3⟩ := id ha
  obtain ⟨A', c', rfl, q1, q2, q0, q3⟩ := id hb
  clear p1 p2 p0 p3 q1 q2 q0 q3
  have H0 := (((InvF.start w).newG 56 #[.int .i64 x, .int .i64 y, .slice A l.length c, .int .i64 z, .slice A' k.length c'] w.heap.size).newG 59 #[.int .i64 0, .int .i64 0, .slice none 0 0, .int .i64 0, .slice none 0 0] (w.heap.size + 1)).newG 59 #[.int .i64 x, .int .i64 y, .slice none 0 0, .int .i64 0, .slice none 0 0] (w.heap.size + 1 + 1)
  go_enter Try.func27, Try.ntmps27
  go_wp2_with fail
  refine (toByteS_any _ l _ (ha.up H0.bel) (by omega)).mono ?_
  rintro e w4 ⟨u4, rfl, ho4, hb4⟩
  have H4 := H0.moreB ho4 hb4
  clear H0 ho4 hb4
  obtain ⟨A4, c4, rfl⟩ := H4.openB (.head _)
  obtain ⟨o0, o1, o2, o3, o4⟩ := H4.c5 (.tail _ (.head _))
  obtain ⟨_, _, f2, f3, f4⟩ := H4.f5 (.tail _ (.head _))
  obtain ⟨a0, a1, a2, a3, a4⟩ := H4.c5 (.tail _ (.tail _ (.tail _ (.head _))))
  have h4 := H4.ltX (.tail _ (.head _))
  go_wp2_with fail
  have H5 := ((H4.front 1 rfl).setX 2 (.slice A4 l.length c4)).setX 3 (.int .i64 z)
  clear H4 o0 o1 o2 o3 o4 f2 f3 f4 a0 a1 a2 a3 a4 h4
  refine (toByteS_any _ k _ (hb.up H5.bel) (by omega)).mono ?_
  rintro e w6 ⟨u6, rfl, ho6, hb6⟩
  have H6 : InvF w w6 [segB 5 u6 k, segX 59 (w.heap.size + 1 + 1) [.int .i64 x, .int .i64 y, .slice A4 l.length c4, .int .i64 z, .slice none 0 0], segB 5 (.slice A4 l.length c4) l, segX 59 (w.heap.size + 1) [.int .i64 0, .int .i64 0, .slice none 0 0, .int .i64 0, .slice none 0 0], segX 56 w.heap.size [.int .i64 x, .int .i64 y, .slice A l.length c, .int .i64 z, .slice A' k.length c']] := H5.moreB ho6 hb6
  clear H5 ho6 hb6
  obtain ⟨A6, c6, rfl⟩ := H6.openB (.head _)
  obtain ⟨o0, o1, o2, o3, o4⟩ := H6.c5 (.tail _ (.head _))
  obtain ⟨_, _, _, _, f4⟩ := H6.f5 (.tail _ (.head _))
  obtain ⟨r0, r1, r2, r3, r4⟩ := H6.c5 (.tail _ (.tail _ (.tail _ (.head _))))
  obtain ⟨q0, q1, q2, q3, q4⟩ := H6.f5 (.tail _ (.tail _ (.tail _ (.head _))))
  have h6 := H6.ltX (.tail _ (.head _))
  have h7 := H6.ltX (.tail _ (.tail _ (.tail _ (.head _))))
  have K6 := Lib.hid H6
  clear H6
  go_wp2
  refine bodyPost_ret (v := .agg #[.int .i64 x, .int .i64 y, .slice A4 l.length c4, .int .i64 z, .slice A6 k.length c6]) (by simp [results, Try.results27, go_sem, r0, r1, r2, r3, r4]) rfl ⟨_, _, rfl, ?_⟩
  have K7 := ((((K6.out.front 1 rfl).setX 4 (.slice A6 k.length c6)).front 3 rfl).over5 (.int .i64 x) (.int .i64 y) (.slice A4 l.length c4) (.int .i64 z) (.slice A6 k.length c6)).sub (qs := [segB 5 (.slice A6 k.length c6) k, segB 5 (.slice A4 l.length c4) l]) (.cons _ (.cons _ (.cons_cons _ (.cons_cons _ (.cons _ .slnil)))))
  exact K7.front 1 rfl

set_option maxHeartbeats 1000000 in
theorem eqVote_any (x y z : Int) (a b a' b' : Value) (l k : List UInt8) (w : World) (ha : Sl w w.heap.size a l) (hb : Sl w w.heap.size b k) (ha' : Sl w w.heap.size a' l) (hb' : Sl w w.heap.size b' k) :
    Calls Try.prog 35 #[.agg #[.int .i64 x, .int .i64 y, a, .int .i64 z, b], .agg #[.int .i64 x, .int .i64 y, a', .int .i64 z, b']] w (Yes w) := by
  obtain ⟨A, c, rfl, p1, p2, p0, p3⟩ := id ha
  obtain ⟨B, d, rfl, q1, q2, q0, q3⟩ := id hb
  clear p1 p2 p0 p3 q1 q2 q0 q3
  obtain ⟨A', c', rfl, p1, p2, p0, p3⟩ := id ha'
  obtain ⟨B', d', rfl, q1, q2, q0, q3⟩ := id hb'
  clear p1 p2 p0 p3 q1 q2 q0 q3
  have n0 : (x != x) = false := by simp
  have n1 : (y != y) = false := by simp
  have n3 : (z != z) = false := by simp
  have hB : Below w.heap.size w ((w.alloc (.cells #[.int .i64 x, .int .i64 y, .slice A l.length c, .int .i64 z, .slice B k.length d] 59)).alloc (.cells #[.int .i64 x, .int .i64 y, .slice A' l.length c', .int .i64 z, .slice B' k.length d'] 59)) := ((Below.refl _ w).alloc (Nat.le_refl _) _).alloc (by simp) _
  go_enter Try.func35, Try.ntmps35
  go_wp2_with fail
  refine (eqByteS_any _ _ l _ (ha.up hB) (ha'.up hB)).mono ?_
  rintro e _ ⟨rfl, m, rfl⟩
  go_wp2_with fail
  refine (eqByteS_any _ _ k _ ((hb.up hB).drewN m) ((hb'.up hB).drewN m)).mono ?_
  rintro e _ ⟨rfl, n, rfl⟩
  go_wp2_with fail
  go_ret
  exact ⟨rfl, below_drewN hB (m + n)⟩

end Go.Proofs.Ytdoaikanaodefaa
