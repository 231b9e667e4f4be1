/- Quorum certificates: the contracts of the helpers of exact laws on them: szQc, toQc, eqQc, markQc, heldQc. -/
import Derived.Test.YtopbalemfljphaaBox
import Derived.Test.YtopbalemfljphaaStackBase
namespace Go.Proofs.Ytopbalemfljphaa
open Go.ChangeShapes Go.WideShapes Go.ChangeAt Go.RowKit

/-- How much a certificate's memory counts. -/
def qcZ (l k : List UInt8) (L : List (List UInt8)) : Int := (l.length : Int) + (k.length : Int) + (L.length : Int) + (sumL L : Int)
/-- What szQc leaves of m. -/
def szQZ (l k : List UInt8) (L : List (List UInt8)) (m : Int) : Int := if m < qcZ l k L then -1 else m - qcZ l k L
theorem szQZ_big {l k : List UInt8} {L : List (List UInt8)} {m : Int} (h : m < (l.length : Int) + (k.length : Int) + (L.length : Int) + (sumL L : Int)) : szQZ l k L m = -1 := if_pos h
theorem szQZ_ok {l k : List UInt8} {L : List (List UInt8)} {m : Int} (h : ¬ m < (l.length : Int) + (k.length : Int) + (L.length : Int) + (sumL L : Int)) : szQZ l k L m = m - ((l.length : Int) + (k.length : Int) + (L.length : Int) + (sumL L : Int)) := if_neg h
theorem szZ_big {L : List (List UInt8)} {m : Int} (h : m < (L.length : Int) + (sumL L : Int)) : szZ L m = -1 := if_pos h
theorem szZ_ok {L : List (List UInt8)} {m : Int} (h : ¬ m < (L.length : Int) + (sumL L : Int)) : szZ L m = m - (L.length : Int) - (sumL L : Int) := if_neg h
set_option maxHeartbeats 2000000 in
theorem szQc_any (x y : Int) (a b s : Value) (l k : List UInt8) (L : List (List UInt8)) (m : Int) (w : World) (ha : Sl w w.heap.size a l) (hb : Sl w w.heap.size b k) (hs : SlS w w.heap.size s L) (h0 : 0 ≤ m) (hm : m ≤ 1073741824) :
    Calls Try.prog 35 #[.agg #[.int .i64 x, .int .i64 y, a, b, s], .int .i64 m] w (fun e w' => e = .returned (.int .i64 (szQZ l k L m)) ∧ Below w.heap.size w w') := by
  obtain ⟨A, c, rfl, p1, p2, p0, p3⟩ := id ha
  obtain ⟨A', c', rfl, q1, q2, q0, q3⟩ := id hb
  obtain ⟨A'', c'', rfl, r1, r2, r0, r3⟩ := id hs
  clear p1 p2 p0 p3 q1 q2 q0 q3 r1 r2 r0 r3
  have hB : Below w.heap.size w (w.alloc (.cells #[.int .i64 x, .int .i64 y, .slice A l.length c, .slice A' k.length c', .slice A'' L.length c''] 28)) := (Below.refl _ w).alloc (Nat.le_refl _) _
  obtain ⟨R, hR⟩ : ∃ R, R = szQZ l k L m := ⟨_, rfl⟩
  rw [← hR]
  unfold szQZ qcZ at hR
  have HR := Lib.hid hR
  clear hR
  obtain ⟨N, hN⟩ : ∃ N : Int, N = (sumL L : Int) := ⟨_, rfl⟩
  have hN0 : 0 ≤ N := by omega
  have HN := Lib.hid hN
  clear hN
  by_cases hlt : m < (l.length : Int)
  · obtain rfl : R = -1 := by rw [HR.out, ← HN.out, if_pos (by omega)]
    go_enter Try.func35, Try.ntmps35
    go_wp2_with fail
    refine (szByteS_any _ l m _ (ha.up hB) h0 hm).mono ?_
    rw [if_pos hlt]
    rintro e w' ⟨rfl, hw⟩
    subst hw
    go_wp2
    go_ret
    exact ⟨rfl, hB⟩
  obtain ⟨u, hu⟩ : ∃ u : Int, u = m - (l.length : Int) := ⟨_, rfl⟩
  have HU := Lib.hid hu
  have hu0 : ¬ u < 0 := by omega
  have hu1 : u ≤ 1073741824 := by omega
  by_cases hlt2 : u < (k.length : Int)
  · obtain rfl : R = -1 := by rw [HR.out, ← HN.out, if_pos (by omega)]
    clear hu
    go_enter Try.func35, Try.ntmps35
    go_wp2_with fail
    refine (szByteS_any _ l m _ (ha.up hB) h0 hm).mono ?_
    rw [if_neg (show ¬ m < (l.length : Int) by omega), ← HU.out]
    rintro e w' ⟨rfl, hw⟩
    subst hw
    go_wp2_with fail
    refine (szByteS_any _ k u _ (hb.up hB) (by omega) hu1).mono ?_
    rw [if_pos hlt2]
    rintro e w' ⟨rfl, hw⟩
    subst hw
    go_wp2
    go_ret
    exact ⟨rfl, hB⟩
  obtain ⟨t, ht⟩ : ∃ t : Int, t = u - (k.length : Int) := ⟨_, rfl⟩
  have HT := Lib.hid ht
  have ht0 : ¬ t < 0 := by omega
  have ht1 : t ≤ 1073741824 := by omega
  by_cases hlt3 : t < (L.length : Int) + N
  · obtain rfl : R = -1 := by rw [HR.out, ← HN.out, if_pos (by omega)]
    have hz : Hid (szZ L t = -1) := Lib.hid (szZ_big (by rw [← HN.out]; exact hlt3))
    clear hu ht
    go_enter Try.func35, Try.ntmps35
    go_wp2_with fail
    refine (szByteS_any _ l m _ (ha.up hB) h0 hm).mono ?_
    rw [if_neg (show ¬ m < (l.length : Int) by omega), ← HU.out]
    rintro e w' ⟨rfl, hw⟩
    subst hw
    go_wp2_with fail
    refine (szByteS_any _ k u _ (hb.up hB) (by omega) hu1).mono ?_
    rw [if_neg (show ¬ u < (k.length : Int) by omega), ← HT.out]
    rintro e w' ⟨rfl, hw⟩
    subst hw
    go_wp2_with fail
    refine (szByteSS_any _ L t _ (hs.up hB) (by omega) ht1).mono ?_
    rw [hz.out]
    rintro e w' ⟨rfl, hw⟩
    subst hw
    go_wp2
    go_ret
    exact ⟨rfl, hB⟩
  · obtain ⟨z, hz⟩ : ∃ z : Int, z = t - (L.length : Int) - N := ⟨_, rfl⟩
    obtain rfl : R = z := by rw [HR.out, ← HN.out, if_neg (by omega), hz]; omega
    have hz0 : ¬ R < 0 := by omega
    have hZ : Hid (szZ L t = R) := Lib.hid (by rw [szZ_ok (by rw [← HN.out]; exact hlt3), ← HN.out, hz])
    clear hu ht hz
    go_enter Try.func35, Try.ntmps35
    go_wp2_with fail
    refine (szByteS_any _ l m _ (ha.up hB) h0 hm).mono ?_
    rw [if_neg (show ¬ m < (l.length : Int) by omega), ← HU.out]
    rintro e w' ⟨rfl, hw⟩
    subst hw
    go_wp2_with fail
    refine (szByteS_any _ k u _ (hb.up hB) (by omega) hu1).mono ?_
    rw [if_neg (show ¬ u < (k.length : Int) by omega), ← HT.out]
    rintro e w' ⟨rfl, hw⟩
    subst hw
    go_wp2_with fail
    refine (szByteSS_any _ L t _ (hs.up hB) (by omega) ht1).mono ?_
    rw [hZ.out]
    rintro e w' ⟨rfl, hw⟩
    subst hw
    go_wp2
    go_ret
    exact ⟨rfl, hB⟩

/-- The call returns a certificate of new rows; nothing that was there has turned. -/
def FreshQ (w : World) (x y : Int) (l k : List UInt8) (L : List (List UInt8)) (e : Ending) (w' : World) : Prop :=
  ∃ a b s vs, e = .returned (.agg #[.int .i64 x, .int .i64 y, a, b, s]) ∧ vs.length = L.length ∧ InvF w w' [segB 5 a l, segB 5 b k, segS 25 5 s vs L]
theorem InvF.openB' {W w : World} {ss : List (List Row)} {v : Value} {l : List UInt8} (H : InvF W w ss) (h : segB 5 v l ∈ ss) : ∃ A c, v = .slice A l.length c := by
  obtain ⟨A, c, rfl, _⟩ := H.slB 5 h
  exact ⟨A, c, rfl⟩
theorem InvF.openS {W w : World} {ss : List (List Row)} {v : Value} {vs : List Value} {L : List (List UInt8)} (H : InvF W w ss) (hv : vs.length = L.length) (h : segS 25 5 v vs L ∈ ss) : ∃ A c, v = .slice A L.length c := by
  obtain ⟨A, c, rfl, _⟩ := H.slS 25 5 hv h
  exact ⟨A, c, rfl⟩

set_option maxHeartbeats 2000000 in
theorem toQc_any (x y : Int) (a b s : Value) (l k : List UInt8) (L : List (List UInt8)) (w : World) (ha : Sl w w.heap.size a l) (hb : Sl w w.heap.size b k) (hs : SlS w w.heap.size s L) (hl : l.length ≤ 1048576) (hk : k.length ≤ 1048576) (hL : L.length ≤ 1048576) (hN : sumL L ≤ 1048576) :
    Calls Try.prog 42 #[.agg #[.int .i64 x, .int .i64 y, a, b, s]] w (FreshQ w x y l k L) := by
  obtain ⟨A, c, rfl, p1, p2, p0, p3⟩ := id ha
  obtain ⟨A', c', rfl, q1, q2, q0, q3⟩ := id hb
  obtain ⟨A'', c'', rfl, r1, r2, r0, r3⟩ := id hs
  clear p1 p2 p0 p3 q1 q2 q0 q3 r1 r2 r0 r3
  have H0 := (((InvF.start w).newG 28 #[.int .i64 x, .int .i64 y, .slice A l.length c, .slice A' k.length c', .slice A'' L.length c''] w.heap.size).newG 36 #[.int .i64 0, .int .i64 0, .slice none 0 0, .slice none 0 0, .slice none 0 0] (w.heap.size + 1)).newG 36 #[.int .i64 x, .int .i64 y, .slice none 0 0, .slice none 0 0, .slice none 0 0] (w.heap.size + 1 + 1)
  go_enter Try.func42, Try.ntmps42
  go_wp2_with fail
  refine (toByteS_any _ l _ (ha.up H0.bel) (by omega)).mono ?_
  rintro e w4 ⟨u4, rfl, ho4, hb4⟩
  have H4 := H0.moreB ho4 hb4
  clear H0 ho4 hb4
  obtain ⟨A4, c4, rfl⟩ := H4.openB' (.head _)
  obtain ⟨o0, o1, o2, o3, o4⟩ := H4.c5 (.tail _ (.head _))
  obtain ⟨_, _, f2, f3, f4⟩ := H4.f5 (.tail _ (.head _))
  obtain ⟨a0, a1, a2, a3, a4⟩ := H4.c5 (.tail _ (.tail _ (.tail _ (.head _))))
  have h4 := H4.ltX (.tail _ (.head _))
  go_wp2_with fail
  have H5 := (H4.front 1 rfl).setX 2 (.slice A4 l.length c4)
  clear H4 o0 o1 o2 o3 o4 f2 f3 f4 a0 a1 a2 a3 a4 h4
  refine (toByteS_any _ k _ (hb.up H5.bel) (by omega)).mono ?_
  rintro e w6 ⟨u6, rfl, ho6, hb6⟩
  have H6 : InvF w w6 [segB 5 u6 k, segX 36 (w.heap.size + 1 + 1) [.int .i64 x, .int .i64 y, .slice A4 l.length c4, .slice none 0 0, .slice none 0 0], segB 5 (.slice A4 l.length c4) l, segX 36 (w.heap.size + 1) [.int .i64 0, .int .i64 0, .slice none 0 0, .slice none 0 0, .slice none 0 0], segX 28 w.heap.size [.int .i64 x, .int .i64 y, .slice A l.length c, .slice A' k.length c', .slice A'' L.length c'']] := H5.moreB ho6 hb6
  clear H5 ho6 hb6
  obtain ⟨A6, c6, rfl⟩ := H6.openB' (.head _)
  obtain ⟨o0, o1, o2, o3, o4⟩ := H6.c5 (.tail _ (.head _))
  obtain ⟨_, _, _, f3, f4⟩ := H6.f5 (.tail _ (.head _))
  obtain ⟨a0, a1, a2, a3, a4⟩ := H6.c5 (.tail _ (.tail _ (.tail _ (.tail _ (.head _)))))
  have h6 := H6.ltX (.tail _ (.head _))
  go_wp2_with fail
  have H7 := (H6.front 1 rfl).setX 3 (.slice A6 k.length c6)
  clear H6 o0 o1 o2 o3 o4 f3 f4 a0 a1 a2 a3 a4 h6
  refine (toByteSS_any _ L _ (hs.up H7.bel) hL hN).mono ?_
  rintro e w8 ⟨u8, vs, rfl, hv, K8⟩
  have H8 : InvF w w8 [segS 25 5 u8 vs L, segX 36 (w.heap.size + 1 + 1) [.int .i64 x, .int .i64 y, .slice A4 l.length c4, .slice A6 k.length c6, .slice none 0 0], segB 5 (.slice A6 k.length c6) k, segB 5 (.slice A4 l.length c4) l, segX 36 (w.heap.size + 1) [.int .i64 0, .int .i64 0, .slice none 0 0, .slice none 0 0, .slice none 0 0], segX 28 w.heap.size [.int .i64 x, .int .i64 y, .slice A l.length c, .slice A' k.length c', .slice A'' L.length c'']] := H7.more K8
  clear H7 K8
  obtain ⟨A8, c8, rfl⟩ := H8.openS hv (.head _)
  have HV := Lib.hid hv
  clear hv
  obtain ⟨o0, o1, o2, o3, o4⟩ := H8.c5 (.tail _ (.head _))
  obtain ⟨_, _, _, _, f4⟩ := H8.f5 (.tail _ (.head _))
  obtain ⟨r0, r1, r2, r3, r4⟩ := H8.c5 (.tail _ (.tail _ (.tail _ (.tail _ (.head _)))))
  obtain ⟨q0, q1, q2, q3, q4⟩ := H8.f5 (.tail _ (.tail _ (.tail _ (.tail _ (.head _)))))
  have h6 := H8.ltX (.tail _ (.head _))
  have h7 := H8.ltX (.tail _ (.tail _ (.tail _ (.tail _ (.head _)))))
  have K6 := Lib.hid H8
  clear H8
  go_wp2
  refine bodyPost_ret (v := .agg #[.int .i64 x, .int .i64 y, .slice A4 l.length c4, .slice A6 k.length c6, .slice A8 L.length c8]) (by simp [results, Try.results42, go_sem, r0, r1, r2, r3, r4]) rfl ⟨_, _, _, vs, rfl, HV.out, ?_⟩
  have K7 := ((((K6.out.front 1 rfl).setX 4 (.slice A8 L.length c8)).front 4 rfl).over5 (.int .i64 x) (.int .i64 y) (.slice A4 l.length c4) (.slice A6 k.length c6) (.slice A8 L.length c8)).sub (qs := [segS 25 5 (.slice A8 L.length c8) vs L, segB 5 (.slice A6 k.length c6) k, segB 5 (.slice A4 l.length c4) l]) (.cons _ (.cons _ (.cons_cons _ (.cons_cons _ (.cons_cons _ (.cons _ .slnil))))))
  exact (K7.front 1 rfl).front 2 rfl

set_option maxHeartbeats 2000000 in
theorem eqQc_any (x y : Int) (a b s a' b' s' : Value) (l k : List UInt8) (L : List (List UInt8)) (w : World) (ha : Sl w w.heap.size a l) (hb : Sl w w.heap.size b k) (hs : SlS w w.heap.size s L) (ha' : Sl w w.heap.size a' l) (hb' : Sl w w.heap.size b' k) (hs' : SlS w w.heap.size s' L) :
    Calls Try.prog 50 #[.agg #[.int .i64 x, .int .i64 y, a, b, s], .agg #[.int .i64 x, .int .i64 y, a', b', s']] w (Yes w) := by
  obtain ⟨A, c, rfl, p1, p2, p0, p3⟩ := id ha
  obtain ⟨B, d, rfl, q1, q2, q0, q3⟩ := id hb
  obtain ⟨C, f, rfl, r1, r2, r0, r3⟩ := id hs
  clear p1 p2 p0 p3 q1 q2 q0 q3 r1 r2 r0 r3
  obtain ⟨A', c', rfl, p1, p2, p0, p3⟩ := id ha'
  obtain ⟨B', d', rfl, q1, q2, q0, q3⟩ := id hb'
  obtain ⟨C', f', rfl, r1, r2, r0, r3⟩ := id hs'
  clear p1 p2 p0 p3 q1 q2 q0 q3 r1 r2 r0 r3
  have n0 : (x != x) = false := by simp
  have n1 : (y != y) = false := by simp
  have hB : Below w.heap.size w ((w.alloc (.cells #[.int .i64 x, .int .i64 y, .slice A l.length c, .slice B k.length d, .slice C L.length f] 36)).alloc (.cells #[.int .i64 x, .int .i64 y, .slice A' l.length c', .slice B' k.length d', .slice C' L.length f'] 36)) := ((Below.refl _ w).alloc (Nat.le_refl _) _).alloc (by simp) _
  go_enter Try.func50, Try.ntmps50
  go_wp2_with fail
  refine (eqByteS_any _ _ l _ (ha.up hB) (ha'.up hB)).mono ?_
  rintro e _ ⟨rfl, m, rfl⟩
  go_wp2_with fail
  refine (eqByteS_any _ _ k _ ((hb.up hB).drewN m) ((hb'.up hB).drewN m)).mono ?_
  rintro e _ ⟨rfl, n, rfl⟩
  go_wp2_with fail
  refine (eqByteSS_any _ _ L _ ((hs.up hB).drewN (m + n)) ((hs'.up hB).drewN (m + n))).mono ?_
  rintro e _ ⟨rfl, p, rfl⟩
  go_wp2_with fail
  go_ret
  exact ⟨rfl, below_drewN hB (m + n + p)⟩

set_option maxHeartbeats 2000000 in
theorem markQc_z (x y : Int) (W w : World) (a b s : Value) (vs : List Value) (l k : List UInt8) (L : List (List UInt8)) (ss : List (List Row)) (m : Nat) (mz : Int) (hv : vs.length = L.length) (K : InvF W w (segB 5 a l :: segB 5 b k :: segS 25 5 s vs L :: ss)) (hz : mz = (m : Int)) (hm : m ≤ 268435456) (hl : l.length ≤ 4194304) (hk : k.length ≤ 4194304) (hN : sumL L ≤ 4194304) :
    Calls Try.prog 65 #[.agg #[.int .i64 x, .int .i64 y, a, b, s], .int .i64 mz] w (fun e w' => e = .returned (.int .i64 (mz + (l.length : Int) + (k.length : Int) + (sumL L : Int))) ∧
      InvF W w' (segB 5 a (marks m l.length) :: segB 5 b (marks (m + l.length) k.length) :: segS 25 5 s vs (marksS (m + l.length + k.length) L) :: ss)) := by
  obtain ⟨A, c, rfl⟩ := K.openB' (.head _)
  obtain ⟨B, d, rfl⟩ := K.openB' (.tail _ (.head _))
  obtain ⟨C, f, rfl⟩ := K.openS hv (.tail _ (.tail _ (.head _)))
  have HV := Lib.hid hv
  have K1 := K.newG 36 #[.int .i64 x, .int .i64 y, .slice A l.length c, .slice B k.length d, .slice C L.length f] w.heap.size
  replace K1 := Lib.hid (K1.front 1 rfl)
  have HZ := Lib.hid hz
  have hz2 : Hid (mz + (l.length : Int) = ((m + l.length : Nat) : Int)) := Lib.hid (by omega)
  have hz3 : Hid (mz + (l.length : Int) + (k.length : Int) = ((m + l.length + k.length : Nat) : Int)) := Lib.hid (by omega)
  have hb0 : 0 ≤ mz := by omega
  have hb1 : mz ≤ 268435456 := by omega
  have HN := Lib.hid hN
  clear K hz hv hN
  go_enter Try.func65, Try.ntmps65
  go_wp2_with fail
  refine (markByteS_z _ l m _ _ _ (K1.out.ownB 5 (.head _)) HZ.out (by omega) (by omega)).mono ?_
  rintro e w2 ⟨rfl, ho, hg⟩
  have K2 := K1.out.wroteB ho hg
  clear ho hg K1
  obtain ⟨o0, o1, o2, o3, o4⟩ := K2.c5 (.tail _ (.head _))
  replace K2 := Lib.hid (K2.front 2 rfl)
  go_wp2_with fail
  refine (markByteS_z _ k (m + l.length) _ _ _ (K2.out.ownB 5 (.head _)) hz2.out (by omega) (by omega)).mono ?_
  rintro e w3 ⟨rfl, ho, hg⟩
  have K3 := K2.out.wroteB ho hg
  clear ho hg K2 o0 o1 o2 o3 o4
  obtain ⟨o0, o1, o2, o3, o4⟩ := K3.c5 (.tail _ (.tail _ (.head _)))
  replace K3 := Lib.hid (K3.front 3 rfl)
  go_wp2_with fail
  refine (markByteSS_z W _ _ vs L _ (m + l.length + k.length) _ HV.out K3.out hz3.out (by omega) (by have := HN.out; omega)).mono ?_
  rintro e w4 ⟨rfl, K4⟩
  have K5 := Lib.hid (((K4.front 1 rfl).front 2 rfl).sub (qs := segB 5 (.slice A l.length c) (marks m l.length) :: segB 5 (.slice B k.length d) (marks (m + l.length) k.length) :: segS 25 5 (.slice C L.length f) vs (marksS (m + l.length + k.length) L) :: ss) (.cons_cons _ (.cons_cons _ (.cons_cons _ (.cons _ (List.Sublist.refl _))))))
  clear K4 K3 o0 o1 o2 o3 o4
  go_wp2
  go_ret
  exact ⟨rfl, K5.out⟩

end Go.Proofs.Ytopbalemfljphaa
