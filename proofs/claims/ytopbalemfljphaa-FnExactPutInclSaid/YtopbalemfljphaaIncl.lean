/- Transaction proofs: the contracts of the helpers of exact laws on them: szIncl, toIncl, eqIncl, markIncl, heldIncl. -/
import Derived.Test.YtopbalemfljphaaQc
namespace Go.Proofs.Ytopbalemfljphaa
open Go.ChangeShapes Go.WideShapes Go.ChangeAt Go.RowKit

/-- What szIncl leaves of m. -/
def szIZ (l : List UInt8) (L : List (List UInt8)) (m : Int) : Int := if m < (l.length : Int) + (L.length : Int) + (sumL L : Int) then -1 else m - ((l.length : Int) + (L.length : Int) + (sumL L : Int))
theorem szIZ_big {l : List UInt8} {L : List (List UInt8)} {m : Int} (h : m < (l.length : Int) + (L.length : Int) + (sumL L : Int)) : szIZ l L m = -1 := if_pos h
theorem szIZ_ok {l : List UInt8} {L : List (List UInt8)} {m : Int} (h : ¬ m < (l.length : Int) + (L.length : Int) + (sumL L : Int)) : szIZ l L m = m - ((l.length : Int) + (L.length : Int) + (sumL L : Int)) := if_neg h
set_option maxHeartbeats 2000000 in
theorem szIncl_any (x y z : Int) (a s : Value) (l : List UInt8) (L : List (List UInt8)) (m : Int) (w : World) (ha : Sl w w.heap.size a l) (hs : SlS w w.heap.size s L) (h0 : 0 ≤ m) (hm : m ≤ 1073741824) :
    Calls Try.prog 24 #[.agg #[.int .i64 x, .int .i64 y, .int .i64 z, a, s], .int .i64 m] w (fun e w' => e = .returned (.int .i64 (szIZ l L m)) ∧ Below w.heap.size w w') := by
  obtain ⟨A, c, rfl, p1, p2, p0, p3⟩ := id ha
  obtain ⟨A'', c'', rfl, r1, r2, r0, r3⟩ := id hs
  clear p1 p2 p0 p3 r1 r2 r0 r3
  have hB : Below w.heap.size w (w.alloc (.cells #[.int .i64 x, .int .i64 y, .int .i64 z, .slice A l.length c, .slice A'' L.length c''] 51)) := (Below.refl _ w).alloc (Nat.le_refl _) _
  obtain ⟨R, hR⟩ : ∃ R, R = szIZ l L m := ⟨_, rfl⟩
  rw [← hR]
  unfold szIZ at hR
  have HR := Lib.hid hR
  clear hR
  obtain ⟨N, hN⟩ : ∃ N : Int, N = (sumL L : Int) := ⟨_, rfl⟩
  have hN0 : 0 ≤ N := by omega
  have HN := Lib.hid hN
  clear hN
  by_cases hlt : m < (l.length : Int)
  · obtain rfl : R = -1 := by rw [HR.out, ← HN.out, if_pos (by omega)]
    go_enter Try.func24, Try.ntmps24
    go_wp2_with fail
    refine (szByteS_any _ l m _ (ha.up hB) h0 hm).mono ?_
    rw [if_pos hlt]
    rintro e w' ⟨rfl, hw⟩
    subst hw
    go_wp2
    go_ret
    exact ⟨rfl, hB⟩
  obtain ⟨t, ht⟩ : ∃ t : Int, t = m - (l.length : Int) := ⟨_, rfl⟩
  have HT := Lib.hid ht
  have ht0 : ¬ t < 0 := by omega
  have ht1 : t ≤ 1073741824 := by omega
  by_cases hlt3 : t < (L.length : Int) + N
  · obtain rfl : R = -1 := by rw [HR.out, ← HN.out, if_pos (by omega)]
    have hz : Hid (szZ L t = -1) := Lib.hid (szZ_big (by rw [← HN.out]; exact hlt3))
    clear ht
    go_enter Try.func24, Try.ntmps24
    go_wp2_with fail
    refine (szByteS_any _ l m _ (ha.up hB) h0 hm).mono ?_
    rw [if_neg (show ¬ m < (l.length : Int) by omega), ← HT.out]
    rintro e w' ⟨rfl, hw⟩
    subst hw
    go_wp2_with fail
    refine (szByteSS_any _ L t _ (hs.up hB) (by omega) ht1).mono ?_
    rw [hz.out]
    rintro e w' ⟨rfl, hw⟩
    subst hw
    go_wp2
    go_ret
    exact ⟨rfl, hB⟩
  · obtain ⟨q, hz⟩ : ∃ q : Int, q = t - (L.length : Int) - N := ⟨_, rfl⟩
    obtain rfl : R = q := by rw [HR.out, ← HN.out, if_neg (by omega), hz]; omega
    have hz0 : ¬ R < 0 := by omega
    have hZ : Hid (szZ L t = R) := Lib.hid (by rw [szZ_ok (by rw [← HN.out]; exact hlt3), ← HN.out, hz])
    clear ht hz
    go_enter Try.func24, Try.ntmps24
    go_wp2_with fail
    refine (szByteS_any _ l m _ (ha.up hB) h0 hm).mono ?_
    rw [if_neg (show ¬ m < (l.length : Int) by omega), ← HT.out]
    rintro e w' ⟨rfl, hw⟩
    subst hw
    go_wp2_with fail
    refine (szByteSS_any _ L t _ (hs.up hB) (by omega) ht1).mono ?_
    rw [hZ.out]
    rintro e w' ⟨rfl, hw⟩
    subst hw
    go_wp2
    go_ret
    exact ⟨rfl, hB⟩

/-- The call returns a transaction proof of new rows; nothing that was there has turned. -/
def FreshIn (w : World) (x y z : Int) (l : List UInt8) (L : List (List UInt8)) (e : Ending) (w' : World) : Prop :=
  ∃ a s vs, e = .returned (.agg #[.int .i64 x, .int .i64 y, .int .i64 z, a, s]) ∧ vs.length = L.length ∧ InvF w w' [segB 5 a l, segS 25 5 s vs L]
set_option maxHeartbeats 2000000 in
theorem toIncl_any (x y z : Int) (a s : Value) (l : List UInt8) (L : List (List UInt8)) (w : World) (ha : Sl w w.heap.size a l) (hs : SlS w w.heap.size s L) (hl : l.length ≤ 1048576) (hL : L.length ≤ 1048576) (hN : sumL L ≤ 1048576) :
    Calls Try.prog 26 #[.agg #[.int .i64 x, .int .i64 y, .int .i64 z, a, s]] w (FreshIn w x y z l L) := by
  obtain ⟨A, c, rfl, p1, p2, p0, p3⟩ := id ha
  obtain ⟨A'', c'', rfl, r1, r2, r0, r3⟩ := id hs
  clear p1 p2 p0 p3 r1 r2 r0 r3
  have H0 := (((InvF.start w).newG 51 #[.int .i64 x, .int .i64 y, .int .i64 z, .slice A l.length c, .slice A'' L.length c''] w.heap.size).newG 54 #[.int .i64 0, .int .i64 0, .int .i64 0, .slice none 0 0, .slice none 0 0] (w.heap.size + 1)).newG 54 #[.int .i64 x, .int .i64 y, .int .i64 z, .slice none 0 0, .slice none 0 0] (w.heap.size + 1 + 1)
  go_enter Try.func26, Try.ntmps26
  go_wp2_with fail
  refine (toByteS_any _ l _ (ha.up H0.bel) (by omega)).mono ?_
  rintro e w6 ⟨u6, rfl, ho6, hb6⟩
  have H6 : InvF w w6 [segB 5 u6 l, segX 54 (w.heap.size + 1 + 1) [.int .i64 x, .int .i64 y, .int .i64 z, .slice none 0 0, .slice none 0 0], segX 54 (w.heap.size + 1) [.int .i64 0, .int .i64 0, .int .i64 0, .slice none 0 0, .slice none 0 0], segX 51 w.heap.size [.int .i64 x, .int .i64 y, .int .i64 z, .slice A l.length c, .slice A'' L.length c'']] := H0.moreB ho6 hb6
  clear H0 ho6 hb6
  obtain ⟨A6, c6, rfl⟩ := H6.openB' (.head _)
  obtain ⟨o0, o1, o2, o3, o4⟩ := H6.c5 (.tail _ (.head _))
  obtain ⟨_, _, _, f3, f4⟩ := H6.f5 (.tail _ (.head _))
  obtain ⟨a0, a1, a2, a3, a4⟩ := H6.c5 (.tail _ (.tail _ (.tail _ (.head _))))
  have h6 := H6.ltX (.tail _ (.head _))
  go_wp2_with fail
  have H7 := (H6.front 1 rfl).setX 3 (.slice A6 l.length c6)
  clear H6 o0 o1 o2 o3 o4 f3 f4 a0 a1 a2 a3 a4 h6
  refine (toByteSS_any _ L _ (hs.up H7.bel) hL hN).mono ?_
  rintro e w8 ⟨u8, vs, rfl, hv, K8⟩
  have H8 : InvF w w8 [segS 25 5 u8 vs L, segX 54 (w.heap.size + 1 + 1) [.int .i64 x, .int .i64 y, .int .i64 z, .slice A6 l.length c6, .slice none 0 0], segB 5 (.slice A6 l.length c6) l, segX 54 (w.heap.size + 1) [.int .i64 0, .int .i64 0, .int .i64 0, .slice none 0 0, .slice none 0 0], segX 51 w.heap.size [.int .i64 x, .int .i64 y, .int .i64 z, .slice A l.length c, .slice A'' L.length c'']] := H7.more K8
  clear H7 K8
  obtain ⟨A8, c8, rfl⟩ := H8.openS hv (.head _)
  have HV := Lib.hid hv
  clear hv
  obtain ⟨o0, o1, o2, o3, o4⟩ := H8.c5 (.tail _ (.head _))
  obtain ⟨_, _, _, _, f4⟩ := H8.f5 (.tail _ (.head _))
  obtain ⟨r0, r1, r2, r3, r4⟩ := H8.c5 (.tail _ (.tail _ (.tail _ (.head _))))
  obtain ⟨q0, q1, q2, q3, q4⟩ := H8.f5 (.tail _ (.tail _ (.tail _ (.head _))))
  have h6 := H8.ltX (.tail _ (.head _))
  have h7 := H8.ltX (.tail _ (.tail _ (.tail _ (.head _))))
  have K6 := Lib.hid H8
  clear H8
  go_wp2
  refine bodyPost_ret (v := .agg #[.int .i64 x, .int .i64 y, .int .i64 z, .slice A6 l.length c6, .slice A8 L.length c8]) (by simp [results, Try.results26, go_sem, r0, r1, r2, r3, r4]) rfl ⟨_, _, vs, rfl, HV.out, ?_⟩
  have K7 := ((((K6.out.front 1 rfl).setX 4 (.slice A8 L.length c8)).front 3 rfl).over5 (.int .i64 x) (.int .i64 y) (.int .i64 z) (.slice A6 l.length c6) (.slice A8 L.length c8)).sub (qs := [segS 25 5 (.slice A8 L.length c8) vs L, segB 5 (.slice A6 l.length c6) l]) (.cons _ (.cons _ (.cons_cons _ (.cons_cons _ (.cons _ .slnil)))))
  exact K7.front 1 rfl

set_option maxHeartbeats 2000000 in
theorem eqIncl_any (x y z : Int) (a s a' s' : Value) (l : List UInt8) (L : List (List UInt8)) (w : World) (ha : Sl w w.heap.size a l) (hs : SlS w w.heap.size s L) (ha' : Sl w w.heap.size a' l) (hs' : SlS w w.heap.size s' L) :
    Calls Try.prog 28 #[.agg #[.int .i64 x, .int .i64 y, .int .i64 z, a, s], .agg #[.int .i64 x, .int .i64 y, .int .i64 z, a', s']] w (Yes w) := by
  obtain ⟨A, c, rfl, p1, p2, p0, p3⟩ := id ha
  obtain ⟨C, f, rfl, r1, r2, r0, r3⟩ := id hs
  clear p1 p2 p0 p3 r1 r2 r0 r3
  obtain ⟨A', c', rfl, p1, p2, p0, p3⟩ := id ha'
  obtain ⟨C', f', rfl, r1, r2, r0, r3⟩ := id hs'
  clear p1 p2 p0 p3 r1 r2 r0 r3
  have n0 : (x != x) = false := by simp
  have n1 : (y != y) = false := by simp
  have n2 : (z != z) = false := by simp
  have hB : Below w.heap.size w ((w.alloc (.cells #[.int .i64 x, .int .i64 y, .int .i64 z, .slice A l.length c, .slice C L.length f] 54)).alloc (.cells #[.int .i64 x, .int .i64 y, .int .i64 z, .slice A' l.length c', .slice C' L.length f'] 54)) := ((Below.refl _ w).alloc (Nat.le_refl _) _).alloc (by simp) _
  go_enter Try.func28, Try.ntmps28
  go_wp2_with fail
  refine (eqByteS_any _ _ l _ (ha.up hB) (ha'.up hB)).mono ?_
  rintro e _ ⟨rfl, m, rfl⟩
  go_wp2_with fail
  refine (eqByteSS_any _ _ L _ ((hs.up hB).drewN m) ((hs'.up hB).drewN m)).mono ?_
  rintro e _ ⟨rfl, p, rfl⟩
  go_wp2_with fail
  go_ret
  exact ⟨rfl, below_drewN hB (m + p)⟩

set_option maxHeartbeats 2000000 in
theorem markIncl_z (x y z : Int) (W w : World) (a s : Value) (vs : List Value) (l : List UInt8) (L : List (List UInt8)) (ss : List (List Row)) (m : Nat) (mz : Int) (hv : vs.length = L.length) (K : InvF W w (segB 5 a l :: segS 25 5 s vs L :: ss)) (hz : mz = (m : Int)) (hm : m ≤ 268435456) (hl : l.length ≤ 4194304) (hN : sumL L ≤ 4194304) :
    Calls Try.prog 33 #[.agg #[.int .i64 x, .int .i64 y, .int .i64 z, a, s], .int .i64 mz] w (fun e w' => e = .returned (.int .i64 (mz + (l.length : Int) + (sumL L : Int))) ∧
      InvF W w' (segB 5 a (marks m l.length) :: segS 25 5 s vs (marksS (m + l.length) L) :: ss)) := by
  obtain ⟨A, c, rfl⟩ := K.openB' (.head _)
  obtain ⟨C, f, rfl⟩ := K.openS hv (.tail _ (.head _))
  have HV := Lib.hid hv
  have K1 := K.newG 54 #[.int .i64 x, .int .i64 y, .int .i64 z, .slice A l.length c, .slice C L.length f] w.heap.size
  replace K1 := Lib.hid (K1.front 1 rfl)
  have HZ := Lib.hid hz
  have hz2 : Hid (mz + (l.length : Int) = ((m + l.length : Nat) : Int)) := Lib.hid (by omega)
  have hb0 : 0 ≤ mz := by omega
  have hb1 : mz ≤ 268435456 := by omega
  have HN := Lib.hid hN
  clear K hz hv hN
  go_enter Try.func33, Try.ntmps33
  go_wp2_with fail
  refine (markByteS_z _ l m _ _ _ (K1.out.ownB 5 (.head _)) HZ.out (by omega) (by omega)).mono ?_
  rintro e w2 ⟨rfl, ho, hg⟩
  have K2 := K1.out.wroteB ho hg
  clear ho hg K1
  obtain ⟨o0, o1, o2, o3, o4⟩ := K2.c5 (.tail _ (.head _))
  replace K2 := Lib.hid (K2.front 2 rfl)
  go_wp2_with fail
  refine (markByteSS_z W _ _ vs L _ (m + l.length) _ HV.out K2.out hz2.out (by omega) (by have := HN.out; omega)).mono ?_
  rintro e w4 ⟨rfl, K4⟩
  have K5 := Lib.hid ((K4.front 1 rfl).sub (qs := segB 5 (.slice A l.length c) (marks m l.length) :: segS 25 5 (.slice C L.length f) vs (marksS (m + l.length) L) :: ss) (.cons_cons _ (.cons_cons _ (.cons _ (List.Sublist.refl _)))))
  clear K4 K2 o0 o1 o2 o3 o4
  go_wp2
  go_ret
  exact ⟨rfl, K5.out⟩

end Go.Proofs.Ytopbalemfljphaa
