/- Headers: the contracts of the helpers of exact laws on them: szHead, toHead, eqHead, markHead, heldHead. -/
import Derived.Test.YtopbalemfljphaaMid
import Derived.Test.YtopbalemfljphaaQc
namespace Go.Proofs.Ytopbalemfljphaa
open Go.ChangeShapes Go.WideShapes Go.ChangeAt Go.RowKit

/-- What szHead leaves of m. -/
def szHZ (l k ql qk : List UInt8) (L : List (List UInt8)) (m : Int) : Int := if m < (l.length : Int) + (k.length : Int) + (ql.length : Int) + (qk.length : Int) + (L.length : Int) + (sumL L : Int) then -1 else m - ((l.length : Int) + (k.length : Int) + (ql.length : Int) + (qk.length : Int) + (L.length : Int) + (sumL L : Int))
theorem szHZ_big {l k ql qk : List UInt8} {L : List (List UInt8)} {m : Int} (h : m < (l.length : Int) + (k.length : Int) + (ql.length : Int) + (qk.length : Int) + (L.length : Int) + (sumL L : Int)) : szHZ l k ql qk L m = -1 := if_pos h
theorem szHZ_ok {l k ql qk : List UInt8} {L : List (List UInt8)} {m : Int} (h : ¬ m < (l.length : Int) + (k.length : Int) + (ql.length : Int) + (qk.length : Int) + (L.length : Int) + (sumL L : Int)) : szHZ l k ql qk L m = m - ((l.length : Int) + (k.length : Int) + (ql.length : Int) + (qk.length : Int) + (L.length : Int) + (sumL L : Int)) := if_neg h
set_option maxHeartbeats 4000000 in
theorem szHead_any (x y z qx qy : Int) (a b qa qb qs : Value) (l k ql qk : List UInt8) (L : List (List UInt8)) (m : Int) (w : World) (ha : Sl w w.heap.size a l) (hb : Sl w w.heap.size b k) (hqa : Sl w w.heap.size qa ql) (hqb : Sl w w.heap.size qb qk) (hqs : SlS w w.heap.size qs L) (h0 : 0 ≤ m) (hm : m ≤ 1073741824) :
    Calls Try.prog 87 #[.agg #[.int .i64 x, .int .i64 y, .int .i64 z, a, b, .int .i64 qx, .int .i64 qy, qa, qb, qs], .int .i64 m] w (fun e w' => e = .returned (.int .i64 (szHZ l k ql qk L m)) ∧ Below w.heap.size w w') := by
  obtain ⟨A, ac, rfl, p1, p2, p0, p3⟩ := id ha
  clear p1 p2 p0 p3
  obtain ⟨B, bc, rfl, p1, p2, p0, p3⟩ := id hb
  clear p1 p2 p0 p3
  obtain ⟨C, cc, rfl, p1, p2, p0, p3⟩ := id hqa
  clear p1 p2 p0 p3
  obtain ⟨D, dc, rfl, p1, p2, p0, p3⟩ := id hqb
  clear p1 p2 p0 p3
  obtain ⟨E, ec, rfl, p1, p2, p0, p3⟩ := id hqs
  clear p1 p2 p0 p3
  have hB : Below w.heap.size w (w.alloc (.cells #[.int .i64 x, .int .i64 y, .int .i64 z, .slice A l.length ac, .slice B k.length bc, .int .i64 qx, .int .i64 qy, .slice C ql.length cc, .slice D qk.length dc, .slice E L.length ec] 101)) := (Below.refl _ w).alloc (Nat.le_refl _) _
  obtain ⟨R, hR⟩ : ∃ R, R = szHZ l k ql qk L m := ⟨_, rfl⟩
  rw [← hR]
  unfold szHZ at hR
  have HR := Lib.hid hR
  clear hR
  obtain ⟨N, hN⟩ : ∃ N : Int, N = (sumL L : Int) := ⟨_, rfl⟩
  have hN0 : 0 ≤ N := by omega
  have HN := Lib.hid hN
  clear hN
  by_cases hlt : m < (l.length : Int)
  · obtain rfl : R = -1 := by rw [HR.out, ← HN.out, if_pos (by omega)]
    go_enter Try.func87, Try.ntmps87
    go_wp2_with fail
    refine (szByteS_any _ l m _ (ha.up hB) h0 hm).mono ?_
    rw [if_pos hlt]
    rintro e w' ⟨rfl, hw⟩
    subst hw
    go_wp2
    go_ret
    exact ⟨rfl, hB⟩
  obtain ⟨u, hu⟩ : ∃ u : Int, u = m - (l.length : Int) := ⟨_, rfl⟩
  have HU := Lib.hid hu
  have hu0 : ¬ u < 0 := by omega
  have hu1 : u ≤ 1073741824 := by omega
  by_cases hlt2 : u < (k.length : Int)
  · obtain rfl : R = -1 := by rw [HR.out, ← HN.out, if_pos (by omega)]
    clear hu
    go_enter Try.func87, Try.ntmps87
    go_wp2_with fail
    refine (szByteS_any _ l m _ (ha.up hB) h0 hm).mono ?_
    rw [if_neg (show ¬ m < (l.length : Int) by omega), ← HU.out]
    rintro e w' ⟨rfl, hw⟩
    subst hw
    go_wp2_with fail
    refine (szByteS_any _ k u _ (hb.up hB) (by omega) hu1).mono ?_
    rw [if_pos hlt2]
    rintro e w' ⟨rfl, hw⟩
    subst hw
    go_wp2
    go_ret
    exact ⟨rfl, hB⟩
  obtain ⟨t, ht⟩ : ∃ t : Int, t = u - (k.length : Int) := ⟨_, rfl⟩
  have HT := Lib.hid ht
  have ht0 : ¬ t < 0 := by omega
  have ht1 : t ≤ 1073741824 := by omega
  by_cases hlt3 : t < (ql.length : Int) + (qk.length : Int) + (L.length : Int) + N
  · obtain rfl : R = -1 := by rw [HR.out, ← HN.out, if_pos (by omega)]
    have hz : Hid (szQZ ql qk L t = -1) := Lib.hid (szQZ_big (by rw [← HN.out]; exact hlt3))
    clear hu ht
    go_enter Try.func87, Try.ntmps87
    go_wp2_with fail
    refine (szByteS_any _ l m _ (ha.up hB) h0 hm).mono ?_
    rw [if_neg (show ¬ m < (l.length : Int) by omega), ← HU.out]
    rintro e w' ⟨rfl, hw⟩
    subst hw
    go_wp2_with fail
    refine (szByteS_any _ k u _ (hb.up hB) (by omega) hu1).mono ?_
    rw [if_neg (show ¬ u < (k.length : Int) by omega), ← HT.out]
    rintro e w' ⟨rfl, hw⟩
    subst hw
    go_wp2_with fail
    refine (szQc_any qx qy _ _ _ ql qk L t _ (hqa.up hB) (hqb.up hB) (hqs.up hB) (by omega) ht1).mono ?_
    rw [hz.out]
    rintro e w' ⟨rfl, hw⟩
    go_wp2
    go_ret
    exact ⟨rfl, hB.trans (hw.mono hB.size)⟩
  · obtain ⟨zz, hz⟩ : ∃ zz : Int, zz = t - ((ql.length : Int) + (qk.length : Int) + (L.length : Int) + N) := ⟨_, rfl⟩
    obtain rfl : R = zz := by rw [HR.out, ← HN.out, if_neg (by omega), hz]; omega
    have hz0 : ¬ R < 0 := by omega
    have hZ : Hid (szQZ ql qk L t = R) := Lib.hid (by rw [szQZ_ok (by rw [← HN.out]; exact hlt3), ← HN.out, hz])
    clear hu ht hz
    go_enter Try.func87, Try.ntmps87
    go_wp2_with fail
    refine (szByteS_any _ l m _ (ha.up hB) h0 hm).mono ?_
    rw [if_neg (show ¬ m < (l.length : Int) by omega), ← HU.out]
    rintro e w' ⟨rfl, hw⟩
    subst hw
    go_wp2_with fail
    refine (szByteS_any _ k u _ (hb.up hB) (by omega) hu1).mono ?_
    rw [if_neg (show ¬ u < (k.length : Int) by omega), ← HT.out]
    rintro e w' ⟨rfl, hw⟩
    subst hw
    go_wp2_with fail
    refine (szQc_any qx qy _ _ _ ql qk L t _ (hqa.up hB) (hqb.up hB) (hqs.up hB) (by omega) ht1).mono ?_
    rw [hZ.out]
    rintro e w' ⟨rfl, hw⟩
    go_wp2
    go_ret
    exact ⟨rfl, hB.trans (hw.mono hB.size)⟩

/-- The call returns a header of new rows; nothing that was there has turned. -/
def FreshH (w : World) (x y z qx qy : Int) (l k ql qk : List UInt8) (L : List (List UInt8)) (e : Ending) (w' : World) : Prop :=
  ∃ a b qa qb qs vs, e = .returned (.agg #[.int .i64 x, .int .i64 y, .int .i64 z, a, b, .int .i64 qx, .int .i64 qy, qa, qb, qs]) ∧ vs.length = L.length ∧ InvF w w' [segB 5 a l, segB 5 b k, segB 5 qa ql, segB 5 qb qk, segS 25 5 qs vs L]

set_option maxRecDepth 100000 in
set_option maxHeartbeats 8000000 in
theorem toHead_any (x y z qx qy : Int) (a b qa qb qs : Value) (l k ql qk : List UInt8) (L : List (List UInt8)) (w : World) (ha : Sl w w.heap.size a l) (hb : Sl w w.heap.size b k) (hqa : Sl w w.heap.size qa ql) (hqb : Sl w w.heap.size qb qk) (hqs : SlS w w.heap.size qs L) (hl : l.length ≤ 1048576) (hk : k.length ≤ 1048576) (hql : ql.length ≤ 1048576) (hqk : qk.length ≤ 1048576) (hL : L.length ≤ 1048576) (hN : sumL L ≤ 1048576) :
    Calls Try.prog 93 #[.agg #[.int .i64 x, .int .i64 y, .int .i64 z, a, b, .int .i64 qx, .int .i64 qy, qa, qb, qs]] w (FreshH w x y z qx qy l k ql qk L) := by
  obtain ⟨A, ac, rfl, p1, p2, p0, p3⟩ := id ha
  clear p1 p2 p0 p3
  obtain ⟨B, bc, rfl, p1, p2, p0, p3⟩ := id hb
  clear p1 p2 p0 p3
  obtain ⟨C, cc, rfl, p1, p2, p0, p3⟩ := id hqa
  clear p1 p2 p0 p3
  obtain ⟨D, dc, rfl, p1, p2, p0, p3⟩ := id hqb
  clear p1 p2 p0 p3
  obtain ⟨E, ec, rfl, p1, p2, p0, p3⟩ := id hqs
  clear p1 p2 p0 p3
  have H0 := (((InvF.start w).newG 101 #[.int .i64 x, .int .i64 y, .int .i64 z, .slice A l.length ac, .slice B k.length bc, .int .i64 qx, .int .i64 qy, .slice C ql.length cc, .slice D qk.length dc, .slice E L.length ec] w.heap.size).newG 67 #[.int .i64 0, .int .i64 0, .int .i64 0, .slice none 0 0, .slice none 0 0, .int .i64 0, .int .i64 0, .slice none 0 0, .slice none 0 0, .slice none 0 0] (w.heap.size + 1)).newG 67 #[.int .i64 x, .int .i64 y, .int .i64 z, .slice none 0 0, .slice none 0 0, .int .i64 0, .int .i64 0, .slice none 0 0, .slice none 0 0, .slice none 0 0] (w.heap.size + 1 + 1)
  go_enter Try.func93, Try.ntmps93
  go_wp2_with fail
  refine (toByteS_any _ l _ (ha.up H0.bel) (by omega)).mono ?_
  rintro e w4 ⟨u4, rfl, ho4, hb4⟩
  have H4 : InvF w w4 [segB 5 u4 l, segX 67 (w.heap.size + 1 + 1) [.int .i64 x, .int .i64 y, .int .i64 z, .slice none 0 0, .slice none 0 0, .int .i64 0, .int .i64 0, .slice none 0 0, .slice none 0 0, .slice none 0 0], segX 67 (w.heap.size + 1) [.int .i64 0, .int .i64 0, .int .i64 0, .slice none 0 0, .slice none 0 0, .int .i64 0, .int .i64 0, .slice none 0 0, .slice none 0 0, .slice none 0 0], segX 101 w.heap.size [.int .i64 x, .int .i64 y, .int .i64 z, .slice A l.length ac, .slice B k.length bc, .int .i64 qx, .int .i64 qy, .slice C ql.length cc, .slice D qk.length dc, .slice E L.length ec]] := H0.moreB ho4 hb4
  clear H0 ho4 hb4
  obtain ⟨A4, c4, rfl⟩ := H4.openB' (.head _)
  obtain ⟨o0, o1, o2, o3, o4, o5, o6, o7, o8, o9⟩ := H4.c10 (.tail _ (.head _))
  obtain ⟨f0, f1, f2, f3, f4, f5, f6, f7, f8, f9⟩ := H4.f10 (.tail _ (.head _))
  obtain ⟨a0, a1, a2, a3, a4, a5, a6, a7, a8, a9⟩ := H4.c10 (.tail _ (.tail _ (.tail _ (.head _))))
  have h4 := H4.ltX (.tail _ (.head _))
  go_wp2_with fail
  have H5 := (H4.front 1 rfl).setX 3 (.slice A4 l.length c4)
  clear o0 o1 o2 o3 o4 o5 o6 o7 o8 o9 f0 f1 f2 f3 f4 f5 f6 f7 f8 f9 a0 a1 a2 a3 a4 a5 a6 a7 a8 a9 H4 h4
  refine (toByteS_any _ k _ (hb.up H5.bel) (by omega)).mono ?_
  rintro e w6 ⟨u6, rfl, ho6, hb6⟩
  have H6 : InvF w w6 [segB 5 u6 k, segX 67 (w.heap.size + 1 + 1) [.int .i64 x, .int .i64 y, .int .i64 z, .slice A4 l.length c4, .slice none 0 0, .int .i64 0, .int .i64 0, .slice none 0 0, .slice none 0 0, .slice none 0 0], segB 5 (.slice A4 l.length c4) l, segX 67 (w.heap.size + 1) [.int .i64 0, .int .i64 0, .int .i64 0, .slice none 0 0, .slice none 0 0, .int .i64 0, .int .i64 0, .slice none 0 0, .slice none 0 0, .slice none 0 0], segX 101 w.heap.size [.int .i64 x, .int .i64 y, .int .i64 z, .slice A l.length ac, .slice B k.length bc, .int .i64 qx, .int .i64 qy, .slice C ql.length cc, .slice D qk.length dc, .slice E L.length ec]] := H5.moreB ho6 hb6
  clear H5 ho6 hb6
  obtain ⟨A6, c6, rfl⟩ := H6.openB' (.head _)
  obtain ⟨o0, o1, o2, o3, o4, o5, o6, o7, o8, o9⟩ := H6.c10 (.tail _ (.head _))
  obtain ⟨f0, f1, f2, f3, f4, f5, f6, f7, f8, f9⟩ := H6.f10 (.tail _ (.head _))
  obtain ⟨a0, a1, a2, a3, a4, a5, a6, a7, a8, a9⟩ := H6.c10 (.tail _ (.tail _ (.tail _ (.tail _ (.head _)))))
  have h6 := H6.ltX (.tail _ (.head _))
  go_wp2_with fail
  have H7 := (H6.front 1 rfl).setX 4 (.slice A6 k.length c6)
  clear o0 o1 o2 o3 o4 o5 o6 o7 o8 o9 f0 f1 f2 f3 f4 f5 f6 f7 f8 f9 a0 a1 a2 a3 a4 a5 a6 a7 a8 a9 H6 h6
  refine (toQc_any qx qy _ _ _ ql qk L _ (hqa.up H7.bel) (hqb.up H7.bel) (hqs.up H7.bel) hql hqk hL hN).mono ?_
  rintro e w8 ⟨u1, u2, u3, vs, rfl, hv, K8⟩
  have H8 : InvF w w8 [segB 5 u1 ql, segB 5 u2 qk, segS 25 5 u3 vs L, segX 67 (w.heap.size + 1 + 1) [.int .i64 x, .int .i64 y, .int .i64 z, .slice A4 l.length c4, .slice A6 k.length c6, .int .i64 0, .int .i64 0, .slice none 0 0, .slice none 0 0, .slice none 0 0], segB 5 (.slice A6 k.length c6) k, segB 5 (.slice A4 l.length c4) l, segX 67 (w.heap.size + 1) [.int .i64 0, .int .i64 0, .int .i64 0, .slice none 0 0, .slice none 0 0, .int .i64 0, .int .i64 0, .slice none 0 0, .slice none 0 0, .slice none 0 0], segX 101 w.heap.size [.int .i64 x, .int .i64 y, .int .i64 z, .slice A l.length ac, .slice B k.length bc, .int .i64 qx, .int .i64 qy, .slice C ql.length cc, .slice D qk.length dc, .slice E L.length ec]] := H7.moreF K8
  clear H7 K8
  obtain ⟨A8, c8, rfl⟩ := H8.openB' (.head _)
  obtain ⟨A9, c9, rfl⟩ := H8.openB' (.tail _ (.head _))
  obtain ⟨B9, d9, rfl⟩ := H8.openS hv (.tail _ (.tail _ (.head _)))
  have HV := Lib.hid hv
  clear hv
  obtain ⟨o0, o1, o2, o3, o4, o5, o6, o7, o8, o9⟩ := H8.c10 (.tail _ (.tail _ (.tail _ (.head _))))
  obtain ⟨f0, f1, f2, f3, f4, f5, f6, f7, f8, f9⟩ := H8.f10 (.tail _ (.tail _ (.tail _ (.head _))))
  obtain ⟨q0, q1, q2, q3, q4, q5, q6, q7, q8, q9⟩ := H8.f10 (.tail _ (.tail _ (.tail _ (.tail _ (.tail _ (.tail _ (.head _)))))))
  have h6 := H8.ltX (.tail _ (.tail _ (.tail _ (.head _))))
  have h7 := H8.ltX (.tail _ (.tail _ (.tail _ (.tail _ (.tail _ (.tail _ (.head _)))))))
  have K6 := (H8.front 3 rfl).sets5 (.int .i64 qx) (.int .i64 qy) (.slice A8 ql.length c8) (.slice A9 qk.length c9) (.slice B9 L.length d9)
  have hT1 := H8.thereX (.tail _ (.tail _ (.tail _ (.head _)))) 5 5 (by simp)
  have hR1 := K6.rangeX (.head _)
  have hT2 := K6.thereX (.tail _ (.tail _ (.tail _ (.tail _ (.tail _ (.tail _ (.head _))))))) 0 10 (by simp)
  have K7 := (K6.front 6 rfl).sets10 (.int .i64 x) (.int .i64 y) (.int .i64 z) (.slice A4 l.length c4) (.slice A6 k.length c6) (.int .i64 qx) (.int .i64 qy) (.slice A8 ql.length c8) (.slice A9 qk.length c9) (.slice B9 L.length d9)
  have hR2 := K7.rangeX (.head _)
  have K9 := Lib.hid (K7.sub (qs := [segB 5 (.slice A8 ql.length c8) ql, segB 5 (.slice A9 qk.length c9) qk, segS 25 5 (.slice B9 L.length d9) vs L, segB 5 (.slice A6 k.length c6) k, segB 5 (.slice A4 l.length c4) l]) (.cons _ (.cons _ (.cons_cons _ (.cons_cons _ (.cons_cons _ (.cons_cons _ (.cons_cons _ (.cons _ .slnil)))))))))
  clear H8 K6 K7 o0 o1 o2 o3 o4 o5 o6 o7 o8 o9 f0 f1 f2 f3 f4 f5 f6 f7 f8 f9 q0 q1 q2 q3 q4 q5 q6 q7 q8 q9
  go_simp
  go_step
  go_step
  go_step
  go_step
  refine wpList_store_mid rfl 36 (.tmp 24) (.tmp 23) rfl (w.heap.size + 1 + 1) 5 #[.int .i64 qx, .int .i64 qy, .slice A8 ql.length c8, .slice A9 qk.length c9, .slice B9 L.length d9] rfl rfl hT1 (by kernel_rfl) (by simp [Value.oneCell']) ?_
  go_step
  go_step
  go_step
  go_step
  go_step
  refine wpList_load_mid rfl 67 (.tmp 3) rfl (w.heap.size + 1 + 1) 0 rfl [.int .i64 x, .int .i64 y, .int .i64 z, .slice A4 l.length c4, .slice A6 k.length c6, .int .i64 qx, .int .i64 qy, .slice A8 ql.length c8, .slice A9 qk.length c9, .slice B9 L.length d9] _ hR1 Try.underlying67 rfl (by kernel_rfl) ?_
  refine wpList_store_mid rfl 67 (.tmp 2) (.tmp 25) rfl (w.heap.size + 1) 0 #[.int .i64 x, .int .i64 y, .int .i64 z, .slice A4 l.length c4, .slice A6 k.length c6, .int .i64 qx, .int .i64 qy, .slice A8 ql.length c8, .slice A9 qk.length c9, .slice B9 L.length d9] rfl rfl hT2 (by kernel_rfl) (by simp [Value.oneCell']) ?_
  go_step
  go_step
  go_step
  go_step
  refine bodyPost_ret (results_cell_mid Try.results93 _ _ (w.heap.size + 1) 0 [.int .i64 x, .int .i64 y, .int .i64 z, .slice A4 l.length c4, .slice A6 k.length c6, .int .i64 qx, .int .i64 qy, .slice A8 ql.length c8, .slice A9 qk.length c9, .slice B9 L.length d9] _ rfl hR2 Try.underlying67 rfl (by kernel_rfl)) rfl ⟨_, _, _, _, _, vs, rfl, HV.out, ?_⟩
  exact (K9.out.front 3 rfl).front 4 rfl

set_option maxHeartbeats 4000000 in
theorem eqHead_any (x y z qx qy : Int) (a b qa qb qs a' b' qa' qb' qs' : Value) (l k ql qk : List UInt8) (L : List (List UInt8)) (w : World) (ha : Sl w w.heap.size a l) (hb : Sl w w.heap.size b k) (hqa : Sl w w.heap.size qa ql) (hqb : Sl w w.heap.size qb qk) (hqs : SlS w w.heap.size qs L) (ha' : Sl w w.heap.size a' l) (hb' : Sl w w.heap.size b' k) (hqa' : Sl w w.heap.size qa' ql) (hqb' : Sl w w.heap.size qb' qk) (hqs' : SlS w w.heap.size qs' L) :
    Calls Try.prog 99 #[.agg #[.int .i64 x, .int .i64 y, .int .i64 z, a, b, .int .i64 qx, .int .i64 qy, qa, qb, qs], .agg #[.int .i64 x, .int .i64 y, .int .i64 z, a', b', .int .i64 qx, .int .i64 qy, qa', qb', qs']] w (Yes w) := by
  obtain ⟨A, ac, rfl, p1, p2, p0, p3⟩ := id ha
  clear p1 p2 p0 p3
  obtain ⟨B, bc, rfl, p1, p2, p0, p3⟩ := id hb
  clear p1 p2 p0 p3
  obtain ⟨C, cc, rfl, p1, p2, p0, p3⟩ := id hqa
  clear p1 p2 p0 p3
  obtain ⟨D, dc, rfl, p1, p2, p0, p3⟩ := id hqb
  clear p1 p2 p0 p3
  obtain ⟨E, ec, rfl, p1, p2, p0, p3⟩ := id hqs
  clear p1 p2 p0 p3
  obtain ⟨A', ac', rfl, p1, p2, p0, p3⟩ := id ha'
  clear p1 p2 p0 p3
  obtain ⟨B', bc', rfl, p1, p2, p0, p3⟩ := id hb'
  clear p1 p2 p0 p3
  obtain ⟨C', cc', rfl, p1, p2, p0, p3⟩ := id hqa'
  clear p1 p2 p0 p3
  obtain ⟨D', dc', rfl, p1, p2, p0, p3⟩ := id hqb'
  clear p1 p2 p0 p3
  obtain ⟨E', ec', rfl, p1, p2, p0, p3⟩ := id hqs'
  clear p1 p2 p0 p3
  have n0 : (x != x) = false := by simp
  have n1 : (y != y) = false := by simp
  have n2 : (z != z) = false := by simp
  have hB : Below w.heap.size w ((w.alloc (.cells #[.int .i64 x, .int .i64 y, .int .i64 z, .slice A l.length ac, .slice B k.length bc, .int .i64 qx, .int .i64 qy, .slice C ql.length cc, .slice D qk.length dc, .slice E L.length ec] 67)).alloc (.cells #[.int .i64 x, .int .i64 y, .int .i64 z, .slice A' l.length ac', .slice B' k.length bc', .int .i64 qx, .int .i64 qy, .slice C' ql.length cc', .slice D' qk.length dc', .slice E' L.length ec'] 67)) := ((Below.refl _ w).alloc (Nat.le_refl _) _).alloc (by simp) _
  go_enter Try.func99, Try.ntmps99
  go_wp2_with fail
  refine (eqByteS_any _ _ l _ (ha.up hB) (ha'.up hB)).mono ?_
  rintro e _ ⟨rfl, m, rfl⟩
  go_wp2_with fail
  refine (eqByteS_any _ _ k _ ((hb.up hB).drewN m) ((hb'.up hB).drewN m)).mono ?_
  rintro e _ ⟨rfl, n, rfl⟩
  have hBq := below_drewN hB (m + n)
  go_wp2_with fail
  refine (eqQc_any qx qy _ _ _ _ _ _ ql qk L _ (hqa.up hBq) (hqb.up hBq) (hqs.up hBq) (hqa'.up hBq) (hqb'.up hBq) (hqs'.up hBq)).mono ?_
  rintro e w3 ⟨rfl, h3⟩
  have hBr := hBq.trans (h3.mono hBq.size)
  clear h3
  go_wp2_with fail
  go_ret
  exact ⟨rfl, hBr⟩

end Go.Proofs.Ytopbalemfljphaa
