/- Blocks: the contracts of the helpers of exact laws on them: szBlock, toBlock, eqBlock. -/
import Derived.Test.YtdoaikanaodefaaDoorBox11
import Derived.Test.YtdoaikanaodefaaDoorHead
namespace Go.Proofs.YtdoaikanaodefaaDoor
open Go.ChangeShapes Go.WideShapes Go.ChangeAt Go.RowKit

/-- What szBlock leaves of m. -/
def szGZ (l k ql qk : List UInt8) (L T : List (List UInt8)) (m : Int) : Int := if m < (l.length : Int) + (k.length : Int) + (ql.length : Int) + (qk.length : Int) + (L.length : Int) + (sumL L : Int) + (T.length : Int) + (sumL T : Int) then -1 else m - ((l.length : Int) + (k.length : Int) + (ql.length : Int) + (qk.length : Int) + (L.length : Int) + (sumL L : Int) + (T.length : Int) + (sumL T : Int))
theorem szGZ_big {l k ql qk : List UInt8} {L T : List (List UInt8)} {m : Int} (h : m < (l.length : Int) + (k.length : Int) + (ql.length : Int) + (qk.length : Int) + (L.length : Int) + (sumL L : Int) + (T.length : Int) + (sumL T : Int)) : szGZ l k ql qk L T m = -1 := if_pos h
theorem szGZ_ok {l k ql qk : List UInt8} {L T : List (List UInt8)} {m : Int} (h : ¬ m < (l.length : Int) + (k.length : Int) + (ql.length : Int) + (qk.length : Int) + (L.length : Int) + (sumL L : Int) + (T.length : Int) + (sumL T : Int)) : szGZ l k ql qk L T m = m - ((l.length : Int) + (k.length : Int) + (ql.length : Int) + (qk.length : Int) + (L.length : Int) + (sumL L : Int) + (T.length : Int) + (sumL T : Int)) := if_neg h
set_option maxHeartbeats 4000000 in
theorem szBlock_any (x y z qx qy : Int) (a b qa qb qs t : Value) (l k ql qk : List UInt8) (L T : List (List UInt8)) (m : Int) (w : World) (ha : Sl w w.heap.size a l) (hb : Sl w w.heap.size b k) (hqa : Sl w w.heap.size qa ql) (hqb : Sl w w.heap.size qb qk) (hqs : SlS w w.heap.size qs L) (ht : SlS w w.heap.size t T) (h0 : 0 ≤ m) (hm : m ≤ 1073741824) :
    Calls Tryd.prog 30 #[.agg #[.int .i64 x, .int .i64 y, .int .i64 z, a, b, .int .i64 qx, .int .i64 qy, qa, qb, qs, t], .int .i64 m] w (fun e w' => e = .returned (.int .i64 (szGZ l k ql qk L T m)) ∧ Below w.heap.size w w') := by
  obtain ⟨A, ac, rfl, p1, p2, p0, p3⟩ := id ha
  clear p1 p2 p0 p3
  obtain ⟨B, bc, rfl, p1, p2, p0, p3⟩ := id hb
  clear p1 p2 p0 p3
  obtain ⟨C, cc, rfl, p1, p2, p0, p3⟩ := id hqa
  clear p1 p2 p0 p3
  obtain ⟨D, dc, rfl, p1, p2, p0, p3⟩ := id hqb
  clear p1 p2 p0 p3
  obtain ⟨E, ec, rfl, p1, p2, p0, p3⟩ := id hqs
  clear p1 p2 p0 p3
  obtain ⟨F, fc, rfl, p1, p2, p0, p3⟩ := id ht
  clear p1 p2 p0 p3
  have H := (InvF.start w).newG 56 #[.int .i64 x, .int .i64 y, .int .i64 z, .slice A l.length ac, .slice B k.length bc, .int .i64 qx, .int .i64 qy, .slice C ql.length cc, .slice D qk.length dc, .slice E L.length ec, .slice F T.length fc] w.heap.size
  obtain ⟨R, hR⟩ : ∃ R, R = szGZ l k ql qk L T m := ⟨_, rfl⟩
  rw [← hR]
  unfold szGZ at hR
  have HR := Lib.hid hR
  clear hR
  obtain ⟨N, hN⟩ : ∃ N : Int, N = (l.length : Int) + (k.length : Int) + (ql.length : Int) + (qk.length : Int) + (L.length : Int) + (sumL L : Int) := ⟨_, rfl⟩
  obtain ⟨M, hM⟩ : ∃ M : Int, M = (T.length : Int) + (sumL T : Int) := ⟨_, rfl⟩
  have hT : (l.length : Int) + (k.length : Int) + (ql.length : Int) + (qk.length : Int) + (L.length : Int) + (sumL L : Int) + (T.length : Int) + (sumL T : Int) = N + M := by omega
  have hN0 : 0 ≤ N := by omega
  have hM0 : 0 ≤ M := by omega
  have HT := Lib.hid hT
  have HN := Lib.hid hN
  have HM := Lib.hid hM
  clear hN hM hT
  by_cases hlt : m < N
  · obtain rfl : R = -1 := by rw [HR.out, HT.out, if_pos (by omega)]
    have hz : Hid (szHZ l k ql qk L m = -1) := Lib.hid (szHZ_big (by rw [← HN.out]; exact hlt))
    go_enter Tryd.func30, Tryd.ntmps30
    go_wp2_with fail
    refine (szHead_any x y z qx qy _ _ _ _ _ l k ql qk L m _ (ha.up H.bel) (hb.up H.bel) (hqa.up H.bel) (hqb.up H.bel) (hqs.up H.bel) h0 hm).mono ?_
    rw [hz.out]
    rintro e w1 ⟨rfl, hb1⟩
    replace H := H.up hb1
    clear hb1
    obtain ⟨o0, o1, o2, o3, o4, o5, o6, o7, o8, o9, o10⟩ := H.c11 (.head _)
    go_wp2
    go_ret
    exact ⟨rfl, H.bel⟩
  obtain ⟨u, hu⟩ : ∃ u : Int, u = m - N := ⟨_, rfl⟩
  have hz : Hid (szHZ l k ql qk L m = u) := Lib.hid (by rw [szHZ_ok (by rw [← HN.out]; exact hlt), ← HN.out, hu])
  have hu0 : ¬ u < 0 := by omega
  have hu1 : u ≤ 1073741824 := by omega
  by_cases hlt2 : u < M
  · obtain rfl : R = -1 := by rw [HR.out, HT.out, if_pos (by omega)]
    have hz2 : Hid (szZ T u = -1) := Lib.hid (szZ_big (by rw [← HM.out]; exact hlt2))
    clear hu
    go_enter Tryd.func30, Tryd.ntmps30
    go_wp2_with fail
    refine (szHead_any x y z qx qy _ _ _ _ _ l k ql qk L m _ (ha.up H.bel) (hb.up H.bel) (hqa.up H.bel) (hqb.up H.bel) (hqs.up H.bel) h0 hm).mono ?_
    rw [hz.out]
    rintro e w1 ⟨rfl, hb1⟩
    replace H := H.up hb1
    clear hb1
    obtain ⟨o0, o1, o2, o3, o4, o5, o6, o7, o8, o9, o10⟩ := H.c11 (.head _)
    go_wp2_with fail
    refine (szByteSS_any _ T u _ (ht.up H.bel) (by omega) hu1).mono ?_
    rw [hz2.out]
    rintro e w' ⟨rfl, hw⟩
    subst hw
    go_wp2
    go_ret
    exact ⟨rfl, H.bel⟩
  · obtain ⟨zz, hzz⟩ : ∃ zz : Int, zz = u - M := ⟨_, rfl⟩
    obtain rfl : R = zz := by rw [HR.out, HT.out, if_neg (by omega), hzz]; omega
    have hz0 : ¬ R < 0 := by omega
    have hz2 : Hid (szZ T u = R) := Lib.hid (by rw [szZ_ok (by rw [← HM.out]; exact hlt2)]; have := HM.out; omega)
    clear hu hzz
    go_enter Tryd.func30, Tryd.ntmps30
    go_wp2_with fail
    refine (szHead_any x y z qx qy _ _ _ _ _ l k ql qk L m _ (ha.up H.bel) (hb.up H.bel) (hqa.up H.bel) (hqb.up H.bel) (hqs.up H.bel) h0 hm).mono ?_
    rw [hz.out]
    rintro e w1 ⟨rfl, hb1⟩
    replace H := H.up hb1
    clear hb1
    obtain ⟨o0, o1, o2, o3, o4, o5, o6, o7, o8, o9, o10⟩ := H.c11 (.head _)
    go_wp2_with fail
    refine (szByteSS_any _ T u _ (ht.up H.bel) (by omega) hu1).mono ?_
    rw [hz2.out]
    rintro e w' ⟨rfl, hw⟩
    subst hw
    go_wp2
    go_ret
    exact ⟨rfl, H.bel⟩

/-- The call returns a block of new rows; nothing that was there has turned. -/
def FreshG (w : World) (x y z qx qy : Int) (l k ql qk : List UInt8) (L T : List (List UInt8)) (e : Ending) (w' : World) : Prop :=
  ∃ a b qa qb qs t vs vt, e = .returned (.agg #[.int .i64 x, .int .i64 y, .int .i64 z, a, b, .int .i64 qx, .int .i64 qy, qa, qb, qs, t]) ∧ vs.length = L.length ∧ vt.length = T.length ∧ InvF w w' [segB 5 a l, segB 5 b k, segB 5 qa ql, segB 5 qb qk, segS 22 5 qs vs L, segS 22 5 t vt T]

set_option maxRecDepth 100000 in
set_option maxHeartbeats 8000000 in
theorem toBlock_any (x y z qx qy : Int) (a b qa qb qs t : Value) (l k ql qk : List UInt8) (L T : List (List UInt8)) (w : World) (ha : Sl w w.heap.size a l) (hb : Sl w w.heap.size b k) (hqa : Sl w w.heap.size qa ql) (hqb : Sl w w.heap.size qb qk) (hqs : SlS w w.heap.size qs L) (ht : SlS w w.heap.size t T) (hl : l.length ≤ 1048576) (hk : k.length ≤ 1048576) (hql : ql.length ≤ 1048576) (hqk : qk.length ≤ 1048576) (hL : L.length ≤ 1048576) (hN : sumL L ≤ 1048576) (hT : T.length ≤ 1048576) (hNT : sumL T ≤ 1048576) :
    Calls Tryd.prog 33 #[.agg #[.int .i64 x, .int .i64 y, .int .i64 z, a, b, .int .i64 qx, .int .i64 qy, qa, qb, qs, t]] w (FreshG w x y z qx qy l k ql qk L T) := by
  obtain ⟨A, ac, rfl, p1, p2, p0, p3⟩ := id ha
  clear p1 p2 p0 p3
  obtain ⟨B, bc, rfl, p1, p2, p0, p3⟩ := id hb
  clear p1 p2 p0 p3
  obtain ⟨C, cc, rfl, p1, p2, p0, p3⟩ := id hqa
  clear p1 p2 p0 p3
  obtain ⟨D, dc, rfl, p1, p2, p0, p3⟩ := id hqb
  clear p1 p2 p0 p3
  obtain ⟨E, ec, rfl, p1, p2, p0, p3⟩ := id hqs
  clear p1 p2 p0 p3
  obtain ⟨F, fc, rfl, p1, p2, p0, p3⟩ := id ht
  clear p1 p2 p0 p3
  have H0 := (((InvF.start w).newG 56 #[.int .i64 x, .int .i64 y, .int .i64 z, .slice A l.length ac, .slice B k.length bc, .int .i64 qx, .int .i64 qy, .slice C ql.length cc, .slice D qk.length dc, .slice E L.length ec, .slice F T.length fc] w.heap.size).newG 65 #[.int .i64 0, .int .i64 0, .int .i64 0, .slice none 0 0, .slice none 0 0, .int .i64 0, .int .i64 0, .slice none 0 0, .slice none 0 0, .slice none 0 0, .slice none 0 0] (w.heap.size + 1)).newG 65 #[.int .i64 0, .int .i64 0, .int .i64 0, .slice none 0 0, .slice none 0 0, .int .i64 0, .int .i64 0, .slice none 0 0, .slice none 0 0, .slice none 0 0, .slice none 0 0] (w.heap.size + 1 + 1)
  go_enter Tryd.func33, Tryd.ntmps33
  go_wp2_with fail
  refine (toHead_any x y z qx qy _ _ _ _ _ l k ql qk L _ (ha.up H0.bel) (hb.up H0.bel) (hqa.up H0.bel) (hqb.up H0.bel) (hqs.up H0.bel) hl hk hql hqk hL hN).mono ?_
  rintro e w4 ⟨u1, u2, u3, u4, u5, vs, rfl, hv, K4⟩
  have H4 : InvF w w4 [segB 5 u1 l, segB 5 u2 k, segB 5 u3 ql, segB 5 u4 qk, segS 22 5 u5 vs L, segX 65 (w.heap.size + 1 + 1) [.int .i64 0, .int .i64 0, .int .i64 0, .slice none 0 0, .slice none 0 0, .int .i64 0, .int .i64 0, .slice none 0 0, .slice none 0 0, .slice none 0 0, .slice none 0 0], segX 65 (w.heap.size + 1) [.int .i64 0, .int .i64 0, .int .i64 0, .slice none 0 0, .slice none 0 0, .int .i64 0, .int .i64 0, .slice none 0 0, .slice none 0 0, .slice none 0 0, .slice none 0 0], segX 56 w.heap.size [.int .i64 x, .int .i64 y, .int .i64 z, .slice A l.length ac, .slice B k.length bc, .int .i64 qx, .int .i64 qy, .slice C ql.length cc, .slice D qk.length dc, .slice E L.length ec, .slice F T.length fc]] := H0.moreF K4
  clear H0 K4
  obtain ⟨A1, c1, rfl⟩ := H4.openB' (.head _)
  obtain ⟨A2, c2, rfl⟩ := H4.openB' (.tail _ (.head _))
  obtain ⟨A3, c3, rfl⟩ := H4.openB' (.tail _ (.tail _ (.head _)))
  obtain ⟨A4, c4, rfl⟩ := H4.openB' (.tail _ (.tail _ (.tail _ (.head _))))
  obtain ⟨A5, c5, rfl⟩ := H4.openS hv (.tail _ (.tail _ (.tail _ (.tail _ (.head _)))))
  have HV := Lib.hid hv
  clear hv
  have hT0 := H4.thereX (.tail _ (.tail _ (.tail _ (.tail _ (.tail _ (.head _)))))) 0 10 (by simp)
  have K5 := (H4.front 5 rfl).sets11h (.int .i64 x) (.int .i64 y) (.int .i64 z) (.slice A1 l.length c1) (.slice A2 k.length c2) (.int .i64 qx) (.int .i64 qy) (.slice A3 ql.length c3) (.slice A4 qk.length c4) (.slice A5 L.length c5)
  have H5 := Lib.hid K5
  obtain ⟨a0, a1, a2, a3, a4, a5, a6, a7, a8, a9, a10⟩ := K5.c11 (.tail _ (.tail _ (.tail _ (.tail _ (.tail _ (.tail _ (.tail _ (.head _))))))))
  clear H4 K5
  go_simp
  go_step
  go_step
  go_step
  go_step
  refine wpList_store_mid rfl 63 (.tmp 7) (.tmp 6) rfl (w.heap.size + 1 + 1) 0 #[.int .i64 x, .int .i64 y, .int .i64 z, .slice A1 l.length c1, .slice A2 k.length c2, .int .i64 qx, .int .i64 qy, .slice A3 ql.length c3, .slice A4 qk.length c4, .slice A5 L.length c5] rfl rfl hT0 (by kernel_rfl) (by simp [Value.oneCell']) ?_
  go_wp2_with fail
  clear a0 a1 a2 a3 a4 a5 a6 a7 a8 a9 a10
  refine (toByteSS_any _ T _ (ht.up H5.out.bel) hT hNT).mono ?_
  rintro e w6 ⟨u6, vt, rfl, hvt, K6⟩
  have H6 : InvF w w6 [segS 22 5 u6 vt T, segX 65 (w.heap.size + 1 + 1) [.int .i64 x, .int .i64 y, .int .i64 z, (.slice A1 l.length c1), (.slice A2 k.length c2), .int .i64 qx, .int .i64 qy, (.slice A3 ql.length c3), (.slice A4 qk.length c4), (.slice A5 L.length c5), .slice none 0 0], segB 5 (.slice A1 l.length c1) l, segB 5 (.slice A2 k.length c2) k, segB 5 (.slice A3 ql.length c3) ql, segB 5 (.slice A4 qk.length c4) qk, segS 22 5 (.slice A5 L.length c5) vs L, segX 65 (w.heap.size + 1) [.int .i64 0, .int .i64 0, .int .i64 0, .slice none 0 0, .slice none 0 0, .int .i64 0, .int .i64 0, .slice none 0 0, .slice none 0 0, .slice none 0 0, .slice none 0 0], segX 56 w.heap.size [.int .i64 x, .int .i64 y, .int .i64 z, .slice A l.length ac, .slice B k.length bc, .int .i64 qx, .int .i64 qy, .slice C ql.length cc, .slice D qk.length dc, .slice E L.length ec, .slice F T.length fc]] := H5.out.more (s := segS 22 5 u6 vt T) K6
  clear H5 K6
  obtain ⟨A6, c6, rfl⟩ := H6.openS hvt (.head _)
  have HVT := Lib.hid hvt
  clear hvt
  have hT1 := H6.thereX (.tail _ (.head _)) 10 1 (by simp)
  have K7 := (H6.front 1 rfl).setX 10 (.slice A6 T.length c6)
  have hR1 := K7.rangeX (.head _)
  have hT2 := K7.thereX (.tail _ (.tail _ (.tail _ (.tail _ (.tail _ (.tail _ (.tail _ (.head _)))))))) 0 11 (by simp)
  have hfz := H6.frX (.tail _ (.head _)) 10
  have hc10 := H6.atX (.tail _ (.head _)) 10 rfl
  have K8 := (K7.front 7 rfl).sets11 (.int .i64 x) (.int .i64 y) (.int .i64 z) (.slice A1 l.length c1) (.slice A2 k.length c2) (.int .i64 qx) (.int .i64 qy) (.slice A3 ql.length c3) (.slice A4 qk.length c4) (.slice A5 L.length c5) (.slice A6 T.length c6)
  have hR2 := K8.rangeX (.head _)
  have K9 := Lib.hid (K8.sub (qs := [segS 22 5 (.slice A6 T.length c6) vt T, segB 5 (.slice A1 l.length c1) l, segB 5 (.slice A2 k.length c2) k, segB 5 (.slice A3 ql.length c3) ql, segB 5 (.slice A4 qk.length c4) qk, segS 22 5 (.slice A5 L.length c5) vs L]) (.cons _ (.cons _ (.cons_cons _ (.cons_cons _ (.cons_cons _ (.cons_cons _ (.cons_cons _ (.cons_cons _ (.cons _ .slnil))))))))))
  clear H6 K7 K8
  go_simp
  go_step
  go_step
  go_step
  go_step
  go_step
  go_step
  go_step
  go_step
  go_step
  go_step
  go_step
  go_step
  refine wpList_load_mid rfl 65 (.tmp 3) rfl (w.heap.size + 1 + 1) 0 rfl [.int .i64 x, .int .i64 y, .int .i64 z, .slice A1 l.length c1, .slice A2 k.length c2, .int .i64 qx, .int .i64 qy, .slice A3 ql.length c3, .slice A4 qk.length c4, .slice A5 L.length c5, .slice A6 T.length c6] _ hR1 Tryd.underlying65 rfl (by kernel_rfl) ?_
  refine wpList_store_mid rfl 65 (.tmp 2) (.tmp 12) rfl (w.heap.size + 1) 0 #[.int .i64 x, .int .i64 y, .int .i64 z, .slice A1 l.length c1, .slice A2 k.length c2, .int .i64 qx, .int .i64 qy, .slice A3 ql.length c3, .slice A4 qk.length c4, .slice A5 L.length c5, .slice A6 T.length c6] rfl rfl hT2 (by kernel_rfl) (by simp [Value.oneCell']) ?_
  go_step
  go_step
  go_step
  go_step
  refine bodyPost_ret (results_cell_mid Tryd.results33 _ _ (w.heap.size + 1) 0 [.int .i64 x, .int .i64 y, .int .i64 z, .slice A1 l.length c1, .slice A2 k.length c2, .int .i64 qx, .int .i64 qy, .slice A3 ql.length c3, .slice A4 qk.length c4, .slice A5 L.length c5, .slice A6 T.length c6] _ rfl hR2 Tryd.underlying65 rfl (by kernel_rfl)) rfl ⟨_, _, _, _, _, _, vs, vt, rfl, HV.out, HVT.out, ?_⟩
  exact K9.out.perm (List.perm_append_comm (l₁ := [_]) (l₂ := [_, _, _, _, _]))

set_option maxHeartbeats 4000000 in
theorem eqBlock_any (x y z qx qy : Int) (a b qa qb qs t a' b' qa' qb' qs' t' : Value) (l k ql qk : List UInt8) (L T : List (List UInt8)) (w : World) (ha : Sl w w.heap.size a l) (hb : Sl w w.heap.size b k) (hqa : Sl w w.heap.size qa ql) (hqb : Sl w w.heap.size qb qk) (hqs : SlS w w.heap.size qs L) (ht : SlS w w.heap.size t T) (ha' : Sl w w.heap.size a' l) (hb' : Sl w w.heap.size b' k) (hqa' : Sl w w.heap.size qa' ql) (hqb' : Sl w w.heap.size qb' qk) (hqs' : SlS w w.heap.size qs' L) (ht' : SlS w w.heap.size t' T) :
    Calls Tryd.prog 35 #[.agg #[.int .i64 x, .int .i64 y, .int .i64 z, a, b, .int .i64 qx, .int .i64 qy, qa, qb, qs, t], .agg #[.int .i64 x, .int .i64 y, .int .i64 z, a', b', .int .i64 qx, .int .i64 qy, qa', qb', qs', t']] w (Yes w) := by
  obtain ⟨A, ac, rfl, p1, p2, p0, p3⟩ := id ha
  clear p1 p2 p0 p3
  obtain ⟨B, bc, rfl, p1, p2, p0, p3⟩ := id hb
  clear p1 p2 p0 p3
  obtain ⟨C, cc, rfl, p1, p2, p0, p3⟩ := id hqa
  clear p1 p2 p0 p3
  obtain ⟨D, dc, rfl, p1, p2, p0, p3⟩ := id hqb
  clear p1 p2 p0 p3
  obtain ⟨E, ec, rfl, p1, p2, p0, p3⟩ := id hqs
  clear p1 p2 p0 p3
  obtain ⟨F, fc, rfl, p1, p2, p0, p3⟩ := id ht
  clear p1 p2 p0 p3
  obtain ⟨A', ac', rfl, p1, p2, p0, p3⟩ := id ha'
  clear p1 p2 p0 p3
  obtain ⟨B', bc', rfl, p1, p2, p0, p3⟩ := id hb'
  clear p1 p2 p0 p3
  obtain ⟨C', cc', rfl, p1, p2, p0, p3⟩ := id hqa'
  clear p1 p2 p0 p3
  obtain ⟨D', dc', rfl, p1, p2, p0, p3⟩ := id hqb'
  clear p1 p2 p0 p3
  obtain ⟨E', ec', rfl, p1, p2, p0, p3⟩ := id hqs'
  clear p1 p2 p0 p3
  obtain ⟨F', fc', rfl, p1, p2, p0, p3⟩ := id ht'
  clear p1 p2 p0 p3
  have H := ((InvF.start w).newG 65 #[.int .i64 x, .int .i64 y, .int .i64 z, .slice A l.length ac, .slice B k.length bc, .int .i64 qx, .int .i64 qy, .slice C ql.length cc, .slice D qk.length dc, .slice E L.length ec, .slice F T.length fc] w.heap.size).newG 65 #[.int .i64 x, .int .i64 y, .int .i64 z, .slice A' l.length ac', .slice B' k.length bc', .int .i64 qx, .int .i64 qy, .slice C' ql.length cc', .slice D' qk.length dc', .slice E' L.length ec', .slice F' T.length fc'] (w.heap.size + 1)
  go_enter Tryd.func35, Tryd.ntmps35
  go_wp2_with fail
  refine (eqHead_any x y z qx qy _ _ _ _ _ _ _ _ _ _ l k ql qk L _ (ha.up H.bel) (hb.up H.bel) (hqa.up H.bel) (hqb.up H.bel) (hqs.up H.bel) (ha'.up H.bel) (hb'.up H.bel) (hqa'.up H.bel) (hqb'.up H.bel) (hqs'.up H.bel)).mono ?_
  rintro e w3 ⟨rfl, h3⟩
  replace H := H.up h3
  clear h3
  obtain ⟨o0, o1, o2, o3, o4, o5, o6, o7, o8, o9, o10⟩ := H.c11 (.tail _ (.head _))
  obtain ⟨q0, q1, q2, q3, q4, q5, q6, q7, q8, q9, q10⟩ := H.c11 (.head _)
  go_wp2_with fail
  refine (eqByteSS_any _ _ T _ (ht.up (by first | exact H.bel | exact H.drew1.bel)) (ht'.up (by first | exact H.bel | exact H.drew1.bel))).mono ?_
  rintro e _ ⟨rfl, d, rfl⟩
  have HF : Hid (∀ d, Below w.heap.size w (w3.drewN d)) := Lib.hid (fun d => (H.drewN d).bel)
  clear H o0 o1 o2 o3 o4 o5 o6 o7 o8 o9 o10 q0 q1 q2 q3 q4 q5 q6 q7 q8 q9 q10
  go_wp2
  go_ret
  exact ⟨rfl, by first | exact HF.out _ | exact HF.out 0 | (have h := HF.out (d + 1); simpa using h)⟩

end Go.Proofs.YtdoaikanaodefaaDoor
