import Derived.Test.YtdoaikanaodefaaGreatDoorBox11
import Derived.Test.YtdoaikanaodefaaGreatDoorHead
import Derived.Test.YtdoaikanaodefaaGreatDoorHeadM
import Derived.Test.YtdoaikanaodefaaGreatDoorHeadT
import Derived.Test.YtdoaikanaodefaaGreatDoorHdM
import Derived.Test.YtdoaikanaodefaaGreatDoorTxMath
import Derived.Test.YtdoaikanaodefaaGreatDoorDecS
import Derived.Test.YtdoaikanaodefaaGreatDoorTree
/- Blocks: the contracts of the helpers of exact laws on them: szBlock, toBlock, eqBlock. -/
namespace Go.Proofs.YtdoaikanaodefaaGreatDoor
open Go.ChangeShapes Go.WideShapes Go.ChangeAt Go.RowKit

/-- What szBlock leaves of m. -/
def szGZ (l k ql qk : List UInt8) (L T : List (List UInt8)) (m : Int) : Int := if m < (l.length : Int) + (k.length : Int) + (ql.length : Int) + (qk.length : Int) + (L.length : Int) + (sumL L : Int) + (T.length : Int) + (sumL T : Int) then -1 else m - ((l.length : Int) + (k.length : Int) + (ql.length : Int) + (qk.length : Int) + (L.length : Int) + (sumL L : Int) + (T.length : Int) + (sumL T : Int))
theorem szGZ_big {l k ql qk : List UInt8} {L T : List (List UInt8)} {m : Int} (h : m < (l.length : Int) + (k.length : Int) + (ql.length : Int) + (qk.length : Int) + (L.length : Int) + (sumL L : Int) + (T.length : Int) + (sumL T : Int)) : szGZ l k ql qk L T m = -1 := if_pos h
theorem szGZ_ok {l k ql qk : List UInt8} {L T : List (List UInt8)} {m : Int} (h : ¬ m < (l.length : Int) + (k.length : Int) + (ql.length : Int) + (qk.length : Int) + (L.length : Int) + (sumL L : Int) + (T.length : Int) + (sumL T : Int)) : szGZ l k ql qk L T m = m - ((l.length : Int) + (k.length : Int) + (ql.length : Int) + (qk.length : Int) + (L.length : Int) + (sumL L : Int) + (T.length : Int) + (sumL T : Int)) := if_neg h
set_option maxHeartbeats 4000000 in
theorem szBlock_any (x y z qx qy : Int) (a b qa qb qs t : Value) (l k ql qk : List UInt8) (L T : List (List UInt8)) (m : Int) (w : World) (ha : Sl w w.heap.size a l) (hb : Sl w w.heap.size b k) (hqa : Sl w w.heap.size qa ql) (hqb : Sl w w.heap.size qb qk) (hqs : SlS w w.heap.size qs L) (ht : SlS w w.heap.size t T) (h0 : 0 ≤ m) (hm : m ≤ 1073741824) :
    Calls Tryz.prog 7 #[.agg #[.int .i64 x, .int .i64 y, .int .i64 z, a, b, .int .i64 qx, .int .i64 qy, qa, qb, qs, t], .int .i64 m] w (fun e w' => e = .returned (.int .i64 (szGZ l k ql qk L T m)) ∧ Below w.heap.size w w') := by
  obtain ⟨A, ac, rfl, p1, p2, p0, p3⟩ := id ha
  clear p1 p2 p0 p3
  obtain ⟨B, bc, rfl, p1, p2, p0, p3⟩ := id hb
  clear p1 p2 p0 p3
  obtain ⟨C, cc, rfl, p1, p2, p0, p3⟩ := id hqa
  clear p1 p2 p0 p3
  obtain ⟨D, dc, rfl, p1, p2, p0, p3⟩ := id hqb
  clear p1 p2 p0 p3
  obtain ⟨E, ec, rfl, p1, p2, p0, p3⟩ := id hqs
  clear p1 p2 p0 p3
  obtain ⟨F, fc, rfl, p1, p2, p0, p3⟩ := id ht
  clear p1 p2 p0 p3
  have H := (InvF.start w).newG 31 #[.int .i64 x, .int .i64 y, .int .i64 z, .slice A l.length ac, .slice B k.length bc, .int .i64 qx, .int .i64 qy, .slice C ql.length cc, .slice D qk.length dc, .slice E L.length ec, .slice F T.length fc] w.heap.size
  obtain ⟨R, hR⟩ : ∃ R, R = szGZ l k ql qk L T m := ⟨_, rfl⟩
  rw [← hR]
  unfold szGZ at hR
  have HR := Lib.hid hR
  clear hR
  obtain ⟨N, hN⟩ : ∃ N : Int, N = (l.length : Int) + (k.length : Int) + (ql.length : Int) + (qk.length : Int) + (L.length : Int) + (sumL L : Int) := ⟨_, rfl⟩
  obtain ⟨M, hM⟩ : ∃ M : Int, M = (T.length : Int) + (sumL T : Int) := ⟨_, rfl⟩
  have hT : (l.length : Int) + (k.length : Int) + (ql.length : Int) + (qk.length : Int) + (L.length : Int) + (sumL L : Int) + (T.length : Int) + (sumL T : Int) = N + M := by omega
  have hN0 : 0 ≤ N := by omega
  have hM0 : 0 ≤ M := by omega
  have HT := Lib.hid hT
  have HN := Lib.hid hN
  have HM := Lib.hid hM
  clear hN hM hT
  by_cases hlt : m < N
  · obtain rfl : R = -1 := by rw [HR.out, HT.out, if_pos (by omega)]
    have hz : Hid (szHZ l k ql qk L m = -1) := Lib.hid (szHZ_big (by rw [← HN.out]; exact hlt))
    go_enter Tryz.func7, Tryz.ntmps7
    go_wp2_with fail
    refine (szHead_any x y z qx qy _ _ _ _ _ l k ql qk L m _ (ha.up H.bel) (hb.up H.bel) (hqa.up H.bel) (hqb.up H.bel) (hqs.up H.bel) h0 hm).mono ?_
    rw [hz.out]
    rintro e w1 ⟨rfl, hb1⟩
    replace H := H.up hb1
    clear hb1
    obtain ⟨o0, o1, o2, o3, o4, o5, o6, o7, o8, o9, o10⟩ := H.c11 (.head _)
    go_wp2
    go_ret
    exact ⟨rfl, H.bel⟩
  obtain ⟨u, hu⟩ : ∃ u : Int, u = m - N := ⟨_, rfl⟩
  have hz : Hid (szHZ l k ql qk L m = u) := Lib.hid (by rw [szHZ_ok (by rw [← HN.out]; exact hlt), ← HN.out, hu])
  have hu0 : ¬ u < 0 := by omega
  have hu1 : u ≤ 1073741824 := by omega
  by_cases hlt2 : u < M
  · obtain rfl : R = -1 := by rw [HR.out, HT.out, if_pos (by omega)]
    have hz2 : Hid (szZ T u = -1) := Lib.hid (szZ_big (by rw [← HM.out]; exact hlt2))
    clear hu
    go_enter Tryz.func7, Tryz.ntmps7
    go_wp2_with fail
    refine (szHead_any x y z qx qy _ _ _ _ _ l k ql qk L m _ (ha.up H.bel) (hb.up H.bel) (hqa.up H.bel) (hqb.up H.bel) (hqs.up H.bel) h0 hm).mono ?_
    rw [hz.out]
    rintro e w1 ⟨rfl, hb1⟩
    replace H := H.up hb1
    clear hb1
    obtain ⟨o0, o1, o2, o3, o4, o5, o6, o7, o8, o9, o10⟩ := H.c11 (.head _)
    go_wp2_with fail
    refine (szByteSS_any _ T u _ (ht.up H.bel) (by omega) hu1).mono ?_
    rw [hz2.out]
    rintro e w' ⟨rfl, hw⟩
    subst hw
    go_wp2
    go_ret
    exact ⟨rfl, H.bel⟩
  · obtain ⟨zz, hzz⟩ : ∃ zz : Int, zz = u - M := ⟨_, rfl⟩
    obtain rfl : R = zz := by rw [HR.out, HT.out, if_neg (by omega), hzz]; omega
    have hz0 : ¬ R < 0 := by omega
    have hz2 : Hid (szZ T u = R) := Lib.hid (by rw [szZ_ok (by rw [← HM.out]; exact hlt2)]; have := HM.out; omega)
    clear hu hzz
    go_enter Tryz.func7, Tryz.ntmps7
    go_wp2_with fail
    refine (szHead_any x y z qx qy _ _ _ _ _ l k ql qk L m _ (ha.up H.bel) (hb.up H.bel) (hqa.up H.bel) (hqb.up H.bel) (hqs.up H.bel) h0 hm).mono ?_
    rw [hz.out]
    rintro e w1 ⟨rfl, hb1⟩
    replace H := H.up hb1
    clear hb1
    obtain ⟨o0, o1, o2, o3, o4, o5, o6, o7, o8, o9, o10⟩ := H.c11 (.head _)
    go_wp2_with fail
    refine (szByteSS_any _ T u _ (ht.up H.bel) (by omega) hu1).mono ?_
    rw [hz2.out]
    rintro e w' ⟨rfl, hw⟩
    subst hw
    go_wp2
    go_ret
    exact ⟨rfl, H.bel⟩

/-- The call returns a block of new rows; nothing that was there has turned. -/
def FreshG (w : World) (x y z qx qy : Int) (l k ql qk : List UInt8) (L T : List (List UInt8)) (e : Ending) (w' : World) : Prop :=
  ∃ a b qa qb qs t vs vt, e = .returned (.agg #[.int .i64 x, .int .i64 y, .int .i64 z, a, b, .int .i64 qx, .int .i64 qy, qa, qb, qs, t]) ∧ vs.length = L.length ∧ vt.length = T.length ∧ InvF w w' [segB 5 a l, segB 5 b k, segB 5 qa ql, segB 5 qb qk, segS 24 5 qs vs L, segS 24 5 t vt T]

set_option maxRecDepth 100000 in
set_option maxHeartbeats 8000000 in
theorem toBlock_any (x y z qx qy : Int) (a b qa qb qs t : Value) (l k ql qk : List UInt8) (L T : List (List UInt8)) (w : World) (ha : Sl w w.heap.size a l) (hb : Sl w w.heap.size b k) (hqa : Sl w w.heap.size qa ql) (hqb : Sl w w.heap.size qb qk) (hqs : SlS w w.heap.size qs L) (ht : SlS w w.heap.size t T) (hl : l.length ≤ 1048576) (hk : k.length ≤ 1048576) (hql : ql.length ≤ 1048576) (hqk : qk.length ≤ 1048576) (hL : L.length ≤ 1048576) (hN : sumL L ≤ 1048576) (hT : T.length ≤ 1048576) (hNT : sumL T ≤ 1048576) :
    Calls Tryz.prog 11 #[.agg #[.int .i64 x, .int .i64 y, .int .i64 z, a, b, .int .i64 qx, .int .i64 qy, qa, qb, qs, t]] w (FreshG w x y z qx qy l k ql qk L T) := by
  obtain ⟨A, ac, rfl, p1, p2, p0, p3⟩ := id ha
  clear p1 p2 p0 p3
  obtain ⟨B, bc, rfl, p1, p2, p0, p3⟩ := id hb
  clear p1 p2 p0 p3
  obtain ⟨C, cc, rfl, p1, p2, p0, p3⟩ := id hqa
  clear p1 p2 p0 p3
  obtain ⟨D, dc, rfl, p1, p2, p0, p3⟩ := id hqb
  clear p1 p2 p0 p3
  obtain ⟨E, ec, rfl, p1, p2, p0, p3⟩ := id hqs
  clear p1 p2 p0 p3
  obtain ⟨F, fc, rfl, p1, p2, p0, p3⟩ := id ht
  clear p1 p2 p0 p3
  have H0 := (((InvF.start w).newG 31 #[.int .i64 x, .int .i64 y, .int .i64 z, .slice A l.length ac, .slice B k.length bc, .int .i64 qx, .int .i64 qy, .slice C ql.length cc, .slice D qk.length dc, .slice E L.length ec, .slice F T.length fc] w.heap.size).newG 42 #[.int .i64 0, .int .i64 0, .int .i64 0, .slice none 0 0, .slice none 0 0, .int .i64 0, .int .i64 0, .slice none 0 0, .slice none 0 0, .slice none 0 0, .slice none 0 0] (w.heap.size + 1)).newG 42 #[.int .i64 0, .int .i64 0, .int .i64 0, .slice none 0 0, .slice none 0 0, .int .i64 0, .int .i64 0, .slice none 0 0, .slice none 0 0, .slice none 0 0, .slice none 0 0] (w.heap.size + 1 + 1)
  go_enter Tryz.func11, Tryz.ntmps11
  go_wp2_with fail
  refine (toHead_any x y z qx qy _ _ _ _ _ l k ql qk L _ (ha.up H0.bel) (hb.up H0.bel) (hqa.up H0.bel) (hqb.up H0.bel) (hqs.up H0.bel) hl hk hql hqk hL hN).mono ?_
  rintro e w4 ⟨u1, u2, u3, u4, u5, vs, rfl, hv, K4⟩
  have H4 : InvF w w4 [segB 5 u1 l, segB 5 u2 k, segB 5 u3 ql, segB 5 u4 qk, segS 24 5 u5 vs L, segX 42 (w.heap.size + 1 + 1) [.int .i64 0, .int .i64 0, .int .i64 0, .slice none 0 0, .slice none 0 0, .int .i64 0, .int .i64 0, .slice none 0 0, .slice none 0 0, .slice none 0 0, .slice none 0 0], segX 42 (w.heap.size + 1) [.int .i64 0, .int .i64 0, .int .i64 0, .slice none 0 0, .slice none 0 0, .int .i64 0, .int .i64 0, .slice none 0 0, .slice none 0 0, .slice none 0 0, .slice none 0 0], segX 31 w.heap.size [.int .i64 x, .int .i64 y, .int .i64 z, .slice A l.length ac, .slice B k.length bc, .int .i64 qx, .int .i64 qy, .slice C ql.length cc, .slice D qk.length dc, .slice E L.length ec, .slice F T.length fc]] := H0.moreF K4
  clear H0 K4
  obtain ⟨A1, c1, rfl⟩ := H4.openB' (.head _)
  obtain ⟨A2, c2, rfl⟩ := H4.openB' (.tail _ (.head _))
  obtain ⟨A3, c3, rfl⟩ := H4.openB' (.tail _ (.tail _ (.head _)))
  obtain ⟨A4, c4, rfl⟩ := H4.openB' (.tail _ (.tail _ (.tail _ (.head _))))
  obtain ⟨A5, c5, rfl⟩ := H4.openS hv (.tail _ (.tail _ (.tail _ (.tail _ (.head _)))))
  have HV := Lib.hid hv
  clear hv
  have hT0 := H4.thereX (.tail _ (.tail _ (.tail _ (.tail _ (.tail _ (.head _)))))) 0 10 (by simp)
  have K5 := (H4.front 5 rfl).sets11h (.int .i64 x) (.int .i64 y) (.int .i64 z) (.slice A1 l.length c1) (.slice A2 k.length c2) (.int .i64 qx) (.int .i64 qy) (.slice A3 ql.length c3) (.slice A4 qk.length c4) (.slice A5 L.length c5)
  have H5 := Lib.hid K5
  obtain ⟨a0, a1, a2, a3, a4, a5, a6, a7, a8, a9, a10⟩ := K5.c11 (.tail _ (.tail _ (.tail _ (.tail _ (.tail _ (.tail _ (.tail _ (.head _))))))))
  clear H4 K5
  go_simp
  go_step
  go_step
  go_step
  go_step
  refine wpList_store_mid rfl 40 (.tmp 7) (.tmp 6) rfl (w.heap.size + 1 + 1) 0 #[.int .i64 x, .int .i64 y, .int .i64 z, .slice A1 l.length c1, .slice A2 k.length c2, .int .i64 qx, .int .i64 qy, .slice A3 ql.length c3, .slice A4 qk.length c4, .slice A5 L.length c5] rfl rfl hT0 (by kernel_rfl) (by simp [Value.oneCell']) ?_
  go_wp2_with fail
  clear a0 a1 a2 a3 a4 a5 a6 a7 a8 a9 a10
  refine (toByteSS_any _ T _ (ht.up H5.out.bel) hT hNT).mono ?_
  rintro e w6 ⟨u6, vt, rfl, hvt, K6⟩
  have H6 : InvF w w6 [segS 24 5 u6 vt T, segX 42 (w.heap.size + 1 + 1) [.int .i64 x, .int .i64 y, .int .i64 z, (.slice A1 l.length c1), (.slice A2 k.length c2), .int .i64 qx, .int .i64 qy, (.slice A3 ql.length c3), (.slice A4 qk.length c4), (.slice A5 L.length c5), .slice none 0 0], segB 5 (.slice A1 l.length c1) l, segB 5 (.slice A2 k.length c2) k, segB 5 (.slice A3 ql.length c3) ql, segB 5 (.slice A4 qk.length c4) qk, segS 24 5 (.slice A5 L.length c5) vs L, segX 42 (w.heap.size + 1) [.int .i64 0, .int .i64 0, .int .i64 0, .slice none 0 0, .slice none 0 0, .int .i64 0, .int .i64 0, .slice none 0 0, .slice none 0 0, .slice none 0 0, .slice none 0 0], segX 31 w.heap.size [.int .i64 x, .int .i64 y, .int .i64 z, .slice A l.length ac, .slice B k.length bc, .int .i64 qx, .int .i64 qy, .slice C ql.length cc, .slice D qk.length dc, .slice E L.length ec, .slice F T.length fc]] := H5.out.more (s := segS 24 5 u6 vt T) K6
  clear H5 K6
  obtain ⟨A6, c6, rfl⟩ := H6.openS hvt (.head _)
  have HVT := Lib.hid hvt
  clear hvt
  have hT1 := H6.thereX (.tail _ (.head _)) 10 1 (by simp)
  have K7 := (H6.front 1 rfl).setX 10 (.slice A6 T.length c6)
  have hR1 := K7.rangeX (.head _)
  have hT2 := K7.thereX (.tail _ (.tail _ (.tail _ (.tail _ (.tail _ (.tail _ (.tail _ (.head _)))))))) 0 11 (by simp)
  have hfz := H6.frX (.tail _ (.head _)) 10
  have hc10 := H6.atX (.tail _ (.head _)) 10 rfl
  have K8 := (K7.front 7 rfl).sets11 (.int .i64 x) (.int .i64 y) (.int .i64 z) (.slice A1 l.length c1) (.slice A2 k.length c2) (.int .i64 qx) (.int .i64 qy) (.slice A3 ql.length c3) (.slice A4 qk.length c4) (.slice A5 L.length c5) (.slice A6 T.length c6)
  have hR2 := K8.rangeX (.head _)
  have K9 := Lib.hid (K8.sub (qs := [segS 24 5 (.slice A6 T.length c6) vt T, segB 5 (.slice A1 l.length c1) l, segB 5 (.slice A2 k.length c2) k, segB 5 (.slice A3 ql.length c3) ql, segB 5 (.slice A4 qk.length c4) qk, segS 24 5 (.slice A5 L.length c5) vs L]) (.cons _ (.cons _ (.cons_cons _ (.cons_cons _ (.cons_cons _ (.cons_cons _ (.cons_cons _ (.cons_cons _ (.cons _ .slnil))))))))))
  clear H6 K7 K8
  go_simp
  go_step
  go_step
  go_step
  go_step
  go_step
  go_step
  go_step
  go_step
  go_step
  go_step
  go_step
  go_step
  refine wpList_load_mid rfl 42 (.tmp 3) rfl (w.heap.size + 1 + 1) 0 rfl [.int .i64 x, .int .i64 y, .int .i64 z, .slice A1 l.length c1, .slice A2 k.length c2, .int .i64 qx, .int .i64 qy, .slice A3 ql.length c3, .slice A4 qk.length c4, .slice A5 L.length c5, .slice A6 T.length c6] _ hR1 Tryz.underlying42 rfl (by kernel_rfl) ?_
  refine wpList_store_mid rfl 42 (.tmp 2) (.tmp 12) rfl (w.heap.size + 1) 0 #[.int .i64 x, .int .i64 y, .int .i64 z, .slice A1 l.length c1, .slice A2 k.length c2, .int .i64 qx, .int .i64 qy, .slice A3 ql.length c3, .slice A4 qk.length c4, .slice A5 L.length c5, .slice A6 T.length c6] rfl rfl hT2 (by kernel_rfl) (by simp [Value.oneCell']) ?_
  go_step
  go_step
  go_step
  go_step
  refine bodyPost_ret (results_cell_mid Tryz.results11 _ _ (w.heap.size + 1) 0 [.int .i64 x, .int .i64 y, .int .i64 z, .slice A1 l.length c1, .slice A2 k.length c2, .int .i64 qx, .int .i64 qy, .slice A3 ql.length c3, .slice A4 qk.length c4, .slice A5 L.length c5, .slice A6 T.length c6] _ rfl hR2 Tryz.underlying42 rfl (by kernel_rfl)) rfl ⟨_, _, _, _, _, _, vs, vt, rfl, HV.out, HVT.out, ?_⟩
  exact K9.out.perm (List.perm_append_comm (l₁ := [_]) (l₂ := [_, _, _, _, _]))

set_option maxHeartbeats 4000000 in
theorem eqBlock_any (x y z qx qy : Int) (a b qa qb qs t a' b' qa' qb' qs' t' : Value) (l k ql qk : List UInt8) (L T : List (List UInt8)) (w : World) (ha : Sl w w.heap.size a l) (hb : Sl w w.heap.size b k) (hqa : Sl w w.heap.size qa ql) (hqb : Sl w w.heap.size qb qk) (hqs : SlS w w.heap.size qs L) (ht : SlS w w.heap.size t T) (ha' : Sl w w.heap.size a' l) (hb' : Sl w w.heap.size b' k) (hqa' : Sl w w.heap.size qa' ql) (hqb' : Sl w w.heap.size qb' qk) (hqs' : SlS w w.heap.size qs' L) (ht' : SlS w w.heap.size t' T) :
    Calls Tryz.prog 14 #[.agg #[.int .i64 x, .int .i64 y, .int .i64 z, a, b, .int .i64 qx, .int .i64 qy, qa, qb, qs, t], .agg #[.int .i64 x, .int .i64 y, .int .i64 z, a', b', .int .i64 qx, .int .i64 qy, qa', qb', qs', t']] w (Yes w) := by
  obtain ⟨A, ac, rfl, p1, p2, p0, p3⟩ := id ha
  clear p1 p2 p0 p3
  obtain ⟨B, bc, rfl, p1, p2, p0, p3⟩ := id hb
  clear p1 p2 p0 p3
  obtain ⟨C, cc, rfl, p1, p2, p0, p3⟩ := id hqa
  clear p1 p2 p0 p3
  obtain ⟨D, dc, rfl, p1, p2, p0, p3⟩ := id hqb
  clear p1 p2 p0 p3
  obtain ⟨E, ec, rfl, p1, p2, p0, p3⟩ := id hqs
  clear p1 p2 p0 p3
  obtain ⟨F, fc, rfl, p1, p2, p0, p3⟩ := id ht
  clear p1 p2 p0 p3
  obtain ⟨A', ac', rfl, p1, p2, p0, p3⟩ := id ha'
  clear p1 p2 p0 p3
  obtain ⟨B', bc', rfl, p1, p2, p0, p3⟩ := id hb'
  clear p1 p2 p0 p3
  obtain ⟨C', cc', rfl, p1, p2, p0, p3⟩ := id hqa'
  clear p1 p2 p0 p3
  obtain ⟨D', dc', rfl, p1, p2, p0, p3⟩ := id hqb'
  clear p1 p2 p0 p3
  obtain ⟨E', ec', rfl, p1, p2, p0, p3⟩ := id hqs'
  clear p1 p2 p0 p3
  obtain ⟨F', fc', rfl, p1, p2, p0, p3⟩ := id ht'
  clear p1 p2 p0 p3
  have H := ((InvF.start w).newG 42 #[.int .i64 x, .int .i64 y, .int .i64 z, .slice A l.length ac, .slice B k.length bc, .int .i64 qx, .int .i64 qy, .slice C ql.length cc, .slice D qk.length dc, .slice E L.length ec, .slice F T.length fc] w.heap.size).newG 42 #[.int .i64 x, .int .i64 y, .int .i64 z, .slice A' l.length ac', .slice B' k.length bc', .int .i64 qx, .int .i64 qy, .slice C' ql.length cc', .slice D' qk.length dc', .slice E' L.length ec', .slice F' T.length fc'] (w.heap.size + 1)
  go_enter Tryz.func14, Tryz.ntmps14
  go_wp2_with fail
  refine (eqHead_any x y z qx qy _ _ _ _ _ _ _ _ _ _ l k ql qk L _ (ha.up H.bel) (hb.up H.bel) (hqa.up H.bel) (hqb.up H.bel) (hqs.up H.bel) (ha'.up H.bel) (hb'.up H.bel) (hqa'.up H.bel) (hqb'.up H.bel) (hqs'.up H.bel)).mono ?_
  rintro e w3 ⟨rfl, h3⟩
  replace H := H.up h3
  clear h3
  obtain ⟨o0, o1, o2, o3, o4, o5, o6, o7, o8, o9, o10⟩ := H.c11 (.tail _ (.head _))
  obtain ⟨q0, q1, q2, q3, q4, q5, q6, q7, q8, q9, q10⟩ := H.c11 (.head _)
  go_wp2_with fail
  refine (eqByteSS_any _ _ T _ (ht.up (by first | exact H.bel | exact H.drew1.bel)) (ht'.up (by first | exact H.bel | exact H.drew1.bel))).mono ?_
  rintro e _ ⟨rfl, d, rfl⟩
  have HF : Hid (∀ d, Below w.heap.size w (w3.drewN d)) := Lib.hid (fun d => (H.drewN d).bel)
  clear H o0 o1 o2 o3 o4 o5 o6 o7 o8 o9 o10 q0 q1 q2 q3 q4 q5 q6 q7 q8 q9 q10
  go_wp2
  go_ret
  exact ⟨rfl, by first | exact HF.out _ | exact HF.out 0 | (have h := HF.out (d + 1); simpa using h)⟩

end Go.Proofs.YtdoaikanaodefaaGreatDoor
/- Blocks: the contracts of markBlock and heldBlock. -/
namespace Go.Proofs.YtdoaikanaodefaaGreatDoor
open Go.ChangeShapes Go.WideShapes Go.ChangeAt Go.RowKit

set_option maxHeartbeats 4000000 in
theorem markBlock_z (x y z qx qy : Int) (W w : World) (a b qa qb qs t : Value) (vs vt : List Value) (l k ql qk : List UInt8) (L T : List (List UInt8)) (ss : List (List Row)) (m : Nat) (mz : Int) (hv : vs.length = L.length) (hvt : vt.length = T.length) (K : InvF W w (segB 5 a l :: segB 5 b k :: segB 5 qa ql :: segB 5 qb qk :: segS 24 5 qs vs L :: segS 24 5 t vt T :: ss)) (hz : mz = (m : Int)) (hm : m ≤ 67108864) (hl : l.length ≤ 4194304) (hk : k.length ≤ 4194304) (hql : ql.length ≤ 4194304) (hqk : qk.length ≤ 4194304) (hN : sumL L ≤ 4194304) (hNT : sumL T ≤ 4194304) :
    Calls Tryz.prog 16 #[.agg #[.int .i64 x, .int .i64 y, .int .i64 z, a, b, .int .i64 qx, .int .i64 qy, qa, qb, qs, t], .int .i64 mz] w (fun e w' => e = .returned (.int .i64 (mz + (l.length : Int) + (k.length : Int) + (ql.length : Int) + (qk.length : Int) + (sumL L : Int) + (sumL T : Int))) ∧
      InvF W w' (segB 5 a (marks (m) l.length) :: segB 5 b (marks (m + l.length) k.length) :: segB 5 qa (marks (m + l.length + k.length) ql.length) :: segB 5 qb (marks (m + l.length + k.length + ql.length) qk.length) :: segS 24 5 qs vs (marksS (m + l.length + k.length + ql.length + qk.length) L) :: segS 24 5 t vt (marksS (m + l.length + k.length + ql.length + qk.length + sumL L) T) :: ss)) := by
  obtain ⟨A, ac, rfl⟩ := K.openB' (.head _)
  obtain ⟨B, bc, rfl⟩ := K.openB' (.tail _ (.head _))
  obtain ⟨C, cc, rfl⟩ := K.openB' (.tail _ (.tail _ (.head _)))
  obtain ⟨D, dc, rfl⟩ := K.openB' (.tail _ (.tail _ (.tail _ (.head _))))
  obtain ⟨E, ec, rfl⟩ := K.openS hv (.tail _ (.tail _ (.tail _ (.tail _ (.head _)))))
  obtain ⟨F, fc, rfl⟩ := K.openS hvt (.tail _ (.tail _ (.tail _ (.tail _ (.tail _ (.head _))))))
  have HV := Lib.hid hv
  have HVT := Lib.hid hvt
  have K1 := K.newG 42 #[.int .i64 x, .int .i64 y, .int .i64 z, .slice A l.length ac, .slice B k.length bc, .int .i64 qx, .int .i64 qy, .slice C ql.length cc, .slice D qk.length dc, .slice E L.length ec, .slice F T.length fc] w.heap.size
  obtain ⟨o0, o1, o2, o3, o4, o5, o6, o7, o8, o9, o10⟩ := K1.c11 (.head _)
  replace K1 : InvF W _ (segB 5 (.slice A l.length ac) l :: segB 5 (.slice B k.length bc) k :: segB 5 (.slice C ql.length cc) ql :: segB 5 (.slice D qk.length dc) qk :: segS 24 5 (.slice E L.length ec) vs L :: segX 42 w.heap.size [.int .i64 x, .int .i64 y, .int .i64 z, .slice A l.length ac, .slice B k.length bc, .int .i64 qx, .int .i64 qy, .slice C ql.length cc, .slice D qk.length dc, .slice E L.length ec, .slice F T.length fc] :: segS 24 5 (.slice F T.length fc) vt T :: ss) := K1.perm (List.perm_append_comm (l₁ := [_]) (l₂ := [_, _, _, _, _]) |>.append_right (_ :: ss))
  have H1 := Lib.hid K1
  have HZ := Lib.hid hz
  have HN := Lib.hid hN
  have HNT := Lib.hid hNT
  have hz2 : Hid (mz + (l.length : Int) + (k.length : Int) + (ql.length : Int) + (qk.length : Int) + (sumL L : Int) = ((m + l.length + k.length + ql.length + qk.length + sumL L : Nat) : Int)) := Lib.hid (by omega)
  have hb0 : 0 ≤ mz := by omega
  have hb1 : mz ≤ 67108864 := by omega
  clear K K1 hz hv hvt hN hNT
  go_enter Tryz.func16, Tryz.ntmps16
  go_wp2_with fail
  refine (markHead_z x y z qx qy W _ _ _ _ _ _ vs l k ql qk L _ m _ HV.out H1.out HZ.out (by omega) hl hk hql hqk HN.out).mono ?_
  rintro e w2 ⟨rfl, K2⟩
  replace K2 : InvF W w2 (segB 5 (.slice A l.length ac) (marks (m) l.length) :: segB 5 (.slice B k.length bc) (marks (m + l.length) k.length) :: segB 5 (.slice C ql.length cc) (marks (m + l.length + k.length) ql.length) :: segB 5 (.slice D qk.length dc) (marks (m + l.length + k.length + ql.length) qk.length) :: segS 24 5 (.slice E L.length ec) vs (marksS (m + l.length + k.length + ql.length + qk.length) L) :: segX 42 w.heap.size [.int .i64 x, .int .i64 y, .int .i64 z, .slice A l.length ac, .slice B k.length bc, .int .i64 qx, .int .i64 qy, .slice C ql.length cc, .slice D qk.length dc, .slice E L.length ec, .slice F T.length fc] :: segS 24 5 (.slice F T.length fc) vt T :: ss) := K2
  clear o0 o1 o2 o3 o4 o5 o6 o7 o8 o9 o10
  obtain ⟨o0, o1, o2, o3, o4, o5, o6, o7, o8, o9, o10⟩ := K2.c11 (.tail _ (.tail _ (.tail _ (.tail _ (.tail _ (.head _))))))
  have H2 := Lib.hid (K2.front 6 rfl)
  clear K2 H1
  go_wp2_with fail
  refine (markByteSS_z W _ _ vt T _ (m + l.length + k.length + ql.length + qk.length + sumL L) _ HVT.out H2.out hz2.out (by have := HN.out; omega) (by have := HNT.out; omega)).mono ?_
  rintro e w3 ⟨rfl, K3⟩
  replace K3 : InvF W w3 (segS 24 5 (.slice F T.length fc) vt (marksS (m + l.length + k.length + ql.length + qk.length + sumL L) T) :: segB 5 (.slice A l.length ac) (marks (m) l.length) :: segB 5 (.slice B k.length bc) (marks (m + l.length) k.length) :: segB 5 (.slice C ql.length cc) (marks (m + l.length + k.length) ql.length) :: segB 5 (.slice D qk.length dc) (marks (m + l.length + k.length + ql.length) qk.length) :: segS 24 5 (.slice E L.length ec) vs (marksS (m + l.length + k.length + ql.length + qk.length) L) :: segX 42 w.heap.size [.int .i64 x, .int .i64 y, .int .i64 z, .slice A l.length ac, .slice B k.length bc, .int .i64 qx, .int .i64 qy, .slice C ql.length cc, .slice D qk.length dc, .slice E L.length ec, .slice F T.length fc] :: ss) := K3
  have K4 := Lib.hid ((K3.sub (qs := segS 24 5 (.slice F T.length fc) vt (marksS (m + l.length + k.length + ql.length + qk.length + sumL L) T) :: segB 5 (.slice A l.length ac) (marks (m) l.length) :: segB 5 (.slice B k.length bc) (marks (m + l.length) k.length) :: segB 5 (.slice C ql.length cc) (marks (m + l.length + k.length) ql.length) :: segB 5 (.slice D qk.length dc) (marks (m + l.length + k.length + ql.length) qk.length) :: segS 24 5 (.slice E L.length ec) vs (marksS (m + l.length + k.length + ql.length + qk.length) L) :: ss) (.cons_cons _ (.cons_cons _ (.cons_cons _ (.cons_cons _ (.cons_cons _ (.cons_cons _ (.cons _ (List.Sublist.refl _))))))))).perm (List.perm_append_comm (l₁ := [_]) (l₂ := [_, _, _, _, _]) |>.append_right ss))
  clear K3 H2 o0 o1 o2 o3 o4 o5 o6 o7 o8 o9 o10
  go_wp2
  go_ret
  exact ⟨rfl, K4.out⟩

set_option maxHeartbeats 4000000 in
theorem heldBlock_z (x y z qx qy : Int) (a b qa qb qs t : Value) (m n p q r : Nat) (L T : List (List UInt8)) (mz : Int) (w : World) (ha : Sl w w.heap.size a (marks m n)) (hb : Sl w w.heap.size b (marks (m + n) p)) (hqa : Sl w w.heap.size qa (marks (m + n + p) q)) (hqb : Sl w w.heap.size qb (marks (m + n + p + q) r)) (hqs : SlS w w.heap.size qs (marksS (m + n + p + q + r) L)) (ht : SlS w w.heap.size t (marksS (m + n + p + q + r + sumL L) T)) (hz : mz = (m : Int)) (hm : m ≤ 67108864) (hn : n ≤ 4194304) (hp : p ≤ 4194304) (hq : q ≤ 4194304) (hr : r ≤ 4194304) (hN : sumL L ≤ 4194304) (hNT : sumL T ≤ 4194304) :
    Calls Tryz.prog 20 #[.agg #[.int .i64 x, .int .i64 y, .int .i64 z, a, b, .int .i64 qx, .int .i64 qy, qa, qb, qs, t], .int .i64 mz] w (fun e w' => e = .returned (.int .i64 (mz + (n : Int) + (p : Int) + (q : Int) + (r : Int) + (sumL L : Int) + (sumL T : Int))) ∧ Below w.heap.size w w') := by
  obtain ⟨A, ac, rfl, p1, p2, p0, p3⟩ := id ha
  clear p1 p2 p0 p3
  obtain ⟨B, bc, rfl, p1, p2, p0, p3⟩ := id hb
  clear p1 p2 p0 p3
  obtain ⟨C, cc, rfl, p1, p2, p0, p3⟩ := id hqa
  clear p1 p2 p0 p3
  obtain ⟨D, dc, rfl, p1, p2, p0, p3⟩ := id hqb
  clear p1 p2 p0 p3
  obtain ⟨E, ec, rfl, p1, p2, p0, p3⟩ := id hqs
  clear p1 p2 p0 p3
  obtain ⟨F, fc, rfl, p1, p2, p0, p3⟩ := id ht
  clear p1 p2 p0 p3
  rw [marks_length] at ha hb hqa hqb ⊢
  rw [marks_length, marks_length, marks_length]
  rw [marksS_length] at hqs ht ⊢
  rw [marksS_length]
  have H := (InvF.start w).newG 42 #[.int .i64 x, .int .i64 y, .int .i64 z, .slice A n ac, .slice B p bc, .int .i64 qx, .int .i64 qy, .slice C q cc, .slice D r dc, .slice E L.length ec, .slice F T.length fc] w.heap.size
  have HZ := Lib.hid hz
  have HN := Lib.hid hN
  have HNT := Lib.hid hNT
  have hz1 : ¬ (mz + (n : Int) + (p : Int) + (q : Int) + (r : Int) + (sumL L : Int) < 0) := by omega
  have hz3 : ¬ (mz + (n : Int) + (p : Int) + (q : Int) + (r : Int) + (sumL L : Int) + (sumL T : Int) < 0) := by omega
  have hz2 : Hid (mz + (n : Int) + (p : Int) + (q : Int) + (r : Int) + (sumL L : Int) = ((m + n + p + q + r + sumL L : Nat) : Int)) := Lib.hid (by omega)
  have hb0 : 0 ≤ mz := by omega
  have hb1 : mz ≤ 67108864 := by omega
  have hb2 : Hid (m + n + p + q + r + sumL L ≤ 1073741824) := Lib.hid (by omega)
  clear hz hN hNT
  go_enter Tryz.func20, Tryz.ntmps20
  go_wp2_with fail
  refine (heldHead_z x y z qx qy _ _ _ _ _ m n p q r L _ _ (ha.up H.bel) (hb.up H.bel) (hqa.up H.bel) (hqb.up H.bel) (hqs.up H.bel) HZ.out (by omega) hn hp hq hr HN.out).mono ?_
  rintro e w1 ⟨rfl, hb1'⟩
  replace H := H.up hb1'
  clear hb1'
  obtain ⟨o0, o1, o2, o3, o4, o5, o6, o7, o8, o9, o10⟩ := H.c11 (.head _)
  go_wp2_with fail
  refine (heldByteSS_z _ (m + n + p + q + r + sumL L) _ T _ (ht.up H.bel) hz2.out hb2.out (by have := HNT.out; omega)).mono ?_
  rintro e _ ⟨rfl, d, rfl⟩
  have H2 := Lib.hid (H.drewN d)
  clear H
  go_wp2
  go_ret
  exact ⟨rfl, H2.out.bel⟩
end Go.Proofs.YtdoaikanaodefaaGreatDoor
/- Blocks whose slices of slices lie over any row of a call's own: markBlock. -/
namespace Go.Proofs.YtdoaikanaodefaaGreatDoor
open Go.ChangeShapes Go.WideShapes Go.ChangeAt Go.RowKit

theorem markByteSST_z (W w : World) (u : Value) (row : Row) (vs : List Value) (L : List (List UInt8)) (ss : List (List Row)) (k : Nat) (kz : Int) (hv : vs.length = L.length) (hr : Reads0 u row vs) (H : InvF W w ((row :: rowsS 5 vs L) :: ss)) (hz : kz = (k : Int)) (hk : k ≤ 1073741824) (hs : sumL L ≤ 1073741824) :
    Calls Tryz.prog 30 #[u, .int .i64 kz] w (fun e w' => e = .returned (.int .i64 (kz + (sumL L : Int))) ∧ InvF W w' ((row :: rowsS 5 vs (marksS k L)) :: ss)) := by
  subst hz
  exact markByteSST_any W w u row vs L ss.flatten k hv hr H hk hs

set_option maxHeartbeats 4000000 in
theorem markBlockT_z (x y z qx qy : Int) (W w : World) (a b qa qb qs t : Value) (row : Row) (vs : List Value) (rot : Row) (vt : List Value) (l k ql qk : List UInt8) (L T : List (List UInt8)) (ss : List (List Row)) (m : Nat) (mz : Int) (hv : vs.length = L.length) (hr : Reads0 qs row vs) (hvt : vt.length = T.length) (hrt : Reads0 t rot vt) (K : InvF W w (segB 5 a l :: segB 5 b k :: segB 5 qa ql :: segB 5 qb qk :: (row :: rowsS 5 vs L) :: (rot :: rowsS 5 vt T) :: ss)) (hz : mz = (m : Int)) (hm : m ≤ 67108864) (hl : l.length ≤ 4194304) (hk : k.length ≤ 4194304) (hql : ql.length ≤ 4194304) (hqk : qk.length ≤ 4194304) (hN : sumL L ≤ 4194304) (hNT : sumL T ≤ 4194304) :
    Calls Tryz.prog 16 #[.agg #[.int .i64 x, .int .i64 y, .int .i64 z, a, b, .int .i64 qx, .int .i64 qy, qa, qb, qs, t], .int .i64 mz] w (fun e w' => e = .returned (.int .i64 (mz + (l.length : Int) + (k.length : Int) + (ql.length : Int) + (qk.length : Int) + (sumL L : Int) + (sumL T : Int))) ∧
      InvF W w' (segB 5 a (marks (m) l.length) :: segB 5 b (marks (m + l.length) k.length) :: segB 5 qa (marks (m + l.length + k.length) ql.length) :: segB 5 qb (marks (m + l.length + k.length + ql.length) qk.length) :: (row :: rowsS 5 vs (marksS (m + l.length + k.length + ql.length + qk.length) L)) :: (rot :: rowsS 5 vt (marksS (m + l.length + k.length + ql.length + qk.length + sumL L) T)) :: ss)) := by
  obtain ⟨A, ac, rfl⟩ := K.openB' (.head _)
  obtain ⟨B, bc, rfl⟩ := K.openB' (.tail _ (.head _))
  obtain ⟨C, cc, rfl⟩ := K.openB' (.tail _ (.tail _ (.head _)))
  obtain ⟨D, dc, rfl⟩ := K.openB' (.tail _ (.tail _ (.tail _ (.head _))))
  obtain ⟨E, ec, rfl⟩ := K.openT hv hr
  obtain ⟨F, fc, rfl⟩ := K.openT hvt hrt
  have HV := Lib.hid hv
  have HVT := Lib.hid hvt
  have HR := Lib.hid hr
  have HRT := Lib.hid hrt
  have K1 := K.newG 42 #[.int .i64 x, .int .i64 y, .int .i64 z, .slice A l.length ac, .slice B k.length bc, .int .i64 qx, .int .i64 qy, .slice C ql.length cc, .slice D qk.length dc, .slice E L.length ec, .slice F T.length fc] w.heap.size
  obtain ⟨o0, o1, o2, o3, o4, o5, o6, o7, o8, o9, o10⟩ := K1.c11 (.head _)
  replace K1 : InvF W _ (segB 5 (.slice A l.length ac) l :: segB 5 (.slice B k.length bc) k :: segB 5 (.slice C ql.length cc) ql :: segB 5 (.slice D qk.length dc) qk :: (row :: rowsS 5 vs L) :: segX 42 w.heap.size [.int .i64 x, .int .i64 y, .int .i64 z, .slice A l.length ac, .slice B k.length bc, .int .i64 qx, .int .i64 qy, .slice C ql.length cc, .slice D qk.length dc, .slice E L.length ec, .slice F T.length fc] :: (rot :: rowsS 5 vt T) :: ss) := K1.perm (List.perm_append_comm (l₁ := [_]) (l₂ := [_, _, _, _, _]) |>.append_right (_ :: ss))
  have H1 := Lib.hid K1
  have HZ := Lib.hid hz
  have HN := Lib.hid hN
  have HNT := Lib.hid hNT
  have hz2 : Hid (mz + (l.length : Int) + (k.length : Int) + (ql.length : Int) + (qk.length : Int) + (sumL L : Int) = ((m + l.length + k.length + ql.length + qk.length + sumL L : Nat) : Int)) := Lib.hid (by omega)
  have hb0 : 0 ≤ mz := by omega
  have hb1 : mz ≤ 67108864 := by omega
  clear K K1 hz hv hvt hN hNT hr hrt
  go_enter Tryz.func16, Tryz.ntmps16
  go_wp2_with fail
  refine (markHeadT_z x y z qx qy W _ _ _ _ _ _ row vs l k ql qk L _ m _ HV.out HR.out H1.out HZ.out (by omega) hl hk hql hqk HN.out).mono ?_
  rintro e w2 ⟨rfl, K2⟩
  replace K2 : InvF W w2 (segB 5 (.slice A l.length ac) (marks (m) l.length) :: segB 5 (.slice B k.length bc) (marks (m + l.length) k.length) :: segB 5 (.slice C ql.length cc) (marks (m + l.length + k.length) ql.length) :: segB 5 (.slice D qk.length dc) (marks (m + l.length + k.length + ql.length) qk.length) :: (row :: rowsS 5 vs (marksS (m + l.length + k.length + ql.length + qk.length) L)) :: segX 42 w.heap.size [.int .i64 x, .int .i64 y, .int .i64 z, .slice A l.length ac, .slice B k.length bc, .int .i64 qx, .int .i64 qy, .slice C ql.length cc, .slice D qk.length dc, .slice E L.length ec, .slice F T.length fc] :: (rot :: rowsS 5 vt T) :: ss) := K2
  clear o0 o1 o2 o3 o4 o5 o6 o7 o8 o9 o10
  obtain ⟨o0, o1, o2, o3, o4, o5, o6, o7, o8, o9, o10⟩ := K2.c11 (.tail _ (.tail _ (.tail _ (.tail _ (.tail _ (.head _))))))
  have H2 := Lib.hid (K2.front 6 rfl)
  clear K2 H1
  go_wp2_with fail
  refine (markByteSST_z W _ _ rot vt T _ (m + l.length + k.length + ql.length + qk.length + sumL L) _ HVT.out HRT.out H2.out hz2.out (by have := HN.out; omega) (by have := HNT.out; omega)).mono ?_
  rintro e w3 ⟨rfl, K3⟩
  replace K3 : InvF W w3 ((rot :: rowsS 5 vt (marksS (m + l.length + k.length + ql.length + qk.length + sumL L) T)) :: segB 5 (.slice A l.length ac) (marks (m) l.length) :: segB 5 (.slice B k.length bc) (marks (m + l.length) k.length) :: segB 5 (.slice C ql.length cc) (marks (m + l.length + k.length) ql.length) :: segB 5 (.slice D qk.length dc) (marks (m + l.length + k.length + ql.length) qk.length) :: (row :: rowsS 5 vs (marksS (m + l.length + k.length + ql.length + qk.length) L)) :: segX 42 w.heap.size [.int .i64 x, .int .i64 y, .int .i64 z, .slice A l.length ac, .slice B k.length bc, .int .i64 qx, .int .i64 qy, .slice C ql.length cc, .slice D qk.length dc, .slice E L.length ec, .slice F T.length fc] :: ss) := K3
  have K4 := Lib.hid ((K3.sub (qs := (rot :: rowsS 5 vt (marksS (m + l.length + k.length + ql.length + qk.length + sumL L) T)) :: segB 5 (.slice A l.length ac) (marks (m) l.length) :: segB 5 (.slice B k.length bc) (marks (m + l.length) k.length) :: segB 5 (.slice C ql.length cc) (marks (m + l.length + k.length) ql.length) :: segB 5 (.slice D qk.length dc) (marks (m + l.length + k.length + ql.length) qk.length) :: (row :: rowsS 5 vs (marksS (m + l.length + k.length + ql.length + qk.length) L)) :: ss) (.cons_cons _ (.cons_cons _ (.cons_cons _ (.cons_cons _ (.cons_cons _ (.cons_cons _ (.cons _ (List.Sublist.refl _))))))))).perm (List.perm_append_comm (l₁ := [_]) (l₂ := [_, _, _, _, _]) |>.append_right ss))
  clear K3 H2 o0 o1 o2 o3 o4 o5 o6 o7 o8 o9 o10
  go_wp2
  go_ret
  exact ⟨rfl, K4.out⟩

end Go.Proofs.YtdoaikanaodefaaGreatDoor
/- What GetBlock reads, part by part up to the first error; what it answers. -/
namespace Go.Proofs.YtdoaikanaodefaaGreatDoor
open Go.ChangeShapes Go.WideShapes Go.ChangeAt Go.RowKit

/-- What GetBlock reads of l from place p on under limits of n signers, c transactions of b bytes, the error e being there already. -/
structure BkAt where
  h : HdAt
  T : List (List UInt8)
  p : Int
  e : Int
/-- The number of transactions, and the error behind it. -/
def bkN (l : List UInt8) (h : HdAt) : Int := nV l h.q.p h.e
def bkE (l : List UInt8) (h : HdAt) (c : Int) : Int := fE (nE l h.q.p h.e) (decide (bkN l h ≤ c)) 3
/-- The transactions. -/
def bkT (l : List UInt8) (h : HdAt) (b c : Int) : List (List UInt8) × Int × Int := txsAt l b (nP l h.q.p h.e) (bkE l h c) (bkN l h).toNat
def bkAt (l : List UInt8) (n b c p e : Int) : BkAt :=
  { h := hdAt l n p e, T := (bkT l (hdAt l n p e) b c).1, p := (bkT l (hdAt l n p e) b c).2.1, e := fE (bkT l (hdAt l n p e) b c).2.2 ((hdAt l n p e).k == treeL (bkT l (hdAt l n p e) b c).1) 7 }
theorem fE_ne {e c : Int} (h : e ≠ 0) (ok : Bool) : fE e ok c ≠ 0 := by
  rw [fE_no h]
  exact h
theorem tagsAt_stop {l : List UInt8} {p e : Int} (h : e ≠ 0) : ∀ j, (tagsAt l p e j).2.2 ≠ 0
  | 0 => h
  | j + 1 => by
    have ih := tagsAt_stop (l := l) (p := p) h j
    show rE l 32 _ _ ≠ 0
    rw [rE_no ih]
    exact ih
theorem qc_stop {l : List UInt8} {n p e : Int} (h : e ≠ 0) : (qcAt l n p e).e ≠ 0 := by
  have h1 : nE l p e ≠ 0 := by rw [nE_no h]; exact h
  have h2 : nE l (nP l p e) (nE l p e) ≠ 0 := by rw [nE_no h1]; exact h1
  have h3 : rE l 32 (nP l (nP l p e) (nE l p e)) (nE l (nP l p e) (nE l p e)) ≠ 0 := by rw [rE_no h2]; exact h2
  refine tagsAt_stop ?_ _
  rw [bE_no h3]
  exact h3
theorem hd_stop {l : List UInt8} {n p e : Int} (h : e ≠ 0) : (hdAt l n p e).e ≠ 0 := by
  unfold hdAt
  refine fE_ne (qc_stop ?_) _
  have h1 : nE l p e ≠ 0 := by rw [nE_no h]; exact h
  have h2 := fE_ne (e := nE l (nP l p e) (nE l p e)) (c := 5) (by rw [nE_no h1]; exact h1) (!(nV l (nP l p e) (nE l p e) == 0))
  rw [rE_no, rE_no]
  all_goals first
    | exact fE_ne (by rw [nE_no h2]; exact h2) _
    | (rw [rE_no]; exact fE_ne (by rw [nE_no h2]; exact h2) _; exact fE_ne (by rw [nE_no h2]; exact h2) _)
/-- The parts: the header's error; an error at the number; one within the transactions; the root. -/
theorem bk_head {l : List UInt8} {n b c p e : Int} (h : (hdAt l n p e).e ≠ 0) : bkAt l n b c p e = ⟨hdAt l n p e, [], (hdAt l n p e).q.p, (hdAt l n p e).e⟩ := by
  have hN : bkN l (hdAt l n p e) = 0 := nV_no h
  have hE : bkE l (hdAt l n p e) c = (hdAt l n p e).e := by
    unfold bkE
    rw [nE_no h, fE_no h]
  have hT : bkT l (hdAt l n p e) b c = ([], (hdAt l n p e).q.p, (hdAt l n p e).e) := by
    unfold bkT
    rw [hN, hE, nP_no h]
    rfl
  unfold bkAt
  rw [hT]
  simp only [fE_no h]
theorem bk_num {l : List UInt8} {n b c p e : Int} (h : bkE l (hdAt l n p e) c ≠ 0) : bkAt l n b c p e = ⟨hdAt l n p e, [], nP l (hdAt l n p e).q.p (hdAt l n p e).e, bkE l (hdAt l n p e) c⟩ := by
  have hT : bkT l (hdAt l n p e) b c = ([], nP l (hdAt l n p e).q.p (hdAt l n p e).e, bkE l (hdAt l n p e) c) := by
    unfold bkT
    exact txs_stay (j := 0) h _ (Nat.zero_le _)
  unfold bkAt
  rw [hT]
  simp only [fE_no h]
theorem bk_txs {l : List UInt8} {n b c p e : Int} {j : Nat} (hj : (j : Int) ≤ bkN l (hdAt l n p e)) (h : (txsAt l b (nP l (hdAt l n p e).q.p (hdAt l n p e).e) (bkE l (hdAt l n p e) c) j).2.2 ≠ 0) :
    (bkAt l n b c p e).e = (txsAt l b (nP l (hdAt l n p e).q.p (hdAt l n p e).e) (bkE l (hdAt l n p e) c) j).2.2 := by
  have hT : bkT l (hdAt l n p e) b c = txsAt l b (nP l (hdAt l n p e).q.p (hdAt l n p e).e) (bkE l (hdAt l n p e) c) j := txs_stay h _ (by omega)
  unfold bkAt
  rw [hT]
  simp only [fE_no h]
theorem bk_few {l : List UInt8} {n c p e : Int} (h : bkE l (hdAt l n p e) c = 0) : bkN l (hdAt l n p e) ≤ c ∧ 0 ≤ bkN l (hdAt l n p e) ∧ nE l (hdAt l n p e).q.p (hdAt l n p e).e = 0 := by
  have h0 : nE l (hdAt l n p e).q.p (hdAt l n p e).e = 0 := by
    rcases Decidable.em (nE l (hdAt l n p e).q.p (hdAt l n p e).e = 0) with h0 | h0
    · exact h0
    · exact absurd h (fE_ne h0 _)
  refine ⟨?_, nV_lo _ _ _, h0⟩
  unfold bkE at h
  rw [h0, fE_yes] at h
  rcases Decidable.em (bkN l (hdAt l n p e) ≤ c) with h1 | h1
  · exact h1
  · rw [decide_eq_false h1] at h
    simp at h

/-- The result: a block and the place behind it, or the error. -/
def gkX (r : BkAt) : Int := if r.e = 0 then r.h.x else 0
def gkY (r : BkAt) : Int := if r.e = 0 then r.h.y else 0
def gkZ (r : BkAt) : Int := if r.e = 0 then r.h.z else 0
def gkM (r : BkAt) : List UInt8 := if r.e = 0 then r.h.m else []
def gkK (r : BkAt) : List UInt8 := if r.e = 0 then r.h.k else []
def gkQX (r : BkAt) : Int := if r.e = 0 then r.h.q.x else 0
def gkQY (r : BkAt) : Int := if r.e = 0 then r.h.q.y else 0
def gkQM (r : BkAt) : List UInt8 := if r.e = 0 then r.h.q.m else []
def gkQK (r : BkAt) : List UInt8 := if r.e = 0 then r.h.q.k else []
def gkQL (r : BkAt) : List (List UInt8) := if r.e = 0 then r.h.q.L else []
def gkT (r : BkAt) : List (List UInt8) := if r.e = 0 then r.T else []
def gkP (r : BkAt) : Int := if r.e = 0 then r.p else 0
theorem gk_all {r : BkAt} (h : r.e = 0) : gkX r = r.h.x ∧ gkY r = r.h.y ∧ gkZ r = r.h.z ∧ gkM r = r.h.m ∧ gkK r = r.h.k ∧ gkQX r = r.h.q.x ∧ gkQY r = r.h.q.y ∧ gkQM r = r.h.q.m ∧ gkQK r = r.h.q.k ∧ gkQL r = r.h.q.L ∧ gkT r = r.T ∧ gkP r = r.p :=
  ⟨if_pos h, if_pos h, if_pos h, if_pos h, if_pos h, if_pos h, if_pos h, if_pos h, if_pos h, if_pos h, if_pos h, if_pos h⟩
theorem gk_none {r : BkAt} (h : r.e ≠ 0) : gkX r = 0 ∧ gkY r = 0 ∧ gkZ r = 0 ∧ gkM r = [] ∧ gkK r = [] ∧ gkQX r = 0 ∧ gkQY r = 0 ∧ gkQM r = [] ∧ gkQK r = [] ∧ gkQL r = [] ∧ gkT r = [] ∧ gkP r = 0 :=
  ⟨if_neg h, if_neg h, if_neg h, if_neg h, if_neg h, if_neg h, if_neg h, if_neg h, if_neg h, if_neg h, if_neg h, if_neg h⟩
theorem bk_ok {l : List UInt8} {n b c p e : Int} (h : (bkAt l n b c p e).e = 0) : (hdAt l n p e).e = 0 := by
  rcases Decidable.em ((hdAt l n p e).e = 0) with h0 | h0
  · exact h0
  · rw [bk_head h0] at h
    exact absurd h h0
theorem gkM_len (l : List UInt8) (n b c p e : Int) : (gkM (bkAt l n b c p e)).length ≤ l.length := by
  unfold gkM
  split
  · exact rV_len l 32 _ _
  · simp
theorem gkK_len (l : List UInt8) (n b c p e : Int) : (gkK (bkAt l n b c p e)).length ≤ l.length := by
  unfold gkK
  split
  · exact rV_len l 32 _ _
  · simp
theorem gkQM_len (l : List UInt8) (n b c p e : Int) : (gkQM (bkAt l n b c p e)).length ≤ l.length := by
  unfold gkQM
  split
  · exact qcAt_m l n _ _
  · simp
theorem gkQK_len (l : List UInt8) (n b c p e : Int) : (gkQK (bkAt l n b c p e)).length ≤ l.length := by
  unfold gkQK
  split
  · exact qcAt_k l n _ _
  · simp
theorem gkQL_sum (l : List UInt8) (n b c p e : Int) : sumL (gkQL (bkAt l n b c p e)) ≤ 320 := by
  unfold gkQL
  split
  · exact qcAt_L l n _ _
  · simp [sumL]
theorem gkT_sum (l : List UInt8) (a b c d f p : Int) : sumL (gkT (bkAt l a b c p (limE a b c d f))) ≤ 320 := by
  unfold gkT
  split
  · rename_i h
    have h0 := bk_ok h
    have hl : limE a b c d f = 0 := by
      rcases Decidable.em (limE a b c d f = 0) with h1 | h1
      · exact h1
      · exact absurd h0 (hd_stop h1)
    have hB : limB a b c d f = true := by
      unfold limE at hl
      rcases Decidable.em (limB a b c d f = true) with h1 | h1
      · exact h1
      · rw [if_neg h1] at hl
        exact absurd hl (by decide)
    obtain ⟨_, hb, hc, _⟩ := limB_yes hB
    have hE : bkE l (hdAt l a p (limE a b c d f)) c = 0 := by
      rcases Decidable.em (bkE l (hdAt l a p (limE a b c d f)) c = 0) with h1 | h1
      · exact h1
      · rw [bk_num h1] at h
        exact absurd h h1
    obtain ⟨h1, h2, _⟩ := bk_few hE
    have h3 := (txs_sum hb.2 l (nP l (hdAt l a p (limE a b c d f)).q.p (hdAt l a p (limE a b c d f)).e) (bkE l (hdAt l a p (limE a b c d f)) c) (bkN l (hdAt l a p (limE a b c d f))).toNat).1
    show sumL (bkT l (hdAt l a p (limE a b c d f)) b c).1 ≤ 320
    unfold bkT
    omega
  · simp [sumL]

/-- The call returns a block of new rows, and two numbers beside it; nothing that was there has turned. -/
def FreshG3 (w : World) (x y z qx qy : Int) (l k ql qk : List UInt8) (L T : List (List UInt8)) (n c : Int) (e : Ending) (w' : World) : Prop :=
  ∃ a b qa qb qs t row vs rot vt, e = .returned (.tuple #[.agg #[.int .i64 x, .int .i64 y, .int .i64 z, a, b, .int .i64 qx, .int .i64 qy, qa, qb, qs, t], .int .i64 n, .int .i64 c]) ∧ vs.length = L.length ∧ Reads0 qs row vs ∧ vt.length = T.length ∧ Reads0 t rot vt ∧
    InvF w w' [segB 5 a l, segB 5 b k, segB 5 qa ql, segB 5 qb qk, row :: rowsS 5 vs L, rot :: rowsS 5 vt T]
/-- What GetBlock answers. -/
def GotBk (w : World) (r : BkAt) : Ending → World → Prop := FreshG3 w (gkX r) (gkY r) (gkZ r) (gkQX r) (gkQY r) (gkM r) (gkK r) (gkQM r) (gkQK r) (gkQL r) (gkT r) (gkP r) r.e
theorem gotk_yes {w : World} {r : BkAt} {e : Ending} {w' : World} (h : r.e = 0) (H : FreshG3 w r.h.x r.h.y r.h.z r.h.q.x r.h.q.y r.h.m r.h.k r.h.q.m r.h.q.k r.h.q.L r.T r.p 0 e w') : GotBk w r e w' := by
  obtain ⟨i1, i2, i3, i4, i5, i6, i7, i8, i9, i10, i11, i12⟩ := gk_all h
  unfold GotBk
  rw [i1, i2, i3, i4, i5, i6, i7, i8, i9, i10, i11, i12, h]
  exact H
theorem gotk_no {w : World} {r : BkAt} {e : Ending} {w' : World} (h : r.e ≠ 0) (he : e = .returned (.tuple #[.agg #[.int .i64 0, .int .i64 0, .int .i64 0, .slice none 0 0, .slice none 0 0, .int .i64 0, .int .i64 0, .slice none 0 0, .slice none 0 0, .slice none 0 0, .slice none 0 0], .int .i64 0, .int .i64 r.e])) (H : Below w.heap.size w w') : GotBk w r e w' := by
  obtain ⟨i1, i2, i3, i4, i5, i6, i7, i8, i9, i10, i11, i12⟩ := gk_none h
  unfold GotBk
  rw [i1, i2, i3, i4, i5, i6, i7, i8, i9, i10, i11, i12]
  have hg : ∀ (w : World) (B : Nat), GOwn w B (24, .slice none 0 0, []) := fun w B => World.ownsRow_nil _ _ _ _
  refine ⟨.slice none 0 0, .slice none 0 0, .slice none 0 0, .slice none 0 0, .slice none 0 0, .slice none 0 0, (24, .slice none 0 0, []), [], (24, .slice none 0 0, []), [], he, rfl, reads0_row (hg w 0), rfl, reads0_row (hg w 0), ?_⟩
  have h0 : InvF w w [[(24, .slice none 0 0, [])]] := (InvF.start w).more ((InvG.start w).moreG (hg _ _) (Below.refl _ _))
  have h1 : InvF w w [[(24, .slice none 0 0, [])], [(24, .slice none 0 0, [])]] := h0.more (s := [(24, .slice none 0 0, [])]) ((InvG.start w).moreG (hg _ _) (Below.refl _ _))
  have h2 := h1.moreB (E := 5) (v := .slice none 0 0) (l := []) (World.ownsRow_nil _ _ _ _) (Below.refl _ _)
  have h3 := h2.moreB (E := 5) (v := .slice none 0 0) (l := []) (World.ownsRow_nil _ _ _ _) (Below.refl _ _)
  have h4 := h3.moreB (E := 5) (v := .slice none 0 0) (l := []) (World.ownsRow_nil _ _ _ _) (Below.refl _ _)
  have h5 := h4.moreB (E := 5) (v := .slice none 0 0) (l := []) (World.ownsRow_nil _ _ _ _) H
  exact h5
end Go.Proofs.YtdoaikanaodefaaGreatDoor
