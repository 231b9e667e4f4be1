/- headCopy and blockCopy of the program: a header, a block of new rows. -/
import Derived.Test.YtdoaikanaodefaaGreatDoorQcCopy
import Derived.Test.YtdoaikanaodefaaGreatDoorBlock
import Derived.Deep.RegionHeld3
namespace Go.Proofs.YtdoaikanaodefaaGreatDoor
open Go.ChangeShapes Go.WideShapes Go.ChangeAt Go.RowKit

set_option maxRecDepth 100000 in
set_option maxHeartbeats 8000000 in
theorem headCopy_any (x y z qx qy : Int) (a b qa qb qs : Value) (l k ql qk : List UInt8) (L : List (List UInt8)) (w : World) (ha : Sl w w.heap.size a l) (hb : Sl w w.heap.size b k) (hqa : Sl w w.heap.size qa ql) (hqb : Sl w w.heap.size qb qk) (hqs : SlS w w.heap.size qs L) (hl : l.length ≤ 1048576) (hk : k.length ≤ 1048576) (hql : ql.length ≤ 1048576) (hqk : qk.length ≤ 1048576) (hL : L.length ≤ 1048576) (hN : sumL L ≤ 1048576) :
    Calls Tryz.prog 93 #[.agg #[.int .i64 x, .int .i64 y, .int .i64 z, a, b, .int .i64 qx, .int .i64 qy, qa, qb, qs]] w (FreshH w x y z qx qy l k ql qk L) := by
  obtain ⟨A, ac, rfl, p1, p2, p0, p3⟩ := id ha
  clear p1 p2 p0 p3
  obtain ⟨B, bc, rfl, p1, p2, p0, p3⟩ := id hb
  clear p1 p2 p0 p3
  obtain ⟨C, cc, rfl, p1, p2, p0, p3⟩ := id hqa
  clear p1 p2 p0 p3
  obtain ⟨D, dc, rfl, p1, p2, p0, p3⟩ := id hqb
  clear p1 p2 p0 p3
  obtain ⟨E, ec, rfl, p1, p2, p0, p3⟩ := id hqs
  clear p1 p2 p0 p3
  have HA := Lib.hid ha
  have HB := Lib.hid hb
  have HQA := Lib.hid hqa
  have HQB := Lib.hid hqb
  have HQS := Lib.hid hqs
  have H0 : InvF w _ [segX 40 (w.heap.size + 1) [.int .i64 0, .int .i64 0, .int .i64 0, .slice none 0 0, .slice none 0 0, .int .i64 0, .int .i64 0, .slice none 0 0, .slice none 0 0, .slice none 0 0], segX 40 w.heap.size [.int .i64 x, .int .i64 y, .int .i64 z, (.slice A l.length ac), (.slice B k.length bc), .int .i64 qx, .int .i64 qy, (.slice C ql.length cc), (.slice D qk.length dc), (.slice E L.length ec)]] := ((InvF.start w).newG 40 #[.int .i64 x, .int .i64 y, .int .i64 z, .slice A l.length ac, .slice B k.length bc, .int .i64 qx, .int .i64 qy, .slice C ql.length cc, .slice D qk.length dc, .slice E L.length ec] w.heap.size).newG 40 #[.int .i64 0, .int .i64 0, .int .i64 0, .slice none 0 0, .slice none 0 0, .int .i64 0, .int .i64 0, .slice none 0 0, .slice none 0 0, .slice none 0 0] (w.heap.size + 1)
  clear ha hb hqa hqb hqs
  go_enter Tryz.func93, Tryz.ntmps93
  go_wp2_with fail
  refine (joined_any (.slice none 0 0) _ [] l _ Sl.nil_ (HA.out.up H0.bel) (by simp) (by omega)).mono ?_
  rw [List.nil_append]
  rintro ev w2 ⟨u1, rfl, ho1, hb1⟩
  have H1 := H0.moreB ho1 hb1
  clear H0 ho1 hb1
  obtain ⟨A1, c1, rfl⟩ := H1.openB' (.head _)
  obtain ⟨o0, o1, o2, o3, o4, o5, o6, o7, o8, o9⟩ := H1.c10 (.tail _ (.tail _ (.head _)))
  obtain ⟨f0, f1, f2, f3, f4, f5, f6, f7, f8, f9⟩ := H1.f10 (.tail _ (.tail _ (.head _)))
  go_wp2_with fail
  have H2 := (H1.front 2 rfl).setX 3 (.slice A1 l.length c1)
  clear H1
  clear o0 f0 o1 f1 o2 f2 o3 f3 o4 f4 o5 f5 o6 f6 o7 f7 o8 f8 o9 f9
  refine (joined_any (.slice none 0 0) _ [] k _ Sl.nil_ (HB.out.up H2.bel) (by simp) (by omega)).mono ?_
  rw [List.nil_append]
  rintro ev w3 ⟨u2, rfl, ho2, hb2⟩
  have H3 : InvF w w3 [segB 5 u2 k, segX 40 w.heap.size [.int .i64 x, .int .i64 y, .int .i64 z, (.slice A1 l.length c1), (.slice B k.length bc), .int .i64 qx, .int .i64 qy, (.slice C ql.length cc), (.slice D qk.length dc), (.slice E L.length ec)], segB 5 (.slice A1 l.length c1) l, segX 40 (w.heap.size + 1) [.int .i64 0, .int .i64 0, .int .i64 0, .slice none 0 0, .slice none 0 0, .int .i64 0, .int .i64 0, .slice none 0 0, .slice none 0 0, .slice none 0 0]] := H2.moreB ho2 hb2
  clear H2 ho2 hb2
  obtain ⟨A2, c2, rfl⟩ := H3.openB' (.head _)
  obtain ⟨o0, o1, o2, o3, o4, o5, o6, o7, o8, o9⟩ := H3.c10 (.tail _ (.head _))
  obtain ⟨f0, f1, f2, f3, f4, f5, f6, f7, f8, f9⟩ := H3.f10 (.tail _ (.head _))
  go_wp2_with fail
  have H4 := (H3.front 1 rfl).setX 4 (.slice A2 k.length c2)
  clear H3
  clear o0 f0 o1 f1 o2 f2 o3 f3 o4 f4 o5 f5 o6 f6 o7 f7 o8 f8 o9 f9
  refine (qcCopy_any qx qy _ _ _ ql qk L _ (HQA.out.up H4.bel) (HQB.out.up H4.bel) (HQS.out.up H4.bel) hql hqk hL hN).mono ?_
  rintro ev w4 ⟨u3, u4, u5, vs, rfl, hv, K⟩
  have H5 : InvF w w4 [segB 5 u3 ql, segB 5 u4 qk, segS 24 5 u5 vs L, segX 40 w.heap.size [.int .i64 x, .int .i64 y, .int .i64 z, (.slice A1 l.length c1), (.slice A2 k.length c2), .int .i64 qx, .int .i64 qy, (.slice C ql.length cc), (.slice D qk.length dc), (.slice E L.length ec)], segB 5 (.slice A2 k.length c2) k, segB 5 (.slice A1 l.length c1) l, segX 40 (w.heap.size + 1) [.int .i64 0, .int .i64 0, .int .i64 0, .slice none 0 0, .slice none 0 0, .int .i64 0, .int .i64 0, .slice none 0 0, .slice none 0 0, .slice none 0 0]] := H4.moreF K
  clear H4 K
  obtain ⟨A3, c3, rfl⟩ := H5.openB' (.head _)
  obtain ⟨A4, c4, rfl⟩ := H5.openB' (.tail _ (.head _))
  obtain ⟨A5, c5, rfl⟩ := H5.openS hv (.tail _ (.tail _ (.head _)))
  have HV := Lib.hid hv
  clear hv
  have hT1 := H5.thereX (.tail _ (.tail _ (.tail _ (.head _)))) 5 5 (by simp)
  have H6 := (H5.front 3 rfl).sets5 (.int .i64 qx) (.int .i64 qy) (.slice A3 ql.length c3) (.slice A4 qk.length c4) (.slice A5 L.length c5)
  have hR1 := H6.rangeX (.head _)
  have hT2 := H6.thereX (.tail _ (.tail _ (.tail _ (.tail _ (.tail _ (.tail _ (.head _))))))) 0 10 (by simp)
  have H7 := (H6.front 6 rfl).sets10 (.int .i64 x) (.int .i64 y) (.int .i64 z) (.slice A1 l.length c1) (.slice A2 k.length c2) (.int .i64 qx) (.int .i64 qy) (.slice A3 ql.length c3) (.slice A4 qk.length c4) (.slice A5 L.length c5)
  have hR2 := H7.rangeX (.head _)
  have H8 := Lib.hid (H7.sub (qs := [segB 5 (.slice A3 ql.length c3) ql, segB 5 (.slice A4 qk.length c4) qk, segS 24 5 (.slice A5 L.length c5) vs L, segB 5 (.slice A2 k.length c2) k, segB 5 (.slice A1 l.length c1) l]) (.cons _ (.cons _ (.cons_cons _ (.cons_cons _ (.cons_cons _ (.cons_cons _ (.cons_cons _ .slnil))))))))
  clear H5 H6 H7
  go_simp
  go_step
  go_step
  go_step
  go_step
  refine wpList_store_mid rfl 38 (.tmp 14) (.tmp 13) rfl w.heap.size 5 #[.int .i64 qx, .int .i64 qy, .slice A3 ql.length c3, .slice A4 qk.length c4, .slice A5 L.length c5] rfl rfl hT1 (by kernel_rfl) (by simp [Value.oneCell']) ?_
  go_step
  go_step
  go_step
  go_step
  go_step
  refine wpList_load_mid rfl 40 (.tmp 1) rfl w.heap.size 0 rfl [.int .i64 x, .int .i64 y, .int .i64 z, .slice A1 l.length c1, .slice A2 k.length c2, .int .i64 qx, .int .i64 qy, .slice A3 ql.length c3, .slice A4 qk.length c4, .slice A5 L.length c5] _ hR1 Tryz.underlying40 rfl (by kernel_rfl) ?_
  refine wpList_store_mid rfl 40 (.tmp 2) (.tmp 15) rfl (w.heap.size + 1) 0 #[.int .i64 x, .int .i64 y, .int .i64 z, .slice A1 l.length c1, .slice A2 k.length c2, .int .i64 qx, .int .i64 qy, .slice A3 ql.length c3, .slice A4 qk.length c4, .slice A5 L.length c5] rfl rfl hT2 (by kernel_rfl) (by simp [Value.oneCell']) ?_
  go_step
  go_step
  go_step
  go_step
  refine bodyPost_ret (results_cell_mid Tryz.results93 _ _ (w.heap.size + 1) 0 [.int .i64 x, .int .i64 y, .int .i64 z, .slice A1 l.length c1, .slice A2 k.length c2, .int .i64 qx, .int .i64 qy, .slice A3 ql.length c3, .slice A4 qk.length c4, .slice A5 L.length c5] _ rfl hR2 Tryz.underlying40 rfl (by kernel_rfl)) rfl ⟨_, _, _, _, _, vs, rfl, HV.out, ?_⟩
  exact (H8.out.front 3 rfl).front 4 rfl

set_option maxRecDepth 100000 in
set_option maxHeartbeats 8000000 in
theorem blockCopy_any (x y z qx qy : Int) (a b qa qb qs t : Value) (l k ql qk : List UInt8) (L T : List (List UInt8)) (w : World) (ha : Sl w w.heap.size a l) (hb : Sl w w.heap.size b k) (hqa : Sl w w.heap.size qa ql) (hqb : Sl w w.heap.size qb qk) (hqs : SlS w w.heap.size qs L) (ht : SlS w w.heap.size t T) (hl : l.length ≤ 1048576) (hk : k.length ≤ 1048576) (hql : ql.length ≤ 1048576) (hqk : qk.length ≤ 1048576) (hL : L.length ≤ 1048576) (hN : sumL L ≤ 1048576) (hT : T.length ≤ 1048576) (hNT : sumL T ≤ 1048576) :
    Calls Tryz.prog 55 #[.agg #[.int .i64 x, .int .i64 y, .int .i64 z, a, b, .int .i64 qx, .int .i64 qy, qa, qb, qs, t]] w (FreshG w x y z qx qy l k ql qk L T) := by
  obtain ⟨A, ac, rfl, p1, p2, p0, p3⟩ := id ha
  clear p1 p2 p0 p3
  have HA := Lib.hid ha
  obtain ⟨B, bc, rfl, p1, p2, p0, p3⟩ := id hb
  clear p1 p2 p0 p3
  have HB := Lib.hid hb
  obtain ⟨C, cc, rfl, p1, p2, p0, p3⟩ := id hqa
  clear p1 p2 p0 p3
  have HQA := Lib.hid hqa
  obtain ⟨D, dc, rfl, p1, p2, p0, p3⟩ := id hqb
  clear p1 p2 p0 p3
  have HQB := Lib.hid hqb
  obtain ⟨E, ec, rfl, p1, p2, p0, p3⟩ := id hqs
  clear p1 p2 p0 p3
  have HQS := Lib.hid hqs
  obtain ⟨F, fc, rfl, p1, p2, p0, p3⟩ := id ht
  clear p1 p2 p0 p3
  have HT := Lib.hid ht
  have H0 : InvF w _ [segX 42 (w.heap.size + 1) [.int .i64 0, .int .i64 0, .int .i64 0, .slice none 0 0, .slice none 0 0, .int .i64 0, .int .i64 0, .slice none 0 0, .slice none 0 0, .slice none 0 0, .slice none 0 0], segX 42 w.heap.size [.int .i64 x, .int .i64 y, .int .i64 z, (.slice A l.length ac), (.slice B k.length bc), .int .i64 qx, .int .i64 qy, (.slice C ql.length cc), (.slice D qk.length dc), (.slice E L.length ec), (.slice F T.length fc)]] := ((InvF.start w).newG 42 #[.int .i64 x, .int .i64 y, .int .i64 z, .slice A l.length ac, .slice B k.length bc, .int .i64 qx, .int .i64 qy, .slice C ql.length cc, .slice D qk.length dc, .slice E L.length ec, .slice F T.length fc] w.heap.size).newG 42 #[.int .i64 0, .int .i64 0, .int .i64 0, .slice none 0 0, .slice none 0 0, .int .i64 0, .int .i64 0, .slice none 0 0, .slice none 0 0, .slice none 0 0, .slice none 0 0] (w.heap.size + 1)
  clear ha hb hqa hqb hqs ht
  have HE := Lib.hid H0.drew1
  clear H0
  have L0 := Lib.hid (HE.out.c11 (.tail _ (.head _)))
  go_enter Tryz.func55, Tryz.ntmps55
  go_wp2_with fail
  go_region_held3 (fun w' => w'.cell? ⟨w.heap.size, 0, none⟩ = some (.int .i64 x) ∧ w'.cell? ⟨w.heap.size, 1, none⟩ = some (.int .i64 y) ∧ w'.cell? ⟨w.heap.size, 2, none⟩ = some (.int .i64 z) ∧ w'.cell? ⟨w.heap.size, 3, none⟩ = some (.slice A l.length ac) ∧ w'.cell? ⟨w.heap.size, 4, none⟩ = some (.slice B k.length bc) ∧ w'.cell? ⟨w.heap.size, 5, none⟩ = some (.int .i64 qx) ∧ w'.cell? ⟨w.heap.size, 6, none⟩ = some (.int .i64 qy) ∧ w'.cell? ⟨w.heap.size, 7, none⟩ = some (.slice C ql.length cc) ∧ w'.cell? ⟨w.heap.size, 8, none⟩ = some (.slice D qk.length dc) ∧ w'.cell? ⟨w.heap.size, 9, none⟩ = some (.slice E L.length ec) ∧ w'.cell? ⟨w.heap.size, 10, none⟩ = some (.slice F T.length fc))
    (first
      | with_reducible exact L0.out
      | with_reducible exact L1.out
      | with_reducible exact L2.out
      | with_reducible exact L3.out)
    (first
      | (go_at_call 93; refine (headCopy_any x y z qx qy _ _ _ _ _ l k ql qk L _ (HA.out.up HE.out.bel) (HB.out.up HE.out.bel) (HQA.out.up HE.out.bel) (HQB.out.up HE.out.bel) (HQS.out.up HE.out.bel) hl hk hql hqk hL hN).mono ?_; rintro ev w2 ⟨u1, u2, u3, u4, u5, vs, rfl, hv, K⟩; have H1 := Lib.hid (HE.out.moreF K); obtain ⟨A1, c1, rfl⟩ := H1.out.openB' (.head _); obtain ⟨A2, c2, rfl⟩ := H1.out.openB' (.tail _ (.head _)); obtain ⟨A3, c3, rfl⟩ := H1.out.openB' (.tail _ (.tail _ (.head _))); obtain ⟨A4, c4, rfl⟩ := H1.out.openB' (.tail _ (.tail _ (.tail _ (.head _)))); obtain ⟨A5, c5, rfl⟩ := H1.out.openS hv (.tail _ (.tail _ (.tail _ (.tail _ (.head _))))); have HV := Lib.hid hv; have L1 := Lib.hid (H1.out.c11 (.tail _ (.tail _ (.tail _ (.tail _ (.tail _ (.tail _ (.head _)))))))); clear K hv)
      | (go_at_call 94; refine (hashCopy_any _ T _ (HT.out.up H1.out.bel) hT hNT).mono ?_; rintro ev w3 ⟨u6, vt, rfl, hvt, K⟩; have H2 := Lib.hid (H1.out.more (s := segS 24 5 u6 vt T) K); obtain ⟨A6, c6, rfl⟩ := H2.out.openS hvt (.head _); have HVT := Lib.hid hvt; have L2 := Lib.hid (H2.out.c11 (.tail _ (.tail _ (.tail _ (.tail _ (.tail _ (.tail _ (.tail _ (.head _))))))))); obtain ⟨r0, r1, r2, r3, r4, r5, r6, r7, r8, r9, r10⟩ := H2.out.c11 (.tail _ (.tail _ (.tail _ (.tail _ (.tail _ (.tail _ (.head _))))))); obtain ⟨s0, s1, s2, s3, s4, s5, s6, s7, s8, s9, s10⟩ := H2.out.f11 (.tail _ (.tail _ (.tail _ (.tail _ (.tail _ (.tail _ (.head _))))))); have h7 := H2.out.ltX (.tail _ (.tail _ (.tail _ (.tail _ (.tail _ (.tail _ (.head _))))))); have HS := Lib.hid ((H2.out.front 6 rfl).over11 (.int .i64 x) (.int .i64 y) (.int .i64 z) (.slice A1 l.length c1) (.slice A2 k.length c2) (.int .i64 qx) (.int .i64 qy) (.slice A3 ql.length c3) (.slice A4 qk.length c4) (.slice A5 L.length c5) (.slice A6 T.length c6)); have L3 := Lib.hid (HS.out.c11 (.tail _ (.tail _ (.tail _ (.tail _ (.tail _ (.tail _ (.tail _ (.head _))))))))); clear K hvt)
      | fail)
  have hR2 := HS.out.rangeX (.head _)
  have HF := Lib.hid (HS.out.sub (qs := [segS 24 5 (.slice A6 T.length c6) vt T, segB 5 (.slice A1 l.length c1) l, segB 5 (.slice A2 k.length c2) k, segB 5 (.slice A3 ql.length c3) ql, segB 5 (.slice A4 qk.length c4) qk, segS 24 5 (.slice A5 L.length c5) vs L]) (.cons _ (.cons_cons _ (.cons_cons _ (.cons_cons _ (.cons_cons _ (.cons_cons _ (.cons_cons _ (.cons _ .slnil)))))))))
  clear L0 L1 L2 L3
  repeat go_step
  refine bodyPost_ret (results_cell_mid Tryz.results55 _ _ (w.heap.size + 1) 0 [.int .i64 x, .int .i64 y, .int .i64 z, .slice A1 l.length c1, .slice A2 k.length c2, .int .i64 qx, .int .i64 qy, .slice A3 ql.length c3, .slice A4 qk.length c4, .slice A5 L.length c5, .slice A6 T.length c6] _ rfl hR2 Tryz.underlying42 rfl (by kernel_rfl)) rfl ⟨_, _, _, _, _, _, vs, vt, rfl, HV.out, HVT.out, ?_⟩
  exact HF.out.perm (List.perm_append_comm (l₁ := [_]) (l₂ := [_, _, _, _, _]))
end Go.Proofs.YtdoaikanaodefaaGreatDoor
