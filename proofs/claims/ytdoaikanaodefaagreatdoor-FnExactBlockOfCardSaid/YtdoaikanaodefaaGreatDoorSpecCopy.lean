/- l12Copy and l13Copy of the model: a certificate, a header of new rows. -/
import Derived.Test.YtdoaikanaodefaaGreatDoorModelCopy
import Derived.Test.YtdoaikanaodefaaGreatDoorHead
import Derived.Deep.RegionHeld3
namespace Go.Proofs.YtdoaikanaodefaaGreatDoor
open Go.ChangeShapes Go.WideShapes Go.ChangeAt Go.RowKit

set_option maxRecDepth 100000 in
set_option maxHeartbeats 8000000 in
theorem l12Copy_any (x y : Int) (a b s : Value) (l k : List UInt8) (L : List (List UInt8)) (w : World) (ha : Sl w w.heap.size a l) (hb : Sl w w.heap.size b k) (hs : SlS w w.heap.size s L) (hl : l.length ≤ 1048576) (hk : k.length ≤ 1048576) (hL : L.length ≤ 1048576) (hN : sumL L ≤ 1048576) :
    Calls Tryz.prog 83 #[.agg #[.int .i64 x, .int .i64 y, a, b, s]] w (FreshQ w x y l k L) := by
  obtain ⟨A, ac, rfl, p1, p2, p0, p3⟩ := id ha
  clear p1 p2 p0 p3
  have HA := Lib.hid ha
  obtain ⟨B, bc, rfl, p1, p2, p0, p3⟩ := id hb
  clear p1 p2 p0 p3
  have HB := Lib.hid hb
  obtain ⟨C, cc, rfl, p1, p2, p0, p3⟩ := id hs
  clear p1 p2 p0 p3
  have HS := Lib.hid hs
  have H0 := ((InvF.start w).newG 38 #[.int .i64 x, .int .i64 y, .slice A l.length ac, .slice B k.length bc, .slice C L.length cc] w.heap.size).newG 38 #[.int .i64 0, .int .i64 0, .slice none 0 0, .slice none 0 0, .slice none 0 0] (w.heap.size + 1)
  have HE := Lib.hid H0.drew1
  have L0 := Lib.hid (HE.out.c5 (.tail _ (.head _)))
  clear H0 ha hb hs
  have hl' : l.length ≤ 4294967296 := by omega
  have hk' : k.length ≤ 4294967296 := by omega
  go_enter Tryz.func83, Tryz.ntmps83
  go_wp2_with fail
  go_region_held3 (fun w' => w'.cell? ⟨w.heap.size, 0, none⟩ = some (.int .i64 x) ∧ w'.cell? ⟨w.heap.size, 1, none⟩ = some (.int .i64 y) ∧ w'.cell? ⟨w.heap.size, 2, none⟩ = some (.slice A l.length ac) ∧ w'.cell? ⟨w.heap.size, 3, none⟩ = some (.slice B k.length bc) ∧ w'.cell? ⟨w.heap.size, 4, none⟩ = some (.slice C L.length cc))
    (first
      | with_reducible exact L0.out
      | with_reducible exact L1.out
      | with_reducible exact L2.out
      | with_reducible exact L3.out
      | with_reducible exact L4.out)
    (first
      | (go_at_call_of 82 (Value.slice A l.length ac); refine (l01Copy_any _ l _ (HA.out.up HE.out.bel) hl').mono ?_; rintro ev w2 ⟨u1, rfl, ho1, hb1⟩; have H1 := Lib.hid (HE.out.moreB ho1 hb1); obtain ⟨A1, c1, rfl⟩ := H1.out.openB' (.head _); have L1 := Lib.hid (H1.out.c5 (.tail _ (.tail _ (.head _)))); clear ho1 hb1)
      | (go_at_call_of 82 (Value.slice B k.length bc); refine (l01Copy_any _ k _ (HB.out.up H1.out.bel) hk').mono ?_; rintro ev w3 ⟨u2, rfl, ho2, hb2⟩; have H2 := Lib.hid (H1.out.moreB ho2 hb2); obtain ⟨A2, c2, rfl⟩ := H2.out.openB' (.head _); have L2 := Lib.hid (H2.out.c5 (.tail _ (.tail _ (.tail _ (.head _))))); clear ho2 hb2)
      | (go_at_call 51; refine (l06Copy_any _ L _ (HS.out.up H2.out.bel) hL hN).mono ?_; rintro ev w4 ⟨u3, vs, rfl, hv, K⟩; have H3 := Lib.hid (H2.out.more (s := segS 24 5 u3 vs L) K); obtain ⟨A3, c3, rfl⟩ := H3.out.openS hv (.head _); have HV := Lib.hid hv; have L3 := Lib.hid (H3.out.c5 (.tail _ (.tail _ (.tail _ (.tail _ (.head _)))))); obtain ⟨r0, r1, r2, r3, r4⟩ := H3.out.c5 (.tail _ (.tail _ (.tail _ (.head _)))); obtain ⟨s0, s1, s2, s3, s4⟩ := H3.out.f5 (.tail _ (.tail _ (.tail _ (.head _)))); have h7 := H3.out.ltX (.tail _ (.tail _ (.tail _ (.head _)))); have HF := Lib.hid ((H3.out.front 3 rfl).over5 (.int .i64 x) (.int .i64 y) (.slice A1 l.length c1) (.slice A2 k.length c2) (.slice A3 L.length c3)); have L4 := Lib.hid (HF.out.c5 (.tail _ (.tail _ (.tail _ (.tail _ (.head _)))))); clear K hv)
      | fail)
  have hR2 := HF.out.rangeX (.head _)
  have H9 := Lib.hid (HF.out.sub (qs := [segS 24 5 (.slice A3 L.length c3) vs L, segB 5 (.slice A2 k.length c2) k, segB 5 (.slice A1 l.length c1) l]) (.cons _ (.cons_cons _ (.cons_cons _ (.cons_cons _ (.cons _ .slnil))))))
  clear L0 L1 L2 L3 L4
  repeat go_step
  refine bodyPost_ret (results_cell_mid Tryz.results83 _ _ (w.heap.size + 1) 0 [.int .i64 x, .int .i64 y, .slice A1 l.length c1, .slice A2 k.length c2, .slice A3 L.length c3] _ rfl hR2 Tryz.underlying38 rfl (by kernel_rfl)) rfl ⟨_, _, _, vs, rfl, HV.out, ?_⟩
  exact (H9.out.front 1 rfl).front 2 rfl

set_option maxRecDepth 100000 in
set_option maxHeartbeats 8000000 in
theorem l13Copy_any (x y z qx qy : Int) (a b qa qb qs : Value) (l k ql qk : List UInt8) (L : List (List UInt8)) (w : World) (ha : Sl w w.heap.size a l) (hb : Sl w w.heap.size b k) (hqa : Sl w w.heap.size qa ql) (hqb : Sl w w.heap.size qb qk) (hqs : SlS w w.heap.size qs L) (hl : l.length ≤ 1048576) (hk : k.length ≤ 1048576) (hql : ql.length ≤ 1048576) (hqk : qk.length ≤ 1048576) (hL : L.length ≤ 1048576) (hN : sumL L ≤ 1048576) :
    Calls Tryz.prog 50 #[.agg #[.int .i64 x, .int .i64 y, .int .i64 z, a, b, .int .i64 qx, .int .i64 qy, qa, qb, qs]] w (FreshH w x y z qx qy l k ql qk L) := by
  obtain ⟨A, ac, rfl, p1, p2, p0, p3⟩ := id ha
  clear p1 p2 p0 p3
  have HA := Lib.hid ha
  obtain ⟨B, bc, rfl, p1, p2, p0, p3⟩ := id hb
  clear p1 p2 p0 p3
  have HB := Lib.hid hb
  obtain ⟨C, cc, rfl, p1, p2, p0, p3⟩ := id hqa
  clear p1 p2 p0 p3
  have HQA := Lib.hid hqa
  obtain ⟨D, dc, rfl, p1, p2, p0, p3⟩ := id hqb
  clear p1 p2 p0 p3
  have HQB := Lib.hid hqb
  obtain ⟨E, ec, rfl, p1, p2, p0, p3⟩ := id hqs
  clear p1 p2 p0 p3
  have HQS := Lib.hid hqs
  have H0 := ((InvF.start w).newG 40 #[.int .i64 x, .int .i64 y, .int .i64 z, .slice A l.length ac, .slice B k.length bc, .int .i64 qx, .int .i64 qy, .slice C ql.length cc, .slice D qk.length dc, .slice E L.length ec] w.heap.size).newG 40 #[.int .i64 0, .int .i64 0, .int .i64 0, .slice none 0 0, .slice none 0 0, .int .i64 0, .int .i64 0, .slice none 0 0, .slice none 0 0, .slice none 0 0] (w.heap.size + 1)
  have HE := Lib.hid H0.drew1
  have L0 := Lib.hid (HE.out.k10 (.tail _ (.head _)))
  clear H0 ha hb hqa hqb hqs
  have hl' : l.length ≤ 4294967296 := by omega
  have hk' : k.length ≤ 4294967296 := by omega
  go_enter Tryz.func50, Tryz.ntmps50
  go_wp2_with fail
  go_region_held3 (fun w' => w'.cell? ⟨w.heap.size, 0, none⟩ = some (.int .i64 x) ∧ w'.cell? ⟨w.heap.size, 1, none⟩ = some (.int .i64 y) ∧ w'.cell? ⟨w.heap.size, 2, none⟩ = some (.int .i64 z) ∧ w'.cell? ⟨w.heap.size, 3, none⟩ = some (.slice A l.length ac) ∧ w'.cell? ⟨w.heap.size, 4, none⟩ = some (.slice B k.length bc) ∧ w'.cell? ⟨w.heap.size, 5, none⟩ = some (.int .i64 qx) ∧ w'.cell? ⟨w.heap.size, 6, none⟩ = some (.int .i64 qy) ∧ w'.cell? ⟨w.heap.size, 7, none⟩ = some (.slice C ql.length cc) ∧ w'.cell? ⟨w.heap.size, 8, none⟩ = some (.slice D qk.length dc) ∧ w'.cell? ⟨w.heap.size, 9, none⟩ = some (.slice E L.length ec))
    (first
      | with_reducible exact L0.out
      | with_reducible exact L1.out
      | with_reducible exact L2.out
      | with_reducible exact L3.out
      | with_reducible exact L4.out)
    (first
      | (go_at_call_of 82 (Value.slice A l.length ac); refine (l01Copy_any _ l _ (HA.out.up HE.out.bel) hl').mono ?_; rintro ev w2 ⟨u1, rfl, ho1, hb1⟩; have H1 := Lib.hid (HE.out.moreB ho1 hb1); obtain ⟨A1, c1, rfl⟩ := H1.out.openB' (.head _); have L1 := Lib.hid (H1.out.k10 (.tail _ (.tail _ (.head _)))); clear ho1 hb1)
      | (go_at_call_of 82 (Value.slice B k.length bc); refine (l01Copy_any _ k _ (HB.out.up H1.out.bel) hk').mono ?_; rintro ev w3 ⟨u2, rfl, ho2, hb2⟩; have H2 := Lib.hid (H1.out.moreB ho2 hb2); obtain ⟨A2, c2, rfl⟩ := H2.out.openB' (.head _); have L2 := Lib.hid (H2.out.k10 (.tail _ (.tail _ (.tail _ (.head _))))); clear ho2 hb2)
      | (go_at_call 83; refine (l12Copy_any qx qy _ _ _ ql qk L _ (HQA.out.up H2.out.bel) (HQB.out.up H2.out.bel) (HQS.out.up H2.out.bel) hql hqk hL hN).mono ?_; rintro ev w4 ⟨u3, u4, u5, vs, rfl, hv, K⟩; have H3 := Lib.hid (H2.out.moreF K); obtain ⟨A3, c3, rfl⟩ := H3.out.openB' (.head _); obtain ⟨A4, c4, rfl⟩ := H3.out.openB' (.tail _ (.head _)); obtain ⟨A5, c5, rfl⟩ := H3.out.openS hv (.tail _ (.tail _ (.head _))); have HV := Lib.hid hv; have L3 := Lib.hid (H3.out.k10 (.tail _ (.tail _ (.tail _ (.tail _ (.tail _ (.tail _ (.head _)))))))); obtain ⟨r0, r1, r2, r3, r4, r5, r6, r7, r8, r9⟩ := H3.out.c10 (.tail _ (.tail _ (.tail _ (.tail _ (.tail _ (.head _)))))); obtain ⟨s0, s1, s2, s3, s4, s5, s6, s7, s8, s9⟩ := H3.out.f10 (.tail _ (.tail _ (.tail _ (.tail _ (.tail _ (.head _)))))); have h7 := H3.out.ltX (.tail _ (.tail _ (.tail _ (.tail _ (.tail _ (.head _)))))); have HF := Lib.hid ((H3.out.front 5 rfl).over10 (.int .i64 x) (.int .i64 y) (.int .i64 z) (.slice A1 l.length c1) (.slice A2 k.length c2) (.int .i64 qx) (.int .i64 qy) (.slice A3 ql.length c3) (.slice A4 qk.length c4) (.slice A5 L.length c5)); have L4 := Lib.hid (HF.out.k10 (.tail _ (.tail _ (.tail _ (.tail _ (.tail _ (.tail _ (.head _)))))))); clear K hv)
      | fail)
  have hR2 := HF.out.rangeX (.head _)
  have H9 := Lib.hid (HF.out.sub (qs := [segB 5 (.slice A3 ql.length c3) ql, segB 5 (.slice A4 qk.length c4) qk, segS 24 5 (.slice A5 L.length c5) vs L, segB 5 (.slice A2 k.length c2) k, segB 5 (.slice A1 l.length c1) l]) (.cons _ (.cons_cons _ (.cons_cons _ (.cons_cons _ (.cons_cons _ (.cons_cons _ (.cons _ .slnil))))))))
  clear L0 L1 L2 L3 L4
  repeat go_step
  refine bodyPost_ret (results_cell_mid Tryz.results50 _ _ (w.heap.size + 1) 0 [.int .i64 x, .int .i64 y, .int .i64 z, .slice A1 l.length c1, .slice A2 k.length c2, .int .i64 qx, .int .i64 qy, .slice A3 ql.length c3, .slice A4 qk.length c4, .slice A5 L.length c5] _ rfl hR2 Tryz.underlying40 rfl (by kernel_rfl)) rfl ⟨_, _, _, _, _, vs, rfl, HV.out, ?_⟩
  exact (H9.out.front 3 rfl).front 4 rfl
end Go.Proofs.YtdoaikanaodefaaGreatDoor
