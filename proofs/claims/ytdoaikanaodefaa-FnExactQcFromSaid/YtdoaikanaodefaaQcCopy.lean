/- qcCopy of the program: a certificate of new rows. -/
import Derived.Test.YtdoaikanaodefaaHashCopy
import Derived.Test.YtdoaikanaodefaaQc
import Derived.Test.YtdoaikanaodefaaMid
namespace Go.Proofs.Ytdoaikanaodefaa
open Go.ChangeShapes Go.WideShapes Go.ChangeAt Go.RowKit

set_option maxRecDepth 100000 in
set_option maxHeartbeats 8000000 in
theorem qcCopy_any (x y : Int) (a b s : Value) (l k : List UInt8) (L : List (List UInt8)) (w : World) (ha : Sl w w.heap.size a l) (hb : Sl w w.heap.size b k) (hs : SlS w w.heap.size s L) (hl : l.length ≤ 1048576) (hk : k.length ≤ 1048576) (hL : L.length ≤ 1048576) (hN : sumL L ≤ 1048576) :
    Calls Try.prog 63 #[.agg #[.int .i64 x, .int .i64 y, a, b, s]] w (FreshQ w x y l k L) := by
  obtain ⟨A, ac, rfl, p1, p2, p0, p3⟩ := id ha
  clear p1 p2 p0 p3
  obtain ⟨B, bc, rfl, p1, p2, p0, p3⟩ := id hb
  clear p1 p2 p0 p3
  obtain ⟨C, cc, rfl, p1, p2, p0, p3⟩ := id hs
  clear p1 p2 p0 p3
  have HA := Lib.hid ha
  have HB := Lib.hid hb
  have HS := Lib.hid hs
  have H0 : InvF w _ [segX 29 (w.heap.size + 1) [.int .i64 0, .int .i64 0, .slice none 0 0, .slice none 0 0, .slice none 0 0], segX 29 w.heap.size [.int .i64 x, .int .i64 y, (.slice A l.length ac), (.slice B k.length bc), (.slice C L.length cc)]] := ((InvF.start w).newG 29 #[.int .i64 x, .int .i64 y, .slice A l.length ac, .slice B k.length bc, .slice C L.length cc] w.heap.size).newG 29 #[.int .i64 0, .int .i64 0, .slice none 0 0, .slice none 0 0, .slice none 0 0] (w.heap.size + 1)
  clear ha hb hs
  go_enter Try.func63, Try.ntmps63
  go_wp2_with fail
  refine (joined_any (.slice none 0 0) _ [] l _ Sl.nil_ (HA.out.up H0.bel) (by simp) (by omega)).mono ?_
  rw [List.nil_append]
  rintro ev w2 ⟨u1, rfl, ho1, hb1⟩
  have H1 := H0.moreB ho1 hb1
  clear H0 ho1 hb1
  obtain ⟨A1, c1, rfl⟩ := H1.openB' (.head _)
  obtain ⟨o0, o1, o2, o3, o4⟩ := H1.c5 (.tail _ (.tail _ (.head _)))
  obtain ⟨f0, f1, f2, f3, f4⟩ := H1.f5 (.tail _ (.tail _ (.head _)))
  go_wp2_with fail
  have H2 := (H1.front 2 rfl).setX 2 (.slice A1 l.length c1)
  clear H1 o0 o1 o2 o3 o4 f0 f1 f2 f3 f4
  refine (joined_any (.slice none 0 0) _ [] k _ Sl.nil_ (HB.out.up H2.bel) (by simp) (by omega)).mono ?_
  rw [List.nil_append]
  rintro ev w3 ⟨u2, rfl, ho2, hb2⟩
  have H3 : InvF w w3 [segB 5 u2 k, segX 29 w.heap.size [.int .i64 x, .int .i64 y, (.slice A1 l.length c1), (.slice B k.length bc), (.slice C L.length cc)], segB 5 (.slice A1 l.length c1) l, segX 29 (w.heap.size + 1) [.int .i64 0, .int .i64 0, .slice none 0 0, .slice none 0 0, .slice none 0 0]] := H2.moreB ho2 hb2
  clear H2 ho2 hb2
  obtain ⟨A2, c2, rfl⟩ := H3.openB' (.head _)
  obtain ⟨o0, o1, o2, o3, o4⟩ := H3.c5 (.tail _ (.head _))
  obtain ⟨f0, f1, f2, f3, f4⟩ := H3.f5 (.tail _ (.head _))
  go_wp2_with fail
  have H4 := (H3.front 1 rfl).setX 3 (.slice A2 k.length c2)
  clear H3 o0 o1 o2 o3 o4 f0 f1 f2 f3 f4
  refine (hashCopy_any _ L _ (HS.out.up H4.bel) hL hN).mono ?_
  rintro ev w4 ⟨u3, vs, rfl, hv, K⟩
  have H5 : InvF w w4 [segS 26 5 u3 vs L, segX 29 w.heap.size [.int .i64 x, .int .i64 y, (.slice A1 l.length c1), (.slice A2 k.length c2), (.slice C L.length cc)], segB 5 (.slice A2 k.length c2) k, segB 5 (.slice A1 l.length c1) l, segX 29 (w.heap.size + 1) [.int .i64 0, .int .i64 0, .slice none 0 0, .slice none 0 0, .slice none 0 0]] := H4.more (s := segS 26 5 u3 vs L) K
  clear H4 K
  obtain ⟨A3, c3, rfl⟩ := H5.openS hv (.head _)
  have HV := Lib.hid hv
  clear hv
  have hc := H5.atX (.tail _ (.head _)) 4 rfl
  have hf := H5.frX (.tail _ (.head _)) 4
  have H6 := (H5.front 1 rfl).setX 4 (.slice A3 L.length c3)
  have hR1 := H6.rangeX (.head _)
  have hT2 := H6.thereX (.tail _ (.tail _ (.tail _ (.tail _ (.head _))))) 0 5 (by simp)
  have H7 := (H6.front 4 rfl).setsL [.int .i64 x, .int .i64 y, .slice A1 l.length c1, .slice A2 k.length c2, .slice A3 L.length c3] 0
  replace H7 : InvF w _ [segX 29 (w.heap.size + 1) [.int .i64 x, .int .i64 y, (.slice A1 l.length c1), (.slice A2 k.length c2), (.slice A3 L.length c3)], segX 29 w.heap.size [.int .i64 x, .int .i64 y, (.slice A1 l.length c1), (.slice A2 k.length c2), (.slice A3 L.length c3)], segS 26 5 (.slice A3 L.length c3) vs L, segB 5 (.slice A2 k.length c2) k, segB 5 (.slice A1 l.length c1) l] := H7
  have hR2 := H7.rangeX (.head _)
  have H8 := Lib.hid (H7.sub (qs := [segS 26 5 (.slice A3 L.length c3) vs L, segB 5 (.slice A2 k.length c2) k, segB 5 (.slice A1 l.length c1) l]) (.cons _ (.cons _ (.cons_cons _ (.cons_cons _ (.cons_cons _ .slnil))))))
  clear H5 H6 H7
  go_simp
  go_step
  go_step
  go_step
  go_step
  go_step
  go_step
  go_step
  go_step
  go_step
  go_step
  go_step
  go_step
  refine wpList_load_mid rfl 29 (.tmp 1) rfl w.heap.size 0 rfl [.int .i64 x, .int .i64 y, .slice A1 l.length c1, .slice A2 k.length c2, .slice A3 L.length c3] _ hR1 Try.underlying29 rfl (by kernel_rfl) ?_
  refine wpList_store_mid rfl 29 (.tmp 2) (.tmp 15) rfl (w.heap.size + 1) 0 #[.int .i64 x, .int .i64 y, .slice A1 l.length c1, .slice A2 k.length c2, .slice A3 L.length c3] rfl rfl hT2 (by kernel_rfl) (by simp [Value.oneCell']) ?_
  go_step
  go_step
  go_step
  go_step
  refine bodyPost_ret (results_cell_mid Try.results63 _ _ (w.heap.size + 1) 0 [.int .i64 x, .int .i64 y, .slice A1 l.length c1, .slice A2 k.length c2, .slice A3 L.length c3] _ rfl hR2 Try.underlying29 rfl (by kernel_rfl)) rfl ⟨_, _, _, vs, rfl, HV.out, ?_⟩
  exact (H8.out.front 1 rfl).front 2 rfl
end Go.Proofs.Ytdoaikanaodefaa
