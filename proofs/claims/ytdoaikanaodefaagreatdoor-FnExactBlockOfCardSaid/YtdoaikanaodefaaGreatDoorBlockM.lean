/- Blocks: the contracts of markBlock and heldBlock. -/
import Derived.Test.YtdoaikanaodefaaGreatDoorBlock
import Derived.Test.YtdoaikanaodefaaGreatDoorHeadM
namespace Go.Proofs.YtdoaikanaodefaaGreatDoor
open Go.ChangeShapes Go.WideShapes Go.ChangeAt Go.RowKit

set_option maxHeartbeats 4000000 in
theorem markBlock_z (x y z qx qy : Int) (W w : World) (a b qa qb qs t : Value) (vs vt : List Value) (l k ql qk : List UInt8) (L T : List (List UInt8)) (ss : List (List Row)) (m : Nat) (mz : Int) (hv : vs.length = L.length) (hvt : vt.length = T.length) (K : InvF W w (segB 5 a l :: segB 5 b k :: segB 5 qa ql :: segB 5 qb qk :: segS 24 5 qs vs L :: segS 24 5 t vt T :: ss)) (hz : mz = (m : Int)) (hm : m ≤ 67108864) (hl : l.length ≤ 4194304) (hk : k.length ≤ 4194304) (hql : ql.length ≤ 4194304) (hqk : qk.length ≤ 4194304) (hN : sumL L ≤ 4194304) (hNT : sumL T ≤ 4194304) :
    Calls Tryz.prog 16 #[.agg #[.int .i64 x, .int .i64 y, .int .i64 z, a, b, .int .i64 qx, .int .i64 qy, qa, qb, qs, t], .int .i64 mz] w (fun e w' => e = .returned (.int .i64 (mz + (l.length : Int) + (k.length : Int) + (ql.length : Int) + (qk.length : Int) + (sumL L : Int) + (sumL T : Int))) ∧
      InvF W w' (segB 5 a (marks (m) l.length) :: segB 5 b (marks (m + l.length) k.length) :: segB 5 qa (marks (m + l.length + k.length) ql.length) :: segB 5 qb (marks (m + l.length + k.length + ql.length) qk.length) :: segS 24 5 qs vs (marksS (m + l.length + k.length + ql.length + qk.length) L) :: segS 24 5 t vt (marksS (m + l.length + k.length + ql.length + qk.length + sumL L) T) :: ss)) := by
  obtain ⟨A, ac, rfl⟩ := K.openB' (.head _)
  obtain ⟨B, bc, rfl⟩ := K.openB' (.tail _ (.head _))
  obtain ⟨C, cc, rfl⟩ := K.openB' (.tail _ (.tail _ (.head _)))
  obtain ⟨D, dc, rfl⟩ := K.openB' (.tail _ (.tail _ (.tail _ (.head _))))
  obtain ⟨E, ec, rfl⟩ := K.openS hv (.tail _ (.tail _ (.tail _ (.tail _ (.head _)))))
  obtain ⟨F, fc, rfl⟩ := K.openS hvt (.tail _ (.tail _ (.tail _ (.tail _ (.tail _ (.head _))))))
  have HV := Lib.hid hv
  have HVT := Lib.hid hvt
  have K1 := K.newG 42 #[.int .i64 x, .int .i64 y, .int .i64 z, .slice A l.length ac, .slice B k.length bc, .int .i64 qx, .int .i64 qy, .slice C ql.length cc, .slice D qk.length dc, .slice E L.length ec, .slice F T.length fc] w.heap.size
  obtain ⟨o0, o1, o2, o3, o4, o5, o6, o7, o8, o9, o10⟩ := K1.c11 (.head _)
  replace K1 : InvF W _ (segB 5 (.slice A l.length ac) l :: segB 5 (.slice B k.length bc) k :: segB 5 (.slice C ql.length cc) ql :: segB 5 (.slice D qk.length dc) qk :: segS 24 5 (.slice E L.length ec) vs L :: segX 42 w.heap.size [.int .i64 x, .int .i64 y, .int .i64 z, .slice A l.length ac, .slice B k.length bc, .int .i64 qx, .int .i64 qy, .slice C ql.length cc, .slice D qk.length dc, .slice E L.length ec, .slice F T.length fc] :: segS 24 5 (.slice F T.length fc) vt T :: ss) := K1.perm (List.perm_append_comm (l₁ := [_]) (l₂ := [_, _, _, _, _]) |>.append_right (_ :: ss))
  have H1 := Lib.hid K1
  have HZ := Lib.hid hz
  have HN := Lib.hid hN
  have HNT := Lib.hid hNT
  have hz2 : Hid (mz + (l.length : Int) + (k.length : Int) + (ql.length : Int) + (qk.length : Int) + (sumL L : Int) = ((m + l.length + k.length + ql.length + qk.length + sumL L : Nat) : Int)) := Lib.hid (by omega)
  have hb0 : 0 ≤ mz := by omega
  have hb1 : mz ≤ 67108864 := by omega
  clear K K1 hz hv hvt hN hNT
  go_enter Tryz.func16, Tryz.ntmps16
  go_wp2_with fail
  refine (markHead_z x y z qx qy W _ _ _ _ _ _ vs l k ql qk L _ m _ HV.out H1.out HZ.out (by omega) hl hk hql hqk HN.out).mono ?_
  rintro e w2 ⟨rfl, K2⟩
  replace K2 : InvF W w2 (segB 5 (.slice A l.length ac) (marks (m) l.length) :: segB 5 (.slice B k.length bc) (marks (m + l.length) k.length) :: segB 5 (.slice C ql.length cc) (marks (m + l.length + k.length) ql.length) :: segB 5 (.slice D qk.length dc) (marks (m + l.length + k.length + ql.length) qk.length) :: segS 24 5 (.slice E L.length ec) vs (marksS (m + l.length + k.length + ql.length + qk.length) L) :: segX 42 w.heap.size [.int .i64 x, .int .i64 y, .int .i64 z, .slice A l.length ac, .slice B k.length bc, .int .i64 qx, .int .i64 qy, .slice C ql.length cc, .slice D qk.length dc, .slice E L.length ec, .slice F T.length fc] :: segS 24 5 (.slice F T.length fc) vt T :: ss) := K2
  clear o0 o1 o2 o3 o4 o5 o6 o7 o8 o9 o10
  obtain ⟨o0, o1, o2, o3, o4, o5, o6, o7, o8, o9, o10⟩ := K2.c11 (.tail _ (.tail _ (.tail _ (.tail _ (.tail _ (.head _))))))
  have H2 := Lib.hid (K2.front 6 rfl)
  clear K2 H1
  go_wp2_with fail
  refine (markByteSS_z W _ _ vt T _ (m + l.length + k.length + ql.length + qk.length + sumL L) _ HVT.out H2.out hz2.out (by have := HN.out; omega) (by have := HNT.out; omega)).mono ?_
  rintro e w3 ⟨rfl, K3⟩
  replace K3 : InvF W w3 (segS 24 5 (.slice F T.length fc) vt (marksS (m + l.length + k.length + ql.length + qk.length + sumL L) T) :: segB 5 (.slice A l.length ac) (marks (m) l.length) :: segB 5 (.slice B k.length bc) (marks (m + l.length) k.length) :: segB 5 (.slice C ql.length cc) (marks (m + l.length + k.length) ql.length) :: segB 5 (.slice D qk.length dc) (marks (m + l.length + k.length + ql.length) qk.length) :: segS 24 5 (.slice E L.length ec) vs (marksS (m + l.length + k.length + ql.length + qk.length) L) :: segX 42 w.heap.size [.int .i64 x, .int .i64 y, .int .i64 z, .slice A l.length ac, .slice B k.length bc, .int .i64 qx, .int .i64 qy, .slice C ql.length cc, .slice D qk.length dc, .slice E L.length ec, .slice F T.length fc] :: ss) := K3
  have K4 := Lib.hid ((K3.sub (qs := segS 24 5 (.slice F T.length fc) vt (marksS (m + l.length + k.length + ql.length + qk.length + sumL L) T) :: segB 5 (.slice A l.length ac) (marks (m) l.length) :: segB 5 (.slice B k.length bc) (marks (m + l.length) k.length) :: segB 5 (.slice C ql.length cc) (marks (m + l.length + k.length) ql.length) :: segB 5 (.slice D qk.length dc) (marks (m + l.length + k.length + ql.length) qk.length) :: segS 24 5 (.slice E L.length ec) vs (marksS (m + l.length + k.length + ql.length + qk.length) L) :: ss) (.cons_cons _ (.cons_cons _ (.cons_cons _ (.cons_cons _ (.cons_cons _ (.cons_cons _ (.cons _ (List.Sublist.refl _))))))))).perm (List.perm_append_comm (l₁ := [_]) (l₂ := [_, _, _, _, _]) |>.append_right ss))
  clear K3 H2 o0 o1 o2 o3 o4 o5 o6 o7 o8 o9 o10
  go_wp2
  go_ret
  exact ⟨rfl, K4.out⟩

set_option maxHeartbeats 4000000 in
theorem heldBlock_z (x y z qx qy : Int) (a b qa qb qs t : Value) (m n p q r : Nat) (L T : List (List UInt8)) (mz : Int) (w : World) (ha : Sl w w.heap.size a (marks m n)) (hb : Sl w w.heap.size b (marks (m + n) p)) (hqa : Sl w w.heap.size qa (marks (m + n + p) q)) (hqb : Sl w w.heap.size qb (marks (m + n + p + q) r)) (hqs : SlS w w.heap.size qs (marksS (m + n + p + q + r) L)) (ht : SlS w w.heap.size t (marksS (m + n + p + q + r + sumL L) T)) (hz : mz = (m : Int)) (hm : m ≤ 67108864) (hn : n ≤ 4194304) (hp : p ≤ 4194304) (hq : q ≤ 4194304) (hr : r ≤ 4194304) (hN : sumL L ≤ 4194304) (hNT : sumL T ≤ 4194304) :
    Calls Tryz.prog 20 #[.agg #[.int .i64 x, .int .i64 y, .int .i64 z, a, b, .int .i64 qx, .int .i64 qy, qa, qb, qs, t], .int .i64 mz] w (fun e w' => e = .returned (.int .i64 (mz + (n : Int) + (p : Int) + (q : Int) + (r : Int) + (sumL L : Int) + (sumL T : Int))) ∧ Below w.heap.size w w') := by
  obtain ⟨A, ac, rfl, p1, p2, p0, p3⟩ := id ha
  clear p1 p2 p0 p3
  obtain ⟨B, bc, rfl, p1, p2, p0, p3⟩ := id hb
  clear p1 p2 p0 p3
  obtain ⟨C, cc, rfl, p1, p2, p0, p3⟩ := id hqa
  clear p1 p2 p0 p3
  obtain ⟨D, dc, rfl, p1, p2, p0, p3⟩ := id hqb
  clear p1 p2 p0 p3
  obtain ⟨E, ec, rfl, p1, p2, p0, p3⟩ := id hqs
  clear p1 p2 p0 p3
  obtain ⟨F, fc, rfl, p1, p2, p0, p3⟩ := id ht
  clear p1 p2 p0 p3
  rw [marks_length] at ha hb hqa hqb ⊢
  rw [marks_length, marks_length, marks_length]
  rw [marksS_length] at hqs ht ⊢
  rw [marksS_length]
  have H := (InvF.start w).newG 42 #[.int .i64 x, .int .i64 y, .int .i64 z, .slice A n ac, .slice B p bc, .int .i64 qx, .int .i64 qy, .slice C q cc, .slice D r dc, .slice E L.length ec, .slice F T.length fc] w.heap.size
  have HZ := Lib.hid hz
  have HN := Lib.hid hN
  have HNT := Lib.hid hNT
  have hz1 : ¬ (mz + (n : Int) + (p : Int) + (q : Int) + (r : Int) + (sumL L : Int) < 0) := by omega
  have hz3 : ¬ (mz + (n : Int) + (p : Int) + (q : Int) + (r : Int) + (sumL L : Int) + (sumL T : Int) < 0) := by omega
  have hz2 : Hid (mz + (n : Int) + (p : Int) + (q : Int) + (r : Int) + (sumL L : Int) = ((m + n + p + q + r + sumL L : Nat) : Int)) := Lib.hid (by omega)
  have hb0 : 0 ≤ mz := by omega
  have hb1 : mz ≤ 67108864 := by omega
  have hb2 : Hid (m + n + p + q + r + sumL L ≤ 1073741824) := Lib.hid (by omega)
  clear hz hN hNT
  go_enter Tryz.func20, Tryz.ntmps20
  go_wp2_with fail
  refine (heldHead_z x y z qx qy _ _ _ _ _ m n p q r L _ _ (ha.up H.bel) (hb.up H.bel) (hqa.up H.bel) (hqb.up H.bel) (hqs.up H.bel) HZ.out (by omega) hn hp hq hr HN.out).mono ?_
  rintro e w1 ⟨rfl, hb1'⟩
  replace H := H.up hb1'
  clear hb1'
  obtain ⟨o0, o1, o2, o3, o4, o5, o6, o7, o8, o9, o10⟩ := H.c11 (.head _)
  go_wp2_with fail
  refine (heldByteSS_z _ (m + n + p + q + r + sumL L) _ T _ (ht.up H.bel) hz2.out hb2.out (by have := HNT.out; omega)).mono ?_
  rintro e _ ⟨rfl, d, rfl⟩
  have H2 := Lib.hid (H.drewN d)
  clear H
  go_wp2
  go_ret
  exact ⟨rfl, H2.out.bel⟩
end Go.Proofs.YtdoaikanaodefaaGreatDoor
