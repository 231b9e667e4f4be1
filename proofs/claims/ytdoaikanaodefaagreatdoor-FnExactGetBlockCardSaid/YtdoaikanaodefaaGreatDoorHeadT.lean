/- Headers whose tags lie over any row of a call's own: markHead. -/
import Derived.Test.YtdoaikanaodefaaGreatDoorHead
import Derived.Test.YtdoaikanaodefaaGreatDoorQcT
namespace Go.Proofs.YtdoaikanaodefaaGreatDoor
open Go.ChangeShapes Go.WideShapes Go.ChangeAt Go.RowKit

set_option maxHeartbeats 4000000 in
theorem markHeadT_z (x y z qx qy : Int) (W w : World) (a b qa qb qs : Value) (row : Row) (vs : List Value) (l k ql qk : List UInt8) (L : List (List UInt8)) (ss : List (List Row)) (m : Nat) (mz : Int) (hv : vs.length = L.length) (hr : Reads0 qs row vs) (K : InvF W w (segB 5 a l :: segB 5 b k :: segB 5 qa ql :: segB 5 qb qk :: (row :: rowsS 5 vs L) :: ss)) (hz : mz = (m : Int)) (hm : m ≤ 134217728) (hl : l.length ≤ 4194304) (hk : k.length ≤ 4194304) (hql : ql.length ≤ 4194304) (hqk : qk.length ≤ 4194304) (hN : sumL L ≤ 4194304) :
    Calls Tryz.prog 29 #[.agg #[.int .i64 x, .int .i64 y, .int .i64 z, a, b, .int .i64 qx, .int .i64 qy, qa, qb, qs], .int .i64 mz] w (fun e w' => e = .returned (.int .i64 (mz + (l.length : Int) + (k.length : Int) + (ql.length : Int) + (qk.length : Int) + (sumL L : Int))) ∧
      InvF W w' (segB 5 a (marks m l.length) :: segB 5 b (marks (m + l.length) k.length) :: segB 5 qa (marks (m + l.length + k.length) ql.length) :: segB 5 qb (marks (m + l.length + k.length + ql.length) qk.length) :: (row :: rowsS 5 vs (marksS (m + l.length + k.length + ql.length + qk.length) L)) :: ss)) := by
  obtain ⟨A, ac, rfl⟩ := K.openB' (.head _)
  obtain ⟨B, bc, rfl⟩ := K.openB' (.tail _ (.head _))
  obtain ⟨C, cc, rfl⟩ := K.openB' (.tail _ (.tail _ (.head _)))
  obtain ⟨D, dc, rfl⟩ := K.openB' (.tail _ (.tail _ (.tail _ (.head _))))
  obtain ⟨E, ec, rfl⟩ := K.openT hv hr
  have HR := Lib.hid hr
  clear hr
  have HV := Lib.hid hv
  have K1 := K.newG 40 #[.int .i64 x, .int .i64 y, .int .i64 z, .slice A l.length ac, .slice B k.length bc, .int .i64 qx, .int .i64 qy, .slice C ql.length cc, .slice D qk.length dc, .slice E L.length ec] w.heap.size
  replace K1 := Lib.hid (K1.front 1 rfl)
  have HZ := Lib.hid hz
  have hz2 : Hid (mz + (l.length : Int) = ((m + l.length : Nat) : Int)) := Lib.hid (by omega)
  have hz3 : Hid (mz + (l.length : Int) + (k.length : Int) = ((m + l.length + k.length : Nat) : Int)) := Lib.hid (by omega)
  have hb0 : 0 ≤ mz := by omega
  have hb1 : mz ≤ 134217728 := by omega
  have HN := Lib.hid hN
  clear K hz hv hN
  go_enter Tryz.func29, Tryz.ntmps29
  go_wp2_with fail
  refine (markByteS_z _ l m _ _ _ (K1.out.ownB 5 (.head _)) HZ.out (by omega) (by omega)).mono ?_
  rintro e w2 ⟨rfl, ho, hg⟩
  have K2 := K1.out.wroteB ho hg
  clear ho hg K1
  obtain ⟨o0, o1, o2, o3, o4, o5, o6, o7, o8, o9⟩ := K2.c10 (.tail _ (.head _))
  replace K2 := Lib.hid (K2.front 2 rfl)
  go_wp2_with fail
  refine (markByteS_z _ k (m + l.length) _ _ _ (K2.out.ownB 5 (.head _)) hz2.out (by omega) (by omega)).mono ?_
  rintro e w3 ⟨rfl, ho, hg⟩
  have K3 := K2.out.wroteB ho hg
  clear ho hg K2 o0 o1 o2 o3 o4 o5 o6 o7 o8 o9
  obtain ⟨o0, o1, o2, o3, o4, o5, o6, o7, o8, o9⟩ := K3.c10 (.tail _ (.tail _ (.head _)))
  replace K3 : InvF W w3 (segB 5 (.slice B k.length bc) (marks (m + l.length) k.length) :: segB 5 (.slice A l.length ac) (marks m l.length) :: segX 40 w.heap.size [.int .i64 x, .int .i64 y, .int .i64 z, .slice A l.length ac, .slice B k.length bc, .int .i64 qx, .int .i64 qy, .slice C ql.length cc, .slice D qk.length dc, .slice E L.length ec] :: segB 5 (.slice C ql.length cc) ql :: segB 5 (.slice D qk.length dc) qk :: (row :: rowsS 5 vs L) :: ss) := K3
  replace K3 := Lib.hid (K3.perm (List.perm_append_comm (l₁ := [_, _, _]) (l₂ := [_, _, _]) |>.append_right ss))
  go_wp2_with fail
  refine (markQcT_z qx qy W _ _ _ _ row vs ql qk L _ (m + l.length + k.length) _ HV.out HR.out K3.out hz3.out (by omega) (by omega) (by omega) HN.out).mono ?_
  rintro e w4 ⟨rfl, K4⟩
  replace K4 : InvF W w4 (segB 5 (.slice C ql.length cc) (marks (m + l.length + k.length) ql.length) :: segB 5 (.slice D qk.length dc) (marks (m + l.length + k.length + ql.length) qk.length) :: (row :: rowsS 5 vs (marksS (m + l.length + k.length + ql.length + qk.length) L)) :: segB 5 (.slice B k.length bc) (marks (m + l.length) k.length) :: segB 5 (.slice A l.length ac) (marks m l.length) :: segX 40 w.heap.size [.int .i64 x, .int .i64 y, .int .i64 z, .slice A l.length ac, .slice B k.length bc, .int .i64 qx, .int .i64 qy, .slice C ql.length cc, .slice D qk.length dc, .slice E L.length ec] :: ss) := K4
  have K5 := Lib.hid ((((K4.sub (qs := segB 5 (.slice C ql.length cc) (marks (m + l.length + k.length) ql.length) :: segB 5 (.slice D qk.length dc) (marks (m + l.length + k.length + ql.length) qk.length) :: (row :: rowsS 5 vs (marksS (m + l.length + k.length + ql.length + qk.length) L)) :: segB 5 (.slice B k.length bc) (marks (m + l.length) k.length) :: segB 5 (.slice A l.length ac) (marks m l.length) :: ss) (.cons_cons _ (.cons_cons _ (.cons_cons _ (.cons_cons _ (.cons_cons _ (.cons _ (List.Sublist.refl _)))))))).front 3 rfl).front 4 rfl))
  clear K4 K3 o0 o1 o2 o3 o4 o5 o6 o7 o8 o9
  go_wp2
  go_ret
  exact ⟨rfl, K5.out⟩

end Go.Proofs.YtdoaikanaodefaaGreatDoor
