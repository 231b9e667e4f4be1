/- Proofs of inclusion: markIncl where the path's rows lie over any row. -/
import Derived.Test.YtopbalemfljphaaDoorIncl
import Derived.Test.YtopbalemfljphaaDoorQcT
namespace Go.Proofs.YtopbalemfljphaaDoor
open Go.ChangeShapes Go.WideShapes Go.ChangeAt Go.RowKit

set_option maxHeartbeats 4000000 in
theorem markInclT_z (x y z : Int) (W w : World) (a s : Value) (row : Row) (vs : List Value) (l : List UInt8) (L : List (List UInt8)) (ss : List (List Row)) (m : Nat) (mz : Int) (hv : vs.length = L.length) (hr : Reads0 s row vs) (K : InvF W w (segB 5 a l :: (row :: rowsS 5 vs L) :: ss)) (hz : mz = (m : Int)) (hm : m ≤ 268435456) (hl : l.length ≤ 4194304) (hN : sumL L ≤ 4194304) :
    Calls Tryd.prog 17 #[.agg #[.int .i64 x, .int .i64 y, .int .i64 z, a, s], .int .i64 mz] w (fun e w' => e = .returned (.int .i64 (mz + (l.length : Int) + (sumL L : Int))) ∧
      InvF W w' (segB 5 a (marks m l.length) :: (row :: rowsS 5 vs (marksS (m + l.length) L)) :: ss)) := by
  obtain ⟨A, c, rfl⟩ := K.openB' (.head _)
  obtain ⟨C, f, rfl⟩ := K.openT hv hr
  have HV := Lib.hid hv
  have HR := Lib.hid hr
  have K1 := K.newG 42 #[.int .i64 x, .int .i64 y, .int .i64 z, .slice A l.length c, .slice C L.length f] w.heap.size
  replace K1 := Lib.hid (K1.front 1 rfl)
  have HZ := Lib.hid hz
  have hz2 : Hid (mz + (l.length : Int) = ((m + l.length : Nat) : Int)) := Lib.hid (by omega)
  have hb0 : 0 ≤ mz := by omega
  have hb1 : mz ≤ 268435456 := by omega
  have HN := Lib.hid hN
  clear K hz hv hr hN
  go_enter Tryd.func17, Tryd.ntmps17
  go_wp2_with fail
  refine (markByteS_z _ l m _ _ _ (K1.out.ownB 5 (.head _)) HZ.out (by omega) (by omega)).mono ?_
  rintro e w2 ⟨rfl, ho, hg⟩
  have K2 := K1.out.wroteB ho hg
  clear ho hg K1
  obtain ⟨o0, o1, o2, o3, o4⟩ := K2.c5 (.tail _ (.head _))
  replace K2 := Lib.hid (K2.front 2 rfl)
  go_wp2_with fail
  have hcall := markByteSST_any W _ _ row vs L _ (m + l.length) HV.out HR.out K2.out (by omega) (by have := HN.out; omega)
  rw [← hz2.out] at hcall
  refine hcall.mono ?_
  rintro e w4 ⟨rfl, K4⟩
  have K4' : InvF W w4 ((row :: rowsS 5 vs (marksS (m + l.length) L)) :: segB 5 (.slice A l.length c) (marks m l.length) :: _ :: ss) := K4
  have K5 := Lib.hid ((K4'.front 1 rfl).sub (qs := segB 5 (.slice A l.length c) (marks m l.length) :: (row :: rowsS 5 vs (marksS (m + l.length) L)) :: ss) (.cons_cons _ (.cons_cons _ (.cons _ (List.Sublist.refl _)))))
  clear K4 K4' K2 hcall o0 o1 o2 o3 o4
  go_wp2
  go_ret
  exact ⟨rfl, K5.out⟩

end Go.Proofs.YtopbalemfljphaaDoor
