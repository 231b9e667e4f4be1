/- require of the program's decoder, its decoder cell by cell. -/
import Derived.Test.YtopbalemfljphaaDoorDecI
namespace Go.Proofs.YtopbalemfljphaaDoor
open Go.ChangeShapes Go.WideShapes Go.ChangeAt Go.RowKit

set_option maxHeartbeats 2000000 in
/-- require, its decoder cell by cell. -/
theorem requireO_any (T : TypeId) (W w : World) (g : Nat) (i0 i1 i2 i3 i4 q e c : Int) (B : Value) (ok : Bool) (hc : c ≠ 0) (ss : List (List Row)) (K0 : InvF W w (segX T g [.int .i64 i0, .int .i64 i1, .int .i64 i2, .int .i64 i3, .int .i64 i4, B, .int .i64 q, errV e] :: ss)) :
    Calls Tryd.prog 47 #[.pointer (some ⟨g, 0, none⟩), .bool ok, .int .i64 c] w (fun ev w' => ev = .returned (.tuple #[]) ∧ InvF W w' (segX T g [.int .i64 i0, .int .i64 i1, .int .i64 i2, .int .i64 i3, .int .i64 i4, B, .int .i64 q, errV (fE e ok c)] :: ss)) := by
  have HK := Lib.hid K0
  have HN := Lib.hid (errV_no hc)
  by_cases he : e = 0
  · subst he
    rw [fE_yes]
    have r7 := K0.frX (.head _) 7
    rw [errV_zero] at K0
    have q7 := K0.atX (.head _) 7 rfl
    clear K0 hc
    rcases ok with _ | _
    · go_enter Tryd.func47, Tryd.ntmps47
      go_wp2
      go_end0
      exact ⟨rfl, by rw [HN.out]; exact HK.out.setX 7 (.iface 83 (.agg #[.int .i64 c]))⟩
    · go_enter Tryd.func47, Tryd.ntmps47
      go_wp2
      go_end0
      exact ⟨rfl, HK.out⟩
  · rw [fE_no he]
    rw [errV_no he] at K0
    have q7 := K0.atX (.head _) 7 rfl
    clear K0 he hc
    go_enter Tryd.func47, Tryd.ntmps47
    go_wp2
    go_end0
    exact ⟨rfl, HK.out⟩
end Go.Proofs.YtopbalemfljphaaDoor
