/- The contracts of the functions that write numbers: PutVar, VarSize and what they call, as the program has them and as their model has them. -/
import Derived.Test.YtpnfdngacipfgaaDoorBase
import Derived.Test.YtpnfdngacipfgaaDoorMath
namespace Go.Proofs.YtpnfdngacipfgaaDoor
open Go.ChangeShapes Go.WideShapes Go.ChangeAt Go.RowKit

/-- The call returns a new row that reads as l, and x beside it; nothing that was there has turned. -/
def Fresh2 (w : World) (l : List UInt8) (x : Value) (e : Ending) (w' : World) : Prop :=
  ∃ u, e = .returned (.tuple #[u, x]) ∧ Own 5 w' w.heap.size u l ∧ Below w.heap.size w w'

/-- spec.l01In. -/
theorem l01In_yes (n a b : Int) (w : World) (h0 : a ≤ n) (h1 : n ≤ b) :
    Calls Tryd.prog 63 #[.int .i64 n, .int .i64 a, .int .i64 b] w fun e w' => e = .returned (.bool true) ∧ w = w' := by
  go_enter Tryd.func63, Tryd.ntmps63
  go_wp2
  go_ret
  exact ⟨rfl, rfl⟩
theorem l01In_no (n a b : Int) (w : World) (h : ¬ (a ≤ n ∧ n ≤ b)) :
    Calls Tryd.prog 63 #[.int .i64 n, .int .i64 a, .int .i64 b] w fun e w' => e = .returned (.bool false) ∧ w = w' := by
  by_cases h0 : a ≤ n
  · have h1 : b < n := by omega
    clear h
    go_enter Tryd.func63, Tryd.ntmps63
    go_wp2
    go_ret
    exact ⟨by simp; omega, rfl⟩
  · have h1 : n < a := by omega
    clear h h0
    go_enter Tryd.func63, Tryd.ntmps63
    go_wp2
    go_ret
    exact ⟨rfl, rfl⟩
set_option maxHeartbeats 400000 in
theorem l01Copy_any (v : Value) (l : List UInt8) (w : World) (h : Sl w w.heap.size v l) (hl : l.length ≤ 4294967296) :
    Calls Tryd.prog 52 #[v] w (Fresh w l) := by
  obtain ⟨i0, hi, hz0, hz1, hz2⟩ := info_parts u8info
  have hown : Own 5 (w.alloc (.cells #[] 5)) w.heap.size (.slice (some ⟨w.heap.size, 0, none⟩) 0 0) [] :=
    World.ownsRow_lit w #[] 0 (Nat.le_refl _) (by simp [maxLen]) rfl
  have hb : Below w.heap.size w (w.alloc (.cells #[] 5)) := (Below.refl _ _).alloc (Nat.le_refl _) _
  have hs := h.up hb
  go_enter Tryd.func52, Tryd.ntmps52
  go_wp2_with (at_builtin; refine wpList_appS (W := w) rfl _ _ 22 rfl 5 i0 Tryd.underlying22 hi hz0 hz1 hz2 _ [] rfl _ l rfl hs hown hb (by simp; omega) ?_; intro v1 w1 hown1 hb1)
  go_ret
  exact ⟨v1, rfl, by simpa using hown1, hb1⟩

/-- How many bytes PutVar writes. -/
def sizeV (n : Int) : Nat := (putVarL [] n).length
end Go.Proofs.YtpnfdngacipfgaaDoor
