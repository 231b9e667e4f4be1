/- The contracts of the hash's functions but ShaBlock and Sha, as their model has them. -/
import Derived.Test.YtlchadbbldkkfaaDoorIBase
import Derived.Test.YtlchadbbldkkfaaDoorShaMath
import Derived.RegionTactic
import Derived.BigRegion
namespace Go.Proofs.YtlchadbbldkkfaaDoor
open Go.ChangeShapes Go.WideShapes Go.ChangeAt Go.RowKit

theorem l04Turn_any (x n : Nat) (w : World) (hn : n ≤ 31) :
    Calls Tryd.prog 100 #[.int .i64 (x : Int), .int .i64 (n : Int)] w (Quiet (.int .i64 (turnR x n : Int)) w) := by
  have hr := turn_bits x n
  generalize turnR x n = r at hr
  go_enter Tryd.func100, Tryd.ntmps100
  go_wp2
  go_quiet (fail)
  go_wp2
  go_ret
  exact ⟨by rw [← hr]; rfl, _, rfl⟩
theorem l04Word_yes (n : Int) (w : World) (h0 : 0 ≤ n) (h1 : n ≤ 4294967295) :
    Calls Tryd.prog 99 #[.int .i64 n] w fun e w' => e = .returned (.bool true) ∧ w = w' := by
  go_enter Tryd.func99, Tryd.ntmps99
  go_wp2_with (go_at_call 62; refine (l01In_yes _ _ _ _ h0 h1).mono ?_; rintro e w' ⟨rfl, rfl⟩)
  go_ret
  exact ⟨rfl, rfl⟩
theorem l04Word_no (n : Int) (w : World) (h : ¬ (0 ≤ n ∧ n ≤ 4294967295)) :
    Calls Tryd.prog 99 #[.int .i64 n] w fun e w' => e = .returned (.bool false) ∧ w = w' := by
  have H := Lib.hid h
  clear h
  go_enter Tryd.func99, Tryd.ntmps99
  go_wp2_with (go_at_call 62; refine (l01In_no _ _ _ _ H.out).mono ?_; rintro e w' ⟨rfl, rfl⟩)
  go_ret
  exact ⟨rfl, rfl⟩

/-- The arguments of TurnRight. -/
def turnOk (x n : Int) : Prop := (0 ≤ x ∧ x ≤ 4294967295) ∧ 0 ≤ n ∧ n ≤ 31
instance (x n : Int) : Decidable (turnOk x n) := inferInstanceAs (Decidable (_ ∧ _))
/-- What TurnRight answers. -/
def turnZ (x n : Int) : Int := if turnOk x n then (turnR x.toNat n.toNat : Int) else 0
/-- The call returns the number x; nothing that was there has turned. -/
def Num2 (x : Int) (w : World) (e : Ending) (w' : World) : Prop := e = .returned (.int .i64 x) ∧ Below w.heap.size w w'
set_option maxRecDepth 100000 in
theorem specShaInit_any (w : World) : Calls Tryd.prog 88 #[] w (FreshI w (wi initW)) := by
  go_enter Tryd.func88, Tryd.ntmps88
  go_wp2
  go_ret
  exact ⟨_, rfl, World.ownsRow_lit w _ 8 (Nat.le_refl _) (by simp [maxLen]) rfl, (Below.refl _ _).alloc (Nat.le_refl _) _⟩
set_option maxRecDepth 100000 in
theorem l04K_any (w : World) : Calls Tryd.prog 101 #[] w (FreshI w (wi kk)) := by
  go_enter Tryd.func101, Tryd.ntmps101
  go_wp2
  go_ret
  exact ⟨_, rfl, World.ownsRow_lit w _ 64 (Nat.le_refl _) (by simp [maxLen]) rfl, (Below.refl _ _).alloc (Nat.le_refl _) _⟩
end Go.Proofs.YtlchadbbldkkfaaDoor
