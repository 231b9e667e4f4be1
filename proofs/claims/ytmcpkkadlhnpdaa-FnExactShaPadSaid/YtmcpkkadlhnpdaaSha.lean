/- The contracts of the hash's functions but ShaBlock and Sha, as their model has them. -/
import Derived.Test.YtmcpkkadlhnpdaaIBase
import Derived.Test.YtmcpkkadlhnpdaaShaMath
import Derived.RegionTactic
import Derived.BigRegion
namespace Go.Proofs.Ytmcpkkadlhnpdaa
open Go.ChangeShapes Go.WideShapes Go.ChangeAt Go.RowKit

theorem l04Turn_any (x n : Nat) (w : World) (hn : n ≤ 31) :
    Calls Try.prog 15 #[.int .i64 (x : Int), .int .i64 (n : Int)] w (Quiet (.int .i64 (turnR x n : Int)) w) := by
  have hr := turn_bits x n
  generalize turnR x n = r at hr
  go_enter Try.func15, Try.ntmps15
  go_wp2
  go_quiet (fail)
  go_wp2
  go_ret
  exact ⟨by rw [← hr]; rfl, _, rfl⟩
theorem l04Word_yes (n : Int) (w : World) (h0 : 0 ≤ n) (h1 : n ≤ 4294967295) :
    Calls Try.prog 13 #[.int .i64 n] w fun e w' => e = .returned (.bool true) ∧ w = w' := by
  go_enter Try.func13, Try.ntmps13
  go_wp2_with (go_at_call 14; refine (l01In_yes _ _ _ _ h0 h1).mono ?_; rintro e w' ⟨rfl, rfl⟩)
  go_ret
  exact ⟨rfl, rfl⟩
theorem l04Word_no (n : Int) (w : World) (h : ¬ (0 ≤ n ∧ n ≤ 4294967295)) :
    Calls Try.prog 13 #[.int .i64 n] w fun e w' => e = .returned (.bool false) ∧ w = w' := by
  have H := Lib.hid h
  clear h
  go_enter Try.func13, Try.ntmps13
  go_wp2_with (go_at_call 14; refine (l01In_no _ _ _ _ H.out).mono ?_; rintro e w' ⟨rfl, rfl⟩)
  go_ret
  exact ⟨rfl, rfl⟩

/-- The arguments of TurnRight. -/
def turnOk (x n : Int) : Prop := (0 ≤ x ∧ x ≤ 4294967295) ∧ 0 ≤ n ∧ n ≤ 31
instance (x n : Int) : Decidable (turnOk x n) := inferInstanceAs (Decidable (_ ∧ _))
/-- What TurnRight answers. -/
def turnZ (x n : Int) : Int := if turnOk x n then (turnR x.toNat n.toNat : Int) else 0
/-- The call returns the number x; nothing that was there has turned. -/
def Num2 (x : Int) (w : World) (e : Ending) (w' : World) : Prop := e = .returned (.int .i64 x) ∧ Below w.heap.size w w'
theorem specTurnRight_any (x n : Int) (w : World) : Calls Try.prog 5 #[.int .i64 x, .int .i64 n] w (Num2 (turnZ x n) w) := by
  by_cases hc : turnOk x n
  · obtain ⟨m, rfl⟩ := Int.eq_ofNat_of_zero_le hc.1.1
    obtain ⟨k, rfl⟩ := Int.eq_ofNat_of_zero_le hc.2.1
    have e : turnZ (m : Int) (k : Int) = (turnR m k : Int) := if_pos hc
    rw [e]
    obtain ⟨⟨h0, h1⟩, h2, h3⟩ := hc
    clear e
    go_enter Try.func5, Try.ntmps5
    go_wp2_with fail
    refine (l04Word_yes _ _ h0 h1).mono ?_
    rintro e w1 ⟨rfl, rfl⟩
    go_wp2_with fail
    refine (l01In_yes _ _ _ _ h2 h3).mono ?_
    rintro e w1 ⟨rfl, rfl⟩
    go_wp2_with fail
    refine (l04Turn_any m k _ (by omega)).mono ?_
    rintro e _ ⟨rfl, d, rfl⟩
    go_wp2_with fail
    go_ret
    exact ⟨rfl, below_drewN (Below.refl _ _) d⟩
  · have e : turnZ x n = 0 := if_neg hc
    rw [e]
    clear e
    by_cases hx : 0 ≤ x ∧ x ≤ 4294967295
    · have hn : ¬ (0 ≤ n ∧ n ≤ 31) := fun hn => hc ⟨hx, hn⟩
      have H := Lib.hid hn
      obtain ⟨h0, h1⟩ := hx
      clear hc hn
      go_enter Try.func5, Try.ntmps5
      go_wp2_with fail
      refine (l04Word_yes _ _ h0 h1).mono ?_
      rintro e w1 ⟨rfl, rfl⟩
      go_wp2_with fail
      refine (l01In_no _ _ _ _ H.out).mono ?_
      rintro e w1 ⟨rfl, rfl⟩
      go_wp2_with fail
      go_ret
      exact ⟨rfl, Below.refl _ _⟩
    · have H := Lib.hid hx
      clear hc hx
      go_enter Try.func5, Try.ntmps5
      go_wp2_with fail
      refine (l04Word_no _ _ H.out).mono ?_
      rintro e w1 ⟨rfl, rfl⟩
      go_wp2_with fail
      go_ret
      exact ⟨rfl, Below.refl _ _⟩

end Go.Proofs.Ytmcpkkadlhnpdaa
