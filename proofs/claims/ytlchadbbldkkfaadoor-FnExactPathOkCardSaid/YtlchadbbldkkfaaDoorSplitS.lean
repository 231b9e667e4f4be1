/- The contract of SplitAt as its model has it. -/
import Derived.Test.YtlchadbbldkkfaaDoorBase
import Derived.Test.YtlchadbbldkkfaaDoorTreeMath
namespace Go.Proofs.YtlchadbbldkkfaaDoor
open Go.ChangeShapes Go.WideShapes Go.ChangeAt Go.RowKit

set_option maxHeartbeats 1000000 in
theorem specSplitAt_any (n : Int) (w : World) (hn : n ≤ 9223372036854775807) :
    Calls Tryd.prog 77 #[.int .i64 n] w (fun e w' => e = .returned (.int .i64 (splitZ n)) ∧ w' = w) := by
  by_cases hlt : n < 2
  · rw [splitZ_small hlt]
    go_enter Tryd.func77, Tryd.ntmps77
    go_wp2
    go_ret
    exact ⟨rfl, rfl⟩
  · obtain ⟨m, rfl⟩ := Int.eq_ofNat_of_zero_le (show 0 ≤ n by omega)
    obtain ⟨R, hR⟩ : ∃ R, R = splitN m := ⟨_, rfl⟩
    have hsp : ∀ j, 2 ^ j < m → ¬ (2 ^ j < m - 2 ^ j) → R = 2 ^ j := fun j h1 h2 => hR.trans (splitN_of h1 (by omega))
    rw [splitZ_nat, ← hR]
    clear hR
    have HSP := Lib.hid hsp
    clear hsp
    go_enter Tryd.func77, Tryd.ntmps77
    go_wp2
    go_loopw [3] (fun q wr => ∃ k j : Nat, q = .int .i64 (k : Int) ∧ Hid (k = 2 ^ j) ∧ k < m ∧ 0 < k ∧ wr = w)
      (fun q _ => m - (intOf q).toNat)
    case atStart => exact ⟨1, 0, rfl, Lib.hid rfl, by omega, by omega, rfl⟩
    case round =>
      obtain ⟨k, j, rfl, hkj, hkm, hk0, rfl⟩ := hrel
      by_cases hgo : k < m - k
      · have hgi : (k : Int) < (m : Int) - (k : Int) := by omega
        go_wp2
        go_roundw
        case rel => exact ⟨2 * k, j + 1, by go_num, Lib.hid (by rw [hkj.out, Nat.pow_succ]; omega), by omega, by omega, trivial⟩
        case measure => simp [intOf]; omega
      · have hgi : ¬ (k : Int) < (m : Int) - (k : Int) := by omega
        obtain rfl : R = k := by
          have := HSP.out j
          rw [← hkj.out] at this
          exact this hkm hgo
        go_wp2
        go_ret
        exact ⟨rfl, rfl⟩
end Go.Proofs.YtlchadbbldkkfaaDoor
