/- The contracts of SplitAt, as the program has it; its model's is in SplitS. -/
import Derived.Test.YtlchadbbldkkfaaDoorBase
import Derived.Test.YtlchadbbldkkfaaDoorSplitS
import Derived.Test.YtlchadbbldkkfaaDoorShelf
import Derived.Test.YtlchadbbldkkfaaDoorBits
import Derived.Lib.ItoaNum
namespace Go.Proofs.YtlchadbbldkkfaaDoor
open Go.ChangeShapes Go.WideShapes Go.ChangeAt Go.RowKit

theorem splitN_bits {n : Nat} (h : 2 ≤ n) (hn : n ≤ 9223372036854775807) : ∃ j, Lib.bitLen (n - 1) = j + 1 ∧ j ≤ 62 ∧ splitN n = 2 ^ j := by
  obtain ⟨h1, h2, h3⟩ := Lib.bitLenAux_bounds 64 (n - 1) (by omega) (by omega)
  change 1 ≤ Lib.bitLen (n - 1) at h1
  change 2 ^ (Lib.bitLen (n - 1) - 1) ≤ n - 1 at h2
  change n - 1 < 2 ^ Lib.bitLen (n - 1) at h3
  generalize Lib.bitLen (n - 1) = b at h1 h2 h3
  obtain ⟨j, rfl⟩ : ∃ j, b = j + 1 := ⟨b - 1, by omega⟩
  rw [Nat.add_sub_cancel] at h2
  refine ⟨j, rfl, ?_, splitN_of (by omega) (by rw [Nat.pow_succ] at h3; omega)⟩
  rcases Nat.lt_or_ge 62 j with hj | hj
  · have : 2 ^ 63 ≤ 2 ^ j := Nat.pow_le_pow_right (by omega) hj
    omega
  · exact hj

theorem wrap_pow {j : Nat} (hj : j ≤ 62) : wrap64 ((2 : Int) ^ j) = ((2 ^ j : Nat) : Int) := by
  have hp : 2 ^ j ≤ 2 ^ 62 := Nat.pow_le_pow_right (by omega) hj
  have e : ((2 : Int) ^ j) = ((2 ^ j : Nat) : Int) := by simp
  rw [e]
  generalize 2 ^ j = k at hp
  unfold wrap64
  omega

set_option maxRecDepth 100000 in
theorem implSplitAt_any (n : Int) (w : World) (hn : n ≤ 9223372036854775807) :
    Calls Tryd.prog 40 #[.int .i64 n] w (fun e w' => e = .returned (.int .i64 (splitZ n)) ∧ w' = w) := by
  by_cases hlt : n < 2
  · rw [splitZ_small hlt]
    go_enter Tryd.func40, Tryd.ntmps40
    go_wp2
    go_ret
    exact ⟨rfl, rfl⟩
  · obtain ⟨m, rfl⟩ := Int.eq_ofNat_of_zero_le (show 0 ≤ n by omega)
    obtain ⟨j, hb, hj, hs⟩ := splitN_bits (n := m) (by omega) (by omega)
    rw [splitZ_nat, hs]
    have HB := Lib.hid (Tryd.bits_Len ((m : Int) - 1) w (by omega) (by omega))
    have hto : ((m : Int) - 1).toNat = m - 1 := by omega
    rw [hto, hb] at HB
    clear hb hs hto
    go_enter Tryd.func40, Tryd.ntmps40
    go_wp2_with (go_at_call 73; refine HB.out.mono ?_; rintro e _ ⟨rfl, rfl⟩)
    go_ret
    refine ⟨?_, rfl⟩
    rw [wrap_pow hj]
    rfl

theorem implSplitAtB_any (n : Int) (w : World) (hn : n ≤ 9223372036854775807) :
    Calls Tryd.prog 40 #[.int .i64 n] w (fun e w' => e = .returned (.int .i64 (splitZ n)) ∧ Below w.heap.size w w') :=
  (implSplitAt_any n w hn).mono fun _ _ h => ⟨h.1, by rw [h.2]; exact Below.refl _ _⟩
theorem specSplitAtB_any (n : Int) (w : World) (hn : n ≤ 9223372036854775807) :
    Calls Tryd.prog 77 #[.int .i64 n] w (fun e w' => e = .returned (.int .i64 (splitZ n)) ∧ Below w.heap.size w w') :=
  (specSplitAt_any n w hn).mono fun _ _ h => ⟨h.1, by rw [h.2]; exact Below.refl _ _⟩
end Go.Proofs.YtlchadbbldkkfaaDoor
