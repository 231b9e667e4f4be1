/- The contracts of l08In and PathLen as their models have them. -/
import Derived.Test.YtlchadbbldkkfaaDoorPut
import Derived.Test.YtlchadbbldkkfaaDoorPathMath
import Derived.Test.YtlchadbbldkkfaaDoorSplitS
namespace Go.Proofs.YtlchadbbldkkfaaDoor
open Go.ChangeShapes Go.WideShapes Go.ChangeAt Go.RowKit

/-- Is there a path? -/
def pathB (i n : Int) : Bool := decide (1 ≤ n ∧ n ≤ 1048576 ∧ 0 ≤ i ∧ i < n)
theorem pathB_yes {i n : Int} (h : 1 ≤ n ∧ n ≤ 1048576 ∧ 0 ≤ i ∧ i < n) : pathB i n = true := decide_eq_true h
theorem pathB_no {i n : Int} (h : ¬ (1 ≤ n ∧ n ≤ 1048576 ∧ 0 ≤ i ∧ i < n)) : pathB i n = false := decide_eq_false h
/-- The length of the path, 0 if there is none. -/
def plenZ (i n : Int) : Int := if pathB i n = true then (plenN i.toNat n.toNat : Int) else 0

set_option maxHeartbeats 1000000 in
theorem l08In_any (i n : Int) (w : World) :
    Calls Tryd.prog 55 #[.int .i64 i, .int .i64 n] w (fun e w' => e = .returned (.bool (pathB i n)) ∧ w = w') := by
  by_cases h1 : 1 ≤ n ∧ n ≤ 1048576
  · by_cases h2 : 0 ≤ i ∧ i ≤ n - 1
    · rw [pathB_yes ⟨h1.1, h1.2, h2.1, by omega⟩]
      have HA := Lib.hid (fun w => l01In_yes n 1 1048576 w h1.1 h1.2)
      have HB := Lib.hid (fun w => l01In_yes i 0 (n - 1) w h2.1 h2.2)
      have hn1 := h1.1
      have hn2 := h1.2
      clear h1 h2
      go_enter Tryd.func55, Tryd.ntmps55
      go_wp2_with fail
      refine (HA.out _).mono ?_
      rintro e _ ⟨rfl, rfl⟩
      go_wp2_with fail
      refine (HB.out _).mono ?_
      rintro e _ ⟨rfl, rfl⟩
      go_wp2
      go_ret
      exact ⟨rfl, rfl⟩
    · rw [pathB_no (by omega)]
      have HA := Lib.hid (fun w => l01In_yes n 1 1048576 w h1.1 h1.2)
      have HB := Lib.hid (fun w => l01In_no i 0 (n - 1) w h2)
      have hn1 := h1.1
      have hn2 := h1.2
      clear h1 h2
      go_enter Tryd.func55, Tryd.ntmps55
      go_wp2_with fail
      refine (HA.out _).mono ?_
      rintro e _ ⟨rfl, rfl⟩
      go_wp2_with fail
      refine (HB.out _).mono ?_
      rintro e _ ⟨rfl, rfl⟩
      go_wp2
      go_ret
      exact ⟨rfl, rfl⟩
  · rw [pathB_no (by omega)]
    have HA := Lib.hid (fun w => l01In_no n 1 1048576 w h1)
    clear h1
    go_enter Tryd.func55, Tryd.ntmps55
    go_wp2_with fail
    refine (HA.out _).mono ?_
    rintro e _ ⟨rfl, rfl⟩
    go_wp2
    go_ret
    exact ⟨rfl, rfl⟩

set_option maxHeartbeats 2000000 in
theorem specPathLen_in : ∀ (f i n : Nat) (w : World), n ≤ f → i < n → n ≤ 1048576 →
    Calls Tryd.prog 56 #[.int .i64 (i : Int), .int .i64 (n : Int)] w (fun e w' => e = .returned (.int .i64 (plenN i n : Int)) ∧ w = w') := by
  intro f
  induction f with
  | zero => intro i n w hf hi; omega
  | succ f ih =>
    intro i n w hf hi hn
    have HI := Lib.hid (fun w => l08In_any (i : Int) (n : Int) w)
    rw [pathB_yes (by omega)] at HI
    by_cases h1 : n = 1
    · have h1' : ((n : Int) == 1) = true := by simp [h1]
      rw [plenN_small (by omega) hi]
      clear h1 ih
      go_enter Tryd.func56, Tryd.ntmps56
      go_wp2_with fail
      refine (HI.out _).mono ?_
      rintro e _ ⟨rfl, rfl⟩
      go_wp2
      go_ret
      exact ⟨rfl, rfl⟩
    · have h1' : ((n : Int) == 1) = false := by rw [beq_eq_false_iff_ne]; omega
      have hn2 : 2 ≤ n := by omega
      have hlt := splitN_lt hn2
      have hps := splitN_pos hn2
      have HA := Lib.hid (fun w => specSplitAt_any (n : Int) w (by omega))
      rw [splitZ_nat] at HA
      by_cases hk : i < splitN n
      · rw [plenN_left hn2 hk]
        generalize splitN n = s at hlt hps HA hk ⊢
        have IH := Lib.hid (fun w => ih i s w (by omega) hk (by omega))
        have hb := Nat.le_trans (upN_len i s s) (show s ≤ 1048576 by omega)
        change plenN i s ≤ 1048576 at hb
        have hki : (i : Int) < (s : Int) := by omega
        generalize plenN i s = R at hb IH ⊢
        clear h1 ih hn2
        go_enter Tryd.func56, Tryd.ntmps56
        go_wp2_with fail
        refine (HI.out _).mono ?_
        rintro e _ ⟨rfl, rfl⟩
        go_wp2_with fail
        refine (HA.out _).mono ?_
        rintro e w' ⟨rfl, hw⟩
        obtain rfl : w = w' := hw.symm
        go_wp2_with fail
        refine (IH.out _).mono ?_
        rintro e _ ⟨rfl, rfl⟩
        go_wp2
        go_ret
        exact ⟨by go_num, rfl⟩
      · rw [plenN_right hn2 (by omega) hi]
        generalize splitN n = s at hlt hps HA hk ⊢
        have IH := Lib.hid (fun w => ih (i - s) (n - s) w (by omega) (by omega) (by omega))
        have hb := Nat.le_trans (upN_len (i - s) (n - s) (n - s)) (show n - s ≤ 1048576 by omega)
        change plenN (i - s) (n - s) ≤ 1048576 at hb
        have hki : ¬ (i : Int) < (s : Int) := by omega
        have e1 : (i : Int) - (s : Int) = ((i - s : Nat) : Int) := by omega
        have e2 : (n : Int) - (s : Int) = ((n - s : Nat) : Int) := by omega
        have hx1 : i - s ≤ 1048576 := by omega
        have hx2 : n - s ≤ 1048576 := by omega
        generalize plenN (i - s) (n - s) = R at hb IH ⊢
        generalize i - s = i' at e1 IH hx1
        generalize n - s = n' at e2 IH hx2
        clear h1 ih hn2
        go_enter Tryd.func56, Tryd.ntmps56
        go_wp2_with fail
        refine (HI.out _).mono ?_
        rintro e _ ⟨rfl, rfl⟩
        go_wp2_with fail
        refine (HA.out _).mono ?_
        rintro e w' ⟨rfl, hw⟩
        obtain rfl : w = w' := hw.symm
        go_wp2_with fail
        refine (IH.out _).mono ?_
        rintro e _ ⟨rfl, rfl⟩
        go_wp2
        go_ret
        exact ⟨by go_num, rfl⟩

set_option maxHeartbeats 1000000 in
theorem specPathLen_any (i n : Int) (w : World) :
    Calls Tryd.prog 56 #[.int .i64 i, .int .i64 n] w (fun e w' => e = .returned (.int .i64 (plenZ i n)) ∧ w = w') := by
  unfold plenZ
  by_cases h : 1 ≤ n ∧ n ≤ 1048576 ∧ 0 ≤ i ∧ i < n
  · rw [if_pos (pathB_yes h)]
    obtain ⟨k, rfl⟩ := Int.eq_ofNat_of_zero_le h.2.2.1
    obtain ⟨m, rfl⟩ := Int.eq_ofNat_of_zero_le (show 0 ≤ n by omega)
    exact specPathLen_in m k m w (Nat.le_refl _) (by omega) (by omega)
  · rw [pathB_no h, if_neg (by decide)]
    have HI := Lib.hid (fun w => l08In_any i n w)
    rw [pathB_no h] at HI
    clear h
    go_enter Tryd.func56, Tryd.ntmps56
    go_wp2_with fail
    refine (HI.out _).mono ?_
    rintro e _ ⟨rfl, rfl⟩
    go_wp2
    go_ret
    exact ⟨rfl, rfl⟩
end Go.Proofs.YtlchadbbldkkfaaDoor
