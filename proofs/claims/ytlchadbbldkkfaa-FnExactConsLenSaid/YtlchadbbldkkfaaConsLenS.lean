/- The contracts of l09In, l01Flag, l09Len and ConsLen as their models have them. -/
import Derived.Test.YtlchadbbldkkfaaPut
import Derived.Test.YtlchadbbldkkfaaConsMath
import Derived.Test.YtlchadbbldkkfaaSplitS
namespace Go.Proofs.Ytlchadbbldkkfaa
open Go.ChangeShapes Go.WideShapes Go.ChangeAt Go.RowKit

/-- Is there a proof? -/
def consB (m n : Int) : Bool := decide (n ≤ 1048576 ∧ 1 ≤ m ∧ m ≤ n)
theorem consB_yes {m n : Int} (h : n ≤ 1048576 ∧ 1 ≤ m ∧ m ≤ n) : consB m n = true := decide_eq_true h
theorem consB_no {m n : Int} (h : ¬ (n ≤ 1048576 ∧ 1 ≤ m ∧ m ≤ n)) : consB m n = false := decide_eq_false h
/-- The length of the proof, 0 if there is none. -/
def clenZ (m n : Int) : Int := if consB m n = true then (clenN m.toNat n.toNat true : Int) else 0

set_option maxHeartbeats 1000000 in
theorem l09In_any (m n : Int) (w : World) :
    Calls Try.prog 6 #[.int .i64 m, .int .i64 n] w (fun e w' => e = .returned (.bool (consB m n)) ∧ w = w') := by
  by_cases h1 : n ≤ 1048576
  · by_cases h2 : 1 ≤ m ∧ m ≤ n
    · rw [consB_yes ⟨h1, h2⟩]
      have HA := Lib.hid (fun w => l01In_yes m 1 n w h2.1 h2.2)
      clear h2
      go_enter Try.func6, Try.ntmps6
      go_wp2_with fail
      refine (HA.out _).mono ?_
      rintro e _ ⟨rfl, rfl⟩
      go_wp2
      go_ret
      exact ⟨rfl, rfl⟩
    · rw [consB_no (fun e => h2 e.2)]
      have HA := Lib.hid (fun w => l01In_no m 1 n w h2)
      clear h2
      go_enter Try.func6, Try.ntmps6
      go_wp2_with fail
      refine (HA.out _).mono ?_
      rintro e _ ⟨rfl, rfl⟩
      go_wp2
      go_ret
      exact ⟨rfl, rfl⟩
  · rw [consB_no (fun e => h1 e.1)]
    go_enter Try.func6, Try.ntmps6
    go_wp2
    go_ret
    exact ⟨rfl, rfl⟩

theorem l01Flag_any (b : Bool) (w : World) :
    Calls Try.prog 11 #[.bool b] w (fun e w' => e = .returned (.int .i64 (if b = true then 1 else 0)) ∧ w = w') := by
  cases b <;>
  · go_enter Try.func11, Try.ntmps11
    go_wp2
    go_ret
    exact ⟨rfl, rfl⟩

set_option maxHeartbeats 2000000 in
theorem l09Len_in : ∀ (f m n : Nat) (b : Bool) (w : World), n ≤ f → 1 ≤ m → m ≤ n → n ≤ 1048576 →
    Calls Try.prog 7 #[.int .i64 (m : Int), .int .i64 (n : Int), .bool b] w (fun e w' => e = .returned (.int .i64 (clenN m n b : Int)) ∧ w = w') := by
  intro f
  induction f with
  | zero => intro m n b w hf h0 hm; omega
  | succ f ih =>
    intro m n b w hf h0 hm hn
    by_cases h1 : m = n
    · have h1' : ((m : Int) == (n : Int)) = true := by simp [h1]
      have HF := Lib.hid (fun w => l01Flag_any (!b) w)
      have hr : (clenN m n b : Int) = if (!b) = true then 1 else 0 := by
        cases b with
        | true => rw [h1, clenN_yes]; rfl
        | false => rw [h1, clenN_no]; rfl
      rw [hr]
      generalize (if (!b) = true then (1 : Int) else 0) = R at HF ⊢
      clear h1 ih hr
      go_enter Try.func7, Try.ntmps7
      go_wp2_with fail
      refine (HF.out _).mono ?_
      rintro e _ ⟨rfl, rfl⟩
      go_wp2
      go_ret
      exact ⟨rfl, rfl⟩
    · have h1' : ((m : Int) == (n : Int)) = false := by rw [beq_eq_false_iff_ne]; omega
      have hn2 : 2 ≤ n := by omega
      have hlt := splitN_lt hn2
      have hps := splitN_pos hn2
      have HA := Lib.hid (fun w => specSplitAt_any (n : Int) w (by omega))
      rw [splitZ_nat] at HA
      by_cases hk : m ≤ splitN n
      · rw [clenN_left hn2 h0 hk]
        generalize splitN n = s at hlt hps HA hk ⊢
        have IH := Lib.hid (fun w => ih m s b w (by omega) h0 hk (by omega))
        have hb := cprt_len (b := b) h0 hk (show s ≤ 2 ^ 30 by omega)
        change clenN m s b ≤ 31 at hb
        have hki : (m : Int) ≤ (s : Int) := by omega
        generalize clenN m s b = R at hb IH ⊢
        clear h1 ih hn2
        go_enter Try.func7, Try.ntmps7
        go_wp2_with fail
        refine (HA.out _).mono ?_
        rintro e w' ⟨rfl, hw⟩
        obtain rfl : w = w' := hw.symm
        go_wp2_with fail
        refine (IH.out _).mono ?_
        rintro e _ ⟨rfl, rfl⟩
        go_wp2
        go_ret
        exact ⟨by go_num, rfl⟩
      · rw [clenN_right hn2 (by omega) (by omega)]
        generalize splitN n = s at hlt hps HA hk ⊢
        have IH := Lib.hid (fun w => ih (m - s) (n - s) false w (by omega) (by omega) (by omega) (by omega))
        have hb := cprt_len (m := m - s) (n := n - s) (b := false) (by omega) (by omega) (show n - s ≤ 2 ^ 30 by omega)
        change clenN (m - s) (n - s) false ≤ 31 at hb
        have hki : ¬ (m : Int) ≤ (s : Int) := by omega
        have e1 : (m : Int) - (s : Int) = ((m - s : Nat) : Int) := by omega
        have e2 : (n : Int) - (s : Int) = ((n - s : Nat) : Int) := by omega
        have hx1 : m - s ≤ 1048576 := by omega
        have hx2 : n - s ≤ 1048576 := by omega
        generalize clenN (m - s) (n - s) false = R at hb IH ⊢
        generalize m - s = m' at e1 IH hx1
        generalize n - s = n' at e2 IH hx2
        clear h1 ih hn2
        go_enter Try.func7, Try.ntmps7
        go_wp2_with fail
        refine (HA.out _).mono ?_
        rintro e w' ⟨rfl, hw⟩
        obtain rfl : w = w' := hw.symm
        go_wp2_with fail
        refine (IH.out _).mono ?_
        rintro e _ ⟨rfl, rfl⟩
        go_wp2
        go_ret
        exact ⟨by go_num, rfl⟩

set_option maxHeartbeats 1000000 in
theorem specConsLen_any (m n : Int) (w : World) :
    Calls Try.prog 4 #[.int .i64 m, .int .i64 n] w (fun e w' => e = .returned (.int .i64 (clenZ m n)) ∧ w = w') := by
  unfold clenZ
  have HI := Lib.hid (fun w => l09In_any m n w)
  by_cases h : n ≤ 1048576 ∧ 1 ≤ m ∧ m ≤ n
  · rw [consB_yes h] at HI
    rw [if_pos (consB_yes h)]
    obtain ⟨k, rfl⟩ := Int.eq_ofNat_of_zero_le (show 0 ≤ m by omega)
    obtain ⟨q, rfl⟩ := Int.eq_ofNat_of_zero_le (show 0 ≤ n by omega)
    have HL := Lib.hid (fun w => l09Len_in q k q true w (Nat.le_refl _) (by omega) (by omega) (by omega))
    simp only [Int.toNat_natCast]
    generalize clenN k q true = R at HL ⊢
    clear h
    go_enter Try.func4, Try.ntmps4
    go_wp2_with fail
    refine (HI.out _).mono ?_
    rintro e _ ⟨rfl, rfl⟩
    go_wp2_with fail
    refine (HL.out _).mono ?_
    rintro e _ ⟨rfl, rfl⟩
    go_wp2
    go_ret
    exact ⟨rfl, rfl⟩
  · rw [consB_no h] at HI
    rw [consB_no h, if_neg (by decide)]
    clear h
    go_enter Try.func4, Try.ntmps4
    go_wp2_with fail
    refine (HI.out _).mono ?_
    rintro e _ ⟨rfl, rfl⟩
    go_wp2
    go_ret
    exact ⟨rfl, rfl⟩
theorem specConsLenB_any (m n : Int) (w : World) :
    Calls Try.prog 4 #[.int .i64 m, .int .i64 n] w (fun e w' => e = .returned (.int .i64 (clenZ m n)) ∧ Below w.heap.size w w') :=
  (specConsLen_any m n w).mono fun e w' h => ⟨h.1, by rw [← h.2]; exact Below.refl _ _⟩
end Go.Proofs.Ytlchadbbldkkfaa
