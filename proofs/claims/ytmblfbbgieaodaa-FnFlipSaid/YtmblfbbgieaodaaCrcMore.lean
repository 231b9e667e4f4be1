/- The contracts of Crc, CrcShift and CrcJoin, as the program has them and as their model has them. -/
import Derived.Test.YtmblfbbgieaodaaCrc
namespace Go.Proofs.Ytmblfbbgieaodaa
open Go.ChangeShapes Go.WideShapes Go.ChangeAt Go.RowKit

/-- What CrcMore answers. -/
def cMore (c : Int) (l : List UInt8) : Int := if 0 ≤ c ∧ c ≤ 4294967295 then (sumFrom c.toNat l : Int) else 0
theorem implCrcMore_any (v : Value) (c : Int) (l : List UInt8) (w : World) (h : Sl w w.heap.size v l) (hl : l.length ≤ 4294967296) :
    Calls Try.prog 12 #[.int .i64 c, v] w (Num1 (cMore c l) w) := by
  by_cases hc : 0 ≤ c ∧ c ≤ 4294967295
  · obtain ⟨m, rfl⟩ := Int.eq_ofNat_of_zero_le hc.1
    have e : cMore (m : Int) l = (sumFrom m l : Int) := if_pos hc
    rw [e]
    exact implCrcMore_yes m v l w (by omega) h hl
  · have e : cMore c l = 0 := if_neg hc
    rw [e]
    exact implCrcMore_no c v w hc
theorem specCrcMore_any (v : Value) (c : Int) (l : List UInt8) (w : World) (h : Sl w w.heap.size v l) (hl : l.length ≤ 4294967296) :
    Calls Try.prog 15 #[.int .i64 c, v] w (Num1 (cMore c l) w) := by
  by_cases hc : 0 ≤ c ∧ c ≤ 4294967295
  · obtain ⟨m, rfl⟩ := Int.eq_ofNat_of_zero_le hc.1
    have e : cMore (m : Int) l = (sumFrom m l : Int) := if_pos hc
    rw [e]
    exact specCrcMore_yes m v l w (by omega) h hl
  · have e : cMore c l = 0 := if_neg hc
    rw [e]
    exact specCrcMore_no c v w hc

theorem implCrc_any (v : Value) (l : List UInt8) (w : World) (h : Sl w w.heap.size v l) (hl : l.length ≤ 4294967296) :
    Calls Try.prog 10 #[v] w (Num1 (sum l : Int) w) := by
  go_enter Try.func10, Try.ntmps10
  go_wp2_with fail
  refine (implCrcMore_yes 0 v l w (by decide) h hl).mono ?_
  rintro e w1 ⟨rfl, hb⟩
  go_wp2_with fail
  go_ret
  exact ⟨rfl, hb⟩
theorem specCrc_any (v : Value) (l : List UInt8) (w : World) (h : Sl w w.heap.size v l) (hl : l.length ≤ 4294967296) :
    Calls Try.prog 18 #[v] w (Num1 (sum l : Int) w) := by
  go_enter Try.func18, Try.ntmps18
  go_wp2_with fail
  refine (specCrcMore_yes 0 v l w (by decide) h hl).mono ?_
  rintro e w1 ⟨rfl, hb⟩
  go_wp2_with fail
  go_ret
  exact ⟨rfl, hb⟩

set_option maxHeartbeats 1000000 in
theorem implCrcShift_yes (c n : Nat) (w : World) (hc : c < 4294967296) (hn : n ≤ 8192) :
    Calls Try.prog 11 #[.int .i64 (c : Int), .int .i64 (n : Int)] w (Num1 (turns (8 * n) c : Int) w) := by
  have hmf : ∀ (fn : Fn) (first cap : Array Value) (w : World), (Instr.makeFunc fn first cap).run Try.prog w = .ok (.func fn first cap) w := fun _ _ _ _ => rfl
  go_enter Try.func11, Try.ntmps11
  go_wp2_with (first
    | (go_at_call 23; refine (isChecksum_yes _ _ (by omega) (by omega)).mono ?_; rintro e w' ⟨rfl, rfl⟩)
    | (go_at_call 24; refine (isZeroCount_yes _ _ (by omega) (by omega)).mono ?_; rintro e w' ⟨rfl, rfl⟩))
  have hS1 : Sum (w.alloc (.cells #[.int .u32 (c : Int)] 42)) w.heap.size c := ⟨by simp, by simp⟩
  have hb1 : Below w.heap.size w (w.alloc (.cells #[.int .u32 (c : Int)] 42)) := (Below.refl _ _).alloc (Nat.le_refl _) _
  have hz1 : w.heap.size < (w.alloc (.cells #[.int .u32 (c : Int)] 42)).heap.size := by simp
  generalize w.alloc (.cells #[.int .u32 (c : Int)] 42) = w1 at hS1 hb1 hz1
  go_loopw [19] (fun i wr => ∃ k : Nat, k ≤ n ∧ i = .int .i64 k ∧ Sum wr w.heap.size (turns (8 * k) c) ∧ Below w.heap.size w wr)
    (fun i _ => n - (intOf i).toNat)
  case atStart => exact ⟨0, Nat.zero_le _, rfl, hS1, hb1⟩
  case round =>
    obtain ⟨k, hk, rfl, hS, hbel⟩ := hrel
    have hy := turns_lt (8 * k) hc
    by_cases hlt : k < n
    · have hnext := turns_eight k c
      generalize turns (8 * k) c = y at hy hnext hS
      go_wp2_with (go_at_call 25; refine (stepByte_any _ y _ hy hS).mono ?_; rintro e w2 ⟨rfl, hS2, hg2⟩)
      go_roundw
      case rel => exact ⟨k + 1, by omega, by go_num, by rw [hnext]; exact hS2, hbel.grown hg2 hbel.size (fun g hg => by injection hg with hg; omega)⟩
      case measure => simp [intOf]; omega
    · obtain rfl : k = n := by omega
      obtain ⟨y, hyy⟩ : ∃ y, y = turns (8 * k) c := ⟨_, rfl⟩
      rw [← hyy] at hy hS
      have HY := Lib.hid hyy
      clear hyy
      obtain ⟨hcS, hfS⟩ := hS
      go_wp2
      go_ret
      exact ⟨by rw [← HY.out]; rfl, hbel⟩
set_option maxHeartbeats 1000000 in
theorem specCrcShift_yes (c n : Nat) (w : World) (hc : c < 4294967296) (hn : n ≤ 8192) :
    Calls Try.prog 19 #[.int .i64 (c : Int), .int .i64 (n : Int)] w (Num1 (turns (8 * n) c : Int) w) := by
  go_enter Try.func19, Try.ntmps19
  go_wp2_with (first
    | (go_at_call 27; refine (l03Sum_yes _ _ (by omega) (by omega)).mono ?_; rintro e w' ⟨rfl, rfl⟩)
    | (go_at_call 29; refine (l01In_yes _ _ _ _ (by omega) (by omega)).mono ?_; rintro e w' ⟨rfl, rfl⟩))
  go_loopw [0, 5] (fun x i wr => ∃ k : Nat, k ≤ 8 * n ∧ i = .int .i64 k ∧ x = .int .i64 (turns k c : Nat) ∧ wr = w)
    (fun _ i _ => 8 * n - (intOf i).toNat)
  case atStart => exact ⟨0, Nat.zero_le _, rfl, rfl, rfl⟩
  case round =>
    obtain ⟨k, hk, rfl, rfl, rfl⟩ := hrel
    have hy := turns_lt k hc
    by_cases hlt : k < 8 * n
    · have hnext := turns_succ k c
      generalize turns k c = y at hy hnext
      go_wp2_with (go_at_call 28; refine (l03Turn_any y _ hy).mono ?_; rintro e w2 ⟨rfl, rfl⟩)
      go_roundw
      case rel => exact ⟨k + 1, by omega, by go_num, by rw [hnext], trivial⟩
      case measure => simp [intOf]; omega
    · obtain rfl : k = 8 * n := by omega
      go_wp2
      go_ret
      exact ⟨rfl, Below.refl _ _⟩

/-- The arguments of CrcShift. -/
def shiftOk (c n : Int) : Prop := (0 ≤ c ∧ c ≤ 4294967295) ∧ 0 ≤ n ∧ n ≤ 8192
instance (c n : Int) : Decidable (shiftOk c n) := inferInstanceAs (Decidable (_ ∧ _))
theorem implCrcShift_no (c n : Int) (w : World) (h : ¬ shiftOk c n) :
    Calls Try.prog 11 #[.int .i64 c, .int .i64 n] w (Num1 0 w) := by
  by_cases hc : 0 ≤ c ∧ c ≤ 4294967295
  · have hn : ¬ (0 ≤ n ∧ n ≤ 8192) := fun hn => h ⟨hc, hn⟩
    have H := Lib.hid hn
    obtain ⟨h0, h1⟩ := hc
    clear h hn
    go_enter Try.func11, Try.ntmps11
    go_wp2_with (first
      | (go_at_call 23; refine (isChecksum_yes _ _ h0 h1).mono ?_; rintro e w' ⟨rfl, rfl⟩)
      | (go_at_call 24; refine (isZeroCount_no _ _ H.out).mono ?_; rintro e w' ⟨rfl, rfl⟩))
    go_ret
    exact ⟨rfl, Below.refl _ _⟩
  · have H := Lib.hid hc
    clear h hc
    go_enter Try.func11, Try.ntmps11
    go_wp2_with (go_at_call 23; refine (isChecksum_no _ _ H.out).mono ?_; rintro e w' ⟨rfl, rfl⟩)
    go_ret
    exact ⟨rfl, Below.refl _ _⟩
theorem specCrcShift_no (c n : Int) (w : World) (h : ¬ shiftOk c n) :
    Calls Try.prog 19 #[.int .i64 c, .int .i64 n] w (Num1 0 w) := by
  by_cases hc : 0 ≤ c ∧ c ≤ 4294967295
  · have hn : ¬ (0 ≤ n ∧ n ≤ 8192) := fun hn => h ⟨hc, hn⟩
    have H := Lib.hid hn
    obtain ⟨h0, h1⟩ := hc
    clear h hn
    go_enter Try.func19, Try.ntmps19
    go_wp2_with (first
      | (go_at_call 27; refine (l03Sum_yes _ _ h0 h1).mono ?_; rintro e w' ⟨rfl, rfl⟩)
      | (go_at_call 29; refine (l01In_no _ _ _ _ H.out).mono ?_; rintro e w' ⟨rfl, rfl⟩))
    go_ret
    exact ⟨rfl, Below.refl _ _⟩
  · have H := Lib.hid hc
    clear h hc
    go_enter Try.func19, Try.ntmps19
    go_wp2_with (go_at_call 27; refine (l03Sum_no _ _ H.out).mono ?_; rintro e w' ⟨rfl, rfl⟩)
    go_ret
    exact ⟨rfl, Below.refl _ _⟩

/-- What CrcShift answers. -/
def cShift (c n : Int) : Int := if shiftOk c n then (turns (8 * n.toNat) c.toNat : Int) else 0
theorem implCrcShift_any (c n : Int) (w : World) : Calls Try.prog 11 #[.int .i64 c, .int .i64 n] w (Num1 (cShift c n) w) := by
  by_cases hc : shiftOk c n
  · obtain ⟨m, rfl⟩ := Int.eq_ofNat_of_zero_le hc.1.1
    obtain ⟨k, rfl⟩ := Int.eq_ofNat_of_zero_le hc.2.1
    have e : cShift (m : Int) (k : Int) = (turns (8 * k) m : Int) := if_pos hc
    rw [e]
    have h1 := hc.1.2
    have h2 := hc.2.2
    exact implCrcShift_yes m k w (by omega) (by omega)
  · have e : cShift c n = 0 := if_neg hc
    rw [e]
    exact implCrcShift_no c n w hc
theorem specCrcShift_any (c n : Int) (w : World) : Calls Try.prog 19 #[.int .i64 c, .int .i64 n] w (Num1 (cShift c n) w) := by
  by_cases hc : shiftOk c n
  · obtain ⟨m, rfl⟩ := Int.eq_ofNat_of_zero_le hc.1.1
    obtain ⟨k, rfl⟩ := Int.eq_ofNat_of_zero_le hc.2.1
    have e : cShift (m : Int) (k : Int) = (turns (8 * k) m : Int) := if_pos hc
    rw [e]
    have h1 := hc.1.2
    have h2 := hc.2.2
    exact specCrcShift_yes m k w (by omega) (by omega)
  · have e : cShift c n = 0 := if_neg hc
    rw [e]
    exact specCrcShift_no c n w hc

/-- The arguments of CrcJoin. -/
def joinOk (a b n : Int) : Prop := (0 ≤ a ∧ a ≤ 4294967295) ∧ (0 ≤ b ∧ b ≤ 4294967295) ∧ 0 ≤ n ∧ n ≤ 8192
instance (a b n : Int) : Decidable (joinOk a b n) := inferInstanceAs (Decidable (_ ∧ _))
theorem implCrcJoin_yes (a b n : Nat) (w : World) (ha : a < 4294967296) (hb : b < 4294967296) (hn : n ≤ 8192) :
    Calls Try.prog 13 #[.int .i64 (a : Int), .int .i64 (b : Int), .int .i64 (n : Int)] w (Num1 ((turns (8 * n) a ^^^ b : Nat) : Int) w) := by
  have hy := turns_lt (8 * n) ha
  have hs : ∀ w, Calls Try.prog 11 #[.int .i64 (a : Int), .int .i64 (n : Int)] w (Num1 (turns (8 * n) a : Int) w) := fun w => implCrcShift_yes a n w ha hn
  generalize turns (8 * n) a = y at hy hs
  have hx := i64_xor y b (by omega) (by omega)
  have HS := Lib.hid hs
  clear hs
  generalize y ^^^ b = z at hx
  go_enter Try.func13, Try.ntmps13
  go_wp2_with (first
    | (go_at_call 23; refine (isChecksum_yes _ _ (by omega) (by omega)).mono ?_; rintro e w' ⟨rfl, rfl⟩)
    | (go_at_call 24; refine (isZeroCount_yes _ _ (by omega) (by omega)).mono ?_; rintro e w' ⟨rfl, rfl⟩)
    | (go_at_call 11; refine (HS.out _).mono ?_; rintro e w1 ⟨rfl, hb1⟩))
  go_ret
  exact ⟨rfl, hb1⟩
theorem specCrcJoin_yes (a b n : Nat) (w : World) (ha : a < 4294967296) (hb : b < 4294967296) (hn : n ≤ 8192) :
    Calls Try.prog 20 #[.int .i64 (a : Int), .int .i64 (b : Int), .int .i64 (n : Int)] w (Num1 ((turns (8 * n) a ^^^ b : Nat) : Int) w) := by
  have hy := turns_lt (8 * n) ha
  have hs : ∀ w, Calls Try.prog 19 #[.int .i64 (a : Int), .int .i64 (n : Int)] w (Num1 (turns (8 * n) a : Int) w) := fun w => specCrcShift_yes a n w ha hn
  generalize turns (8 * n) a = y at hy hs
  have hx := i64_xor y b (by omega) (by omega)
  have HS := Lib.hid hs
  clear hs
  generalize y ^^^ b = z at hx
  go_enter Try.func20, Try.ntmps20
  go_wp2_with (first
    | (go_at_call 27; refine (l03Sum_yes _ _ (by omega) (by omega)).mono ?_; rintro e w' ⟨rfl, rfl⟩)
    | (go_at_call 29; refine (l01In_yes _ _ _ _ (by omega) (by omega)).mono ?_; rintro e w' ⟨rfl, rfl⟩)
    | (go_at_call 19; refine (HS.out _).mono ?_; rintro e w1 ⟨rfl, hb1⟩))
  go_ret
  exact ⟨rfl, hb1⟩
theorem implCrcJoin_no (a b n : Int) (w : World) (h : ¬ joinOk a b n) :
    Calls Try.prog 13 #[.int .i64 a, .int .i64 b, .int .i64 n] w (Num1 0 w) := by
  by_cases ha : 0 ≤ a ∧ a ≤ 4294967295
  · by_cases hb : 0 ≤ b ∧ b ≤ 4294967295
    · have hn : ¬ (0 ≤ n ∧ n ≤ 8192) := fun hn => h ⟨ha, hb, hn⟩
      have H := Lib.hid hn
      obtain ⟨h0, h1⟩ := ha
      obtain ⟨h2, h3⟩ := hb
      clear h hn
      go_enter Try.func13, Try.ntmps13
      go_wp2_with (first
        | (go_at_call 23; refine (isChecksum_yes _ _ (by assumption) (by assumption)).mono ?_; rintro e w' ⟨rfl, rfl⟩)
        | (go_at_call 24; refine (isZeroCount_no _ _ H.out).mono ?_; rintro e w' ⟨rfl, rfl⟩))
      go_ret
      exact ⟨rfl, Below.refl _ _⟩
    · have H := Lib.hid hb
      obtain ⟨h0, h1⟩ := ha
      clear h hb
      go_enter Try.func13, Try.ntmps13
      go_wp2_with fail
      refine (isChecksum_yes _ _ h0 h1).mono ?_
      rintro e w' ⟨rfl, rfl⟩
      go_wp2_with fail
      refine (isChecksum_no _ _ H.out).mono ?_
      rintro e w' ⟨rfl, rfl⟩
      go_wp2_with fail
      go_ret
      exact ⟨rfl, Below.refl _ _⟩
  · have H := Lib.hid ha
    clear h ha
    go_enter Try.func13, Try.ntmps13
    go_wp2_with (go_at_call 23; refine (isChecksum_no _ _ H.out).mono ?_; rintro e w' ⟨rfl, rfl⟩)
    go_ret
    exact ⟨rfl, Below.refl _ _⟩
theorem specCrcJoin_no (a b n : Int) (w : World) (h : ¬ joinOk a b n) :
    Calls Try.prog 20 #[.int .i64 a, .int .i64 b, .int .i64 n] w (Num1 0 w) := by
  by_cases ha : 0 ≤ a ∧ a ≤ 4294967295
  · by_cases hb : 0 ≤ b ∧ b ≤ 4294967295
    · have hn : ¬ (0 ≤ n ∧ n ≤ 8192) := fun hn => h ⟨ha, hb, hn⟩
      have H := Lib.hid hn
      obtain ⟨h0, h1⟩ := ha
      obtain ⟨h2, h3⟩ := hb
      clear h hn
      go_enter Try.func20, Try.ntmps20
      go_wp2_with (first
        | (go_at_call 27; refine (l03Sum_yes _ _ (by assumption) (by assumption)).mono ?_; rintro e w' ⟨rfl, rfl⟩)
        | (go_at_call 29; refine (l01In_no _ _ _ _ H.out).mono ?_; rintro e w' ⟨rfl, rfl⟩))
      go_ret
      exact ⟨rfl, Below.refl _ _⟩
    · have H := Lib.hid hb
      obtain ⟨h0, h1⟩ := ha
      clear h hb
      go_enter Try.func20, Try.ntmps20
      go_wp2_with fail
      refine (l03Sum_yes _ _ h0 h1).mono ?_
      rintro e w' ⟨rfl, rfl⟩
      go_wp2_with fail
      refine (l03Sum_no _ _ H.out).mono ?_
      rintro e w' ⟨rfl, rfl⟩
      go_wp2_with fail
      go_ret
      exact ⟨rfl, Below.refl _ _⟩
  · have H := Lib.hid ha
    clear h ha
    go_enter Try.func20, Try.ntmps20
    go_wp2_with (go_at_call 27; refine (l03Sum_no _ _ H.out).mono ?_; rintro e w' ⟨rfl, rfl⟩)
    go_ret
    exact ⟨rfl, Below.refl _ _⟩

/-- What CrcJoin answers. -/
def cJoin (a b n : Int) : Int := if joinOk a b n then ((turns (8 * n.toNat) a.toNat ^^^ b.toNat : Nat) : Int) else 0
theorem implCrcJoin_any (a b n : Int) (w : World) : Calls Try.prog 13 #[.int .i64 a, .int .i64 b, .int .i64 n] w (Num1 (cJoin a b n) w) := by
  by_cases hc : joinOk a b n
  · obtain ⟨i, rfl⟩ := Int.eq_ofNat_of_zero_le hc.1.1
    obtain ⟨j, rfl⟩ := Int.eq_ofNat_of_zero_le hc.2.1.1
    obtain ⟨k, rfl⟩ := Int.eq_ofNat_of_zero_le hc.2.2.1
    have e : cJoin (i : Int) (j : Int) (k : Int) = ((turns (8 * k) i ^^^ j : Nat) : Int) := if_pos hc
    rw [e]
    have h1 := hc.1.2
    have h2 := hc.2.1.2
    have h3 := hc.2.2.2
    exact implCrcJoin_yes i j k w (by omega) (by omega) (by omega)
  · have e : cJoin a b n = 0 := if_neg hc
    rw [e]
    exact implCrcJoin_no a b n w hc
theorem specCrcJoin_any (a b n : Int) (w : World) : Calls Try.prog 20 #[.int .i64 a, .int .i64 b, .int .i64 n] w (Num1 (cJoin a b n) w) := by
  by_cases hc : joinOk a b n
  · obtain ⟨i, rfl⟩ := Int.eq_ofNat_of_zero_le hc.1.1
    obtain ⟨j, rfl⟩ := Int.eq_ofNat_of_zero_le hc.2.1.1
    obtain ⟨k, rfl⟩ := Int.eq_ofNat_of_zero_le hc.2.2.1
    have e : cJoin (i : Int) (j : Int) (k : Int) = ((turns (8 * k) i ^^^ j : Nat) : Int) := if_pos hc
    rw [e]
    have h1 := hc.1.2
    have h2 := hc.2.1.2
    have h3 := hc.2.2.2
    exact specCrcJoin_yes i j k w (by omega) (by omega) (by omega)
  · have e : cJoin a b n = 0 := if_neg hc
    rw [e]
    exact specCrcJoin_no a b n w hc
end Go.Proofs.Ytmblfbbgieaodaa
