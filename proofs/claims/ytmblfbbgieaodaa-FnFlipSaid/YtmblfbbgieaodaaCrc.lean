/- The contracts of the checksum's functions, as the program has them and as their model has them. -/
import Derived.Test.YtmblfbbgieaodaaCur
import Derived.Test.YtmblfbbgieaodaaPut
import Derived.Test.YtmblfbbgieaodaaCrcMath
namespace Go.Proofs.Ytmblfbbgieaodaa
open Go.ChangeShapes Go.WideShapes Go.ChangeAt Go.RowKit

theorem and_one (x : Nat) (h : x < 4294967296) : bits .and .u32 (x : Int) 1 = ((x % 2 : Nat) : Int) := by
  have := u32_and_nat x 1 h (by decide)
  rw [Nat.and_one_is_mod] at this
  exact this
theorem turn_odd {x : Nat} (h : x < 4294967296) (h1 : x % 2 = 1) : bits .xor .u32 ((x : Int) / 2) 3988292384 = (turn x : Int) := by
  have := u32_xor_nat (x / 2) 3988292384 (by omega) (by decide)
  unfold turn
  rw [if_pos h1, ← this]
  simp
theorem turn_even {x : Nat} (h1 : x % 2 ≠ 1) : turn x = x / 2 := by
  unfold turn
  rw [if_neg h1]

/-- The cell of the checksum: block g holds x. -/
def Sum (w : World) (g x : Nat) : Prop := w.cell? ⟨g, 0, none⟩ = some (.int .u32 (x : Int)) ∧ w.frozen? ⟨g, 0, none⟩ = false
theorem Sum.set {w : World} {g x : Nat} (h : Sum w g x) {y : Nat} {z : Int} (hz : z = (y : Int)) : Sum (w.setCell ⟨g, 0, none⟩ (.int .u32 z)) g y := by
  subst hz
  exact ⟨World.cell?_setCell_same _ _ _ h.1, by rw [World.frozen?_setCell]; exact h.2⟩

set_option maxHeartbeats 400000 in
theorem stepByte_any (g x : Nat) (w : World) (hx : x < 4294967296) (h : Sum w g x) :
    Calls Try.prog 25 #[.pointer (some ⟨g, 0, none⟩)] w fun e w' => e = .returned (.tuple #[]) ∧ Sum w' g (turns 8 x) ∧ w.grownBy w' (some g) := by
  go_enter Try.func25, Try.ntmps25
  go_wp2
  go_loopw [3] (fun i wr => ∃ k : Nat, k ≤ 8 ∧ i = .int .i64 k ∧ Sum wr g (turns k x) ∧ w.grownBy wr (some g))
    (fun i _ => 8 - (intOf i).toNat)
  case atStart => exact ⟨0, Nat.zero_le _, rfl, h, World.grownBy.refl _ _⟩
  case round =>
    obtain ⟨k, hk, rfl, hS, hg⟩ := hrel
    by_cases hlt : k < 8
    · have hy := turns_lt k hx
      have hnext := turns_succ k x
      generalize turns k x = y at hy hnext hS
      have hS' := hS
      obtain ⟨hc, hf⟩ := hS'
      have hand := and_one y hy
      by_cases h1 : y % 2 = 1
      · have hxor := turn_odd hy h1
        rw [h1] at hand
        go_wp2
        go_roundw
        case rel => exact ⟨k + 1, by omega, by go_num, by rw [hnext]; exact (Sum.set hS (y := y / 2) (by simp)).set rfl, gtrans (gtrans hg (gset _ _ _ _)) (gset _ _ _ _)⟩
        case measure => simp [intOf]; omega
      · have h0 : y % 2 = 0 := by omega
        rw [h0] at hand
        go_wp2
        go_roundw
        case rel => exact ⟨k + 1, by omega, by go_num, by rw [hnext, turn_even h1]; exact hS.set (by simp), gtrans hg (gset _ _ _ _)⟩
        case measure => simp [intOf]; omega
    · obtain rfl : k = 8 := by omega
      go_wp2
      go_end0
      exact ⟨rfl, hS, hg⟩

/-- spec.l03Sum, impl.isChecksum, impl.isZeroCount. -/
theorem l03Sum_yes (n : Int) (w : World) (h0 : 0 ≤ n) (h1 : n ≤ 4294967295) :
    Calls Try.prog 27 #[.int .i64 n] w fun e w' => e = .returned (.bool true) ∧ w = w' := by
  go_enter Try.func27, Try.ntmps27
  go_wp2_with (go_at_call 29; refine (l01In_yes _ _ _ _ h0 h1).mono ?_; rintro e w' ⟨rfl, rfl⟩)
  go_ret
  exact ⟨rfl, rfl⟩
theorem l03Sum_no (n : Int) (w : World) (h : ¬ (0 ≤ n ∧ n ≤ 4294967295)) :
    Calls Try.prog 27 #[.int .i64 n] w fun e w' => e = .returned (.bool false) ∧ w = w' := by
  have H := Lib.hid h
  clear h
  go_enter Try.func27, Try.ntmps27
  go_wp2_with (go_at_call 29; refine (l01In_no _ _ _ _ H.out).mono ?_; rintro e w' ⟨rfl, rfl⟩)
  go_ret
  exact ⟨rfl, rfl⟩
theorem isChecksum_yes (n : Int) (w : World) (h0 : 0 ≤ n) (h1 : n ≤ 4294967295) :
    Calls Try.prog 23 #[.int .i64 n] w fun e w' => e = .returned (.bool true) ∧ w = w' := by
  go_enter Try.func23, Try.ntmps23
  go_wp2
  go_ret
  exact ⟨rfl, rfl⟩
theorem isChecksum_no (n : Int) (w : World) (h : ¬ (0 ≤ n ∧ n ≤ 4294967295)) :
    Calls Try.prog 23 #[.int .i64 n] w fun e w' => e = .returned (.bool false) ∧ w = w' := by
  by_cases h0 : 0 ≤ n
  · have h1 : 4294967295 < n := by omega
    clear h
    go_enter Try.func23, Try.ntmps23
    go_wp2
    go_ret
    exact ⟨by simp; omega, rfl⟩
  · have h1 : n < 0 := by omega
    clear h h0
    go_enter Try.func23, Try.ntmps23
    go_wp2
    go_ret
    exact ⟨rfl, rfl⟩
theorem isZeroCount_yes (n : Int) (w : World) (h0 : 0 ≤ n) (h1 : n ≤ 8192) :
    Calls Try.prog 24 #[.int .i64 n] w fun e w' => e = .returned (.bool true) ∧ w = w' := by
  go_enter Try.func24, Try.ntmps24
  go_wp2
  go_ret
  exact ⟨rfl, rfl⟩
theorem isZeroCount_no (n : Int) (w : World) (h : ¬ (0 ≤ n ∧ n ≤ 8192)) :
    Calls Try.prog 24 #[.int .i64 n] w fun e w' => e = .returned (.bool false) ∧ w = w' := by
  by_cases h0 : 0 ≤ n
  · have h1 : 8192 < n := by omega
    clear h
    go_enter Try.func24, Try.ntmps24
    go_wp2
    go_ret
    exact ⟨by simp; omega, rfl⟩
  · have h1 : n < 0 := by omega
    clear h h0
    go_enter Try.func24, Try.ntmps24
    go_wp2
    go_ret
    exact ⟨rfl, rfl⟩

/-- The call returns the number x; nothing that was there has turned. -/
def Num1 (x : Int) (w : World) (e : Ending) (w' : World) : Prop := e = .returned (.int .i64 x) ∧ Below w.heap.size w w'

/-- spec.l03Turn. -/
theorem l03Turn_any (x : Nat) (w : World) (hx : x < 4294967296) :
    Calls Try.prog 28 #[.int .i64 (x : Int)] w fun e w' => e = .returned (.int .i64 (turn x : Int)) ∧ w = w' := by
  by_cases h1 : x % 2 = 1
  · have hxor := i64_xor (x / 2) 3988292384 (by omega) (by decide)
    have e : turn x = x / 2 ^^^ 3988292384 := by unfold turn; rw [if_pos h1]
    rw [← e] at hxor
    generalize turn x = y at hxor e
    clear e
    have hxor' : bits .xor .i64 ((x : Int) / 2) 3988292384 = (y : Int) := by simpa using hxor
    clear hxor
    have hi : ((x : Int) % 2) = 1 := by omega
    go_enter Try.func28, Try.ntmps28
    go_wp2
    go_ret
    exact ⟨rfl, rfl⟩
  · have e := turn_even h1
    have hi : ((x : Int) % 2) = 0 := by omega
    go_enter Try.func28, Try.ntmps28
    go_wp2
    go_ret
    exact ⟨by rw [e]; simp, rfl⟩

theorem xor_all (c : Nat) (h : c < 4294967296) : bits .xor .i64 (c : Int) 4294967295 = ((c ^^^ 4294967295 : Nat) : Int) := i64_xor c 4294967295 (by omega) (by decide)
theorem xor_byte (x : Nat) (l : List UInt8) (k : Nat) (h : x < 4294967296) : bits .xor .u32 (x : Int) (bt l k) = ((x ^^^ (l.getD k 0).toNat : Nat) : Int) := u32_xor_nat x _ h (byte_lt _)
theorem xor_byte64 (x : Nat) (l : List UInt8) (k : Nat) (h : x < 4294967296) : bits .xor .i64 (x : Int) (bt l k) = ((x ^^^ (l.getD k 0).toNat : Nat) : Int) := i64_xor x _ (by omega) (Nat.lt_of_lt_of_le (byte_lt _) (by decide))

set_option maxHeartbeats 1000000 in
theorem implCrcMore_yes (c : Nat) (v : Value) (l : List UInt8) (w : World) (hc : c < 4294967296) (h : Sl w w.heap.size v l) (hl : l.length ≤ 4294967296) :
    Calls Try.prog 12 #[.int .i64 (c : Int), v] w (Num1 (sumFrom c l : Int) w) := by
  obtain ⟨A, cp, rfl, h1, h2, h0, h3⟩ := h
  unfold maxLen at h2
  clear h0
  have hx0 := xor_all c hc
  have hy0 : c ^^^ 4294967295 < 4294967296 := xor_lt hc (by decide)
  have hend : sumFrom c l = more (c ^^^ 4294967295) l ^^^ 4294967295 := rfl
  generalize c ^^^ 4294967295 = y0 at hx0 hy0 hend
  rw [hend]
  clear hend
  have hmf : ∀ (fn : Fn) (first cap : Array Value) (w : World), (Instr.makeFunc fn first cap).run Try.prog w = .ok (.func fn first cap) w := fun _ _ _ _ => rfl
  go_enter Try.func12, Try.ntmps12
  go_wp2_with (go_at_call 23; refine (isChecksum_yes _ _ (by omega) (by omega)).mono ?_; rintro e w' ⟨rfl, rfl⟩)
  have hS1 : Sum (w.alloc (.cells #[.int .u32 (y0 : Int)] 42)) w.heap.size y0 := ⟨by simp, by simp⟩
  have hb1 : Below w.heap.size w (w.alloc (.cells #[.int .u32 (y0 : Int)] 42)) := (Below.refl _ _).alloc (Nat.le_refl _) _
  have hz1 : w.heap.size < (w.alloc (.cells #[.int .u32 (y0 : Int)] 42)).heap.size := by simp
  generalize w.alloc (.cells #[.int .u32 (y0 : Int)] 42) = w1 at hS1 hb1 hz1
  go_loopw [18] (fun i wr => ∃ k : Nat, k ≤ l.length ∧ i = .int .i64 k ∧ Sum wr w.heap.size (more y0 (l.take k)) ∧ Below w.heap.size w wr)
    (fun i _ => l.length - (intOf i).toNat)
  case atStart => exact ⟨0, Nat.zero_le _, rfl, by rw [List.take_zero]; exact hS1, hb1⟩
  case round =>
    obtain ⟨k, hk, rfl, hS, hbel⟩ := hrel
    by_cases hlt : k < l.length
    · obtain ⟨b, off, rfl, hbb, hcell⟩ := h3 (by omega)
      have hc0 := (hbel.cell (p := ⟨b, off + k, none⟩) hbb).trans (hcell k hlt)
      clear hcell
      have hy := more_lt (l.take k) hy0
      have hnext := more_take y0 l k hlt
      have hxk := xor_byte (more y0 (l.take k)) l k hy
      generalize more y0 (l.take k) = y at hy hnext hxk hS
      have hy' : y ^^^ (l.getD k 0).toNat < 4294967296 := xor_lt hy (byte_lt _)
      generalize y ^^^ (l.getD k 0).toNat = x at hnext hxk hy'
      have hb0 := bt_lo l k
      have hb255 := bt_hi l k
      have hS' := hS
      obtain ⟨hcS, hfS⟩ := hS'
      go_wp2_with (go_at_call 25; refine (stepByte_any _ x _ hy' (hS.set rfl)).mono ?_; rintro e w2 ⟨rfl, hS2, hg2⟩)
      go_roundw
      case rel => exact ⟨k + 1, by omega, by go_num, by rw [hnext]; exact hS2, (hbel.setCell (Nat.le_refl _) _).grown hg2 (by simp [hbel.size]) (fun g hg => by injection hg with hg; omega)⟩
      case measure => simp [intOf]; omega
    · obtain rfl : k = l.length := by omega
      rw [List.take_length] at hS
      have hy := more_lt l hy0
      have hx1 := xor_all (more y0 l) hy
      obtain ⟨z, hz⟩ : ∃ z, z = more y0 l ^^^ 4294967295 := ⟨_, rfl⟩
      rw [← hz] at hx1
      have HZ := Lib.hid hz
      clear hz
      generalize more y0 l = y at hy hx1 hS
      obtain ⟨hcS, hfS⟩ := hS
      go_wp2
      go_ret
      exact ⟨by rw [← HZ.out]; rfl, hbel⟩
theorem implCrcMore_no (c : Int) (v : Value) (w : World) (h : ¬ (0 ≤ c ∧ c ≤ 4294967295)) :
    Calls Try.prog 12 #[.int .i64 c, v] w (Num1 0 w) := by
  have H := Lib.hid h
  clear h
  go_enter Try.func12, Try.ntmps12
  go_wp2_with (go_at_call 23; refine (isChecksum_no _ _ H.out).mono ?_; rintro e w' ⟨rfl, rfl⟩)
  go_ret
  exact ⟨rfl, Below.refl _ _⟩

set_option maxHeartbeats 1000000 in
theorem specCrcMore_yes (c : Nat) (v : Value) (l : List UInt8) (w : World) (hc : c < 4294967296) (h : Sl w w.heap.size v l) (hl : l.length ≤ 4294967296) :
    Calls Try.prog 15 #[.int .i64 (c : Int), v] w (Num1 (sumFrom c l : Int) w) := by
  obtain ⟨A, cp, rfl, h1, h2, h0, h3⟩ := h
  unfold maxLen at h2
  clear h0
  have hx0 := xor_all c hc
  have hy0 : c ^^^ 4294967295 < 4294967296 := xor_lt hc (by decide)
  have hend : sumFrom c l = more (c ^^^ 4294967295) l ^^^ 4294967295 := rfl
  generalize c ^^^ 4294967295 = y0 at hx0 hy0 hend
  rw [hend]
  clear hend
  go_enter Try.func15, Try.ntmps15
  go_wp2_with (go_at_call 27; refine (l03Sum_yes _ _ (by omega) (by omega)).mono ?_; rintro e w' ⟨rfl, rfl⟩)
  go_loopw [5, 16] (fun x i wr => ∃ k : Nat, k ≤ l.length ∧ i = .int .i64 k ∧ x = .int .i64 (more y0 (l.take k) : Nat) ∧ wr = w)
    (fun _ i _ => l.length - (intOf i).toNat)
  case atStart => exact ⟨0, Nat.zero_le _, rfl, by rw [List.take_zero]; rfl, rfl⟩
  case round =>
    obtain ⟨k, hk, rfl, rfl, rfl⟩ := hrel
    by_cases hlt : k < l.length
    · obtain ⟨b, off, rfl, hbb, hcell⟩ := h3 (by omega)
      have hc0 := hcell k hlt
      clear hcell
      have hy := more_lt (l.take k) hy0
      have hnext := more_take y0 l k hlt
      have hxk := xor_byte64 (more y0 (l.take k)) l k hy
      generalize more y0 (l.take k) = y at hy hnext hxk
      have hy' : y ^^^ (l.getD k 0).toNat < 4294967296 := xor_lt hy (byte_lt _)
      generalize y ^^^ (l.getD k 0).toNat = x at hnext hxk hy'
      have hb0 := bt_lo l k
      have hb255 := bt_hi l k
      go_wp2
      go_loopw [5, 8] (fun q j wr' => ∃ m : Nat, m ≤ 8 ∧ j = .int .i64 m ∧ q = .int .i64 (turns m x : Nat) ∧ wr' = wr) (fun _ j _ => 8 - (intOf j).toNat)
      case atStart => exact ⟨0, Nat.zero_le _, rfl, rfl, rfl⟩
      case round =>
        obtain ⟨m, hm, rfl, rfl, rfl⟩ := hrel
        by_cases hlt8 : m < 8
        · have hy2 := turns_lt m hy'
          have hn2 := turns_succ m x
          generalize turns m x = t at hy2 hn2
          go_wp2_with (go_at_call 28; refine (l03Turn_any t _ hy2).mono ?_; rintro e w2 ⟨rfl, rfl⟩)
          go_roundw
          case rel => exact ⟨m + 1, by omega, by go_num, by rw [hn2], trivial⟩
          case measure => simp [intOf]; omega
        · obtain rfl : m = 8 := by omega
          go_wp2
          go_roundw
          case rel => exact ⟨k + 1, by omega, by go_num, by rw [hnext], trivial⟩
          case measure => simp [intOf]; omega
    · obtain rfl : k = l.length := by omega
      rw [List.take_length]
      have hy := more_lt l hy0
      have hx1 := xor_all (more y0 l) hy
      obtain ⟨z, hz⟩ : ∃ z, z = more y0 l ^^^ 4294967295 := ⟨_, rfl⟩
      rw [← hz] at hx1
      have HZ := Lib.hid hz
      clear hz
      generalize more y0 l = y at hy hx1
      go_wp2
      go_ret
      exact ⟨by rw [← HZ.out]; rfl, Below.refl _ _⟩
theorem specCrcMore_no (c : Int) (v : Value) (w : World) (h : ¬ (0 ≤ c ∧ c ≤ 4294967295)) :
    Calls Try.prog 15 #[.int .i64 c, v] w (Num1 0 w) := by
  have H := Lib.hid h
  clear h
  go_enter Try.func15, Try.ntmps15
  go_wp2_with (go_at_call 27; refine (l03Sum_no _ _ H.out).mono ?_; rintro e w' ⟨rfl, rfl⟩)
  go_ret
  exact ⟨rfl, Below.refl _ _⟩
end Go.Proofs.Ytmblfbbgieaodaa
