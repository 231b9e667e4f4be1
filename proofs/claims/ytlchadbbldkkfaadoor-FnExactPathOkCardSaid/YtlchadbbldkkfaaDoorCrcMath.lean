/- The checksum as a function on natural numbers: a step, n steps, the bytes of a list one after the other; it is linear, and no step forgets anything. No program is named here. -/
import Derived.Test.YtlchadbbldkkfaaDoorMem
import Derived.Laws.BitsAllLaws
namespace Go.Proofs.YtlchadbbldkkfaaDoor

/-- A step: one bit to the right, and the pattern if that bit was 1. -/
def turn (x : Nat) : Nat := if x % 2 = 1 then x / 2 ^^^ 3988292384 else x / 2
def turns : Nat → Nat → Nat
  | 0, x => x
  | n + 1, x => turns n (turn x)
theorem turns_zero (x : Nat) : turns 0 x = x := rfl
theorem turns_add (m n x : Nat) : turns (m + n) x = turns n (turns m x) := by
  induction m generalizing x with
  | zero => simp [turns]
  | succ m ih => rw [show m + 1 + n = (m + n) + 1 from by omega, turns, turns, ih]
theorem turns_succ (n x : Nat) : turns (n + 1) x = turn (turns n x) := by rw [turns_add]; rfl
theorem turns_eight (k x : Nat) : turns (8 * (k + 1)) x = turns 8 (turns (8 * k) x) := by
  rw [show 8 * (k + 1) = 8 * k + 8 from by omega, turns_add]

theorem turn_lt {x : Nat} (h : x < 4294967296) : turn x < 4294967296 := by
  unfold turn
  split
  · exact Nat.xor_lt_two_pow (n := 32) (by omega) (by omega)
  · omega
theorem turns_lt (n : Nat) {x : Nat} (h : x < 4294967296) : turns n x < 4294967296 := by
  induction n generalizing x with
  | zero => exact h
  | succ n ih => exact ih (turn_lt h)
theorem xor_lt {x y : Nat} (h : x < 4294967296) (h' : y < 4294967296) : x ^^^ y < 4294967296 := Nat.xor_lt_two_pow (n := 32) h h'

theorem xor_half (x y : Nat) : (x ^^^ y) / 2 = x / 2 ^^^ y / 2 := by
  have := Nat.shiftRight_xor_distrib (a := x) (b := y) (i := 1)
  simpa [Nat.shiftRight_succ] using this
theorem xor_odd (x y : Nat) : (x ^^^ y) % 2 = (x % 2 + y % 2) % 2 := by
  have h1 : ∀ z : Nat, z % 2 = (z.testBit 0).toNat := fun z => by
    rw [Nat.testBit_zero]
    rcases Nat.mod_two_eq_zero_or_one z with h | h <;> simp [h]
  rw [h1, h1 x, h1 y, Nat.testBit_xor]
  cases x.testBit 0 <;> cases y.testBit 0 <;> rfl
theorem turn_xor (x y : Nat) : turn (x ^^^ y) = turn x ^^^ turn y := by
  unfold turn
  rw [xor_odd, xor_half]
  rcases Nat.mod_two_eq_zero_or_one x with h | h <;> rcases Nat.mod_two_eq_zero_or_one y with h' | h' <;> rw [h, h']
  · simp
  · simp [Nat.xor_assoc]
  · simp only [Nat.reduceAdd, Nat.reduceMod, if_true, Nat.reduceEqDiff, if_false]
    rw [Nat.xor_assoc, Nat.xor_comm (y / 2), ← Nat.xor_assoc]
  · simp only [Nat.reduceAdd, Nat.reduceMod, if_true, Nat.reduceEqDiff, if_false]
    rw [Nat.xor_assoc, Nat.xor_comm (y / 2), ← Nat.xor_assoc 3988292384, Nat.xor_self, Nat.zero_xor]
theorem turns_xor (n x y : Nat) : turns n (x ^^^ y) = turns n x ^^^ turns n y := by
  induction n generalizing x y with
  | zero => rfl
  | succ n ih => rw [turns, turns, turns, turn_xor, ih]

/-- The bytes l one after the other. -/
def more (x : Nat) : List UInt8 → Nat
  | [] => x
  | b :: l => more (turns 8 (x ^^^ b.toNat)) l
theorem more_nil (x : Nat) : more x [] = x := rfl
theorem more_app (x : Nat) (l m : List UInt8) : more x (l ++ m) = more (more x l) m := by
  induction l generalizing x with
  | nil => rfl
  | cons b l ih => exact ih _
theorem byte_lt (b : UInt8) : b.toNat < 4294967296 := Nat.lt_of_lt_of_le b.toNat_lt (by decide)
theorem more_lt (l : List UInt8) {x : Nat} (h : x < 4294967296) : more x l < 4294967296 := by
  induction l generalizing x with
  | nil => exact h
  | cons b l ih => exact ih (turns_lt _ (xor_lt h (byte_lt b)))
theorem more_take (x : Nat) (l : List UInt8) (k : Nat) (h : k < l.length) : more x (l.take (k + 1)) = turns 8 (more x (l.take k) ^^^ (l.getD k 0).toNat) := by
  have e : l.take (k + 1) = l.take k ++ [l.getD k 0] := by
    rw [List.take_add_one, List.getElem?_eq_getElem h, List.getD_eq_getElem?_getD, List.getElem?_eq_getElem h]
    rfl
  rw [e, more_app]
  rfl
/-- What is XORed in ahead goes through the steps beside the bytes. -/
theorem more_xor (l : List UInt8) (x y : Nat) : more (x ^^^ y) l = turns (8 * l.length) x ^^^ more y l := by
  induction l generalizing x y with
  | nil => rfl
  | cons b l ih =>
    show more (turns 8 (x ^^^ y ^^^ b.toNat)) l = turns (8 * (l.length + 1)) x ^^^ more (turns 8 (y ^^^ b.toNat)) l
    rw [Nat.xor_assoc, turns_xor, ih, show 8 * (l.length + 1) = 8 + 8 * l.length from by omega, turns_add]

/-- The checksum c goes on over l. -/
def sumFrom (c : Nat) (l : List UInt8) : Nat := more (c ^^^ 4294967295) l ^^^ 4294967295
theorem sumFrom_lt (l : List UInt8) {c : Nat} (h : c < 4294967296) : sumFrom c l < 4294967296 := xor_lt (more_lt l (xor_lt h (by decide))) (by decide)
def sum (l : List UInt8) : Nat := sumFrom 0 l
theorem sum_lt (l : List UInt8) : sum l < 4294967296 := sumFrom_lt l (by decide)
theorem xor_twice (x y : Nat) : x ^^^ y ^^^ y = x := by rw [Nat.xor_assoc, Nat.xor_self, Nat.xor_zero]
theorem sum_on (a b : List UInt8) : sumFrom (sum a) b = sum (a ++ b) := by
  unfold sum sumFrom
  rw [xor_twice, more_app]
theorem sum_join (a b : List UInt8) : turns (8 * b.length) (sum a) ^^^ sum b = sum (a ++ b) := by
  rw [← sum_on]
  unfold sum sumFrom
  rw [← Nat.xor_assoc, ← more_xor, Nat.zero_xor]

/-! No step forgets anything. -/
theorem turn_top (x : Nat) (h : x < 4294967296) : (turn x).testBit 31 = decide (x % 2 = 1) := by
  have hx : (x / 2).testBit 31 = false := Nat.testBit_lt_two_pow (by omega)
  unfold turn
  split
  · rename_i h1
    rw [Nat.testBit_xor, hx, decide_eq_true h1]
    decide
  · rename_i h1
    rw [hx, decide_eq_false h1]
theorem turn_inj {x y : Nat} (hx : x < 4294967296) (hy : y < 4294967296) (h : turn x = turn y) : x = y := by
  have h1 := turn_top x hx
  have h2 := turn_top y hy
  rw [h, h2] at h1
  have h3 : x % 2 = y % 2 := by
    have := Bool.eq_iff_iff.1 h1
    simp only [decide_eq_true_eq] at this
    omega
  unfold turn at h
  rw [h3] at h
  have h4 : x / 2 = y / 2 := by
    split at h
    · have h5 := congrArg (· ^^^ 3988292384) h
      simpa only [xor_twice] using h5
    · exact h
  omega
theorem turns_inj (n : Nat) {x y : Nat} (hx : x < 4294967296) (hy : y < 4294967296) (h : turns n x = turns n y) : x = y := by
  induction n generalizing x y with
  | zero => exact h
  | succ n ih => exact turn_inj hx hy (ih (turn_lt hx) (turn_lt hy) h)
theorem more_inj (l : List UInt8) {x y : Nat} (hx : x < 4294967296) (hy : y < 4294967296) (h : more x l = more y l) : x = y := by
  induction l generalizing x y with
  | nil => exact h
  | cons b l ih =>
    have := turns_inj 8 (xor_lt hx (byte_lt b)) (xor_lt hy (byte_lt b)) (ih (turns_lt _ (xor_lt hx (byte_lt b))) (turns_lt _ (xor_lt hy (byte_lt b))) h)
    rw [← xor_twice x b.toNat, this, xor_twice]
/-- Another byte at one place: another checksum. -/
theorem sum_at (a b : List UInt8) {c d : UInt8} (h : c ≠ d) : sum (a ++ c :: b) ≠ sum (a ++ d :: b) := by
  intro e
  have e2 := congrArg (· ^^^ 4294967295) e
  simp only [sum, sumFrom, xor_twice, more_app] at e2
  have hm : more (0 ^^^ 4294967295) a < 4294967296 := more_lt a (by decide)
  generalize more (0 ^^^ 4294967295) a = y at e2 hm
  have e3 := more_inj b (turns_lt 8 (xor_lt hm (byte_lt c))) (turns_lt 8 (xor_lt hm (byte_lt d))) e2
  have e4 := turns_inj 8 (xor_lt hm (byte_lt c)) (xor_lt hm (byte_lt d)) e3
  rw [Nat.xor_comm y, Nat.xor_comm y] at e4
  have e5 := congrArg (· ^^^ y) e4
  simp only [xor_twice] at e5
  exact h (UInt8.toNat_inj.1 e5)
theorem sum_flip (l : List UInt8) (k : Nat) (h : k < l.length) (c : UInt8) (hc : c ≠ l.getD k 0) : sum (l.set k c) ≠ sum l := by
  intro e
  have e0 : l.set k c = l.take k ++ c :: l.drop (k + 1) := List.set_eq_take_append_cons_drop.trans (if_pos h)
  have e1 : l = l.take k ++ l.getD k 0 :: l.drop (k + 1) := by
    rw [List.getD_eq_getElem?_getD, List.getElem?_eq_getElem h]
    exact (List.take_append_drop k l).symm.trans (by rw [List.drop_eq_getElem_cons h]; rfl)
  rw [e0] at e
  exact sum_at _ _ hc (e.trans (congrArg sum e1))

/-! The machine's words. -/
theorem i64_xor (a b : Nat) (ha : a < 9223372036854775808) (hb : b < 9223372036854775808) : bits .xor .i64 (a : Int) (b : Int) = ((a ^^^ b : Nat) : Int) := by
  have hx : a ^^^ b < 2 ^ 63 := Nat.xor_lt_two_pow (by omega) (by omega)
  show IntKind.i64.wrap ((BitVec.ofInt 64 (a : Int) ^^^ BitVec.ofInt 64 (b : Int)).toNat : Int) = _
  rw [BitVec.toNat_xor, ofInt_u64 a (by omega), ofInt_u64 b (by omega)]
  simp [IntKind.wrap, IntKind.bits, IntKind.signed]
  omega
end Go.Proofs.YtlchadbbldkkfaaDoor
