/- Merkle trees over lists, without a program: where a list is split (splitN), the hashes of leaves and nodes (leafL, nodeL), the root (treeL); lists joined (catL). -/
import Derived.Test.YtlchadbbldkkfaaDoorShaMath
import Derived.Test.YtlchadbbldkkfaaDoorSS
namespace Go.Proofs.YtlchadbbldkkfaaDoor
open Go.RowKit

/-- The greatest power of two below n, 0 if there is none. -/
def splitN (n : Nat) : Nat := if n < 2 then 0 else 2 ^ (n - 1).log2
theorem splitN_small {n : Nat} (h : n < 2) : splitN n = 0 := if_pos h
theorem splitN_big {n : Nat} (h : 2 ≤ n) : splitN n = 2 ^ (n - 1).log2 := if_neg (by omega)
theorem splitN_lt {n : Nat} (h : 2 ≤ n) : splitN n < n := by
  rw [splitN_big h]
  have := Nat.log2_self_le (n := n - 1) (by omega)
  omega
theorem splitN_pos {n : Nat} (h : 2 ≤ n) : 0 < splitN n := by
  rw [splitN_big h]
  exact Nat.two_pow_pos _
theorem splitN_half {n : Nat} (h : 2 ≤ n) : n ≤ 2 * splitN n := by
  rw [splitN_big h]
  have := Nat.lt_log2_self (n := n - 1)
  rw [Nat.pow_succ] at this
  omega
theorem splitN_of {n j : Nat} (h1 : 2 ^ j < n) (h2 : n ≤ 2 * 2 ^ j) : splitN n = 2 ^ j := by
  have hp := Nat.two_pow_pos j
  have hn : 2 ≤ n := by omega
  rw [splitN_big hn]
  congr 1
  exact (Nat.log2_eq_iff (by omega)).2 ⟨by omega, by rw [Nat.pow_succ]; omega⟩
/-- The same for an int. -/
def splitZ (z : Int) : Int := (splitN z.toNat : Int)
theorem splitZ_nat (n : Nat) : splitZ (n : Int) = (splitN n : Int) := rfl
theorem splitZ_small {z : Int} (h : z < 2) : splitZ z = 0 := by
  unfold splitZ
  rw [splitN_small (by omega)]
  rfl

def leafL (x : List UInt8) : List UInt8 := shaL ([0] ++ x)
def nodeL (a b : List UInt8) : List UInt8 := shaL ([1] ++ a ++ b)
theorem leafL_length (x : List UInt8) : (leafL x).length = 32 := shaL_length _
theorem nodeL_length (a b : List UInt8) : (nodeL a b).length = 32 := shaL_length _
def treeL (L : List (List UInt8)) : List UInt8 :=
  if _h : L.length < 2 then (if L.length = 0 then shaL [] else leafL (L.getD 0 [])) else nodeL (treeL (L.take (splitN L.length))) (treeL (L.drop (splitN L.length)))
termination_by L.length
decreasing_by
  · have h1 := splitN_lt (n := L.length) (by omega)
    rw [List.length_take]
    omega
  · have h2 := splitN_pos (n := L.length) (by omega)
    rw [List.length_drop]
    omega
theorem treeL_nil {L : List (List UInt8)} (h : L.length = 0) : treeL L = shaL [] := by
  rw [treeL, dif_pos (by omega), if_pos h]
theorem treeL_one {L : List (List UInt8)} (h : L.length = 1) : treeL L = leafL (L.getD 0 []) := by
  rw [treeL, dif_pos (by omega), if_neg (by omega)]
theorem treeL_two {L : List (List UInt8)} (h : 2 ≤ L.length) : treeL L = nodeL (treeL (L.take (splitN L.length))) (treeL (L.drop (splitN L.length))) := by
  rw [treeL, dif_neg (by omega)]
theorem treeL_length (L : List (List UInt8)) : (treeL L).length = 32 := by
  rcases Nat.lt_or_ge L.length 2 with h | h
  · rcases Nat.lt_or_ge L.length 1 with h0 | h0
    · rw [treeL_nil (by omega)]
      exact shaL_length _
    · rw [treeL_one (by omega)]
      exact leafL_length _
  · rw [treeL_two h]
    exact nodeL_length _ _
/-- A part of a list: n from a on. -/
def partL (L : List (List UInt8)) (a n : Nat) : List (List UInt8) := (L.drop a).take n
theorem partL_length {L : List (List UInt8)} {a n : Nat} (h : a + n ≤ L.length) : (partL L a n).length = n := by
  unfold partL
  rw [List.length_take, List.length_drop]
  omega
theorem partL_all (L : List (List UInt8)) : partL L 0 L.length = L := by simp [partL]
theorem partL_take {L : List (List UInt8)} {a n k : Nat} (h : k ≤ n) : (partL L a n).take k = partL L a k := by
  unfold partL
  rw [List.take_take, Nat.min_eq_left h]
theorem partL_drop {L : List (List UInt8)} {a n k : Nat} : (partL L a n).drop k = partL L (a + k) (n - k) := by
  unfold partL
  rw [List.drop_take, List.drop_drop]
theorem treeL_part {L : List (List UInt8)} {a n : Nat} (h : 2 ≤ n) (hn : a + n ≤ L.length) : treeL (partL L a n) = nodeL (treeL (partL L a (splitN n))) (treeL (partL L (a + splitN n) (n - splitN n))) := by
  have hl := partL_length hn
  rw [treeL_two (by omega), hl, partL_take (Nat.le_of_lt (splitN_lt h)), partL_drop]
theorem treeL_part1 {L : List (List UInt8)} {a : Nat} (h : a < L.length) : treeL (partL L a 1) = leafL (L.getD a []) := by
  rw [treeL_one (partL_length (by omega)), partL, getD_take _ _ _ _ (by omega), getD_drop]
  rfl

/-- All lists, one behind the other. -/
def catL : List (List UInt8) → List UInt8
  | [] => []
  | l :: L => l ++ catL L
theorem catL_app (L M : List (List UInt8)) : catL (L ++ M) = catL L ++ catL M := by
  induction L with
  | nil => rfl
  | cons l L ih => simp [catL, ih]
theorem catL_length (L : List (List UInt8)) : (catL L).length = sumL L := by
  induction L with
  | nil => rfl
  | cons l L ih => simp [catL, sumL, ih]
theorem catL_take (L : List (List UInt8)) (k : Nat) (h : k < L.length) : catL (L.take (k + 1)) = catL (L.take k) ++ L.getD k [] := by
  rw [take_getD L k [] h, catL_app]
  simp [catL]
end Go.Proofs.YtlchadbbldkkfaaDoor
