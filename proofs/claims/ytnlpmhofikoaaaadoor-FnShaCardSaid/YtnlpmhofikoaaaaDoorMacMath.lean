/- The lists of the tags: the key block, its bytes XORed with a padding byte, the tag. No program is named here. -/
import Derived.Test.YtnlpmhofikoaaaaDoorShaMath
import Derived.Test.YtnlpmhofikoaaaaDoorBitMath
import Derived.Test.YtnlpmhofikoaaaaDoorCrcMath
namespace Go.Proofs.YtnlpmhofikoaaaaDoor
open Go.RowKit

/-- The key, or its hash if it is long. -/
def shortL (l : List UInt8) : List UInt8 := if 64 < l.length then shaL l else l
theorem shortL_length (l : List UInt8) : (shortL l).length ≤ 64 := by
  unfold shortL
  split
  · rw [shaL_length]; omega
  · omega
theorem shortL_long {l : List UInt8} (h : 64 < l.length) : shortL l = shaL l := by unfold shortL; rw [if_pos h]
theorem shortL_short {l : List UInt8} (h : ¬ 64 < l.length) : shortL l = l := by unfold shortL; rw [if_neg h]
/-- The first bytes of the key block. -/
def fillL (k : List UInt8) : List UInt8 := k ++ List.replicate (64 - k.length) 0
theorem fillL_length {k : List UInt8} (h : k.length ≤ 64) : (fillL k).length = 64 := by simp [fillL]; omega
/-- The key block. -/
def keyL (l : List UInt8) : List UInt8 := fillL (shortL l)
theorem keyL_length (l : List UInt8) : (keyL l).length = 64 := fillL_length (shortL_length l)
/-- Each byte XORed with p. -/
def xorL (p : UInt8) (k : List UInt8) : List UInt8 := k.map fun c => c ^^^ p
theorem xorL_length (p : UInt8) (k : List UInt8) : (xorL p k).length = k.length := by simp [xorL]
/-- The hash behind a padding byte. -/
def hashL (p : UInt8) (k l : List UInt8) : List UInt8 := shaL (xorL p k ++ l)
theorem hashL_length (p : UInt8) (k l : List UInt8) : (hashL p k l).length = 32 := shaL_length _
/-- The tag. -/
def macL (key b : List UInt8) : List UInt8 := hashL 92 (keyL key) (hashL 54 (keyL key) b)
theorem macL_length (key b : List UInt8) : (macL key b).length = 32 := shaL_length _
/-- A long key may be replaced by its hash. -/
theorem keyL_hash {l : List UInt8} (h : 64 < l.length) : keyL (shaL l) = keyL l := by
  unfold keyL
  rw [shortL_long h, shortL_short (by rw [shaL_length]; omega)]
theorem macL_hash {l : List UInt8} (h : 64 < l.length) (b : List UInt8) : macL (shaL l) b = macL l b := by
  unfold macL
  rw [keyL_hash h]

theorem xor_byte (k : List UInt8) (j : Nat) (p : UInt8) : bits .xor .u8 (bt k j) (p.toNat : Int) = (((k.getD j 0) ^^^ p).toNat : Int) := by
  rw [UInt8.toNat_xor]
  exact u8_xor_nat _ _ (UInt8.toNat_lt _) (UInt8.toNat_lt _)

/-- The row behind j rounds: j bytes are XORed. -/
def XR (p : UInt8) (k l : List UInt8) (j : Nat) : List UInt8 := xorL p (k.take j) ++ k.drop j ++ l
theorem XR_length (p : UInt8) (k l : List UInt8) (j : Nat) : (XR p k l j).length = k.length + l.length := by
  simp [XR, xorL]
  omega
theorem XR_zero (p : UInt8) (k l : List UInt8) : XR p k l 0 = k ++ l := by simp [XR, xorL]
theorem XR_full (p : UInt8) (k l : List UInt8) {n : Nat} (h : k.length = n) : XR p k l n = xorL p k ++ l := by
  subst h
  simp [XR, xorL]
theorem XR_at (p : UInt8) (k l : List UInt8) {j : Nat} (h : j < k.length) : bt (XR p k l j) j = bt k j := by
  have e : (xorL p (k.take j)).length = j := by simp [xorL]; omega
  have h2 := bt_app_ge (xorL p (k.take j)) (k.drop j ++ l) 0
  rw [e, Nat.add_zero] at h2
  unfold XR
  rw [List.append_assoc, h2, bt_app_lt _ _ _ (by simp; omega), bt_drop, Nat.add_zero]
theorem XR_step (p : UInt8) (k l : List UInt8) {j : Nat} (h : j < k.length) : (XR p k l j).set j ((k.getD j 0) ^^^ p) = XR p k l (j + 1) := by
  have e : (xorL p (k.take j)).length = j := by simp [xorL]; omega
  have e1 : k.take (j + 1) = k.take j ++ [k.getD j 0] := by
    rw [List.take_add_one, List.getElem?_eq_getElem h]
    simp [List.getD_eq_getElem?_getD, List.getElem?_eq_getElem h]
  have e2 : k.drop j = k.getD j 0 :: k.drop (j + 1) := by
    rw [List.drop_eq_getElem_cons h]
    simp [List.getD_eq_getElem?_getD, List.getElem?_eq_getElem h]
  unfold XR
  rw [List.append_assoc, List.set_append_right _ _ (by omega), e, Nat.sub_self, e2, e1]
  simp [xorL]
theorem xorL_snoc (p : UInt8) (k : List UInt8) {j : Nat} (h : j < k.length) : xorL p (k.take j) ++ [(k.getD j 0) ^^^ p] = xorL p (k.take (j + 1)) := by
  have e1 : k.take (j + 1) = k.take j ++ [k.getD j 0] := by
    rw [List.take_add_one, List.getElem?_eq_getElem h]
    simp [List.getD_eq_getElem?_getD, List.getElem?_eq_getElem h]
  rw [e1]
  simp [xorL]
end Go.Proofs.YtnlpmhofikoaaaaDoor
