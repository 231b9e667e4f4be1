/- The contracts of TextHex: as the program has it and as its model has it. -/
import Derived.Test.YtemjagdlbehboaaDoorPut
import Derived.Lib.Bytealg
namespace Go.Proofs.YtemjagdlbehboaaDoor
open Go.ChangeShapes Go.WideShapes Go.ChangeAt Go.RowKit

/-- The value of a hexadecimal digit; -1 where it is none. -/
def hv (z : Int) : Int := if 48 ≤ z ∧ z ≤ 57 then z - 48 else if 97 ≤ z ∧ z ≤ 102 then z - 87 else -1
theorem hv_lo (z : Int) : -1 ≤ hv z := by unfold hv; split; omega; split <;> omega
theorem hv_hi (z : Int) : hv z ≤ 15 := by unfold hv; split; omega; split <;> omega
/-- The first k pairs of digits are digits; what they say. -/
def hexTo (l : List UInt8) (k : Nat) : Prop := ∀ j, j < k → 0 ≤ hv (bt l (2 * j)) ∧ 0 ≤ hv (bt l (2 * j + 1))
instance (l : List UInt8) (k : Nat) : Decidable (hexTo l k) := by unfold hexTo; infer_instance
def pairs (l : List UInt8) (k : Nat) : List UInt8 := (List.range k).map fun j => UInt8.ofNat (16 * hv (bt l (2 * j)) + hv (bt l (2 * j + 1))).toNat
theorem pairs_succ (l : List UInt8) (k : Nat) : pairs l (k + 1) = pairs l k ++ [UInt8.ofNat (16 * hv (bt l (2 * k)) + hv (bt l (2 * k + 1))).toNat] := by simp [pairs, List.range_succ]
theorem pairs_len (l : List UInt8) (k : Nat) : (pairs l k).length = k := by simp [pairs]
theorem hexTo_succ {l : List UInt8} {k : Nat} (h : hexTo l k) (h0 : 0 ≤ hv (bt l (2 * k))) (h1 : 0 ≤ hv (bt l (2 * k + 1))) : hexTo l (k + 1) := by
  intro j hj
  rcases Nat.lt_or_ge j k with h2 | h2
  · exact h j h2
  · obtain rfl : j = k := by omega
    exact ⟨h0, h1⟩
/-- Whether a string is made of pairs of digits; its bytes. -/
def hexOk (l : List UInt8) : Prop := l.length % 2 = 0 ∧ hexTo l (l.length / 2)
instance (l : List UInt8) : Decidable (hexOk l) := by unfold hexOk; infer_instance
def unhexB (t : ByteArray) : Bool := decide (hexOk t.data.toList)
def unhexL (t : ByteArray) : List UInt8 := if hexOk t.data.toList then pairs t.data.toList (t.data.toList.length / 2) else []
theorem unhexL_len (t : ByteArray) : (unhexL t).length ≤ t.size := by
  have e : t.data.toList.length = t.size := by rw [Array.length_toList]; rfl
  unfold unhexL
  split
  · rw [pairs_len, e]; omega
  · simp
theorem unhex_no {t : ByteArray} (h : ¬ hexOk t.data.toList) : unhexL t = [] ∧ unhexB t = false := ⟨if_neg h, by simp [unhexB, h]⟩
theorem unhex_yes {t : ByteArray} (h : hexOk t.data.toList) : unhexL t = pairs t.data.toList (t.data.toList.length / 2) ∧ unhexB t = true := ⟨if_pos h, by simp [unhexB, h]⟩

/-- 's[k]'. -/
theorem run_idx (t : ByteArray) (k : Nat) (z : Int) (hk : k < t.size) (hz : z = (k : Int)) (w : World) :
    (Instr.index 9 (.string t) (.int .i64 z)).run Tryd.prog w = .ok (.int .u8 (bt t.data.toList k)) w := by
  subst hz
  rw [run_index_string w 9 t .i64 (k : Int) Tryd.underlying9, dif_pos ⟨by omega, by omega⟩]
  have hk' : k < t.data.toList.length := by rw [Array.length_toList]; exact hk
  have e : bt t.data.toList k = ((t.data.toList[k]).toNat : Int) := by
    unfold bt
    rw [List.getD_eq_getElem?_getD, List.getElem?_eq_getElem hk']
    rfl
  rw [e]
  rfl

theorem hexs_find : ∀ n, n < 256 → Lib.indexByte [48, 49, 50, 51, 52, 53, 54, 55, 56, 57, 97, 98, 99, 100, 101, 102] (UInt8.ofNat n) = hv (n : Int) := by decide +kernel
theorem hexs_find_z (z : Int) (h0 : 0 ≤ z) (h1 : z ≤ 255) : Lib.indexByte [48, 49, 50, 51, 52, 53, 54, 55, 56, 57, 97, 98, 99, 100, 101, 102] z.toNat.toUInt8 = hv z := by
  obtain ⟨n, rfl⟩ := Int.eq_ofNat_of_zero_le h0
  exact hexs_find n (by omega)
end Go.Proofs.YtemjagdlbehboaaDoor
