/- The contracts of TextHex: as the program has it and as its model has it. -/
import Derived.Test.YtahfklghnbpadaaDoorStr
import Derived.Lib.Bytealg
namespace Go.Proofs.YtahfklghnbpadaaDoor
open Go.ChangeShapes Go.WideShapes Go.ChangeAt Go.RowKit

/-- The value of a hexadecimal digit; -1 where it is none. -/
def hv (z : Int) : Int := if 48 ≤ z ∧ z ≤ 57 then z - 48 else if 97 ≤ z ∧ z ≤ 102 then z - 87 else -1
theorem hv_lo (z : Int) : -1 ≤ hv z := by unfold hv; split; omega; split <;> omega
theorem hv_hi (z : Int) : hv z ≤ 15 := by unfold hv; split; omega; split <;> omega
/-- The first k pairs of digits are digits; what they say. -/
def hexTo (l : List UInt8) (k : Nat) : Prop := ∀ j, j < k → 0 ≤ hv (bt l (2 * j)) ∧ 0 ≤ hv (bt l (2 * j + 1))
instance (l : List UInt8) (k : Nat) : Decidable (hexTo l k) := by unfold hexTo; infer_instance
def pairs (l : List UInt8) (k : Nat) : List UInt8 := (List.range k).map fun j => UInt8.ofNat (16 * hv (bt l (2 * j)) + hv (bt l (2 * j + 1))).toNat
theorem pairs_succ (l : List UInt8) (k : Nat) : pairs l (k + 1) = pairs l k ++ [UInt8.ofNat (16 * hv (bt l (2 * k)) + hv (bt l (2 * k + 1))).toNat] := by simp [pairs, List.range_succ]
theorem pairs_len (l : List UInt8) (k : Nat) : (pairs l k).length = k := by simp [pairs]
theorem hexTo_succ {l : List UInt8} {k : Nat} (h : hexTo l k) (h0 : 0 ≤ hv (bt l (2 * k))) (h1 : 0 ≤ hv (bt l (2 * k + 1))) : hexTo l (k + 1) := by
  intro j hj
  rcases Nat.lt_or_ge j k with h2 | h2
  · exact h j h2
  · obtain rfl : j = k := by omega
    exact ⟨h0, h1⟩
/-- Whether a string is made of pairs of digits; its bytes. -/
def hexOk (l : List UInt8) : Prop := l.length % 2 = 0 ∧ hexTo l (l.length / 2)
instance (l : List UInt8) : Decidable (hexOk l) := by unfold hexOk; infer_instance
def unhexB (t : ByteArray) : Bool := decide (hexOk t.data.toList)
def unhexL (t : ByteArray) : List UInt8 := if hexOk t.data.toList then pairs t.data.toList (t.data.toList.length / 2) else []
theorem unhexL_len (t : ByteArray) : (unhexL t).length ≤ t.size := by
  have e : t.data.toList.length = t.size := by rw [Array.length_toList]; rfl
  unfold unhexL
  split
  · rw [pairs_len, e]; omega
  · simp
theorem unhex_no {t : ByteArray} (h : ¬ hexOk t.data.toList) : unhexL t = [] ∧ unhexB t = false := ⟨if_neg h, by simp [unhexB, h]⟩
theorem unhex_yes {t : ByteArray} (h : hexOk t.data.toList) : unhexL t = pairs t.data.toList (t.data.toList.length / 2) ∧ unhexB t = true := ⟨if_pos h, by simp [unhexB, h]⟩

/-- 's[k]'. -/
theorem run_idx (t : ByteArray) (k : Nat) (z : Int) (hk : k < t.size) (hz : z = (k : Int)) (w : World) :
    (Instr.index 9 (.string t) (.int .i64 z)).run Tryd.prog w = .ok (.int .u8 (bt t.data.toList k)) w := by
  subst hz
  rw [run_index_string w 9 t .i64 (k : Int) Tryd.underlying9, dif_pos ⟨by omega, by omega⟩]
  have hk' : k < t.data.toList.length := by rw [Array.length_toList]; exact hk
  have e : bt t.data.toList k = ((t.data.toList[k]).toNat : Int) := by
    unfold bt
    rw [List.getD_eq_getElem?_getD, List.getElem?_eq_getElem hk']
    rfl
  rw [e]
  rfl

theorem hexs_find : ∀ n, n < 256 → Lib.indexByte [48, 49, 50, 51, 52, 53, 54, 55, 56, 57, 97, 98, 99, 100, 101, 102] (UInt8.ofNat n) = hv (n : Int) := by decide +kernel
theorem hexs_find_z (z : Int) (h0 : 0 ≤ z) (h1 : z ≤ 255) : Lib.indexByte [48, 49, 50, 51, 52, 53, 54, 55, 56, 57, 97, 98, 99, 100, 101, 102] z.toNat.toUInt8 = hv z := by
  obtain ⟨n, rfl⟩ := Int.eq_ofNat_of_zero_le h0
  exact hexs_find n (by omega)
set_option maxRecDepth 100000 in
theorem indexByte_hexs (z : Int) (w : World) (h0 : 0 ≤ z) (h1 : z ≤ 255) :
    Calls Tryd.prog 47 #[.string ⟨#[48, 49, 50, 51, 52, 53, 54, 55, 56, 57, 97, 98, 99, 100, 101, 102]⟩, .int .u8 z] w fun e w' => e = .returned (.int .i64 (hv z)) ∧ w = w' := by
  have hrun := Lib.run_indexByteString (P := Tryd.prog) ⟨#[48, 49, 50, 51, 52, 53, 54, 55, 56, 57, 97, 98, 99, 100, 101, 102]⟩ z w
  have e : Lib.indexByte (⟨#[48, 49, 50, 51, 52, 53, 54, 55, 56, 57, 97, 98, 99, 100, 101, 102]⟩ : ByteArray).data.toList z.toNat.toUInt8 = hv z := hexs_find_z z h0 h1
  rw [e] at hrun
  clear e
  go_enter Tryd.func47, Tryd.ntmps47
  go_wp2
  rw [run_callFunc_extern Tryd.func69 (by kernel_rfl) (by kernel_rfl) (by kernel_rfl) (e := Extern.BytealgIndexByte.indexByte) (by kernel_rfl), hrun]
  simp only [Result.andThen]
  rw [Oper.upon_value]
  go_wp2
  go_ret
  exact ⟨rfl, rfl⟩

set_option maxRecDepth 100000 in
set_option maxHeartbeats 1000000 in
theorem implTextHex_any (t : ByteArray) (w : World) (ht : t.size ≤ 4294967296) :
    Calls Tryd.prog 21 #[.string t] w (Fresh2 w (unhexL t) (.bool (unhexB t))) := by
  obtain ⟨i0, hi, hz0, hz1, hz2⟩ := info_parts u8info
  have hll : t.data.toList.length = t.size := by rw [Array.length_toList]; rfl
  obtain ⟨l, hl⟩ : ∃ l, l = t.data.toList := ⟨_, rfl⟩
  by_cases hodd : t.size % 2 = 1
  · obtain ⟨e1, e2⟩ := unhex_no (t := t) (fun h => by have := h.1; rw [hll] at this; omega)
    rw [e1, e2]
    clear e1 e2 hll hl
    have hm : (((t.size : Int) % 2) != 0) = true := by simp; omega
    go_enter Tryd.func21, Tryd.ntmps21
    go_wp2
    go_ret2
    exact ⟨_, rfl, World.ownsRow_nil _ _ _ _, by go_grown⟩
  · have hm : (((t.size : Int) % 2) != 0) = false := by simp; omega
    have Hl := Lib.hid hl
    have Hll := Lib.hid hll
    clear hl hll
    go_enter Tryd.func21, Tryd.ntmps21
    go_wp2
    go_loopw [4, 5, 6, 7] (fun s i _ _ wr => ∃ j k : Nat, i = .int .i64 j ∧ j ≤ t.size ∧ j = 2 * k ∧ hexTo l k ∧ Own 5 wr w.heap.size s (pairs l k) ∧ Below w.heap.size w wr)
      (fun _ i _ _ _ => t.size - (intOf i).toNat)
    case atStart => exact ⟨0, 0, rfl, Nat.zero_le _, rfl, (fun j hj => absurd hj (by omega)), World.ownsRow_nil _ _ _ _, Below.refl _ _⟩
    case round =>
      obtain ⟨j, k, rfl, hj, hjk, hto, hown, hbel⟩ := hrel
      have Hto := Lib.hid hto
      have Hjk := Lib.hid hjk
      have hkl : (pairs l k).length ≤ 4294967296 := by rw [pairs_len]; omega
      by_cases hlt : j < t.size
      · have hj1 : j + 1 < t.size := by omega
        have hx1 := fun W => run_idx t j (j : Int) (by omega) rfl W
        have hx2 := fun W => run_idx t (j + 1) ((j : Int) + 1) (by omega) (by simp) W
        rw [← Hl.out] at hx1 hx2
        have b0 := bt_lo l j
        have b1 := bt_hi l j
        have b2 := bt_lo l (j + 1)
        have b3 := bt_hi l (j + 1)
        obtain ⟨p, hp⟩ : ∃ p, p = bt l j := ⟨_, rfl⟩
        obtain ⟨q, hq⟩ : ∃ q, q = bt l (j + 1) := ⟨_, rfl⟩
        rw [← hp] at hx1 b0 b1
        rw [← hq] at hx2 b2 b3
        obtain ⟨x, hx⟩ : ∃ x, x = hv p := ⟨_, rfl⟩
        obtain ⟨y, hy⟩ : ∃ y, y = hv q := ⟨_, rfl⟩
        have x0 := hv_lo p
        have x1 := hv_hi p
        have y0 := hv_lo q
        have y1 := hv_hi q
        rw [← hx] at x0 x1
        rw [← hy] at y0 y1
        have hbad : ¬ (0 ≤ x ∧ 0 ≤ y) → ¬ hexOk t.data.toList := fun hn hok => hn (by
          have h2 := hok.2 k (by have := Hll.out; omega)
          rw [← Hl.out, ← hjk, ← hp, ← hq, ← hx, ← hy] at h2
          exact h2)
        have Hbad := Lib.hid hbad
        have Hp := Lib.hid hp
        have Hq := Lib.hid hq
        have Hx := Lib.hid hx
        have Hy := Lib.hid hy
        clear hbad hp hq hx hy hto hjk
        by_cases hx0 : 0 ≤ x
        · by_cases hy0 : 0 ≤ y
          · have hc : ((UInt8.ofNat (16 * x + y).toNat).toNat : Int) = 16 * x + y := by simp; omega
            have Hc := Lib.hid hc
            clear hc
            go_wp2_with fail
            refine (indexByte_hexs p _ b0 b1).mono ?_
            rw [← Hx.out]
            rintro e w' ⟨rfl, rfl⟩
            go_wp2_with fail
            refine (indexByte_hexs q _ b2 b3).mono ?_
            rw [← Hy.out]
            rintro e w' ⟨rfl, rfl⟩
            go_wp2_with (at_builtin; refine wpList_app1 (W := w) rfl _ _ 22 rfl 5 i0 Tryd.underlying22 hi hz0 hz1 hz2 _ (pairs l k) (by rfl) _ (UInt8.ofNat (16 * x + y).toNat) (Lib.hid Hc.out.symm) rfl hown hbel (by omega) ?_; intro v2 w2 hown2 hb2)
            go_roundw
            case rel => exact ⟨j + 2, k + 1, by go_num, by omega, by have := Hjk.out; omega, hexTo_succ Hto.out (by rw [← Hjk.out, ← Hp.out, ← Hx.out]; exact hx0) (by rw [← Hjk.out, ← Hq.out, ← Hy.out]; exact hy0), by rw [pairs_succ, ← Hjk.out, ← Hp.out, ← Hq.out, ← Hx.out, ← Hy.out]; exact hown2, hb2⟩
            case measure => simp [intOf]; omega
          · obtain ⟨e1, e2⟩ := unhex_no (t := t) (Hbad.out (fun h => hy0 h.2))
            have E1 := Lib.hid e1
            have E2 := Lib.hid e2
            clear e1 e2
            have hy1 : y < 0 := by omega
            go_wp2_with fail
            refine (indexByte_hexs p _ b0 b1).mono ?_
            rw [← Hx.out]
            rintro e w' ⟨rfl, rfl⟩
            go_wp2_with fail
            refine (indexByte_hexs q _ b2 b3).mono ?_
            rw [← Hy.out]
            rintro e w' ⟨rfl, rfl⟩
            go_wp2_with fail
            go_ret2
            rw [E1.out, E2.out]
            exact ⟨_, rfl, World.ownsRow_nil _ _ _ _, hbel⟩
        · obtain ⟨e1, e2⟩ := unhex_no (t := t) (Hbad.out (fun h => hx0 h.1))
          have E1 := Lib.hid e1
          have E2 := Lib.hid e2
          clear e1 e2
          have hx2' : x < 0 := by omega
          go_wp2_with fail
          refine (indexByte_hexs p _ b0 b1).mono ?_
          rw [← Hx.out]
          rintro e w' ⟨rfl, rfl⟩
          go_wp2_with fail
          refine (indexByte_hexs q _ b2 b3).mono ?_
          rw [← Hy.out]
          rintro e w' ⟨rfl, rfl⟩
          go_wp2_with fail
          go_ret2
          rw [E1.out, E2.out]
          exact ⟨_, rfl, World.ownsRow_nil _ _ _ _, hbel⟩
      · obtain ⟨e1, e2⟩ := unhex_yes (t := t) (by
          refine ⟨by rw [Hll.out]; omega, ?_⟩
          rw [Hll.out, ← Hl.out]
          rw [show t.size / 2 = k by omega]
          exact hto)
        rw [Hll.out, ← Hl.out, show t.size / 2 = k by omega] at e1
        have E1 := Lib.hid e1
        have E2 := Lib.hid e2
        clear e1 e2 hto hjk
        go_wp2
        go_ret2
        rw [E1.out, E2.out]
        exact ⟨_, rfl, hown, hbel⟩
end Go.Proofs.YtahfklghnbpadaaDoor
