/- NumText: the contracts of the program's function (strconv.Itoa by the shelf's contract) and of its model, and the walk of its exact law. -/
import Derived.Test.YtemjagdlbehboaaDoorDec
import Derived.Test.YtemjagdlbehboaaDoorShelf
import Derived.Lib.SmallJoins
import Derived.WalkSmall
namespace Go.Proofs.YtemjagdlbehboaaDoor
open Go.ChangeShapes Go.WideShapes Go.ChangeAt Go.RowKit

/-- The table of powers of ten is as the library's text lays it. -/
def Tab10 (w : World) : Prop := Lib.TabIs Tryd.prog w "internal/strconv.uint64pow10" .u64 Lib.pow10Tab
theorem tabNamed : Tryd.prog.globalNamed "internal/strconv.uint64pow10" = some 3 := by kernel_rfl
theorem Tab10.lt {w : World} (h : Tab10 w) : 3 < w.heap.size := lt_of_cell (Lib.TabIs.cell h tabNamed 0 (by decide))
theorem Tab10.up {w w' : World} (h : Tab10 w) (hb : Below w.heap.size w w') : Tab10 w' := by
  exact var?_below (P := Tryd.prog) hb tabNamed h.lt h
/-- The text of a number. -/
def numL (n : Int) : List UInt8 := if 0 ≤ n ∧ n ≤ 1152921504606846975 then Lib.decDigits n.toNat else []
theorem numL_yes {n : Nat} (h : n ≤ 1152921504606846975) : numL (n : Int) = Lib.decDigits n := by rw [numL, if_pos ⟨by omega, by omega⟩, Int.toNat_natCast]
theorem numL_no {n : Int} (h : ¬ (0 ≤ n ∧ n ≤ 1152921504606846975)) : numL n = [] := if_neg h
def StrN (w : World) (l : List UInt8) (e : Ending) (w' : World) : Prop := e = .returned (.string (ba l)) ∧ Below w.heap.size w w'
theorem below_grow (w : World) (k : Nat) (os : Array Obj) : Below w.heap.size w (Sort.grow (w.drewN k) os) := by
  refine ⟨rfl, rfl, rfl, by simp, fun i hi => ?_⟩
  show (w.heap ++ os)[i]? = w.heap[i]?
  exact Array.getElem?_append_left hi

set_option maxRecDepth 100000 in
set_option maxHeartbeats 1000000 in
theorem specNumText_yes (n : Nat) (w : World) (hn : n ≤ 1152921504606846975) :
    Calls Tryd.prog 12 #[.int .i64 (n : Int)] w (StrN w (Lib.decDigits n)) := by
  have hn0 : (0 : Int) ≤ (n : Int) := by omega
  have hn1 : (n : Int) ≤ 1152921504606846975 := by omega
  have hd := dec_len 18 n (by omega)
  obtain ⟨z, hz⟩ : ∃ z : Int, z = (n : Int) := ⟨_, rfl⟩
  rw [← hz] at hn0 hn1 ⊢
  have Hz := Lib.hid hz
  clear hz hn
  go_enter Tryd.func12, Tryd.ntmps12
  go_wp2_with (go_at_call 22; refine (l01Num_yes _ _ hn0 hn1).mono ?_; rintro e w' ⟨rfl, rfl⟩)
  go_loopw [0, 3] (fun q s wr => ∃ (m : Nat) (t : ByteArray), q = .int .i64 m ∧ s = .string t ∧ m ≤ n ∧ Lib.decDigits m ++ t.data.toList = Lib.decDigits n ∧ Below w.heap.size w wr)
    (fun q _ _ => (intOf q).toNat)
  case atStart => exact ⟨n, ⟨#[]⟩, by rw [Hz.out], rfl, Nat.le_refl _, by simp, Below.refl _ _⟩
  case round =>
    obtain ⟨m, t, rfl, rfl, hm, ht, hbel⟩ := hrel
    have hts : t.size ≤ 19 := by
      have := congrArg List.length ht
      have e : t.data.toList.length = t.size := by rw [Array.length_toList]; rfl
      rw [List.length_append, e] at this
      omega
    have Ht := Lib.hid ht
    have hmz : (m : Int) ≤ z := by have := Hz.out; omega
    clear ht
    by_cases hlt : m < 10
    · have h9 : ¬ ((9 : Int) < (m : Int)) := by omega
      have hcv := conv_one (UInt8.ofNat (48 + m)) (48 + (m : Int)) (by simp; omega) wr
      obtain ⟨t1, ht1⟩ : ∃ t1, t1 = ba [UInt8.ofNat (48 + m)] := ⟨_, rfl⟩
      rw [← ht1] at hcv
      have hs1 : t1.size ≤ 1 := by rw [ht1, ba_size]; simp
      have Ht1 := Lib.hid ht1
      clear ht1
      go_wp2
      go_ret
      refine ⟨?_, hbel.alloc hbel.size _⟩
      have e : t1 ++ t = ba (Lib.decDigits n) := ba_eq (by rw [Joins.data_append, Ht1.out, ba_toList, ← Ht.out, dec_small hlt])
      simp [e]
    · have h9 : (9 : Int) < (m : Int) := by omega
      have hcv := conv_one (UInt8.ofNat (48 + m % 10)) (48 + (m : Int) % 10) (by simp; omega) wr
      obtain ⟨t1, ht1⟩ : ∃ t1, t1 = ba [UInt8.ofNat (48 + m % 10)] := ⟨_, rfl⟩
      rw [← ht1] at hcv
      have hs1 : t1.size ≤ 1 := by rw [ht1, ba_size]; simp
      have Ht1 := Lib.hid ht1
      clear ht1
      go_wp2
      go_roundw
      case rel => exact ⟨m / 10, t1 ++ t, by go_num, rfl, by omega, by rw [Joins.data_append, Ht1.out, ba_toList, ← List.append_assoc, ← dec_big (by omega)]; exact Ht.out, hbel.alloc hbel.size _⟩
      case measure => simp [intOf]; omega
theorem specNumText_any (n : Int) (w : World) :
    Calls Tryd.prog 12 #[.int .i64 n] w (StrN w (numL n)) := by
  by_cases hn : 0 ≤ n ∧ n ≤ 1152921504606846975
  · obtain ⟨m, rfl⟩ := Int.eq_ofNat_of_zero_le hn.1
    rw [numL_yes (by omega)]
    exact specNumText_yes m w (by omega)
  · rw [numL_no hn]
    have H := Lib.hid hn
    clear hn
    go_enter Tryd.func12, Tryd.ntmps12
    go_wp2_with (go_at_call 22; refine (l01Num_no _ _ H.out).mono ?_; rintro e w' ⟨rfl, rfl⟩)
    go_ret
    exact ⟨rfl, Below.refl _ _⟩
set_option maxRecDepth 100000 in
theorem implNumText_any (n : Int) (w : World) (ht : Tab10 w) :
    Calls Tryd.prog 14 #[.int .i64 n] w (StrN w (numL n)) := by
  by_cases hn : 0 ≤ n ∧ n ≤ 1152921504606846975
  · have e : ba (Lib.itoa n) = ba (numL n) := by rw [numL, if_pos hn, Lib.itoa, if_neg (by omega)]
    have E := Lib.hid e
    clear e
    obtain ⟨h0, h1⟩ := hn
    go_enter Tryd.func14, Tryd.ntmps14
    go_wp2_with fail
    refine (isNum_yes _ _ h0 h1).mono ?_
    rintro e w' ⟨rfl, rfl⟩
    go_wp2_with fail
    refine (Tryd.strconv_Itoa n (by omega) (by omega) _ ht).mono ?_
    rintro e w1 ⟨rfl, k, os, hw1⟩
    have hb : Below w.heap.size w w1 := by rw [hw1]; exact below_grow w k os
    clear hw1
    go_wp2
    go_ret
    exact ⟨congrArg (fun s => Ending.returned (.string s)) E.out, hb⟩
  · rw [numL_no hn]
    have H := Lib.hid hn
    clear hn
    go_enter Tryd.func14, Tryd.ntmps14
    go_wp2_with (go_at_call 25; refine (isNum_no _ _ H.out).mono ?_; rintro e w' ⟨rfl, rfl⟩)
    go_ret
    exact ⟨rfl, Below.refl _ _⟩

end Go.Proofs.YtemjagdlbehboaaDoor
