/- The contracts of the helpers on slices of strings that exact laws call: eqStringS, markText, markStringS, heldStringS. -/
import Derived.Test.YtemjagdlbehboaaDoorDec
import Derived.Test.YtemjagdlbehboaaDoorStrRow
import Derived.Deep.RegionHeld3
namespace Go.Proofs.YtemjagdlbehboaaDoor
open Go.ChangeShapes Go.WideShapes Go.ChangeAt Go.RowKit

theorem strinfo : (Tryd.prog.info? 9).map (fun i => (i.zero, i.size, i.bytes)) = some (some (.string ⟨#[]⟩), 1, 16) := by kernel_rfl

/-- The call returns a new row of strings that reads as l; nothing that was there has turned. -/
def FreshT (w : World) (l : List ByteArray) (e : Ending) (w' : World) : Prop :=
  ∃ u, e = .returned u ∧ OwnT 9 w' w.heap.size u l ∧ Below w.heap.size w w'

/-- The digits of a number; of 0 none. -/
def digs (m : Nat) : List UInt8 := if m = 0 then [] else Lib.decDigits m
theorem digs_step {m : Nat} (h : 0 < m) : digs m = digs (m / 10) ++ [UInt8.ofNat (48 + m % 10)] := by
  unfold digs
  rw [if_neg (by omega)]
  by_cases hs : m < 10
  · rw [if_pos (by omega), dec_small hs, show m % 10 = m by omega]; rfl
  · rw [if_neg (by omega), dec_big (by omega)]
theorem digs_len {m : Nat} (h : m ≤ 4294967296) : (digs m).length ≤ 10 := by
  unfold digs
  split
  · simp
  · exact dec_len 9 m (by omega)
/-- The string that markText makes of k. -/
def mText (k : Nat) : ByteArray := ba (109 :: digs k)
theorem mText_size {k : Nat} (h : k ≤ 4294967296) : (mText k).size ≤ 11 := by
  have := digs_len h
  rw [mText, ba_size, List.length_cons]
  omega

/-- The strings that markStringS writes. -/
def marksT (k n : Nat) : List ByteArray := (List.range n).map fun (i : Nat) => mText (k + i)
theorem marksT_length (k n : Nat) : (marksT k n).length = n := by simp [marksT]
theorem marksT_succ (k n : Nat) : marksT k (n + 1) = marksT k n ++ [mText (k + n)] := by simp [marksT, List.range_succ]
theorem tt_marks (k n j : Nat) (h : j < n) : tt (marksT k n) j = mText (k + j) := by
  simp [tt, marksT, List.getD_eq_getElem?_getD, h]
/-- What markStringS has written after j rounds. -/
def MKT (l : List ByteArray) (k j : Nat) : List ByteArray := marksT k j ++ l.drop j
theorem MKT_zero (l : List ByteArray) (k : Nat) : MKT l k 0 = l := by simp [MKT, marksT]
theorem MKT_full (l : List ByteArray) (k : Nat) : MKT l k l.length = marksT k l.length := by simp [MKT]
theorem MKT_length (l : List ByteArray) (k j : Nat) (h : j ≤ l.length) : (MKT l k j).length = l.length := by simp [MKT, marksT]; omega
theorem MKT_set (l : List ByteArray) (k j : Nat) (h : j < l.length) : (ts (MKT l k j)).set j (.string (mText (k + j))) = ts (MKT l k (j + 1)) := by
  rw [ts_set]
  congr 1
  unfold MKT
  rw [marksT_succ, List.set_append_right _ _ (by simp [marksT]), List.append_assoc]
  congr 1
  rw [marksT_length, Nat.sub_self, List.drop_eq_getElem_cons h]
  rfl

end Go.Proofs.YtemjagdlbehboaaDoor
