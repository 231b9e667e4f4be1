/- A string split at every byte c, as a function on byte strings; what a range over the string's runes meets. No program is named here. -/
import Derived.Test.YtemjagdlbehboaaDoorMem
import Derived.Laws.RangeAny
namespace Go.Proofs.YtemjagdlbehboaaDoor

theorem get_bt (s : ByteArray) (k : Nat) (h : k < s.size) : bt s.data.toList k = ((s[k]'h).toNat : Int) := by
  have hk : k < s.data.toList.length := by rw [Array.length_toList]; exact h
  unfold bt
  rw [List.getD_eq_getElem?_getD, List.getElem?_eq_getElem hk]
  rfl
theorem get_bang (s : ByteArray) (k : Nat) (h : k < s.size) : s.get! k = s[k]'h := by
  simp [ByteArray.get!, getElem!_pos, h]
  rfl

/-- After k bytes: the pieces that are complete, and where the next one begins. -/
def cutS (s : ByteArray) (c : Int) : Nat → List ByteArray × Nat
  | 0 => ([], 0)
  | k + 1 => if bt s.data.toList k = c then ((cutS s c k).1 ++ [s.extract (cutS s c k).2 k], k + 1) else cutS s c k
/-- All the pieces. -/
def cutL (s : ByteArray) (c : Int) : List ByteArray := (cutS s c s.size).1 ++ [s.extract (cutS s c s.size).2 s.size]
theorem cutS_yes {s : ByteArray} {c : Int} {k : Nat} (h : bt s.data.toList k = c) : cutS s c (k + 1) = ((cutS s c k).1 ++ [s.extract (cutS s c k).2 k], k + 1) := if_pos h
theorem cutS_no {s : ByteArray} {c : Int} {k : Nat} (h : bt s.data.toList k ≠ c) : cutS s c (k + 1) = cutS s c k := if_neg h
theorem cutS_le (s : ByteArray) (c : Int) (k : Nat) : (cutS s c k).2 ≤ k ∧ (cutS s c k).1.length ≤ k := by
  induction k with
  | zero => exact ⟨Nat.le_refl _, Nat.le_refl _⟩
  | succ k ih =>
    by_cases h : bt s.data.toList k = c
    · rw [cutS_yes h]; simp; omega
    · rw [cutS_no h]; omega
theorem cutL_len (s : ByteArray) (c : Int) : 1 ≤ (cutL s c).length ∧ (cutL s c).length ≤ s.size + 1 := by
  have := (cutS_le s c s.size).2
  unfold cutL
  rw [List.length_append, List.length_singleton]
  omega
theorem cutS_skip (s : ByteArray) (c : Int) (a : Nat) : ∀ d, (∀ j, a ≤ j → j < a + d → bt s.data.toList j ≠ c) → cutS s c (a + d) = cutS s c a
  | 0, _ => rfl
  | d + 1, h => by
    rw [← Nat.add_assoc, cutS_no (h (a + d) (by omega) (by omega))]
    exact cutS_skip s c a d fun j h1 h2 => h j h1 (by omega)

/-- The bytes of a rune behind its first one are no ASCII bytes. -/
theorem decode_tail (s : ByteArray) (pos : Nat) (h : pos < s.size) :
    1 ≤ (Utf8.decode s pos).2 ∧ pos + (Utf8.decode s pos).2 ≤ s.size ∧ ∀ j, pos < j → j < pos + (Utf8.decode s pos).2 → 128 ≤ (s.get! j).toNat := by
  simp only [Utf8.decode]
  repeat' split
  all_goals first
    | (refine ⟨by simp, by simp; omega, fun j h1 h2 => ?_⟩; simp at h2; omega)
    | skip
  all_goals simp only [Bool.and_eq_true, decide_eq_true_eq, beq_iff_eq] at *
  all_goals refine ⟨by omega, by omega, fun j h1 h2 => ?_⟩
  · obtain rfl : j = pos + 1 := by omega
    omega
  · rcases (show j = pos + 1 ∨ j = pos + 2 by omega) with rfl | rfl <;> omega
  · rcases (show j = pos + 1 ∨ j = pos + 2 ∨ j = pos + 3 by omega) with rfl | rfl | rfl <;> omega

/-- One rune: the pieces behind it. -/
theorem cutS_rune (s : ByteArray) (c : Int) (pos : Nat) (h : pos < s.size) (hc : c < 128) :
    cutS s c (pos + (Utf8.decode s pos).2) = if ((Utf8.decode s pos).1 : Int) = c then ((cutS s c pos).1 ++ [s.extract (cutS s c pos).2 pos], pos + 1) else cutS s c pos := by
  obtain ⟨h1, h2, h3⟩ := decode_tail s pos h
  by_cases ha : (s[pos]'h).toNat < 128
  · rw [decode_ascii s pos h ha]
    simp only
    by_cases hb : bt s.data.toList pos = c
    · rw [cutS_yes hb, if_pos (by rw [← get_bt s pos h]; exact hb)]
    · rw [cutS_no hb, if_neg (by rw [← get_bt s pos h]; exact hb)]
  · have hh := (decode_high s pos h (by omega)).1
    rw [if_neg (by omega)]
    refine cutS_skip s c pos _ fun j h4 h5 => ?_
    have hj : j < s.size := by omega
    rw [get_bt s j hj]
    by_cases e : j = pos
    · subst e; omega
    · have := h3 j (by omega) h5
      rw [get_bang s j hj] at this
      omega
end Go.Proofs.YtemjagdlbehboaaDoor
