/- The digits of a number; a byte as a string: what NumText and the marks of strings share. -/
import Derived.Test.YtemjagdlbehboaaDoorPut
import Derived.Lib.ItoaNum
import Derived.Lib.SmallJoins
import Derived.WalkSmall
namespace Go.Proofs.YtemjagdlbehboaaDoor
open Go.ChangeShapes Go.WideShapes Go.ChangeAt Go.RowKit

theorem dec_small {n : Nat} (h : n < 10) : Lib.decDigits n = [UInt8.ofNat (48 + n)] := by rw [Lib.decDigits, dif_pos h]
theorem dec_big {n : Nat} (h : 10 ≤ n) : Lib.decDigits n = Lib.decDigits (n / 10) ++ [UInt8.ofNat (48 + n % 10)] := by rw [Lib.decDigits, dif_neg (by omega)]
theorem dec_len (k : Nat) : ∀ n, n < 10 ^ (k + 1) → (Lib.decDigits n).length ≤ k + 1 := by
  induction k with
  | zero => intro n h; rw [dec_small (by omega)]; simp
  | succ k ih =>
    intro n h
    by_cases hs : n < 10
    · rw [dec_small hs]; simp
    · rw [dec_big (by omega)]
      have := ih (n / 10) (by rw [Nat.pow_succ] at h; omega)
      simp; omega
theorem ba_eq {s : ByteArray} {l : List UInt8} (h : s.data.toList = l) : s = ba l := by
  apply ByteArray.ext
  apply Array.toList_inj.1
  rw [h, ba_toList]
/-- A new block of one byte, as a string. -/
theorem conv_one (c : UInt8) (z : Int) (hz : z = (c.toNat : Int)) (w : World) :
    (convert 43 9 (.slice (some ⟨w.heap.size, 0, none⟩) 1 1)).run Tryd.prog (w.alloc (.cells #[.int .u8 z] 5)) = .ok (.string (ba [c])) (w.alloc (.cells #[.int .u8 z] 5)) := by
  subst hz
  have h : Sl (w.alloc (.cells #[.int .u8 (c.toNat : Int)] 5)) (w.heap.size + 1) (.slice (some ⟨w.heap.size, 0, none⟩) 1 1) [c] :=
    ⟨_, 1, rfl, Nat.le_refl _, by simp [maxLen], (fun e => by cases e), fun _ => ⟨w.heap.size, 0, rfl, by omega, fun k hk => by
      have hk0 : k = 0 := by simp at hk; exact hk
      subst hk0
      simp [bt_cons_zero]⟩⟩
  exact run_conv 43 5 9 Tryd.underlying43 Tryd.underlying5 Tryd.underlying9 h

end Go.Proofs.YtemjagdlbehboaaDoor
