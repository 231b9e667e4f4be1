/- The contracts of the tests whether a row is a hash, as the program has it and as its model has it. -/
import Derived.Test.YtlchadbbldkkfaaDoorPut
namespace Go.Proofs.YtlchadbbldkkfaaDoor
open Go.ChangeShapes Go.WideShapes Go.ChangeAt Go.RowKit

theorem l07Hash_any (v : Value) (l : List UInt8) (w : World) (h : Sl w w.heap.size v l) :
    Calls Tryd.prog 54 #[v] w (fun e w' => e = .returned (.bool ((l.length : Int) == 32)) ∧ w = w') := by
  obtain ⟨A, c, rfl, h1, h2, k0, h3⟩ := h
  unfold maxLen at h2
  clear k0 h3
  go_enter Tryd.func54, Tryd.ntmps54
  go_wp2
  go_ret
  exact ⟨rfl, rfl⟩
theorem isHash_any (v : Value) (l : List UInt8) (w : World) (h : Sl w w.heap.size v l) :
    Calls Tryd.prog 44 #[v] w (fun e w' => e = .returned (.bool ((l.length : Int) == 32)) ∧ w = w') := by
  obtain ⟨A, c, rfl, h1, h2, k0, h3⟩ := h
  unfold maxLen at h2
  clear k0 h3
  go_enter Tryd.func44, Tryd.ntmps44
  go_wp2
  go_ret
  exact ⟨rfl, rfl⟩
theorem hash_yes {l : List UInt8} (h : l.length = 32) : ((l.length : Int) == 32) = true := by rw [h]; rfl
theorem hash_no {l : List UInt8} (h : l.length ≠ 32) : ((l.length : Int) == 32) = false := by rw [beq_eq_false_iff_ne]; omega
end Go.Proofs.YtlchadbbldkkfaaDoor
