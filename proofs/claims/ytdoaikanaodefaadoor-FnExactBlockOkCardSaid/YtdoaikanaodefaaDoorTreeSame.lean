/- The contracts of TreeSame, as the program has it (slices.EqualFunc) and as its model has it. -/
import Derived.Test.YtdoaikanaodefaaDoorPut
import Derived.Test.YtdoaikanaodefaaDoorMem
import Derived.Deep.RegionWith
namespace Go.Proofs.YtdoaikanaodefaaDoor
open Go.ChangeShapes Go.WideShapes Go.ChangeAt Go.RowKit

theorem same_len {L M : List (List UInt8)} (h : L.length ≠ M.length) : (L == M) = false := by
  rw [beq_eq_false_iff_ne]
  exact fun e => h (by rw [e])
theorem same_mis {L M : List (List UInt8)} {k : Nat} (h : (L.getD k [] == M.getD k []) = false) : (L == M) = false := by
  rw [beq_eq_false_iff_ne] at h ⊢
  exact fun e => h (by rw [e])
theorem same_end {L M : List (List UInt8)} (hl : L.length = M.length) (h : ∀ j, j < L.length → L.getD j [] = M.getD j []) : (L == M) = true := by
  rw [beq_iff_eq]
  refine List.ext_getElem hl fun j h1 h2 => ?_
  have := h j h1
  rw [List.getD_eq_getElem?_getD, List.getD_eq_getElem?_getD, List.getElem?_eq_getElem h1, List.getElem?_eq_getElem h2] at this
  simpa using this

end Go.Proofs.YtdoaikanaodefaaDoor
