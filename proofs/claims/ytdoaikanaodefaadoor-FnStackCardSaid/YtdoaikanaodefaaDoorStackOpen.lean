/- What a law has of a call that returns a stack and a bool. -/
import Derived.Test.YtdoaikanaodefaaDoorStackPush
import Derived.Test.YtdoaikanaodefaaDoorStackSeg
namespace Go.Proofs.YtdoaikanaodefaaDoor
open Go.RowKit
theorem FreshKB.open {w w' : World} {I : List Int} {L : List (List UInt8)} {b : Bool} {e : Ending} (h : FreshKB w I L b e w') :
    ∃ A c A' c' vs, e = .returned (.tuple #[.agg #[.slice A I.length c, .slice A' L.length c'], .bool b]) ∧ Hid (vs.length = L.length) ∧ InvF w w' [segI 3 (.slice A I.length c) I, segS 22 5 (.slice A' L.length c') vs L] := by
  obtain ⟨a, s, vs, rfl, hv, K⟩ := h
  obtain ⟨A, c, rfl, _⟩ := K.slI 3 (.head _)
  obtain ⟨A', c', rfl, _⟩ := K.slS 22 5 hv (.tail _ (.head _))
  exact ⟨A, c, A', c', vs, rfl, hv, K⟩
end Go.Proofs.YtdoaikanaodefaaDoor
