/- A drawn region whose operations only read, and whose calls change nothing that was there: one walk in the order of the text, in the class of all worlds in which the rows ss stand. No program is named here. -/
import Derived.Test.YtopbalemfljphaaDoorBox
import Derived.BigQuiet
namespace Go.Proofs.YtopbalemfljphaaDoor
open Go.RowKit

/-- A world in which the rows ss stand. -/
structure WF (W : World) (ss : List (List Row)) where
  w : World
  h : InvF W w ss
/-- The class of these worlds. -/
def InWF (W : World) (ss : List (List Row)) (w : World) : Prop := ∃ x : WF W ss, w = x.w
section
variable {P : Program} {W w : World} {ss : List (List Row)}
theorem wp_region_wf {id : Nat} {Q : Exit → Act → World → Prop} {a : Act} {l : List Oper} (hm : P.follows .mixedOrders = true) (hB : Region.lexB .any l.toArray = true) (hS : InvF W w ss)
    (h : wpQuiet P l.toArray (fun w' => ∃ x : WF W ss, w' = x.w) (fun a' => ∀ w', (∃ x : WF W ss, w' = x.w) → Q .normal a' w') l a) : (Code.region id l.toArray true).wp P Q a w :=
  wp_region_quiet (C := fun w' => ∃ x : WF W ss, w' = x.w) hm hB ⟨⟨w.drew, hS.drew1⟩, rfl⟩ (by simpa using h)
/-- A call that leaves what was there. -/
theorem WF.below (x : WF W ss) {f : FuncId} {args : Array Value} {v : Value} (h : Calls P f args x.w (fun e w' => e = .returned v ∧ Below x.w.heap.size x.w w')) :
    Calls P f args x.w (fun e w' => e = .returned v ∧ ∃ y : WF W ss, w' = y.w) :=
  h.mono fun _ w' hh => ⟨hh.1, ⟨w', x.h.up hh.2⟩, rfl⟩
theorem WF.same (x : WF W ss) {f : FuncId} {args : Array Value} {v : Value} (h : Calls P f args x.w (fun e w' => e = .returned v ∧ x.w = w')) :
    Calls P f args x.w (fun e w' => e = .returned v ∧ ∃ y : WF W ss, w' = y.w) :=
  h.mono fun _ _ hh => ⟨hh.1, x, hh.2.symm⟩
end
end Go.Proofs.YtopbalemfljphaaDoor
