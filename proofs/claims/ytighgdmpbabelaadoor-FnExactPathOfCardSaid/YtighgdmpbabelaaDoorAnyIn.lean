/- Regions that draw their order within a round of a range over a function: what holds of such a region outside holds of it there, if nothing is deferred. No program is named here. -/
import Derived.Test.YtighgdmpbabelaaDoorAnyLate
import Derived.OrdersIn
import Derived.RangeFuncCalls
namespace Go.Proofs.YtighgdmpbabelaaDoor
open Go.RowKit

/-- What is asked of the normal end alone. -/
def OnlyN (Q : Exit → Act → World → Prop) : Exit → Act → World → Prop
  | .normal, a, w => Q .normal a w
  | _, _, _ => False
theorem OnlyN.imp {Q : Exit → Act → World → Prop} : ∀ (e : Exit) (a : Act) (w : World), OnlyN Q e a w → Q e a w := fun e a w h => by
  cases e <;> first | exact h | exact (h : False).elim
def noDefer (ops : Array Oper) : Bool := ops.all fun o => match o.op with
  | .defer _ => false
  | _ => true

section
variable {P : Program} {ops : Array Oper} {Q : Exit → Act → World → Prop} {md : Region.Mode} {l n : Nat}
theorem noDefer_spec (h : noDefer ops = true) {o : Oper} {i : Nat} (ho : ops[i]? = some o) : ∀ c, o.op ≠ .defer c := by
  intro c hc
  unfold noDefer at h
  rw [Array.all_eq_true_iff_forall_mem] at h
  have := h o (Array.mem_of_getElem? ho)
  rw [hc] at this
  cases this

theorem operIn_of {o : Oper} (hnd : ∀ c, o.op ≠ .defer c) {a : Act} {w : World} {K K' : Act → World → Prop} (hK : ∀ a w, K a w → K' a w) (h : o.wp P a w K (OnlyN Q)) : o.wpIn (Fence.wide.inRound l) n P a w K' (OnlyN Q) := by
  unfold Oper.wpIn
  refine ⟨fun _ _ => trivial, ?_⟩
  rw [Fence.inRound_round, Oper.semAt_some l _ _ hnd]
  unfold Oper.wp at h
  generalize (execOp a.eval o).run P w = r at h ⊢
  cases r with
  | ok x w' =>
    cases x with
    | value v => exact hK _ _ h
    | skip => exact hK _ _ h
    | defer d => exact hK _ _ h
    | enter f args =>
      refine ⟨(fun e => by cases e), CallsIn.inRound l ((callsIn_wide (n := n - 1)).2 ?_)⟩
      exact Calls.mono h fun e w'' he => by
        cases e with
        | returned v => exact hK _ _ he
        | panicked c => exact he
        | outgrown => exact he
    | row row args =>
      refine ⟨(fun e => by cases e), fun c cs _ => ?_⟩
      obtain ⟨v, w2, hr, hs⟩ := h c cs
      exact ⟨v, w2, hK _ _ hr, stepsIn_wide.2 hs⟩
    | _ => exact (h : False).elim
  | halt x w' => cases x <;> exact h

theorem wpOpIn_of {i : Nat} (hnd : noDefer ops = true) {a : Act} {w : World} {K K' : Act → World → Prop} (hK : ∀ a w, K a w → K' a w) (h : wpOp P ops (OnlyN Q) i K a w) : wpOpIn (Fence.wide.inRound l) n P ops (OnlyN Q) i K' a w := by
  unfold wpOp at h
  unfold wpOpIn
  cases ho : ops[i]? with
  | none => rw [ho] at h; exact hK _ _ h
  | some o =>
    rw [ho] at h
    simp only at h ⊢
    split
    · rename_i hw
      rw [if_pos hw] at h
      rcases h with h | ⟨_, a', w', h⟩
      · exact operIn_of (noDefer_spec hnd ho) hK h
      · exact (h : False).elim
    · rename_i hw
      rw [if_neg hw] at h
      exact ⟨fun _ _ => trivial, hK _ _ h⟩

theorem wpAnyIn_of (hnd : noDefer ops = true) : ∀ (fuel : Nat) (listed : Array Bool) (a : Act) (w : World), wpAny P md ops (OnlyN Q) fuel listed a w → wpAnyIn (Fence.wide.inRound l) n P md ops (OnlyN Q) fuel listed a w := by
  intro fuel
  induction fuel with
  | zero => exact fun _ _ _ h => h
  | succ fuel ih => exact fun listed a w h => ⟨h.1, fun i hi => wpOpIn_of hnd (ih _) (h.2 i hi)⟩

/-- **A region that draws its order, within a round.** The head: the first m operations, each by its own specification; the tail waits for all of them. -/
theorem wpIn_region_head {id : Nat} {a0 : Act} {w0 : World} (m : Nat) (Sp : Nat → World → (Nat → Value) → Prop) (hm : P.follows .mixedOrders = true) (hck : headLate .any ops m a0.tmps.size (fun _ => false) = true) (hnd : noDefer ops = true)
    (hup : ∀ i w w' vs vs', i < m → Sp i w vs → Below w.heap.size w w' → (∀ k, (k = i ∨ preq .any ops ops.size i k = true) → vs k = vs' k) → Sp i w' vs')
    (hstep : ∀ i o, i < m → ops[i]? = some o → ∀ (vs : Nat → Value) (w : World), Below w0.heap.size w0 w → (∀ j, preq .any ops ops.size i j = true → Sp j w vs) →
      o.wp P (putAll ops vs m a0) w (fun b' w' => b'.defers = a0.defers ∧ Below w.heap.size w w' ∧ Sp i w' (upd vs i (valOf b' o.dst))) (fun _ _ _ => False))
    (hend : ∀ (vs : Nat → Value) (w : World), Below w0.heap.size w0 w → (∀ j, j < m → Sp j w vs) → wpAny P .any ops (OnlyN Q) (ops.size - m) (doneB m ops.size) (putAll ops vs m a0) w) :
    (Code.region id ops true).wpIn (Fence.wide.inRound l) n P Q a0 w0 := by
  refine wpIn_mono (wpIn_region_any hm (wpAnyIn_of hnd _ _ _ _ (wpAny_late (Q := OnlyN Q) m (fun _ => false) a0 w0 Sp hck (fun _ _ _ _ _ h => h.elim) hup (fun _ _ _ h => by cases h) (fun i o hi _ ho => hstep i o hi ho) hend ops.size _ a0 _ (by simp) ?_))) OnlyN.imp
  have hl : ∀ j d, (Array.replicate ops.size false).getD j d = if j < ops.size then false else d := fun j d => by
    rw [Array.getD_eq_getD_getElem?, Array.getElem?_replicate]
    split <;> rfl
  refine ⟨by simp, fun j _ hj => by rw [hl, if_pos hj], rfl, rfl, fun _ _ => rfl, below_drewN (Below.refl _ _) 1, fun j hj hlj => ?_, fun j o _ hlj => ?_⟩
  all_goals
    rw [hl] at hlj
    split at hlj <;> cases hlj
end
end Go.Proofs.YtighgdmpbabelaaDoor
