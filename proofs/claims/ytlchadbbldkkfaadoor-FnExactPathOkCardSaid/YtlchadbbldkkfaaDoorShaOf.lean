/- The contracts of shaWordsOf and of ShaBlock, as the program has them. -/
import Derived.Test.YtlchadbbldkkfaaDoorShaRound
namespace Go.Proofs.YtlchadbbldkkfaaDoor
open Go.ChangeShapes Go.WideShapes Go.ChangeAt Go.RowKit

theorem results_cell_tmp {P : Program} {fn : Func} {p q : Tmp} {ty : TypeId} (h : fn.results = #[.cell p ty, .tmp q]) (tmps : Array Value) (w : World) (g : Nat) (t : TypeId) (cs : Array Value) (fr : Nat × Nat) (d : TypeDesc) (x : Value)
    (hp : tmps.getD p undef = .pointer (some ⟨g, 0, none⟩)) (hq : tmps.getD q undef = x) (hg : w.heap[g]? = some (.cells cs t fr))
    (hu : P.underlying ty = some d) (hd : (match d with | .struct _ | .array _ _ => true | _ => false) = true) (hi : (P.info? ty).map (·.size) = some cs.size) :
    (results fn tmps).run P w = .ok (.tuple #[.agg cs, x]) w := by
  have hp' : tmps[p]?.getD undef = .pointer (some ⟨g, 0, none⟩) := by simpa using hp
  have hq' : tmps[q]?.getD undef = x := by simpa using hq
  simp [results, h, hp', hq', asAddr, run_loadVar_row w g t ty cs fr d hg hu hd hi]
/-- What shaWordsOf returns: whether h is eight words, and these words if so. -/
def OfW (h : List Int) (w : World) (e : Ending) (w' : World) : Prop :=
  ∃ ws : List Nat, ws.length = 8 ∧ (hOk h → ws = h.map Int.toNat) ∧ e = .returned (.tuple #[.agg (cw ws), .bool (decide (hOk h))]) ∧ Below w.heap.size w w'
/-- The words behind k rounds. -/
def ofK (h : List Int) (k : Nat) : List Nat := (h.take k).map Int.toNat ++ List.replicate (8 - k) 0
theorem ofK_length {h : List Int} (hl : h.length = 8) {k : Nat} (hk : k ≤ 8) : (ofK h k).length = 8 := by simp [ofK, hl]; omega
theorem ofK_set {h : List Int} (hl : h.length = 8) {k : Nat} (hk : k < 8) (x : Nat) (hx : it h k = (x : Int)) : (ofK h k).set k x = ofK h (k + 1) := by
  have e : ((h.take k).map Int.toNat).length = k := by simp [hl]; omega
  have e2 : 8 - k = (8 - (k + 1)) + 1 := by omega
  have e3 : h[k]? = some (x : Int) := by
    rw [List.getElem?_eq_getElem (by omega)]
    congr 1
    rw [← hx]
    simp [it, List.getD_eq_getElem?_getD, List.getElem?_eq_getElem (show k < h.length by omega)]
  unfold ofK
  rw [List.set_append_right _ _ (by omega), e, Nat.sub_self, e2, List.replicate_succ, List.set_cons_zero, List.take_add_one, e3]
  simp
theorem ofK_full {h : List Int} (hl : h.length = 8) : ofK h 8 = h.map Int.toNat := by simp [ofK, List.take_of_length_le (Nat.le_of_eq hl)]
theorem ownsI_nil (E : TypeId) (w : World) (B : Nat) : OwnI E w B (.slice none 0 0) [] := World.ownsRow_nil _ _ _ _
theorem shaBlockL_yes {h : List Int} {b : List UInt8} (ho : hOk h) (hb : b.length = 64) : shaBlockL h b = wi (blockW (h.map Int.toNat) b) := if_pos ⟨ho, hb⟩
theorem shaBlockL_no {h : List Int} {b : List UInt8} (ho : ¬ (hOk h ∧ b.length = 64)) : shaBlockL h b = [] := if_neg ho
end Go.Proofs.YtlchadbbldkkfaaDoor
