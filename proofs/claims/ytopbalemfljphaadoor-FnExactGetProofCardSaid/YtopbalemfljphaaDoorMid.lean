/- A box as a range of cells: whole structs by value out of it and into it. No program is named here. -/
import Derived.Test.YtopbalemfljphaaDoorBox10
import Derived.Deep.MidRow
namespace Go.Proofs.YtopbalemfljphaaDoor
open Go.RowKit Go.ChangeShapes Go.WideShapes Go.ChangeAt

/-- A result that lies in a variable of the call's own, whatever its cells are. -/
theorem results_cell_mid {P : Program} {fn : Func} {p : Tmp} {ty : TypeId} (h : fn.results = #[.cell p ty]) (tmps : Array Value) (w : World) (g o : Nat) (cs : List Value) (d : TypeDesc)
    (hp : tmps.getD p undef = .pointer (some ⟨g, o, none⟩)) (hr : w.rangeAt g o cs) (hu : P.underlying ty = some d) (hd : d.isRow = true) (hi : (P.info? ty).map (·.size) = some cs.length) :
    (results fn tmps).run P w = .ok (.agg cs.toArray) w := by
  have hp' : tmps[p]?.getD undef = .pointer (some ⟨g, o, none⟩) := by simpa using hp
  simp [results, h, hp', asAddr, run_loadVar_mid w g o ty cs d hr hu hd hi]
/-- The same beside two further results. -/
theorem results_cell3_mid {P : Program} {fn : Func} {p s t : Tmp} {ty : TypeId} (h : fn.results = #[.cell p ty, .tmp s, .tmp t]) (tmps : Array Value) (w : World) (g o : Nat) (cs : List Value) (d : TypeDesc) (x y : Value)
    (hp : tmps.getD p undef = .pointer (some ⟨g, o, none⟩)) (hx : tmps.getD s undef = x) (hy : tmps.getD t undef = y) (hr : w.rangeAt g o cs) (hu : P.underlying ty = some d) (hd : d.isRow = true) (hi : (P.info? ty).map (·.size) = some cs.length) :
    (results fn tmps).run P w = .ok (.tuple #[.agg cs.toArray, x, y]) w := by
  have hp' : tmps[p]?.getD undef = .pointer (some ⟨g, o, none⟩) := by simpa using hp
  have hx' : tmps[s]?.getD undef = x := by simpa using hx
  have hy' : tmps[t]?.getD undef = y := by simpa using hy
  simp [results, h, hp', hx', hy', asAddr, run_loadVar_mid w g o ty cs d hr hu hd hi]

section
variable {W w : World} {ss : List (List Row)} {T : TypeId} {g : Nat}
theorem InvF.rangeX {xs : List Value} (H : InvF W w ss) (h : segX T g xs ∈ ss) : w.rangeAt g 0 xs := fun j v hv => by
  rw [Nat.zero_add]
  exact H.atX h j hv
/-- The last five of ten. -/
theorem InvF.range5 {a b c d e f i j k m : Value} (H : InvF W w ss) (h : segX T g [a, b, c, d, e, f, i, j, k, m] ∈ ss) : w.rangeAt g 5 [f, i, j, k, m] := fun n v hv =>
  H.atX h (5 + n) (by rw [Nat.add_comm]; exact hv)
theorem InvF.thereX {xs : List Value} (H : InvF W w ss) (h : segX T g xs ∈ ss) (o n : Nat) (hn : o + n ≤ xs.length) : w.there g o n := fun j hj => by
  have hl : o + j < xs.length := by omega
  refine ⟨?_, H.frX h (o + j)⟩
  rw [H.atX h (o + j) (List.getElem?_eq_getElem hl)]
  rfl
/-- Ten cells are written over. -/
theorem InvF.sets10 {a b c d e f i j k m : Value} (H : InvF W w (segX T g [a, b, c, d, e, f, i, j, k, m] :: ss)) (a' b' c' d' e' f' i' j' k' m' : Value) :
    InvF W (w.setCells g 0 [a', b', c', d', e', f', i', j', k', m']) (segX T g [a', b', c', d', e', f', i', j', k', m'] :: ss) := H.over10 a' b' c' d' e' f' i' j' k' m'
/-- The last five of ten are written over. -/
theorem InvF.sets5 {a b c d e f i j k m : Value} (H : InvF W w (segX T g [a, b, c, d, e, f, i, j, k, m] :: ss)) (f' i' j' k' m' : Value) :
    InvF W (w.setCells g 5 [f', i', j', k', m']) (segX T g [a, b, c, d, e, f', i', j', k', m'] :: ss) := H.over10b f' i' j' k' m'
end
/-- A list written over from place o on. -/
def wroteL (xs : List Value) (o : Nat) : List Value → List Value
  | [] => xs
  | v :: r => wroteL (xs.set o v) (o + 1) r
/-- Any cells of a box of any size are written over. -/
theorem InvF.setsL {W : World} {ss : List (List Row)} {T : TypeId} {g : Nat} : ∀ (vs : List Value) (o : Nat) (w : World) (xs : List Value), InvF W w (segX T g xs :: ss) → InvF W (w.setCells g o vs) (segX T g (wroteL xs o vs) :: ss)
  | [], _, _, _, H => H
  | v :: r, o, _, _, H => InvF.setsL r (o + 1) _ _ (H.setX o v)
/-- Any part of a box of any size. -/
theorem InvF.rangeP {W w : World} {ss : List (List Row)} {T : TypeId} {g : Nat} {xs : List Value} (H : InvF W w ss) (h : segX T g xs ∈ ss) (o n : Nat) : w.rangeAt g o ((xs.drop o).take n) := fun j v hv => by
  have hj : j < n := by
    have := (List.getElem?_eq_some_iff.1 hv).1
    rw [List.length_take] at this
    omega
  rw [List.getElem?_take_of_lt hj, List.getElem?_drop] at hv
  exact H.atX h (o + j) hv
end Go.Proofs.YtopbalemfljphaaDoor
