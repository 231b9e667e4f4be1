/- What the listed arrays of words give a walk; and worlds that meet the condition. -/
import Derived.Test.YtdoaikanaodefaaDoorPutBig
import Derived.LaidMore
import Derived.LaidHandle
import Derived.LaidLaws
import Derived.ChangeVars
import Derived.JoinedOf
import Derived.Lib.LaidTab
import Derived.Stop.Joined
import Derived.OpenVars
import Derived.OpenShut
namespace Go.Proofs.YtdoaikanaodefaaDoor
open Go.ChangeShapes Go.WideShapes Go.RowKit

theorem inNamed : Tryd.prog.globalNamed "loop.example/g00790/impl.shaInitial" = some 0 := by kernel_rfl
theorem inType : (Tryd.prog.globals[0]?).map (·.type) = some 105 := by kernel_rfl
theorem rdNamed : Tryd.prog.globalNamed "loop.example/g00790/impl.shaRounds" = some 1 := by kernel_rfl
theorem rdType : (Tryd.prog.globals[1]?).map (·.type) = some 129 := by kernel_rfl
theorem cellsU32 : Tryd.prog.cellsOf 103 = 1 := by kernel_rfl
theorem cellsW8 : Tryd.prog.cellsOf 105 = 8 := by kernel_rfl
theorem cellsW64 : Tryd.prog.cellsOf 129 = 64 := by kernel_rfl
theorem gs_1 {H : Type} {enc : TypeId × Value → H} {P : Program} {w : World} {sp : Nat → Bool} {n : String} {gs : List (DataW H)} {q : List MemPlace} (h : DataW.TrodVars enc P w sp [n] gs q) : ∃ d, gs = [d] := by
  obtain ⟨_, _, _, _, d, _, e, _⟩ := trodVars_one h
  exact ⟨d, e⟩
theorem gs_2 {H : Type} {enc : TypeId × Value → H} {P : Program} {w : World} {sp : Nat → Bool} {n m : String} {gs : List (DataW H)} {q : List MemPlace} (h : DataW.TrodVars enc P w sp [n, m] gs q) : ∃ d e, gs = [d, e] := by
  obtain ⟨_, _, _, _, d, _, _, _, _, _, d', _, e, _⟩ := trodVars_two h
  exact ⟨d, d', e⟩
/-- The lists of the rows that name the first words, the constants, and both. -/
def ldI : List (String × DataW Unit) := [("loop.example/g00790/impl.shaInitial", Rows.laid_loop_example_g00790_impl_shaInitial)]
def ldR : List (String × DataW Unit) := [("loop.example/g00790/impl.shaRounds", Rows.laid_loop_example_g00790_impl_shaRounds)]
def ldIR : List (String × DataW Unit) := [("loop.example/g00790/impl.shaInitial", Rows.laid_loop_example_g00790_impl_shaInitial), ("loop.example/g00790/impl.shaRounds", Rows.laid_loop_example_g00790_impl_shaRounds)]
theorem init_of_ldI {W : World} (h : laidMetH Tryd.prog ldI W) : Glob W 0 initW := by
  rw [MakeChecks.laidMetH_plain _ _ _ (by kernel_rfl)] at h
  obtain ⟨ps, ⟨g0, t0, cs0, f0, p0, q0, hg0, ht0, hv0, hd0, _, _⟩, _, _⟩ := h
  obtain rfl := Option.some.inj (inNamed.symm.trans hg0)
  obtain rfl := Option.some.inj (inType.symm.trans ht0)
  refine glob_of_tab inNamed ?_
  unfold Lib.TabIs
  rw [hv0, ← Lib.cells_of_tab (k := .u32) (zs := wi initW) wDesc Tryd.underlying103 cellsU32 cellsW8 hd0]
theorem rounds_of_ldR {W : World} (h : laidMetH Tryd.prog ldR W) : Glob W 1 kk := by
  rw [MakeChecks.laidMetH_plain _ _ _ (by kernel_rfl)] at h
  obtain ⟨ps, ⟨g0, t0, cs0, f0, p0, q0, hg0, ht0, hv0, hd0, _, _⟩, _, _⟩ := h
  obtain rfl := Option.some.inj (rdNamed.symm.trans hg0)
  obtain rfl := Option.some.inj (rdType.symm.trans ht0)
  refine glob_of_tab rdNamed ?_
  unfold Lib.TabIs
  rw [hv0, ← Lib.cells_of_tab (k := .u32) (zs := wi kk) sDesc Tryd.underlying103 cellsU32 cellsW64 hd0]
theorem both_of_ldIR {W : World} (h : laidMetH Tryd.prog ldIR W) : Glob W 0 initW ∧ Glob W 1 kk := by
  rw [MakeChecks.laidMetH_plain _ _ _ (by kernel_rfl)] at h
  obtain ⟨ps, ⟨g0, t0, cs0, f0, p0, q0, hg0, ht0, hv0, hd0, ⟨g1, t1, cs1, f1, p1, q1, hg1, ht1, hv1, hd1, _, _⟩, _⟩, _, _⟩ := h
  obtain rfl := Option.some.inj (inNamed.symm.trans hg0)
  obtain rfl := Option.some.inj (inType.symm.trans ht0)
  obtain rfl := Option.some.inj (rdNamed.symm.trans hg1)
  obtain rfl := Option.some.inj (rdType.symm.trans ht1)
  constructor
  · refine glob_of_tab inNamed ?_
    unfold Lib.TabIs
    rw [hv0, ← Lib.cells_of_tab (k := .u32) (zs := wi initW) wDesc Tryd.underlying103 cellsU32 cellsW8 hd0]
  · refine glob_of_tab rdNamed ?_
    unfold Lib.TabIs
    rw [hv1, ← Lib.cells_of_tab (k := .u32) (zs := wi kk) sDesc Tryd.underlying103 cellsU32 cellsW64 hd1]
set_option maxRecDepth 100000 in
theorem door_ldI (os : Os) (args : Array Value) : laidMetH Tryd.prog ldI ((World.doorLaid Tryd.prog 400 os).forCall (fun _ _ => 0) ⟨#[], args, []⟩).memory :=
  laidMetH_of_parts3 (fuel := 8) (laidMet_of_run' 8 (by kernel_rfl) (by kernel_rfl)) (by kernel_rfl) (by kernel_rfl)
set_option maxRecDepth 100000 in
theorem door_ldR (os : Os) (args : Array Value) : laidMetH Tryd.prog ldR ((World.doorLaid Tryd.prog 400 os).forCall (fun _ _ => 0) ⟨#[], args, []⟩).memory :=
  laidMetH_of_parts3 (fuel := 8) (laidMet_of_run' 8 (by kernel_rfl) (by kernel_rfl)) (by kernel_rfl) (by kernel_rfl)
set_option maxRecDepth 100000 in
theorem door_ldIR (os : Os) (args : Array Value) : laidMetH Tryd.prog ldIR ((World.doorLaid Tryd.prog 400 os).forCall (fun _ _ => 0) ⟨#[], args, []⟩).memory :=
  laidMetH_of_parts3 (fuel := 8) (laidMet_of_run' 8 (by kernel_rfl) (by kernel_rfl)) (by kernel_rfl) (by kernel_rfl)
end Go.Proofs.YtdoaikanaodefaaDoor
