/- What the three tables, errors.errorType and the two errors of strconv give a walk; and a world that meets the condition. -/
import Derived.Test.YtahfklghnbpadaaDoorTextNum
import Derived.Test.YtahfklghnbpadaaDoorLaid
import Derived.LaidMore
import Derived.LaidHandle
import Derived.LaidLaws
import Derived.ChangeVars
import Derived.JoinedOf
import Derived.Lib.LaidTab
import Derived.Stop.Joined
import Derived.Stop.LaidErr
import Derived.Stop.LaidTwo
namespace Go.Proofs.YtahfklghnbpadaaDoor
open Go.ChangeShapes Go.WideShapes Go.RowKit

theorem tabType6 : (Tryd.prog.globals[4]?).map (·.type) = some 125 := by kernel_rfl
theorem cellsU646 : Tryd.prog.cellsOf 107 = 1 := by kernel_rfl
theorem cellsTab6 : Tryd.prog.cellsOf 125 = 20 := by kernel_rfl
theorem synType6 : (Tryd.prog.globals[1]?).map (·.type) = some 54 := by kernel_rfl
theorem rngType6 : (Tryd.prog.globals[2]?).map (·.type) = some 54 := by kernel_rfl
theorem cellsErr6 : Tryd.prog.cellsOf 123 = 1 := by kernel_rfl
theorem cellsStr6 : Tryd.prog.cellsOf 9 = 1 := by kernel_rfl
theorem errStar6 : "*" ++ "errors.errorString" = "*errors.errorString" := by decide
theorem rowErr6 (u : TypeId) (h : Tryd.prog.typeName? 3 u = some "*errors.errorString") : u = 121 :=
  typeName_ptr_named (nm := "errors.errorString") (by rw [errStar6]; kernel_rfl) (by kernel_rfl) (by decide) u (by rw [errStar6]; exact h)
/-- The list of a row that names all six. -/
def ld6 : List (String × DataW Unit) := [("math/bits.deBruijn32tab", Rows.laid_math_bits_deBruijn32tab), ("math/bits.deBruijn64tab", Rows.laid_math_bits_deBruijn64tab), ("internal/strconv.uint64pow10", Rows.laid_internal_strconv_uint64pow10), ("errors.errorType", Rows.laid_errors_errorType), ("strconv.ErrRange", Rows.laid_strconv_ErrRange), ("strconv.ErrSyntax", Rows.laid_strconv_ErrSyntax)]
/-- Those of them that are no handle. -/
def ld6d : List (String × DataW Unit) := [("math/bits.deBruijn32tab", Rows.laid_math_bits_deBruijn32tab), ("math/bits.deBruijn64tab", Rows.laid_math_bits_deBruijn64tab), ("internal/strconv.uint64pow10", Rows.laid_internal_strconv_uint64pow10), ("strconv.ErrRange", Rows.laid_strconv_ErrRange), ("strconv.ErrSyntax", Rows.laid_strconv_ErrSyntax)]
theorem ld6_some : (ld6.filter fun x => x.2.handleName?.isSome) = ld1 := by kernel_rfl
theorem ld6_none : (ld6.filter fun x => x.2.handleName?.isNone) = ld6d := by kernel_rfl
theorem of_ld6 {W : World} (h0 : laidMetH Tryd.prog ld6 W) : ErrT W ∧ ErrVars W ∧ Tab10 W := by
  have h1 : laidMet Tryd.prog ld6d W ∧ handlesMet Tryd.prog ld1 W := by
    unfold laidMetH at h0
    rw [ld6_some, ld6_none] at h0
    exact h0
  obtain ⟨h, hh⟩ := h1
  refine ⟨errT_of_handles hh (List.mem_singleton.2 rfl), ?_⟩
  have h2 : laidMet Tryd.prog [("internal/strconv.uint64pow10", Rows.laid_internal_strconv_uint64pow10), ("strconv.ErrRange", Rows.laid_strconv_ErrRange), ("strconv.ErrSyntax", Rows.laid_strconv_ErrSyntax)] W := h.tail.tail
  have h3 := h2.tail
  obtain ⟨a0, a1, s0, s1, c0, c1, t0, t1, hv0, hv1, _⟩ := laid_sentinels2 h3 errRngNamed rngType6 errSynNamed synType6 Tryd.underlying54 rowErr6 Tryd.underlying121 Tryd.underlying123 rfl rfl Tryd.underlying9 cellsErr6 cellsStr6
  refine ⟨⟨⟨_, _, hv1⟩, _, _, hv0⟩, ?_⟩
  obtain ⟨ps, ⟨g2, t2, cs2, f2, p2, q2, hg2, ht2, hv2, hd2, _, _⟩, _, _⟩ := h2
  obtain rfl := Option.some.inj (tabNamed.symm.trans hg2)
  obtain rfl := Option.some.inj (tabType6.symm.trans ht2)
  unfold Tab10 Lib.TabIs
  rw [hv2, ← Lib.cells_of_tab (k := .u64) (zs := Lib.pow10Tab) Tryd.underlying125 Tryd.underlying107 cellsU646 cellsTab6 hd2]
set_option maxRecDepth 100000 in
theorem door_ld6 (os : Os) (args : Array Value) : laidMetH Tryd.prog ld6 ((World.doorLaid Tryd.prog 400 os).forCall (fun _ _ => 0) ⟨#[], args, []⟩).memory :=
  laidMetH_of_parts3 (fuel := 8) (laidMet_of_run' 8 (by kernel_rfl) (by kernel_rfl)) (by kernel_rfl) (by kernel_rfl)
end Go.Proofs.YtahfklghnbpadaaDoor
