/- What the three tables and the two errors of strconv give a walk; and a world that meets the condition. -/
import Derived.Test.YtemjagdlbehboaaDoorTextNum
import Derived.LaidMore
import Derived.LaidHandle
import Derived.LaidLaws
import Derived.ChangeVars
import Derived.JoinedOf
import Derived.Lib.LaidTab
import Derived.Stop.Joined
import Derived.Stop.LaidErr
import Derived.Stop.LaidTwo
namespace Go.Proofs.YtemjagdlbehboaaDoor
open Go.ChangeShapes Go.WideShapes Go.RowKit

theorem tabType5 : (Tryd.prog.globals[3]?).map (·.type) = some 82 := by kernel_rfl
theorem cellsU64_5 : Tryd.prog.cellsOf 69 = 1 := by kernel_rfl
theorem cellsTab5 : Tryd.prog.cellsOf 82 = 20 := by kernel_rfl
theorem synType : (Tryd.prog.globals[1]?).map (·.type) = some 49 := by kernel_rfl
theorem rngType : (Tryd.prog.globals[2]?).map (·.type) = some 49 := by kernel_rfl
theorem cellsErr : Tryd.prog.cellsOf 89 = 1 := by kernel_rfl
theorem cellsStr : Tryd.prog.cellsOf 9 = 1 := by kernel_rfl
theorem errStar : "*" ++ "errors.errorString" = "*errors.errorString" := by decide
theorem rowErr (u : TypeId) (h : Tryd.prog.typeName? 3 u = some "*errors.errorString") : u = 87 :=
  typeName_ptr_named (nm := "errors.errorString") (by rw [errStar]; kernel_rfl) (by kernel_rfl) (by decide) u (by rw [errStar]; exact h)
/-- The list of a row that names the three tables and the two errors. -/
def ld5 : List (String × DataW Unit) := [("math/bits.deBruijn32tab", Rows.laid_math_bits_deBruijn32tab), ("math/bits.deBruijn64tab", Rows.laid_math_bits_deBruijn64tab), ("internal/strconv.uint64pow10", Rows.laid_internal_strconv_uint64pow10), ("strconv.ErrRange", Rows.laid_strconv_ErrRange), ("strconv.ErrSyntax", Rows.laid_strconv_ErrSyntax)]
theorem of_ld5 {W : World} (h : laidMetH Tryd.prog ld5 W) : ErrVars W ∧ Tab10 W := by
  rw [MakeChecks.laidMetH_plain _ _ _ (by kernel_rfl)] at h
  have h2 : laidMet Tryd.prog [("internal/strconv.uint64pow10", Rows.laid_internal_strconv_uint64pow10), ("strconv.ErrRange", Rows.laid_strconv_ErrRange), ("strconv.ErrSyntax", Rows.laid_strconv_ErrSyntax)] W := h.tail.tail
  have h3 := h2.tail
  obtain ⟨a0, a1, s0, s1, c0, c1, t0, t1, hv0, hv1, _⟩ := laid_sentinels2 h3 errRngNamed rngType errSynNamed synType Tryd.underlying49 rowErr Tryd.underlying87 Tryd.underlying89 rfl rfl Tryd.underlying9 cellsErr cellsStr
  refine ⟨⟨⟨_, _, hv1⟩, _, _, hv0⟩, ?_⟩
  obtain ⟨ps, ⟨g2, t2, cs2, f2, p2, q2, hg2, ht2, hv2, hd2, _, _⟩, _, _⟩ := h2
  obtain rfl := Option.some.inj (tabNamed.symm.trans hg2)
  obtain rfl := Option.some.inj (tabType5.symm.trans ht2)
  unfold Tab10 Lib.TabIs
  rw [hv2, ← Lib.cells_of_tab (k := .u64) (zs := Lib.pow10Tab) Tryd.underlying82 Tryd.underlying69 cellsU64_5 cellsTab5 hd2]
theorem wf_hi {n : Int} (h : (Lit.int .i64 n).wf = true) : n ≤ 9223372036854775807 := by
  simp [Lit.wf, IntKind.min, IntKind.max, IntKind.signed, IntKind.bits] at h
  omega
set_option maxRecDepth 100000 in
theorem door_ld5 (os : Os) (args : Array Value) : laidMetH Tryd.prog ld5 ((World.doorLaid Tryd.prog 400 os).forCall (fun _ _ => 0) ⟨#[], args, []⟩).memory :=
  laidMetH_of_parts3 (fuel := 8) (laidMet_of_run' 8 (by kernel_rfl) (by kernel_rfl)) (by kernel_rfl) (by kernel_rfl)
end Go.Proofs.YtemjagdlbehboaaDoor
