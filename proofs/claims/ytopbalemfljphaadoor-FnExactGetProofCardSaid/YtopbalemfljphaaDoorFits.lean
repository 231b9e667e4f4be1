/- Whether the certificate of a header matches it: l13Fits of the model, matchError of the program. -/
import Derived.Test.YtopbalemfljphaaDoorMid
import Derived.Test.YtopbalemfljphaaDoorLimits
import Derived.Test.YtopbalemfljphaaDoorWat
namespace Go.Proofs.YtopbalemfljphaaDoor
open Go.ChangeShapes Go.WideShapes Go.ChangeAt Go.RowKit
set_option linter.unusedSimpArgs false

/-- The certificate is one for the parent. -/
def fitsB (x y qx qy : Int) (l ql : List UInt8) : Bool := decide (qx < x) && (decide (qy = y - 1) && (ql == l))
/-- What matchError returns. -/
def matchV (b : Bool) : Value := if b = true then .nilIface else .iface 83 (.agg #[.int .i64 6])
theorem matchV_no : matchV false = .iface 83 (.agg #[.int .i64 6]) := rfl
theorem matchV_yes : matchV true = .nilIface := rfl
set_option maxRecDepth 100000 in
set_option maxHeartbeats 4000000 in
theorem l13Fits_any (x y z qx qy : Int) (a b qa qb qs : Value) (l k ql qk : List UInt8) (L : List (List UInt8)) (w : World) (ha : Sl w w.heap.size a l) (hb : Sl w w.heap.size b k) (hqa : Sl w w.heap.size qa ql) (hqb : Sl w w.heap.size qb qk) (hqs : SlS w w.heap.size qs L) (hy0 : 0 ≤ y) (hy1 : y ≤ 1152921504606846975) :
    Calls Tryd.prog 62 #[.agg #[.int .i64 x, .int .i64 y, .int .i64 z, a, b, .int .i64 qx, .int .i64 qy, qa, qb, qs]] w (BoolB w (fitsB x y qx qy l ql)) := by
  obtain ⟨A, ac, rfl, p1, p2, p0, p3⟩ := id ha
  clear p1 p2 p0 p3
  obtain ⟨B, bc, rfl, p1, p2, p0, p3⟩ := id hb
  clear p1 p2 p0 p3
  obtain ⟨C, cc, rfl, p1, p2, p0, p3⟩ := id hqa
  clear p1 p2 p0 p3
  obtain ⟨D, dc, rfl, p1, p2, p0, p3⟩ := id hqb
  clear p1 p2 p0 p3
  obtain ⟨E, ec, rfl, p1, p2, p0, p3⟩ := id hqs
  clear p1 p2 p0 p3
  have hB : Below w.heap.size w (w.alloc (.cells #[.int .i64 x, .int .i64 y, .int .i64 z, .slice A l.length ac, .slice B k.length bc, .int .i64 qx, .int .i64 qy, .slice C ql.length cc, .slice D qk.length dc, .slice E L.length ec] 78)) := (Below.refl _ w).alloc (Nat.le_refl _) _
  obtain ⟨R, hR⟩ : ∃ R, R = fitsB x y qx qy l ql := ⟨_, rfl⟩
  rw [← hR]
  unfold fitsB at hR
  have HR := Lib.hid hR
  clear hR
  by_cases h1 : qx < x
  rotate_left
  · obtain rfl : R = false := by rw [HR.out]; simp [h1]
    have H1 := Lib.hid h1
    go_enter Tryd.func62, Tryd.ntmps62
    go_wp2
    go_ret
    exact ⟨rfl, hB⟩
  by_cases h2 : qy = y - 1
  rotate_left
  · obtain rfl : R = false := by rw [HR.out]; simp [h2]
    have H1 := Lib.hid h1
    go_enter Tryd.func62, Tryd.ntmps62
    go_wp2
    go_ret
    exact ⟨rfl, hB⟩
  have hS := fun W h h' => specSameBytes_any (.slice C ql.length cc) (.slice A l.length ac) ql l W h h'
  obtain ⟨x2, g2⟩ : ∃ x2, x2 = (ql == l) := ⟨_, rfl⟩
  subst h2
  obtain rfl : R = x2 := by rw [HR.out, g2]; simp [h1]
  simp only [← g2] at hS
  have HS := Lib.hid hS
  clear hS g2 HR
  have H1 := Lib.hid h1
  go_enter Tryd.func62, Tryd.ntmps62
  go_wp2_with fail
  refine (HS.out _ (hqa.up hB) (ha.up hB)).mono ?_
  rintro e w' ⟨rfl, rfl⟩
  rcases R with _ | _
  · go_wp2
    go_ret
    exact ⟨rfl, hB⟩
  · go_wp2
    go_ret
    exact ⟨rfl, hB⟩

set_option maxRecDepth 100000 in
set_option maxHeartbeats 4000000 in
theorem matchError_any (x y z qx qy : Int) (a b qa qb qs : Value) (l k ql qk : List UInt8) (L : List (List UInt8)) (w : World) (ha : Sl w w.heap.size a l) (hb : Sl w w.heap.size b k) (hqa : Sl w w.heap.size qa ql) (hqb : Sl w w.heap.size qb qk) (hqs : SlS w w.heap.size qs L) (hy0 : 0 ≤ y) (hy1 : y ≤ 1152921504606846975) :
    Calls Tryd.prog 68 #[.agg #[.int .i64 x, .int .i64 y, .int .i64 z, a, b, .int .i64 qx, .int .i64 qy, qa, qb, qs]] w (fun e w' => e = .returned (matchV (fitsB x y qx qy l ql)) ∧ Below w.heap.size w w') := by
  obtain ⟨A, ac, rfl, p1, p2, p0, p3⟩ := id ha
  clear p1 p2 p0 p3
  obtain ⟨B, bc, rfl, p1, p2, p0, p3⟩ := id hb
  clear p1 p2 p0 p3
  obtain ⟨C, cc, rfl, p1, p2, p0, p3⟩ := id hqa
  clear p1 p2 p0 p3
  obtain ⟨D, dc, rfl, p1, p2, p0, p3⟩ := id hqb
  clear p1 p2 p0 p3
  obtain ⟨E, ec, rfl, p1, p2, p0, p3⟩ := id hqs
  clear p1 p2 p0 p3
  have hB : Below w.heap.size w (w.alloc (.cells #[.int .i64 x, .int .i64 y, .int .i64 z, .slice A l.length ac, .slice B k.length bc, .int .i64 qx, .int .i64 qy, .slice C ql.length cc, .slice D qk.length dc, .slice E L.length ec] 78)) := (Below.refl _ w).alloc (Nat.le_refl _) _
  obtain ⟨R, hR⟩ : ∃ R, R = fitsB x y qx qy l ql := ⟨_, rfl⟩
  rw [← hR]
  unfold fitsB at hR
  have HR := Lib.hid hR
  clear hR
  by_cases h1 : qx < x
  rotate_left
  · obtain rfl : R = false := by rw [HR.out]; simp [h1]
    have H1 := Lib.hid h1
    go_enter Tryd.func68, Tryd.ntmps68
    go_wp2
    go_ret
    exact ⟨rfl, hB⟩
  by_cases h2 : qy = y - 1
  rotate_left
  · obtain rfl : R = false := by rw [HR.out]; simp [h2]
    have H1 := Lib.hid h1
    go_enter Tryd.func68, Tryd.ntmps68
    go_wp2
    go_ret
    exact ⟨rfl, hB⟩
  have hS := fun W h h' => implSameBytes_any (.slice C ql.length cc) (.slice A l.length ac) ql l W h h'
  obtain ⟨x2, g2⟩ : ∃ x2, x2 = (ql == l) := ⟨_, rfl⟩
  subst h2
  obtain rfl : R = x2 := by rw [HR.out, g2]; simp [h1]
  simp only [← g2] at hS
  have HS := Lib.hid hS
  clear hS g2 HR
  have H1 := Lib.hid h1
  go_enter Tryd.func68, Tryd.ntmps68
  go_wp2_with fail
  refine (HS.out _ (hqa.up hB) (ha.up hB)).mono ?_
  rintro e w' ⟨rfl, rfl⟩
  rcases R with _ | _
  · go_wp2
    go_ret
    exact ⟨rfl, hB⟩
  · go_wp2
    go_ret
    exact ⟨rfl, hB⟩

end Go.Proofs.YtopbalemfljphaaDoor
