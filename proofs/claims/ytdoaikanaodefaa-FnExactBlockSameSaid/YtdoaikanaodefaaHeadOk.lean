/- HeadOk and HeadSame, of the program and of its model. -/
import Derived.Test.YtdoaikanaodefaaFits
import Derived.Test.YtdoaikanaodefaaQcOk
namespace Go.Proofs.Ytdoaikanaodefaa
open Go.ChangeShapes Go.WideShapes Go.ChangeAt Go.RowKit
set_option linter.unusedSimpArgs false

/-- Whether a header is valid under limits. -/
def headB (a b c d e x y z qx qy : Int) (l k ql qk : List UInt8) (L : List (List UInt8)) : Bool := isNumB x && (isNumB y && (decide (y ≠ 0) && (isIn z a && (hashLB l && (hashLB k && (qcB a b c d e qx qy ql qk L && fitsB x y qx qy l ql))))))
/-- In the order of the model. -/
def headB' (a b c d e x y z qx qy : Int) (l k ql qk : List UInt8) (L : List (List UInt8)) : Bool := limB a b c d e && (isNumB x && (decide (1 ≤ y ∧ y ≤ 1152921504606846975) && (isIn z a && (hashLB l && (hashLB k && (qcB a b c d e qx qy ql qk L && fitsB x y qx qy l ql))))))
theorem headB_same (a b c d e x y z qx qy : Int) (l k ql qk : List UInt8) (L : List (List UInt8)) : headB' a b c d e x y z qx qy l k ql qk L = headB a b c d e x y z qx qy l k ql qk L := by
  have h1 : decide (1 ≤ y ∧ y ≤ 1152921504606846975) = (isNumB y && decide (y ≠ 0)) := by
    unfold isNumB
    by_cases h : 1 ≤ y ∧ y ≤ 1152921504606846975
    · rw [decide_eq_true h, decide_eq_true (show 0 ≤ y ∧ y ≤ 1152921504606846975 by omega), decide_eq_true (show y ≠ 0 by omega)]; rfl
    · rw [decide_eq_false h]
      by_cases h0 : y ≠ 0
      · rw [decide_eq_false (show ¬ (0 ≤ y ∧ y ≤ 1152921504606846975) by omega)]; rfl
      · rw [decide_eq_false h0, Bool.and_false]
  unfold headB' headB qcB
  rw [h1]
  cases limB a b c d e <;> simp only [Bool.true_and, Bool.and_assoc, Bool.false_and, Bool.and_false]

/-- Whether two headers are the same. -/
def sameHB (x y z qx qy : Int) (l k ql qk : List UInt8) (L : List (List UInt8)) (x' y' z' qx' qy' : Int) (l' k' ql' qk' : List UInt8) (L' : List (List UInt8)) : Bool := (x == x') && ((y == y') && ((z == z') && ((l == l') && ((k == k') && sameQB qx qy ql qk L qx' qy' ql' qk' L'))))
set_option maxHeartbeats 8000000 in
theorem specHeadSame_any (x y z qx qy x' y' z' qx' qy' : Int) (u v qu qv qs u' v' qu' qv' qs' : Value) (l k ql qk : List UInt8) (L : List (List UInt8)) (l' k' ql' qk' : List UInt8) (L' : List (List UInt8)) (w : World) (hu : Sl w w.heap.size u l) (hv : Sl w w.heap.size v k) (hqu : Sl w w.heap.size qu ql) (hqv : Sl w w.heap.size qv qk) (hqs : SlS w w.heap.size qs L) (hu' : Sl w w.heap.size u' l') (hv' : Sl w w.heap.size v' k') (hqu' : Sl w w.heap.size qu' ql') (hqv' : Sl w w.heap.size qv' qk') (hqs' : SlS w w.heap.size qs' L') :
    Calls Try.prog 42 #[.agg #[.int .i64 x, .int .i64 y, .int .i64 z, u, v, .int .i64 qx, .int .i64 qy, qu, qv, qs], .agg #[.int .i64 x', .int .i64 y', .int .i64 z', u', v', .int .i64 qx', .int .i64 qy', qu', qv', qs']] w (BoolB w (sameHB x y z qx qy l k ql qk L x' y' z' qx' qy' l' k' ql' qk' L')) := by
  obtain ⟨A, ac, rfl, p1, p2, p0, p3⟩ := id hu
  clear p1 p2 p0 p3
  obtain ⟨B, bc, rfl, p1, p2, p0, p3⟩ := id hv
  clear p1 p2 p0 p3
  obtain ⟨C, cc, rfl, p1, p2, p0, p3⟩ := id hqu
  clear p1 p2 p0 p3
  obtain ⟨D, dc, rfl, p1, p2, p0, p3⟩ := id hqv
  clear p1 p2 p0 p3
  obtain ⟨E, ec, rfl, p1, p2, p0, p3⟩ := id hqs
  clear p1 p2 p0 p3
  obtain ⟨A', ac', rfl, p1, p2, p0, p3⟩ := id hu'
  clear p1 p2 p0 p3
  obtain ⟨B', bc', rfl, p1, p2, p0, p3⟩ := id hv'
  clear p1 p2 p0 p3
  obtain ⟨C', cc', rfl, p1, p2, p0, p3⟩ := id hqu'
  clear p1 p2 p0 p3
  obtain ⟨D', dc', rfl, p1, p2, p0, p3⟩ := id hqv'
  clear p1 p2 p0 p3
  obtain ⟨E', ec', rfl, p1, p2, p0, p3⟩ := id hqs'
  clear p1 p2 p0 p3
  unfold sameHB
  have H := ((InvF.start w).newG 49 #[.int .i64 x, .int .i64 y, .int .i64 z, .slice A l.length ac, .slice B k.length bc, .int .i64 qx, .int .i64 qy, .slice C ql.length cc, .slice D qk.length dc, .slice E L.length ec] w.heap.size).newG 49 #[.int .i64 x', .int .i64 y', .int .i64 z', .slice A' l'.length ac', .slice B' k'.length bc', .int .i64 qx', .int .i64 qy', .slice C' ql'.length cc', .slice D' qk'.length dc', .slice E' L'.length ec'] (w.heap.size + 1)
  have hU := Lib.hid (And.intro hu hu')
  have hV := Lib.hid (And.intro hv hv')
  have hQ := Lib.hid (And.intro (And.intro hqu hqu') (And.intro (And.intro hqv hqv') (And.intro hqs hqs')))
  obtain ⟨x0, g0⟩ : ∃ r : Bool, r = (x == x') := ⟨_, rfl⟩
  obtain ⟨x1, g1⟩ : ∃ r : Bool, r = (y == y') := ⟨_, rfl⟩
  obtain ⟨x2, g2⟩ : ∃ r : Bool, r = (z == z') := ⟨_, rfl⟩
  obtain ⟨x3, g3⟩ : ∃ r : Bool, r = (l == l') := ⟨_, rfl⟩
  obtain ⟨x4, g4⟩ : ∃ r : Bool, r = (k == k') := ⟨_, rfl⟩
  obtain ⟨x5, g5⟩ : ∃ r : Bool, r = sameQB qx qy ql qk L qx' qy' ql' qk' L' := ⟨_, rfl⟩
  rw [← g0, ← g1, ← g2, ← g3, ← g4, ← g5]
  have C3 : Hid (∀ W, Sl W W.heap.size (.slice A l.length ac) l → Sl W W.heap.size (.slice A' l'.length ac') l' → Calls Try.prog 60 #[.slice A l.length ac, .slice A' l'.length ac'] W fun e w' => e = .returned (.bool x3) ∧ W = w') := Lib.hid (by rw [g3]; exact fun W h h' => specSameBytes_any _ _ l l' W h h')
  have C4 : Hid (∀ W, Sl W W.heap.size (.slice B k.length bc) k → Sl W W.heap.size (.slice B' k'.length bc') k' → Calls Try.prog 60 #[.slice B k.length bc, .slice B' k'.length bc'] W fun e w' => e = .returned (.bool x4) ∧ W = w') := Lib.hid (by rw [g4]; exact fun W h h' => specSameBytes_any _ _ k k' W h h')
  have C5 := Lib.hid (fun W h1 h2 h3 h4 h5 h6 => specQcSame_any qx qy qx' qy' (.slice C ql.length cc) (.slice D qk.length dc) (.slice E L.length ec) (.slice C' ql'.length cc') (.slice D' qk'.length dc') (.slice E' L'.length ec') ql qk L ql' qk' L' W h1 h2 h3 h4 h5 h6)
  simp only [← g5] at C5
  clear g3 g4 g5 hu hu' hv hv' hqu hqu' hqv hqv' hqs hqs'
  replace g0 := g0.symm; replace g1 := g1.symm; replace g2 := g2.symm
  rcases x0 with _ | _
  · go_enter Try.func42, Try.ntmps42
    go_wp2
    go_ret
    exact ⟨rfl, H.bel⟩
  rcases x1 with _ | _
  · go_enter Try.func42, Try.ntmps42
    go_wp2
    go_ret
    exact ⟨rfl, H.bel⟩
  rcases x2 with _ | _
  · go_enter Try.func42, Try.ntmps42
    go_wp2
    go_ret
    exact ⟨rfl, H.bel⟩
  go_enter Try.func42, Try.ntmps42
  go_wp2_with fail
  refine (C3.out _ (hU.out.1.up H.bel) (hU.out.2.up H.bel)).mono ?_
  rintro ev w' ⟨rfl, rfl⟩
  rcases x3 with _ | _
  · go_wp2
    go_ret
    exact ⟨rfl, H.bel⟩
  go_wp2_with fail
  refine (C4.out _ (hV.out.1.up H.bel) (hV.out.2.up H.bel)).mono ?_
  rintro ev w' ⟨rfl, rfl⟩
  rcases x4 with _ | _
  · go_wp2
    go_ret
    exact ⟨rfl, H.bel⟩
  go_wp2_with fail
  refine (C5.out _ (hQ.out.1.1.up H.bel) (hQ.out.2.1.1.up H.bel) (hQ.out.2.2.1.up H.bel) (hQ.out.1.2.up H.bel) (hQ.out.2.1.2.up H.bel) (hQ.out.2.2.2.up H.bel)).mono ?_
  rintro ev w5 ⟨rfl, hb⟩
  replace H := H.up hb
  go_wp2
  go_ret
  exact ⟨rfl, H.bel⟩

set_option maxHeartbeats 8000000 in
theorem implHeadSame_any (x y z qx qy x' y' z' qx' qy' : Int) (u v qu qv qs u' v' qu' qv' qs' : Value) (l k ql qk : List UInt8) (L : List (List UInt8)) (l' k' ql' qk' : List UInt8) (L' : List (List UInt8)) (w : World) (hu : Sl w w.heap.size u l) (hv : Sl w w.heap.size v k) (hqu : Sl w w.heap.size qu ql) (hqv : Sl w w.heap.size qv qk) (hqs : SlS w w.heap.size qs L) (hu' : Sl w w.heap.size u' l') (hv' : Sl w w.heap.size v' k') (hqu' : Sl w w.heap.size qu' ql') (hqv' : Sl w w.heap.size qv' qk') (hqs' : SlS w w.heap.size qs' L') :
    Calls Try.prog 46 #[.agg #[.int .i64 x, .int .i64 y, .int .i64 z, u, v, .int .i64 qx, .int .i64 qy, qu, qv, qs], .agg #[.int .i64 x', .int .i64 y', .int .i64 z', u', v', .int .i64 qx', .int .i64 qy', qu', qv', qs']] w (BoolB w (sameHB x y z qx qy l k ql qk L x' y' z' qx' qy' l' k' ql' qk' L')) := by
  obtain ⟨A, ac, rfl, p1, p2, p0, p3⟩ := id hu
  clear p1 p2 p0 p3
  obtain ⟨B, bc, rfl, p1, p2, p0, p3⟩ := id hv
  clear p1 p2 p0 p3
  obtain ⟨C, cc, rfl, p1, p2, p0, p3⟩ := id hqu
  clear p1 p2 p0 p3
  obtain ⟨D, dc, rfl, p1, p2, p0, p3⟩ := id hqv
  clear p1 p2 p0 p3
  obtain ⟨E, ec, rfl, p1, p2, p0, p3⟩ := id hqs
  clear p1 p2 p0 p3
  obtain ⟨A', ac', rfl, p1, p2, p0, p3⟩ := id hu'
  clear p1 p2 p0 p3
  obtain ⟨B', bc', rfl, p1, p2, p0, p3⟩ := id hv'
  clear p1 p2 p0 p3
  obtain ⟨C', cc', rfl, p1, p2, p0, p3⟩ := id hqu'
  clear p1 p2 p0 p3
  obtain ⟨D', dc', rfl, p1, p2, p0, p3⟩ := id hqv'
  clear p1 p2 p0 p3
  obtain ⟨E', ec', rfl, p1, p2, p0, p3⟩ := id hqs'
  clear p1 p2 p0 p3
  unfold sameHB
  have H := ((InvF.start w).newG 49 #[.int .i64 x, .int .i64 y, .int .i64 z, .slice A l.length ac, .slice B k.length bc, .int .i64 qx, .int .i64 qy, .slice C ql.length cc, .slice D qk.length dc, .slice E L.length ec] w.heap.size).newG 49 #[.int .i64 x', .int .i64 y', .int .i64 z', .slice A' l'.length ac', .slice B' k'.length bc', .int .i64 qx', .int .i64 qy', .slice C' ql'.length cc', .slice D' qk'.length dc', .slice E' L'.length ec'] (w.heap.size + 1)
  have hU := Lib.hid (And.intro hu hu')
  have hV := Lib.hid (And.intro hv hv')
  have hQ := Lib.hid (And.intro (And.intro hqu hqu') (And.intro (And.intro hqv hqv') (And.intro hqs hqs')))
  obtain ⟨x0, g0⟩ : ∃ r : Bool, r = (x == x') := ⟨_, rfl⟩
  obtain ⟨x1, g1⟩ : ∃ r : Bool, r = (y == y') := ⟨_, rfl⟩
  obtain ⟨x2, g2⟩ : ∃ r : Bool, r = (z == z') := ⟨_, rfl⟩
  obtain ⟨x3, g3⟩ : ∃ r : Bool, r = (l == l') := ⟨_, rfl⟩
  obtain ⟨x4, g4⟩ : ∃ r : Bool, r = (k == k') := ⟨_, rfl⟩
  obtain ⟨x5, g5⟩ : ∃ r : Bool, r = sameQB qx qy ql qk L qx' qy' ql' qk' L' := ⟨_, rfl⟩
  rw [← g0, ← g1, ← g2, ← g3, ← g4, ← g5]
  have C3 : Hid (∀ W, Sl W W.heap.size (.slice A l.length ac) l → Sl W W.heap.size (.slice A' l'.length ac') l' → Calls Try.prog 72 #[.slice A l.length ac, .slice A' l'.length ac'] W fun e w' => e = .returned (.bool x3) ∧ W = w') := Lib.hid (by rw [g3]; exact fun W h h' => implSameBytes_any _ _ l l' W h h')
  have C4 : Hid (∀ W, Sl W W.heap.size (.slice B k.length bc) k → Sl W W.heap.size (.slice B' k'.length bc') k' → Calls Try.prog 72 #[.slice B k.length bc, .slice B' k'.length bc'] W fun e w' => e = .returned (.bool x4) ∧ W = w') := Lib.hid (by rw [g4]; exact fun W h h' => implSameBytes_any _ _ k k' W h h')
  have C5 := Lib.hid (fun W h1 h2 h3 h4 h5 h6 => implQcSame_any qx qy qx' qy' (.slice C ql.length cc) (.slice D qk.length dc) (.slice E L.length ec) (.slice C' ql'.length cc') (.slice D' qk'.length dc') (.slice E' L'.length ec') ql qk L ql' qk' L' W h1 h2 h3 h4 h5 h6)
  simp only [← g5] at C5
  clear g3 g4 g5 hu hu' hv hv' hqu hqu' hqv hqv' hqs hqs'
  replace g0 := g0.symm; replace g1 := g1.symm; replace g2 := g2.symm
  rcases x0 with _ | _
  · go_enter Try.func46, Try.ntmps46
    go_wp2
    go_ret
    exact ⟨rfl, H.bel⟩
  rcases x1 with _ | _
  · go_enter Try.func46, Try.ntmps46
    go_wp2
    go_ret
    exact ⟨rfl, H.bel⟩
  rcases x2 with _ | _
  · go_enter Try.func46, Try.ntmps46
    go_wp2
    go_ret
    exact ⟨rfl, H.bel⟩
  go_enter Try.func46, Try.ntmps46
  go_wp2_with fail
  refine (C3.out _ (hU.out.1.up H.bel) (hU.out.2.up H.bel)).mono ?_
  rintro ev w' ⟨rfl, rfl⟩
  rcases x3 with _ | _
  · go_wp2
    go_ret
    exact ⟨rfl, H.bel⟩
  go_wp2_with fail
  refine (C4.out _ (hV.out.1.up H.bel) (hV.out.2.up H.bel)).mono ?_
  rintro ev w' ⟨rfl, rfl⟩
  rcases x4 with _ | _
  · go_wp2
    go_ret
    exact ⟨rfl, H.bel⟩
  go_wp2_with fail
  refine (C5.out _ (hQ.out.1.1.up H.bel) (hQ.out.2.1.1.up H.bel) (hQ.out.2.2.1.up H.bel) (hQ.out.1.2.up H.bel) (hQ.out.2.1.2.up H.bel) (hQ.out.2.2.2.up H.bel)).mono ?_
  rintro ev w5 ⟨rfl, hb⟩
  replace H := H.up hb
  go_wp2
  go_ret
  exact ⟨rfl, H.bel⟩

end Go.Proofs.Ytdoaikanaodefaa
