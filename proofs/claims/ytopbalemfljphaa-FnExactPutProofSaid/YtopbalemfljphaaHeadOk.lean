/- HeadOk and HeadSame, of the program and of its model. -/
import Derived.Test.YtopbalemfljphaaFits
import Derived.Test.YtopbalemfljphaaQcOk
namespace Go.Proofs.Ytopbalemfljphaa
open Go.ChangeShapes Go.WideShapes Go.ChangeAt Go.RowKit
set_option linter.unusedSimpArgs false

/-- Whether a header is valid under limits. -/
def headB (a b c d e x y z qx qy : Int) (l k ql qk : List UInt8) (L : List (List UInt8)) : Bool := isNumB x && (isNumB y && (decide (y ≠ 0) && (isIn z a && (hashLB l && (hashLB k && (qcB a b c d e qx qy ql qk L && fitsB x y qx qy l ql))))))
/-- In the order of the model. -/
def headB' (a b c d e x y z qx qy : Int) (l k ql qk : List UInt8) (L : List (List UInt8)) : Bool := limB a b c d e && (isNumB x && (decide (1 ≤ y ∧ y ≤ 1152921504606846975) && (isIn z a && (hashLB l && (hashLB k && (qcB a b c d e qx qy ql qk L && fitsB x y qx qy l ql))))))
theorem headB_same (a b c d e x y z qx qy : Int) (l k ql qk : List UInt8) (L : List (List UInt8)) : headB' a b c d e x y z qx qy l k ql qk L = headB a b c d e x y z qx qy l k ql qk L := by
  have h1 : decide (1 ≤ y ∧ y ≤ 1152921504606846975) = (isNumB y && decide (y ≠ 0)) := by
    unfold isNumB
    by_cases h : 1 ≤ y ∧ y ≤ 1152921504606846975
    · rw [decide_eq_true h, decide_eq_true (show 0 ≤ y ∧ y ≤ 1152921504606846975 by omega), decide_eq_true (show y ≠ 0 by omega)]; rfl
    · rw [decide_eq_false h]
      by_cases h0 : y ≠ 0
      · rw [decide_eq_false (show ¬ (0 ≤ y ∧ y ≤ 1152921504606846975) by omega)]; rfl
      · rw [decide_eq_false h0, Bool.and_false]
  unfold headB' headB qcB
  rw [h1]
  cases limB a b c d e <;> simp only [Bool.true_and, Bool.and_assoc, Bool.false_and, Bool.and_false]

/-- Whether two headers are the same. -/
def sameHB (x y z qx qy : Int) (l k ql qk : List UInt8) (L : List (List UInt8)) (x' y' z' qx' qy' : Int) (l' k' ql' qk' : List UInt8) (L' : List (List UInt8)) : Bool := (x == x') && ((y == y') && ((z == z') && ((l == l') && ((k == k') && sameQB qx qy ql qk L qx' qy' ql' qk' L'))))
set_option maxRecDepth 100000 in
set_option maxHeartbeats 16000000 in
theorem specHeadOk_any (a b c d e x y z qx qy : Int) (u v qu qv qs : Value) (l k ql qk : List UInt8) (L : List (List UInt8)) (w : World) (hu : Sl w w.heap.size u l) (hv : Sl w w.heap.size v k) (hqu : Sl w w.heap.size qu ql) (hqv : Sl w w.heap.size qv qk) (hqs : SlS w w.heap.size qs L) (hqk : qk.length ≤ 4294967296) :
    Calls Try.prog 38 #[.agg #[.int .i64 a, .int .i64 b, .int .i64 c, .int .i64 d, .int .i64 e], .agg #[.int .i64 x, .int .i64 y, .int .i64 z, u, v, .int .i64 qx, .int .i64 qy, qu, qv, qs]] w (BoolB w (headB a b c d e x y z qx qy l k ql qk L)) := by
  obtain ⟨A, ac, rfl, p1, p2, p0, p3⟩ := id hu
  clear p1 p2 p0 p3
  obtain ⟨B, bc, rfl, p1, p2, p0, p3⟩ := id hv
  clear p1 p2 p0 p3
  obtain ⟨C, cc, rfl, p1, p2, p0, p3⟩ := id hqu
  clear p1 p2 p0 p3
  obtain ⟨D, dc, rfl, p1, p2, p0, p3⟩ := id hqv
  clear p1 p2 p0 p3
  obtain ⟨E, ec, rfl, p1, p2, p0, p3⟩ := id hqs
  clear p1 p2 p0 p3
  rw [← headB_same]
  unfold headB'
  have H0 := ((InvF.start w).newG 33 #[.int .i64 a, .int .i64 b, .int .i64 c, .int .i64 d, .int .i64 e] w.heap.size).newG 67 #[.int .i64 x, .int .i64 y, .int .i64 z, .slice A l.length ac, .slice B k.length bc, .int .i64 qx, .int .i64 qy, .slice C ql.length cc, .slice D qk.length dc, .slice E L.length ec] (w.heap.size + 1)
  have hU := Lib.hid hu
  have hV := Lib.hid hv
  have hQU := Lib.hid hqu
  have hQV := Lib.hid hqv
  have hQS := Lib.hid hqs
  have c0 := fun W => specLimitsOk_any a b c d e W
  have c1 := fun W => l01Num_any x W
  have c2 := fun W => l01In_any y 1 1152921504606846975 W
  have c3 := fun W => l01In_any z 0 (a - 1) W
  have he3 : decide (0 ≤ z ∧ z ≤ a - 1) = isIn z a := by unfold isIn; congr 1; apply propext; constructor <;> intro h <;> omega
  simp only [he3] at c3
  clear he3
  have c4 : ∀ W, Sl W W.heap.size (.slice A l.length ac) l → Calls Try.prog 89 #[.slice A l.length ac] W (fun e w' => e = .returned (.bool (hashLB l)) ∧ W = w') := fun W h => l07Hash_any (.slice A l.length ac) l W h
  have c5 : ∀ W, Sl W W.heap.size (.slice B k.length bc) k → Calls Try.prog 89 #[.slice B k.length bc] W (fun e w' => e = .returned (.bool (hashLB k)) ∧ W = w') := fun W h => l07Hash_any (.slice B k.length bc) k W h
  have c6 := fun W h1 h2 h3 => specQcOk_any a b c d e qx qy (.slice C ql.length cc) (.slice D qk.length dc) (.slice E L.length ec) ql qk L W h1 h2 h3 hqk
  have c7 := fun (h : decide (1 ≤ y ∧ y ≤ 1152921504606846975) = true) W h1 h2 h3 h4 h5 => l13Fits_any x y z qx qy (.slice A l.length ac) (.slice B k.length bc) (.slice C ql.length cc) (.slice D qk.length dc) (.slice E L.length ec) l k ql qk L W h1 h2 h3 h4 h5 (by have := of_decide_eq_true h; omega) (by have := of_decide_eq_true h; omega)
  have hlim : limB a b c d e = true → 1 ≤ a ∧ a ≤ 10 := fun h => (limB_yes h).1
  obtain ⟨x0, g0⟩ : ∃ r : Bool, r = limB a b c d e := ⟨_, rfl⟩
  obtain ⟨x1, g1⟩ : ∃ r : Bool, r = isNumB x := ⟨_, rfl⟩
  obtain ⟨x2, g2⟩ : ∃ r : Bool, r = decide (1 ≤ y ∧ y ≤ 1152921504606846975) := ⟨_, rfl⟩
  obtain ⟨x3, g3⟩ : ∃ r : Bool, r = isIn z a := ⟨_, rfl⟩
  obtain ⟨x4, g4⟩ : ∃ r : Bool, r = hashLB l := ⟨_, rfl⟩
  obtain ⟨x5, g5⟩ : ∃ r : Bool, r = hashLB k := ⟨_, rfl⟩
  obtain ⟨x6, g6⟩ : ∃ r : Bool, r = qcB a b c d e qx qy ql qk L := ⟨_, rfl⟩
  obtain ⟨x7, g7⟩ : ∃ r : Bool, r = fitsB x y qx qy l ql := ⟨_, rfl⟩
  rw [← g0, ← g1, ← g2, ← g3, ← g4, ← g5, ← g6, ← g7]
  simp only [← g0] at c0
  simp only [← g1] at c1
  simp only [← g2] at c2
  simp only [← g3] at c3
  simp only [← g4] at c4
  simp only [← g5] at c5
  simp only [← g6] at c6
  simp only [← g2, ← g7] at c7
  rw [← g0] at hlim
  have C0 := Lib.hid c0
  have C1 := Lib.hid c1
  have C2 := Lib.hid c2
  have C3 := Lib.hid c3
  have C4 := Lib.hid c4
  have C5 := Lib.hid c5
  have C6 := Lib.hid c6
  have C7 := Lib.hid c7
  clear c0 c1 c2 c3 c4 c5 c6 c7 g0 g1 g2 g3 g4 g5 g6 g7 hu hv hqu hqv hqs
  go_enter Try.func38, Try.ntmps38
  have H := H0
  clear H0
  go_wp2_with fail
  refine (C0.out _).mono ?_
  rintro ev w0 ⟨rfl, hb⟩
  replace H := H.up hb
  clear hb
  rcases x0 with _ | _
  · go_wp2
    go_ret
    exact ⟨rfl, H.bel⟩
  obtain ⟨o0, o1, o2, o3, o4, o5, o6, o7, o8, o9⟩ := H.c10 (.head _)
  obtain ⟨t0, t1, t2, t3, t4⟩ := H.c5 (.tail _ (.head _))
  obtain ⟨ha0, ha1⟩ := hlim (by first | trivial | rfl)
  clear hlim
  go_wp2_with fail
  refine (C1.out _).mono ?_
  rintro ev _ ⟨rfl, rfl⟩
  rcases x1 with _ | _
  · go_wp2
    go_ret
    exact ⟨rfl, H.bel⟩
  go_wp2_with fail
  refine (C2.out _).mono ?_
  rintro ev _ ⟨rfl, rfl⟩
  rcases x2 with _ | _
  · go_wp2
    go_ret
    exact ⟨rfl, H.bel⟩
  go_wp2_with fail
  refine (C3.out _).mono ?_
  rintro ev _ ⟨rfl, rfl⟩
  rcases x3 with _ | _
  · go_wp2
    go_ret
    exact ⟨rfl, H.bel⟩
  go_wp2_with fail
  refine (C4.out _ (hU.out.up H.bel)).mono ?_
  rintro ev _ ⟨rfl, rfl⟩
  rcases x4 with _ | _
  · go_wp2
    go_ret
    exact ⟨rfl, H.bel⟩
  go_wp2_with fail
  refine (C5.out _ (hV.out.up H.bel)).mono ?_
  rintro ev _ ⟨rfl, rfl⟩
  rcases x5 with _ | _
  · go_wp2
    go_ret
    exact ⟨rfl, H.bel⟩
  go_wp2_with fail
  refine (C6.out _ (hQU.out.up H.bel) (hQV.out.up H.bel) (hQS.out.up H.bel)).mono ?_
  rintro ev w6 ⟨rfl, hb⟩
  replace H := H.up hb
  clear hb o0 o1 o2 o3 o4 o5 o6 o7 o8 o9 t0 t1 t2 t3 t4
  rcases x6 with _ | _
  · go_wp2
    go_ret
    exact ⟨rfl, H.bel⟩
  obtain ⟨o0, o1, o2, o3, o4, o5, o6, o7, o8, o9⟩ := H.c10 (.head _)
  obtain ⟨t0, t1, t2, t3, t4⟩ := H.c5 (.tail _ (.head _))
  go_wp2_with fail
  refine (C7.out (by first | trivial | rfl) _ (hU.out.up H.bel) (hV.out.up H.bel) (hQU.out.up H.bel) (hQV.out.up H.bel) (hQS.out.up H.bel)).mono ?_
  rintro ev w7 ⟨rfl, hb⟩
  replace H := H.up hb
  clear hb o0 o1 o2 o3 o4 o5 o6 o7 o8 o9 t0 t1 t2 t3 t4
  rcases x7 with _ | _
  · go_wp2
    go_ret
    exact ⟨rfl, H.bel⟩
  · go_wp2
    go_ret
    exact ⟨rfl, H.bel⟩

set_option maxRecDepth 100000 in
set_option maxHeartbeats 16000000 in
theorem implHeadOk_any (a b c d e x y z qx qy : Int) (u v qu qv qs : Value) (l k ql qk : List UInt8) (L : List (List UInt8)) (w : World) (hu : Sl w w.heap.size u l) (hv : Sl w w.heap.size v k) (hqu : Sl w w.heap.size qu ql) (hqv : Sl w w.heap.size qv qk) (hqs : SlS w w.heap.size qs L) (hqk : qk.length ≤ 4294967296) :
    Calls Try.prog 44 #[.agg #[.int .i64 a, .int .i64 b, .int .i64 c, .int .i64 d, .int .i64 e], .agg #[.int .i64 x, .int .i64 y, .int .i64 z, u, v, .int .i64 qx, .int .i64 qy, qu, qv, qs]] w (BoolB w (headB a b c d e x y z qx qy l k ql qk L)) := by
  obtain ⟨A, ac, rfl, p1, p2, p0, p3⟩ := id hu
  clear p1 p2 p0 p3
  obtain ⟨B, bc, rfl, p1, p2, p0, p3⟩ := id hv
  clear p1 p2 p0 p3
  obtain ⟨C, cc, rfl, p1, p2, p0, p3⟩ := id hqu
  clear p1 p2 p0 p3
  obtain ⟨D, dc, rfl, p1, p2, p0, p3⟩ := id hqv
  clear p1 p2 p0 p3
  obtain ⟨E, ec, rfl, p1, p2, p0, p3⟩ := id hqs
  clear p1 p2 p0 p3
  unfold headB
  have H0 := ((InvF.start w).newG 33 #[.int .i64 a, .int .i64 b, .int .i64 c, .int .i64 d, .int .i64 e] w.heap.size).newG 67 #[.int .i64 x, .int .i64 y, .int .i64 z, .slice A l.length ac, .slice B k.length bc, .int .i64 qx, .int .i64 qy, .slice C ql.length cc, .slice D qk.length dc, .slice E L.length ec] (w.heap.size + 1)
  have hU := Lib.hid hu
  have hV := Lib.hid hv
  have hQU := Lib.hid hqu
  have hQV := Lib.hid hqv
  have hQS := Lib.hid hqs
  have c0 := fun W => isNum_any x W
  have c1 := fun W => isNum_any y W
  have c3 := fun W => isSigner_any z a W
  have c4 : ∀ W, Sl W W.heap.size (.slice A l.length ac) l → Calls Try.prog 95 #[.slice A l.length ac] W (fun e w' => e = .returned (.bool (hashLB l)) ∧ W = w') := fun W h => isHash_any (.slice A l.length ac) l W h
  have c5 : ∀ W, Sl W W.heap.size (.slice B k.length bc) k → Calls Try.prog 95 #[.slice B k.length bc] W (fun e w' => e = .returned (.bool (hashLB k)) ∧ W = w') := fun W h => isHash_any (.slice B k.length bc) k W h
  have c6 := fun W h1 h2 h3 => implQcOk_any a b c d e qx qy (.slice C ql.length cc) (.slice D qk.length dc) (.slice E L.length ec) ql qk L W h1 h2 h3 hqk
  have c7 := fun (h : isNumB y = true) W h1 h2 h3 h4 h5 => matchError_any x y z qx qy (.slice A l.length ac) (.slice B k.length bc) (.slice C ql.length cc) (.slice D qk.length dc) (.slice E L.length ec) l k ql qk L W h1 h2 h3 h4 h5 (by have := of_decide_eq_true h; omega) (by have := of_decide_eq_true h; omega)
  have hnum : isNumB y = true → 0 ≤ y ∧ y ≤ 1152921504606846975 := fun h => of_decide_eq_true h
  obtain ⟨x0, g0⟩ : ∃ r : Bool, r = isNumB x := ⟨_, rfl⟩
  obtain ⟨x1, g1⟩ : ∃ r : Bool, r = isNumB y := ⟨_, rfl⟩
  obtain ⟨x2, g2⟩ : ∃ r : Bool, r = decide (y ≠ 0) := ⟨_, rfl⟩
  obtain ⟨x3, g3⟩ : ∃ r : Bool, r = isIn z a := ⟨_, rfl⟩
  obtain ⟨x4, g4⟩ : ∃ r : Bool, r = hashLB l := ⟨_, rfl⟩
  obtain ⟨x5, g5⟩ : ∃ r : Bool, r = hashLB k := ⟨_, rfl⟩
  obtain ⟨x6, g6⟩ : ∃ r : Bool, r = qcB a b c d e qx qy ql qk L := ⟨_, rfl⟩
  obtain ⟨x7, g7⟩ : ∃ r : Bool, r = fitsB x y qx qy l ql := ⟨_, rfl⟩
  rw [← g0, ← g1, ← g2, ← g3, ← g4, ← g5, ← g6, ← g7]
  simp only [← g0] at c0
  simp only [← g1] at c1
  simp only [← g3] at c3
  simp only [← g4] at c4
  simp only [← g5] at c5
  simp only [← g6] at c6
  simp only [← g1, ← g7] at c7
  rw [← g1] at hnum
  have hy0 : (y != 0) = x2 := by rw [g2]; by_cases h : y = 0 <;> simp [h]
  have C0 := Lib.hid c0
  have C1 := Lib.hid c1
  have C3 := Lib.hid c3
  have C4 := Lib.hid c4
  have C5 := Lib.hid c5
  have C6 := Lib.hid c6
  have C7 := Lib.hid c7
  clear c0 c1 c3 c4 c5 c6 c7 g0 g1 g2 g3 g4 g5 g6 g7 hu hv hqu hqv hqs
  go_enter Try.func44, Try.ntmps44
  have H := H0
  clear H0
  obtain ⟨o0, o1, o2, o3, o4, o5, o6, o7, o8, o9⟩ := H.c10 (.head _)
  obtain ⟨t0, t1, t2, t3, t4⟩ := H.c5 (.tail _ (.head _))
  go_wp2_with fail
  refine (C0.out _).mono ?_
  rintro ev _ ⟨rfl, rfl⟩
  rcases x0 with _ | _
  · go_wp2
    go_ret
    exact ⟨rfl, H.bel⟩
  go_wp2_with fail
  refine (C1.out _).mono ?_
  rintro ev _ ⟨rfl, rfl⟩
  rcases x1 with _ | _
  · go_wp2
    go_ret
    exact ⟨rfl, H.bel⟩
  obtain ⟨hn0, hn1⟩ := hnum (by first | trivial | rfl)
  clear hnum
  rcases x2 with _ | _
  · go_wp2
    go_ret
    exact ⟨rfl, H.bel⟩
  go_wp2_with fail
  refine (C3.out _).mono ?_
  rintro ev _ ⟨rfl, rfl⟩
  rcases x3 with _ | _
  · go_wp2
    go_ret
    exact ⟨rfl, H.bel⟩
  go_wp2_with fail
  refine (C4.out _ (hU.out.up H.bel)).mono ?_
  rintro ev _ ⟨rfl, rfl⟩
  rcases x4 with _ | _
  · go_wp2
    go_ret
    exact ⟨rfl, H.bel⟩
  go_wp2_with fail
  refine (C5.out _ (hV.out.up H.bel)).mono ?_
  rintro ev _ ⟨rfl, rfl⟩
  rcases x5 with _ | _
  · go_wp2
    go_ret
    exact ⟨rfl, H.bel⟩
  go_wp2_with fail
  refine (C6.out _ (hQU.out.up H.bel) (hQV.out.up H.bel) (hQS.out.up H.bel)).mono ?_
  rintro ev w6 ⟨rfl, hb⟩
  replace H := H.up hb
  clear hb o0 o1 o2 o3 o4 o5 o6 o7 o8 o9 t0 t1 t2 t3 t4
  rcases x6 with _ | _
  · go_wp2
    go_ret
    exact ⟨rfl, H.bel⟩
  obtain ⟨o0, o1, o2, o3, o4, o5, o6, o7, o8, o9⟩ := H.c10 (.head _)
  obtain ⟨t0, t1, t2, t3, t4⟩ := H.c5 (.tail _ (.head _))
  go_wp2_with fail
  refine (C7.out (by first | trivial | rfl) _ (hU.out.up H.bel) (hV.out.up H.bel) (hQU.out.up H.bel) (hQV.out.up H.bel) (hQS.out.up H.bel)).mono ?_
  rintro ev w7 ⟨rfl, hb⟩
  replace H := H.up hb
  clear hb o0 o1 o2 o3 o4 o5 o6 o7 o8 o9 t0 t1 t2 t3 t4
  rcases x7 with _ | _
  · rw [matchV_no]
    go_wp2
    go_ret
    exact ⟨rfl, H.bel⟩
  · rw [matchV_yes]
    go_wp2
    go_ret
    exact ⟨rfl, H.bel⟩

set_option maxHeartbeats 8000000 in
theorem specHeadSame_any (x y z qx qy x' y' z' qx' qy' : Int) (u v qu qv qs u' v' qu' qv' qs' : Value) (l k ql qk : List UInt8) (L : List (List UInt8)) (l' k' ql' qk' : List UInt8) (L' : List (List UInt8)) (w : World) (hu : Sl w w.heap.size u l) (hv : Sl w w.heap.size v k) (hqu : Sl w w.heap.size qu ql) (hqv : Sl w w.heap.size qv qk) (hqs : SlS w w.heap.size qs L) (hu' : Sl w w.heap.size u' l') (hv' : Sl w w.heap.size v' k') (hqu' : Sl w w.heap.size qu' ql') (hqv' : Sl w w.heap.size qv' qk') (hqs' : SlS w w.heap.size qs' L') :
    Calls Try.prog 51 #[.agg #[.int .i64 x, .int .i64 y, .int .i64 z, u, v, .int .i64 qx, .int .i64 qy, qu, qv, qs], .agg #[.int .i64 x', .int .i64 y', .int .i64 z', u', v', .int .i64 qx', .int .i64 qy', qu', qv', qs']] w (BoolB w (sameHB x y z qx qy l k ql qk L x' y' z' qx' qy' l' k' ql' qk' L')) := by
  obtain ⟨A, ac, rfl, p1, p2, p0, p3⟩ := id hu
  clear p1 p2 p0 p3
  obtain ⟨B, bc, rfl, p1, p2, p0, p3⟩ := id hv
  clear p1 p2 p0 p3
  obtain ⟨C, cc, rfl, p1, p2, p0, p3⟩ := id hqu
  clear p1 p2 p0 p3
  obtain ⟨D, dc, rfl, p1, p2, p0, p3⟩ := id hqv
  clear p1 p2 p0 p3
  obtain ⟨E, ec, rfl, p1, p2, p0, p3⟩ := id hqs
  clear p1 p2 p0 p3
  obtain ⟨A', ac', rfl, p1, p2, p0, p3⟩ := id hu'
  clear p1 p2 p0 p3
  obtain ⟨B', bc', rfl, p1, p2, p0, p3⟩ := id hv'
  clear p1 p2 p0 p3
  obtain ⟨C', cc', rfl, p1, p2, p0, p3⟩ := id hqu'
  clear p1 p2 p0 p3
  obtain ⟨D', dc', rfl, p1, p2, p0, p3⟩ := id hqv'
  clear p1 p2 p0 p3
  obtain ⟨E', ec', rfl, p1, p2, p0, p3⟩ := id hqs'
  clear p1 p2 p0 p3
  unfold sameHB
  have H := ((InvF.start w).newG 67 #[.int .i64 x, .int .i64 y, .int .i64 z, .slice A l.length ac, .slice B k.length bc, .int .i64 qx, .int .i64 qy, .slice C ql.length cc, .slice D qk.length dc, .slice E L.length ec] w.heap.size).newG 67 #[.int .i64 x', .int .i64 y', .int .i64 z', .slice A' l'.length ac', .slice B' k'.length bc', .int .i64 qx', .int .i64 qy', .slice C' ql'.length cc', .slice D' qk'.length dc', .slice E' L'.length ec'] (w.heap.size + 1)
  have hU := Lib.hid (And.intro hu hu')
  have hV := Lib.hid (And.intro hv hv')
  have hQ := Lib.hid (And.intro (And.intro hqu hqu') (And.intro (And.intro hqv hqv') (And.intro hqs hqs')))
  obtain ⟨x0, g0⟩ : ∃ r : Bool, r = (x == x') := ⟨_, rfl⟩
  obtain ⟨x1, g1⟩ : ∃ r : Bool, r = (y == y') := ⟨_, rfl⟩
  obtain ⟨x2, g2⟩ : ∃ r : Bool, r = (z == z') := ⟨_, rfl⟩
  obtain ⟨x3, g3⟩ : ∃ r : Bool, r = (l == l') := ⟨_, rfl⟩
  obtain ⟨x4, g4⟩ : ∃ r : Bool, r = (k == k') := ⟨_, rfl⟩
  obtain ⟨x5, g5⟩ : ∃ r : Bool, r = sameQB qx qy ql qk L qx' qy' ql' qk' L' := ⟨_, rfl⟩
  rw [← g0, ← g1, ← g2, ← g3, ← g4, ← g5]
  have C3 : Hid (∀ W, Sl W W.heap.size (.slice A l.length ac) l → Sl W W.heap.size (.slice A' l'.length ac') l' → Calls Try.prog 77 #[.slice A l.length ac, .slice A' l'.length ac'] W fun e w' => e = .returned (.bool x3) ∧ W = w') := Lib.hid (by rw [g3]; exact fun W h h' => specSameBytes_any _ _ l l' W h h')
  have C4 : Hid (∀ W, Sl W W.heap.size (.slice B k.length bc) k → Sl W W.heap.size (.slice B' k'.length bc') k' → Calls Try.prog 77 #[.slice B k.length bc, .slice B' k'.length bc'] W fun e w' => e = .returned (.bool x4) ∧ W = w') := Lib.hid (by rw [g4]; exact fun W h h' => specSameBytes_any _ _ k k' W h h')
  have C5 := Lib.hid (fun W h1 h2 h3 h4 h5 h6 => specQcSame_any qx qy qx' qy' (.slice C ql.length cc) (.slice D qk.length dc) (.slice E L.length ec) (.slice C' ql'.length cc') (.slice D' qk'.length dc') (.slice E' L'.length ec') ql qk L ql' qk' L' W h1 h2 h3 h4 h5 h6)
  simp only [← g5] at C5
  clear g3 g4 g5 hu hu' hv hv' hqu hqu' hqv hqv' hqs hqs'
  replace g0 := g0.symm; replace g1 := g1.symm; replace g2 := g2.symm
  rcases x0 with _ | _
  · go_enter Try.func51, Try.ntmps51
    go_wp2
    go_ret
    exact ⟨rfl, H.bel⟩
  rcases x1 with _ | _
  · go_enter Try.func51, Try.ntmps51
    go_wp2
    go_ret
    exact ⟨rfl, H.bel⟩
  rcases x2 with _ | _
  · go_enter Try.func51, Try.ntmps51
    go_wp2
    go_ret
    exact ⟨rfl, H.bel⟩
  go_enter Try.func51, Try.ntmps51
  go_wp2_with fail
  refine (C3.out _ (hU.out.1.up H.bel) (hU.out.2.up H.bel)).mono ?_
  rintro ev w' ⟨rfl, rfl⟩
  rcases x3 with _ | _
  · go_wp2
    go_ret
    exact ⟨rfl, H.bel⟩
  go_wp2_with fail
  refine (C4.out _ (hV.out.1.up H.bel) (hV.out.2.up H.bel)).mono ?_
  rintro ev w' ⟨rfl, rfl⟩
  rcases x4 with _ | _
  · go_wp2
    go_ret
    exact ⟨rfl, H.bel⟩
  go_wp2_with fail
  refine (C5.out _ (hQ.out.1.1.up H.bel) (hQ.out.2.1.1.up H.bel) (hQ.out.2.2.1.up H.bel) (hQ.out.1.2.up H.bel) (hQ.out.2.1.2.up H.bel) (hQ.out.2.2.2.up H.bel)).mono ?_
  rintro ev w5 ⟨rfl, hb⟩
  replace H := H.up hb
  go_wp2
  go_ret
  exact ⟨rfl, H.bel⟩

set_option maxHeartbeats 8000000 in
theorem implHeadSame_any (x y z qx qy x' y' z' qx' qy' : Int) (u v qu qv qs u' v' qu' qv' qs' : Value) (l k ql qk : List UInt8) (L : List (List UInt8)) (l' k' ql' qk' : List UInt8) (L' : List (List UInt8)) (w : World) (hu : Sl w w.heap.size u l) (hv : Sl w w.heap.size v k) (hqu : Sl w w.heap.size qu ql) (hqv : Sl w w.heap.size qv qk) (hqs : SlS w w.heap.size qs L) (hu' : Sl w w.heap.size u' l') (hv' : Sl w w.heap.size v' k') (hqu' : Sl w w.heap.size qu' ql') (hqv' : Sl w w.heap.size qv' qk') (hqs' : SlS w w.heap.size qs' L') :
    Calls Try.prog 54 #[.agg #[.int .i64 x, .int .i64 y, .int .i64 z, u, v, .int .i64 qx, .int .i64 qy, qu, qv, qs], .agg #[.int .i64 x', .int .i64 y', .int .i64 z', u', v', .int .i64 qx', .int .i64 qy', qu', qv', qs']] w (BoolB w (sameHB x y z qx qy l k ql qk L x' y' z' qx' qy' l' k' ql' qk' L')) := by
  obtain ⟨A, ac, rfl, p1, p2, p0, p3⟩ := id hu
  clear p1 p2 p0 p3
  obtain ⟨B, bc, rfl, p1, p2, p0, p3⟩ := id hv
  clear p1 p2 p0 p3
  obtain ⟨C, cc, rfl, p1, p2, p0, p3⟩ := id hqu
  clear p1 p2 p0 p3
  obtain ⟨D, dc, rfl, p1, p2, p0, p3⟩ := id hqv
  clear p1 p2 p0 p3
  obtain ⟨E, ec, rfl, p1, p2, p0, p3⟩ := id hqs
  clear p1 p2 p0 p3
  obtain ⟨A', ac', rfl, p1, p2, p0, p3⟩ := id hu'
  clear p1 p2 p0 p3
  obtain ⟨B', bc', rfl, p1, p2, p0, p3⟩ := id hv'
  clear p1 p2 p0 p3
  obtain ⟨C', cc', rfl, p1, p2, p0, p3⟩ := id hqu'
  clear p1 p2 p0 p3
  obtain ⟨D', dc', rfl, p1, p2, p0, p3⟩ := id hqv'
  clear p1 p2 p0 p3
  obtain ⟨E', ec', rfl, p1, p2, p0, p3⟩ := id hqs'
  clear p1 p2 p0 p3
  unfold sameHB
  have H := ((InvF.start w).newG 67 #[.int .i64 x, .int .i64 y, .int .i64 z, .slice A l.length ac, .slice B k.length bc, .int .i64 qx, .int .i64 qy, .slice C ql.length cc, .slice D qk.length dc, .slice E L.length ec] w.heap.size).newG 67 #[.int .i64 x', .int .i64 y', .int .i64 z', .slice A' l'.length ac', .slice B' k'.length bc', .int .i64 qx', .int .i64 qy', .slice C' ql'.length cc', .slice D' qk'.length dc', .slice E' L'.length ec'] (w.heap.size + 1)
  have hU := Lib.hid (And.intro hu hu')
  have hV := Lib.hid (And.intro hv hv')
  have hQ := Lib.hid (And.intro (And.intro hqu hqu') (And.intro (And.intro hqv hqv') (And.intro hqs hqs')))
  obtain ⟨x0, g0⟩ : ∃ r : Bool, r = (x == x') := ⟨_, rfl⟩
  obtain ⟨x1, g1⟩ : ∃ r : Bool, r = (y == y') := ⟨_, rfl⟩
  obtain ⟨x2, g2⟩ : ∃ r : Bool, r = (z == z') := ⟨_, rfl⟩
  obtain ⟨x3, g3⟩ : ∃ r : Bool, r = (l == l') := ⟨_, rfl⟩
  obtain ⟨x4, g4⟩ : ∃ r : Bool, r = (k == k') := ⟨_, rfl⟩
  obtain ⟨x5, g5⟩ : ∃ r : Bool, r = sameQB qx qy ql qk L qx' qy' ql' qk' L' := ⟨_, rfl⟩
  rw [← g0, ← g1, ← g2, ← g3, ← g4, ← g5]
  have C3 : Hid (∀ W, Sl W W.heap.size (.slice A l.length ac) l → Sl W W.heap.size (.slice A' l'.length ac') l' → Calls Try.prog 79 #[.slice A l.length ac, .slice A' l'.length ac'] W fun e w' => e = .returned (.bool x3) ∧ W = w') := Lib.hid (by rw [g3]; exact fun W h h' => implSameBytes_any _ _ l l' W h h')
  have C4 : Hid (∀ W, Sl W W.heap.size (.slice B k.length bc) k → Sl W W.heap.size (.slice B' k'.length bc') k' → Calls Try.prog 79 #[.slice B k.length bc, .slice B' k'.length bc'] W fun e w' => e = .returned (.bool x4) ∧ W = w') := Lib.hid (by rw [g4]; exact fun W h h' => implSameBytes_any _ _ k k' W h h')
  have C5 := Lib.hid (fun W h1 h2 h3 h4 h5 h6 => implQcSame_any qx qy qx' qy' (.slice C ql.length cc) (.slice D qk.length dc) (.slice E L.length ec) (.slice C' ql'.length cc') (.slice D' qk'.length dc') (.slice E' L'.length ec') ql qk L ql' qk' L' W h1 h2 h3 h4 h5 h6)
  simp only [← g5] at C5
  clear g3 g4 g5 hu hu' hv hv' hqu hqu' hqv hqv' hqs hqs'
  replace g0 := g0.symm; replace g1 := g1.symm; replace g2 := g2.symm
  rcases x0 with _ | _
  · go_enter Try.func54, Try.ntmps54
    go_wp2
    go_ret
    exact ⟨rfl, H.bel⟩
  rcases x1 with _ | _
  · go_enter Try.func54, Try.ntmps54
    go_wp2
    go_ret
    exact ⟨rfl, H.bel⟩
  rcases x2 with _ | _
  · go_enter Try.func54, Try.ntmps54
    go_wp2
    go_ret
    exact ⟨rfl, H.bel⟩
  go_enter Try.func54, Try.ntmps54
  go_wp2_with fail
  refine (C3.out _ (hU.out.1.up H.bel) (hU.out.2.up H.bel)).mono ?_
  rintro ev w' ⟨rfl, rfl⟩
  rcases x3 with _ | _
  · go_wp2
    go_ret
    exact ⟨rfl, H.bel⟩
  go_wp2_with fail
  refine (C4.out _ (hV.out.1.up H.bel) (hV.out.2.up H.bel)).mono ?_
  rintro ev w' ⟨rfl, rfl⟩
  rcases x4 with _ | _
  · go_wp2
    go_ret
    exact ⟨rfl, H.bel⟩
  go_wp2_with fail
  refine (C5.out _ (hQ.out.1.1.up H.bel) (hQ.out.2.1.1.up H.bel) (hQ.out.2.2.1.up H.bel) (hQ.out.1.2.up H.bel) (hQ.out.2.1.2.up H.bel) (hQ.out.2.2.2.up H.bel)).mono ?_
  rintro ev w5 ⟨rfl, hb⟩
  replace H := H.up hb
  go_wp2
  go_ret
  exact ⟨rfl, H.bel⟩

end Go.Proofs.Ytopbalemfljphaa
