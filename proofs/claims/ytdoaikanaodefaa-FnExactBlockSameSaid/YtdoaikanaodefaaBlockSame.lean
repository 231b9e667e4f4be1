/- BlockSame, of the program and of its model. -/
import Derived.Test.YtdoaikanaodefaaHeadOk
import Derived.Test.YtdoaikanaodefaaBox11
import Derived.Test.YtdoaikanaodefaaTreeSame
namespace Go.Proofs.Ytdoaikanaodefaa
open Go.ChangeShapes Go.WideShapes Go.ChangeAt Go.RowKit

/-- Whether two blocks are the same. -/
def sameGB (x y z qx qy : Int) (l k ql qk : List UInt8) (L T : List (List UInt8)) (x' y' z' qx' qy' : Int) (l' k' ql' qk' : List UInt8) (L' T' : List (List UInt8)) : Bool := sameHB x y z qx qy l k ql qk L x' y' z' qx' qy' l' k' ql' qk' L' && (T == T')
set_option maxRecDepth 100000 in
set_option maxHeartbeats 8000000 in
theorem implBlockSame_any (x y z qx qy x' y' z' qx' qy' : Int) (u v qu qv qs t u' v' qu' qv' qs' t' : Value) (l k ql qk : List UInt8) (L T : List (List UInt8)) (l' k' ql' qk' : List UInt8) (L' T' : List (List UInt8)) (w : World) (hu : Sl w w.heap.size u l) (hv : Sl w w.heap.size v k) (hqu : Sl w w.heap.size qu ql) (hqv : Sl w w.heap.size qv qk) (hqs : SlS w w.heap.size qs L) (ht : SlS w w.heap.size t T) (hu' : Sl w w.heap.size u' l') (hv' : Sl w w.heap.size v' k') (hqu' : Sl w w.heap.size qu' ql') (hqv' : Sl w w.heap.size qv' qk') (hqs' : SlS w w.heap.size qs' L') (ht' : SlS w w.heap.size t' T') :
    Calls Try.prog 18 #[.agg #[.int .i64 x, .int .i64 y, .int .i64 z, u, v, .int .i64 qx, .int .i64 qy, qu, qv, qs, t], .agg #[.int .i64 x', .int .i64 y', .int .i64 z', u', v', .int .i64 qx', .int .i64 qy', qu', qv', qs', t']] w (BoolB w (sameGB x y z qx qy l k ql qk L T x' y' z' qx' qy' l' k' ql' qk' L' T')) := by
  obtain ⟨A, ac, rfl, p1, p2, p0, p3⟩ := id hu
  clear p1 p2 p0 p3
  obtain ⟨B, bc, rfl, p1, p2, p0, p3⟩ := id hv
  clear p1 p2 p0 p3
  obtain ⟨C, cc, rfl, p1, p2, p0, p3⟩ := id hqu
  clear p1 p2 p0 p3
  obtain ⟨D, dc, rfl, p1, p2, p0, p3⟩ := id hqv
  clear p1 p2 p0 p3
  obtain ⟨E, ec, rfl, p1, p2, p0, p3⟩ := id hqs
  clear p1 p2 p0 p3
  obtain ⟨F, fc, rfl, p1, p2, p0, p3⟩ := id ht
  clear p1 p2 p0 p3
  obtain ⟨A', ac', rfl, p1, p2, p0, p3⟩ := id hu'
  clear p1 p2 p0 p3
  obtain ⟨B', bc', rfl, p1, p2, p0, p3⟩ := id hv'
  clear p1 p2 p0 p3
  obtain ⟨C', cc', rfl, p1, p2, p0, p3⟩ := id hqu'
  clear p1 p2 p0 p3
  obtain ⟨D', dc', rfl, p1, p2, p0, p3⟩ := id hqv'
  clear p1 p2 p0 p3
  obtain ⟨E', ec', rfl, p1, p2, p0, p3⟩ := id hqs'
  clear p1 p2 p0 p3
  obtain ⟨F', fc', rfl, p1, p2, p0, p3⟩ := id ht'
  clear p1 p2 p0 p3
  unfold sameGB
  have H0 := ((InvF.start w).newG 51 #[.int .i64 x, .int .i64 y, .int .i64 z, .slice A l.length ac, .slice B k.length bc, .int .i64 qx, .int .i64 qy, .slice C ql.length cc, .slice D qk.length dc, .slice E L.length ec, .slice F T.length fc] w.heap.size).newG 51 #[.int .i64 x', .int .i64 y', .int .i64 z', .slice A' l'.length ac', .slice B' k'.length bc', .int .i64 qx', .int .i64 qy', .slice C' ql'.length cc', .slice D' qk'.length dc', .slice E' L'.length ec', .slice F' T'.length fc'] (w.heap.size + 1)
  have HU := Lib.hid (And.intro hu hu')
  have HV := Lib.hid (And.intro hv hv')
  have HQU := Lib.hid (And.intro hqu hqu')
  have HQV := Lib.hid (And.intro hqv hqv')
  have HQS := Lib.hid (And.intro hqs hqs')
  have HT := Lib.hid (And.intro ht ht')
  have c0 := fun W h1 h2 h3 h4 h5 h6 h7 h8 h9 h10 => implHeadSame_any x y z qx qy x' y' z' qx' qy' (.slice A l.length ac) (.slice B k.length bc) (.slice C ql.length cc) (.slice D qk.length dc) (.slice E L.length ec) (.slice A' l'.length ac') (.slice B' k'.length bc') (.slice C' ql'.length cc') (.slice D' qk'.length dc') (.slice E' L'.length ec') l k ql qk L l' k' ql' qk' L' W h1 h2 h3 h4 h5 h6 h7 h8 h9 h10
  have c1 := fun W h h' => implTreeSame_any (.slice F T.length fc) (.slice F' T'.length fc') T T' W h h'
  obtain ⟨x0, g0⟩ : ∃ r : Bool, r = sameHB x y z qx qy l k ql qk L x' y' z' qx' qy' l' k' ql' qk' L' := ⟨_, rfl⟩
  obtain ⟨x1, g1⟩ : ∃ r : Bool, r = (T == T') := ⟨_, rfl⟩
  rw [← g0, ← g1]
  simp only [← g0] at c0
  simp only [← g1] at c1
  have C0 := Lib.hid c0
  have C1 := Lib.hid c1
  clear c0 c1 g0 g1 hu hv hqu hqv hqs ht hu' hv' hqu' hqv' hqs' ht'
  go_enter Try.func18, Try.ntmps18
  go_wp2_with fail
  refine (C0.out _ (HU.out.1.up H0.bel) (HV.out.1.up H0.bel) (HQU.out.1.up H0.bel) (HQV.out.1.up H0.bel) (HQS.out.1.up H0.bel) (HU.out.2.up H0.bel) (HV.out.2.up H0.bel) (HQU.out.2.up H0.bel) (HQV.out.2.up H0.bel) (HQS.out.2.up H0.bel)).mono ?_
  rintro ev w1 ⟨rfl, hb1⟩
  have H := H0.up hb1
  clear H0 hb1
  rcases x0 with _ | _
  · go_wp2
    go_ret
    exact ⟨rfl, H.bel⟩
  obtain ⟨o0, o1, o2, o3, o4, o5, o6, o7, o8, o9, o10⟩ := H.c11 (.head _)
  obtain ⟨q0, q1, q2, q3, q4, q5, q6, q7, q8, q9, q10⟩ := H.c11 (.tail _ (.head _))
  go_wp2_with fail
  refine (C1.out _ (HT.out.1.up (by first | exact H.bel | exact H.drew1.bel)) (HT.out.2.up (by first | exact H.bel | exact H.drew1.bel))).mono ?_
  rintro ev _ ⟨rfl, m, rfl⟩
  have HF : Hid (∀ d, Below w.heap.size w (w1.drewN d)) := Lib.hid (fun d => (H.drewN d).bel)
  clear H o0 q0 o1 q1 o2 q2 o3 q3 o4 q4 o5 q5 o6 q6 o7 q7 o8 q8 o9 q9 o10 q10
  rcases x1 with _ | _
  · go_wp2
    go_ret
    exact ⟨rfl, by first | exact HF.out _ | exact HF.out 0 | (have h := HF.out (m + 1); simpa using h)⟩
  · go_wp2
    go_ret
    exact ⟨rfl, by first | exact HF.out _ | exact HF.out 0 | (have h := HF.out (m + 1); simpa using h)⟩

set_option maxRecDepth 100000 in
set_option maxHeartbeats 8000000 in
theorem specBlockSame_any (x y z qx qy x' y' z' qx' qy' : Int) (u v qu qv qs t u' v' qu' qv' qs' t' : Value) (l k ql qk : List UInt8) (L T : List (List UInt8)) (l' k' ql' qk' : List UInt8) (L' T' : List (List UInt8)) (w : World) (hu : Sl w w.heap.size u l) (hv : Sl w w.heap.size v k) (hqu : Sl w w.heap.size qu ql) (hqv : Sl w w.heap.size qv qk) (hqs : SlS w w.heap.size qs L) (ht : SlS w w.heap.size t T) (hu' : Sl w w.heap.size u' l') (hv' : Sl w w.heap.size v' k') (hqu' : Sl w w.heap.size qu' ql') (hqv' : Sl w w.heap.size qv' qk') (hqs' : SlS w w.heap.size qs' L') (ht' : SlS w w.heap.size t' T') :
    Calls Try.prog 16 #[.agg #[.int .i64 x, .int .i64 y, .int .i64 z, u, v, .int .i64 qx, .int .i64 qy, qu, qv, qs, t], .agg #[.int .i64 x', .int .i64 y', .int .i64 z', u', v', .int .i64 qx', .int .i64 qy', qu', qv', qs', t']] w (BoolB w (sameGB x y z qx qy l k ql qk L T x' y' z' qx' qy' l' k' ql' qk' L' T')) := by
  obtain ⟨A, ac, rfl, p1, p2, p0, p3⟩ := id hu
  clear p1 p2 p0 p3
  obtain ⟨B, bc, rfl, p1, p2, p0, p3⟩ := id hv
  clear p1 p2 p0 p3
  obtain ⟨C, cc, rfl, p1, p2, p0, p3⟩ := id hqu
  clear p1 p2 p0 p3
  obtain ⟨D, dc, rfl, p1, p2, p0, p3⟩ := id hqv
  clear p1 p2 p0 p3
  obtain ⟨E, ec, rfl, p1, p2, p0, p3⟩ := id hqs
  clear p1 p2 p0 p3
  obtain ⟨F, fc, rfl, p1, p2, p0, p3⟩ := id ht
  clear p1 p2 p0 p3
  obtain ⟨A', ac', rfl, p1, p2, p0, p3⟩ := id hu'
  clear p1 p2 p0 p3
  obtain ⟨B', bc', rfl, p1, p2, p0, p3⟩ := id hv'
  clear p1 p2 p0 p3
  obtain ⟨C', cc', rfl, p1, p2, p0, p3⟩ := id hqu'
  clear p1 p2 p0 p3
  obtain ⟨D', dc', rfl, p1, p2, p0, p3⟩ := id hqv'
  clear p1 p2 p0 p3
  obtain ⟨E', ec', rfl, p1, p2, p0, p3⟩ := id hqs'
  clear p1 p2 p0 p3
  obtain ⟨F', fc', rfl, p1, p2, p0, p3⟩ := id ht'
  clear p1 p2 p0 p3
  unfold sameGB
  have H0 := ((InvF.start w).newG 51 #[.int .i64 x, .int .i64 y, .int .i64 z, .slice A l.length ac, .slice B k.length bc, .int .i64 qx, .int .i64 qy, .slice C ql.length cc, .slice D qk.length dc, .slice E L.length ec, .slice F T.length fc] w.heap.size).newG 51 #[.int .i64 x', .int .i64 y', .int .i64 z', .slice A' l'.length ac', .slice B' k'.length bc', .int .i64 qx', .int .i64 qy', .slice C' ql'.length cc', .slice D' qk'.length dc', .slice E' L'.length ec', .slice F' T'.length fc'] (w.heap.size + 1)
  have HU := Lib.hid (And.intro hu hu')
  have HV := Lib.hid (And.intro hv hv')
  have HQU := Lib.hid (And.intro hqu hqu')
  have HQV := Lib.hid (And.intro hqv hqv')
  have HQS := Lib.hid (And.intro hqs hqs')
  have HT := Lib.hid (And.intro ht ht')
  have c0 := fun W h1 h2 h3 h4 h5 h6 h7 h8 h9 h10 => specHeadSame_any x y z qx qy x' y' z' qx' qy' (.slice A l.length ac) (.slice B k.length bc) (.slice C ql.length cc) (.slice D qk.length dc) (.slice E L.length ec) (.slice A' l'.length ac') (.slice B' k'.length bc') (.slice C' ql'.length cc') (.slice D' qk'.length dc') (.slice E' L'.length ec') l k ql qk L l' k' ql' qk' L' W h1 h2 h3 h4 h5 h6 h7 h8 h9 h10
  have c1 := fun W h h' => specTreeSame_any (.slice F T.length fc) (.slice F' T'.length fc') T T' W h h'
  obtain ⟨x0, g0⟩ : ∃ r : Bool, r = sameHB x y z qx qy l k ql qk L x' y' z' qx' qy' l' k' ql' qk' L' := ⟨_, rfl⟩
  obtain ⟨x1, g1⟩ : ∃ r : Bool, r = (T == T') := ⟨_, rfl⟩
  rw [← g0, ← g1]
  simp only [← g0] at c0
  simp only [← g1] at c1
  have C0 := Lib.hid c0
  have C1 := Lib.hid c1
  clear c0 c1 g0 g1 hu hv hqu hqv hqs ht hu' hv' hqu' hqv' hqs' ht'
  go_enter Try.func16, Try.ntmps16
  go_wp2_with fail
  refine (C0.out _ (HU.out.1.up H0.bel) (HV.out.1.up H0.bel) (HQU.out.1.up H0.bel) (HQV.out.1.up H0.bel) (HQS.out.1.up H0.bel) (HU.out.2.up H0.bel) (HV.out.2.up H0.bel) (HQU.out.2.up H0.bel) (HQV.out.2.up H0.bel) (HQS.out.2.up H0.bel)).mono ?_
  rintro ev w1 ⟨rfl, hb1⟩
  have H := H0.up hb1
  clear H0 hb1
  rcases x0 with _ | _
  · go_wp2
    go_ret
    exact ⟨rfl, H.bel⟩
  obtain ⟨o0, o1, o2, o3, o4, o5, o6, o7, o8, o9, o10⟩ := H.c11 (.head _)
  obtain ⟨q0, q1, q2, q3, q4, q5, q6, q7, q8, q9, q10⟩ := H.c11 (.tail _ (.head _))
  go_wp2_with fail
  refine (C1.out _ (HT.out.1.up (by first | exact H.bel | exact H.drew1.bel)) (HT.out.2.up (by first | exact H.bel | exact H.drew1.bel))).mono ?_
  rintro ev _ ⟨rfl, m, rfl⟩
  have HF : Hid (∀ d, Below w.heap.size w (w1.drewN d)) := Lib.hid (fun d => (H.drewN d).bel)
  clear H o0 q0 o1 q1 o2 q2 o3 q3 o4 q4 o5 q5 o6 q6 o7 q7 o8 q8 o9 q9 o10 q10
  rcases x1 with _ | _
  · go_wp2
    go_ret
    exact ⟨rfl, by first | exact HF.out _ | exact HF.out 0 | (have h := HF.out (m + 1); simpa using h)⟩
  · go_wp2
    go_ret
    exact ⟨rfl, by first | exact HF.out _ | exact HF.out 0 | (have h := HF.out (m + 1); simpa using h)⟩

end Go.Proofs.Ytdoaikanaodefaa
