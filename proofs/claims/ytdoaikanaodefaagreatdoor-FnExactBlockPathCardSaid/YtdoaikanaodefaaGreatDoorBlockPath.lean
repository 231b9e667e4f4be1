/- BlockPath, of the program and of its model. -/
import Derived.Test.YtdoaikanaodefaaGreatDoorBlockOk
import Derived.Test.YtdoaikanaodefaaGreatDoorPathOf
namespace Go.Proofs.YtdoaikanaodefaaGreatDoor
open Go.ChangeShapes Go.WideShapes Go.ChangeAt Go.RowKit

/-- What BlockPath answers: the path if the block is valid. -/
def bpL (a b c d e x y z qx qy : Int) (m k ql qk : List UInt8) (L T : List (List UInt8)) (i : Int) : List (List UInt8) := if blockB a b c d e x y z qx qy m k ql qk L T = true then ofP T i else []
def bpB (a b c d e x y z qx qy : Int) (m k ql qk : List UInt8) (L T : List (List UInt8)) (i : Int) : Bool := blockB a b c d e x y z qx qy m k ql qk L T && leafB i T.length
theorem bpL_small (a b c d e x y z qx qy : Int) (m k ql qk : List UInt8) (L T : List (List UInt8)) (i : Int) (hT : T.length ≤ 1048576) : sumL (bpL a b c d e x y z qx qy m k ql qk L T i) ≤ 1048576 := by
  unfold bpL
  split
  · have := ofP_small T i hT
    omega
  · simp [sumL]
set_option maxRecDepth 100000 in
set_option maxHeartbeats 8000000 in
theorem implBlockPath_any (a b c d e x y z qx qy i : Int) (u v qu qv qs tx : Value) (m k ql qk : List UInt8) (L T : List (List UInt8)) (w : World) (hu : Sl w w.heap.size u m) (hv : Sl w w.heap.size v k) (hqu : Sl w w.heap.size qu ql) (hqv : Sl w w.heap.size qv qk) (hqs : SlS w w.heap.size qs L) (htx : SlS w w.heap.size tx T) (hqk : qk.length ≤ 1048576) (hs : sumL T ≤ 1048576) (hTl : T.length ≤ 1048576) (hI : Glob w 0 initW) (hG : Glob w 1 kk) :
    Calls Tryz.prog 32 #[.agg #[.int .i64 a, .int .i64 b, .int .i64 c, .int .i64 d, .int .i64 e], .agg #[.int .i64 x, .int .i64 y, .int .i64 z, u, v, .int .i64 qx, .int .i64 qy, qu, qv, qs, tx], .int .i64 i] w (FreshSB w (bpL a b c d e x y z qx qy m k ql qk L T i) (bpB a b c d e x y z qx qy m k ql qk L T i)) := by
  have HU := Lib.hid hu
  have HV := Lib.hid hv
  have HQU := Lib.hid hqu
  have HQV := Lib.hid hqv
  have HQS := Lib.hid hqs
  have HTX := Lib.hid htx
  have HI := Lib.hid hI
  have HG := Lib.hid hG
  clear hI hG
  obtain ⟨A, ac, rfl, p1, p2, p0, p3⟩ := hu
  clear p1 p2 p0 p3
  obtain ⟨B, bc, rfl, p1, p2, p0, p3⟩ := hv
  clear p1 p2 p0 p3
  obtain ⟨C, cc, rfl, p1, p2, p0, p3⟩ := hqu
  clear p1 p2 p0 p3
  obtain ⟨D, dc, rfl, p1, p2, p0, p3⟩ := hqv
  clear p1 p2 p0 p3
  obtain ⟨E, ec, rfl, p1, p2, p0, p3⟩ := hqs
  clear p1 p2 p0 p3
  obtain ⟨F, fc, rfl, p1, p2, p0, p3⟩ := htx
  clear p1 p2 p0 p3
  have c0 := fun W g1 g2 g3 g4 g5 g6 g7 g8 => implBlockOk_any a b c d e x y z qx qy (.slice A m.length ac) (.slice B k.length bc) (.slice C ql.length cc) (.slice D qk.length dc) (.slice E L.length ec) (.slice F T.length fc) m k ql qk L T W g1 g2 g3 g4 g5 g6 (by omega) (by omega) (by omega) g7 g8
  have C1 := Lib.hid (fun W g1 g2 g3 => implPathOf_any (.slice F T.length fc) T i W g1 hTl (by omega) g2 g3)
  have hP : blockB a b c d e x y z qx qy m k ql qk L T = true → bpL a b c d e x y z qx qy m k ql qk L T i = ofP T i ∧ bpB a b c d e x y z qx qy m k ql qk L T i = leafB i T.length := fun h => ⟨if_pos h, by unfold bpB; rw [h]; rfl⟩
  have hN : blockB a b c d e x y z qx qy m k ql qk L T = false → bpL a b c d e x y z qx qy m k ql qk L T i = [] ∧ bpB a b c d e x y z qx qy m k ql qk L T i = false := fun h => ⟨if_neg (by simp [h]), by unfold bpB; rw [h]; rfl⟩
  obtain ⟨R, hR⟩ : ∃ R, R = bpL a b c d e x y z qx qy m k ql qk L T i := ⟨_, rfl⟩
  obtain ⟨S, hS⟩ : ∃ S, S = bpB a b c d e x y z qx qy m k ql qk L T i := ⟨_, rfl⟩
  obtain ⟨x0, g0⟩ : ∃ x0, x0 = blockB a b c d e x y z qx qy m k ql qk L T := ⟨_, rfl⟩
  rw [← hR, ← hS] at hP hN ⊢
  rw [← g0] at hP hN
  simp only [← g0] at c0
  have C0 := Lib.hid c0
  have HP := Lib.hid hP
  have HN := Lib.hid hN
  clear c0 hP hN hR hS g0
  have H0 : InvF w _ [segX 42 (w.heap.size + 1) [.int .i64 x, .int .i64 y, .int .i64 z, (.slice A m.length ac), (.slice B k.length bc), .int .i64 qx, .int .i64 qy, (.slice C ql.length cc), (.slice D qk.length dc), (.slice E L.length ec), (.slice F T.length fc)], segX 35 w.heap.size [.int .i64 a, .int .i64 b, .int .i64 c, .int .i64 d, .int .i64 e]] := ((InvF.start w).newG 35 #[.int .i64 a, .int .i64 b, .int .i64 c, .int .i64 d, .int .i64 e] w.heap.size).newG 42 #[.int .i64 x, .int .i64 y, .int .i64 z, .slice A m.length ac, .slice B k.length bc, .int .i64 qx, .int .i64 qy, .slice C ql.length cc, .slice D qk.length dc, .slice E L.length ec, .slice F T.length fc] (w.heap.size + 1)
  go_enter Tryz.func32, Tryz.ntmps32
  go_wp2_with fail
  refine (C0.out _ (HU.out.up H0.bel) (HV.out.up H0.bel) (HQU.out.up H0.bel) (HQV.out.up H0.bel) (HQS.out.up H0.bel) (HTX.out.up H0.bel) (HI.out.up H0.bel) (HG.out.up H0.bel)).mono ?_
  rintro ev w1 ⟨rfl, hb1⟩
  have H := H0.up hb1
  clear H0 hb1 C0
  rcases x0 with _ | _
  · obtain ⟨rfl, rfl⟩ := HN.out rfl
    go_wp2
    go_ret2
    exact ⟨_, [], rfl, rfl, (InvG.start w).moreG (by unfold GOwn; exact World.ownsRow_nil _ _ _ _) H.bel⟩
  obtain ⟨rfl, rfl⟩ := HP.out rfl
  clear HP HN
  obtain ⟨o0, o1, o2, o3, o4, o5, o6, o7, o8, o9, o10⟩ := H.c11 (.head _)
  go_wp2_with fail
  refine (C1.out _ (HTX.out.up H.bel) (HI.out.up H.bel) (HG.out.up H.bel)).mono ?_
  rintro ev w2 ⟨v2, vs, rfl, hv, K⟩
  have HB := Lib.hid H.bel
  have K2 := Lib.hid K
  have HV := Lib.hid hv
  clear K hv H o0 o1 o2 o3 o4 o5 o6 o7 o8 o9 o10
  go_wp2
  go_ret2
  refine ⟨_, vs, rfl, HV.out, ?_⟩
  have k := ((InvG.start w).up HB.out).moreAll K2.out
  simpa using k

set_option maxRecDepth 100000 in
set_option maxHeartbeats 8000000 in
theorem specBlockPath_any (a b c d e x y z qx qy i : Int) (u v qu qv qs tx : Value) (m k ql qk : List UInt8) (L T : List (List UInt8)) (w : World) (hu : Sl w w.heap.size u m) (hv : Sl w w.heap.size v k) (hqu : Sl w w.heap.size qu ql) (hqv : Sl w w.heap.size qv qk) (hqs : SlS w w.heap.size qs L) (htx : SlS w w.heap.size tx T) (hqk : qk.length ≤ 1048576) (hs : sumL T ≤ 1048576) (hTl : T.length ≤ 1048576) :
    Calls Tryz.prog 31 #[.agg #[.int .i64 a, .int .i64 b, .int .i64 c, .int .i64 d, .int .i64 e], .agg #[.int .i64 x, .int .i64 y, .int .i64 z, u, v, .int .i64 qx, .int .i64 qy, qu, qv, qs, tx], .int .i64 i] w (FreshSB w (bpL a b c d e x y z qx qy m k ql qk L T i) (bpB a b c d e x y z qx qy m k ql qk L T i)) := by
  have HU := Lib.hid hu
  have HV := Lib.hid hv
  have HQU := Lib.hid hqu
  have HQV := Lib.hid hqv
  have HQS := Lib.hid hqs
  have HTX := Lib.hid htx
  obtain ⟨A, ac, rfl, p1, p2, p0, p3⟩ := hu
  clear p1 p2 p0 p3
  obtain ⟨B, bc, rfl, p1, p2, p0, p3⟩ := hv
  clear p1 p2 p0 p3
  obtain ⟨C, cc, rfl, p1, p2, p0, p3⟩ := hqu
  clear p1 p2 p0 p3
  obtain ⟨D, dc, rfl, p1, p2, p0, p3⟩ := hqv
  clear p1 p2 p0 p3
  obtain ⟨E, ec, rfl, p1, p2, p0, p3⟩ := hqs
  clear p1 p2 p0 p3
  obtain ⟨F, fc, rfl, p1, p2, p0, p3⟩ := htx
  clear p1 p2 p0 p3
  have c0 := fun W g1 g2 g3 g4 g5 g6 => specBlockOk_any a b c d e x y z qx qy (.slice A m.length ac) (.slice B k.length bc) (.slice C ql.length cc) (.slice D qk.length dc) (.slice E L.length ec) (.slice F T.length fc) m k ql qk L T W g1 g2 g3 g4 g5 g6 (by omega) (by omega) (by omega)
  have C1 := Lib.hid (fun W g1 => specPathOf_any (.slice F T.length fc) T i W g1 hTl (by omega))
  have hP : blockB a b c d e x y z qx qy m k ql qk L T = true → bpL a b c d e x y z qx qy m k ql qk L T i = ofP T i ∧ bpB a b c d e x y z qx qy m k ql qk L T i = leafB i T.length := fun h => ⟨if_pos h, by unfold bpB; rw [h]; rfl⟩
  have hN : blockB a b c d e x y z qx qy m k ql qk L T = false → bpL a b c d e x y z qx qy m k ql qk L T i = [] ∧ bpB a b c d e x y z qx qy m k ql qk L T i = false := fun h => ⟨if_neg (by simp [h]), by unfold bpB; rw [h]; rfl⟩
  obtain ⟨R, hR⟩ : ∃ R, R = bpL a b c d e x y z qx qy m k ql qk L T i := ⟨_, rfl⟩
  obtain ⟨S, hS⟩ : ∃ S, S = bpB a b c d e x y z qx qy m k ql qk L T i := ⟨_, rfl⟩
  obtain ⟨x0, g0⟩ : ∃ x0, x0 = blockB a b c d e x y z qx qy m k ql qk L T := ⟨_, rfl⟩
  rw [← hR, ← hS] at hP hN ⊢
  rw [← g0] at hP hN
  simp only [← g0] at c0
  have C0 := Lib.hid c0
  have HP := Lib.hid hP
  have HN := Lib.hid hN
  clear c0 hP hN hR hS g0
  have H0 : InvF w _ [segX 42 (w.heap.size + 1) [.int .i64 x, .int .i64 y, .int .i64 z, (.slice A m.length ac), (.slice B k.length bc), .int .i64 qx, .int .i64 qy, (.slice C ql.length cc), (.slice D qk.length dc), (.slice E L.length ec), (.slice F T.length fc)], segX 35 w.heap.size [.int .i64 a, .int .i64 b, .int .i64 c, .int .i64 d, .int .i64 e]] := ((InvF.start w).newG 35 #[.int .i64 a, .int .i64 b, .int .i64 c, .int .i64 d, .int .i64 e] w.heap.size).newG 42 #[.int .i64 x, .int .i64 y, .int .i64 z, .slice A m.length ac, .slice B k.length bc, .int .i64 qx, .int .i64 qy, .slice C ql.length cc, .slice D qk.length dc, .slice E L.length ec, .slice F T.length fc] (w.heap.size + 1)
  go_enter Tryz.func31, Tryz.ntmps31
  go_wp2_with fail
  refine (C0.out _ (HU.out.up H0.bel) (HV.out.up H0.bel) (HQU.out.up H0.bel) (HQV.out.up H0.bel) (HQS.out.up H0.bel) (HTX.out.up H0.bel)).mono ?_
  rintro ev w1 ⟨rfl, hb1⟩
  have H := H0.up hb1
  clear H0 hb1 C0
  rcases x0 with _ | _
  · obtain ⟨rfl, rfl⟩ := HN.out rfl
    go_wp2
    go_ret2
    exact ⟨_, [], rfl, rfl, (InvG.start w).moreG (by unfold GOwn; exact World.ownsRow_nil _ _ _ _) H.bel⟩
  obtain ⟨rfl, rfl⟩ := HP.out rfl
  clear HP HN
  obtain ⟨o0, o1, o2, o3, o4, o5, o6, o7, o8, o9, o10⟩ := H.c11 (.head _)
  go_wp2_with fail
  refine (C1.out _ (HTX.out.up H.bel)).mono ?_
  rintro ev w2 ⟨v2, vs, rfl, hv, K⟩
  have HB := Lib.hid H.bel
  have K2 := Lib.hid K
  have HV := Lib.hid hv
  clear K hv H o0 o1 o2 o3 o4 o5 o6 o7 o8 o9 o10
  go_wp2
  go_ret2
  refine ⟨_, vs, rfl, HV.out, ?_⟩
  have k := ((InvG.start w).up HB.out).moreAll K2.out
  simpa using k

end Go.Proofs.YtdoaikanaodefaaGreatDoor
