/- GetHead of the model. -/
import Derived.Test.YtgblkopdchpciaaDoorHdM
import Derived.Test.YtgblkopdchpciaaDoorGetQcS
import Derived.Deep.RegionHeld3
import Derived.Deep.RegionLaw
namespace Go.Proofs.YtgblkopdchpciaaDoor
open Go.ChangeShapes Go.WideShapes Go.ChangeAt Go.RowKit

/-- A header has been decoded: its rows and the decoder behind it. -/
def DecHdS (W : World) (g : Nat) (v : Value) (r : HdAt) (ss : List (List Row)) (ev : Ending) (w' : World) : Prop :=
  ∃ a b qa qb qs vs, ev = .returned (.agg #[.int .i64 r.x, .int .i64 r.y, .int .i64 r.z, a, b, .int .i64 r.q.x, .int .i64 r.q.y, qa, qb, qs]) ∧ vs.length = r.q.L.length ∧
    InvF W w' (segX 53 g [v, .int .i64 r.q.p, .int .i64 r.e] :: segB 5 a r.m :: segB 5 b r.k :: segB 5 qa r.q.m :: segB 5 qb r.q.k :: segS 24 5 qs vs r.q.L :: ss)

set_option maxRecDepth 100000 in
set_option maxHeartbeats 8000000 in
theorem l13Get_any (W w : World) (g : Nat) (v : Value) (l : List UInt8) (a b c d f p e0 : Int) (ss : List (List Row)) (H : InvF W w (segX 53 g [v, .int .i64 p, .int .i64 e0] :: ss)) (hv : Sp W W.heap.size v l) (hl : l.length ≤ 1073741824) :
    Calls Tryd.prog 23 #[.pointer (some ⟨g, 0, none⟩), .agg #[.int .i64 a, .int .i64 b, .int .i64 c, .int .i64 d, .int .i64 f]] w (DecHdS W g v (hdAt l a p e0) ss) := by
  have HV := Lib.hid hv
  obtain ⟨A, n, rfl, kk⟩ := hv.sl
  clear kk hv
  obtain ⟨x, hx⟩ : ∃ x, x = nV l p e0 := ⟨_, rfl⟩
  obtain ⟨p1, hp1⟩ : ∃ x, x = nP l p e0 := ⟨_, rfl⟩
  obtain ⟨e1, he1⟩ : ∃ x, x = nE l p e0 := ⟨_, rfl⟩
  obtain ⟨y, hy⟩ : ∃ x, x = nV l p1 e1 := ⟨_, rfl⟩
  obtain ⟨p2, hp2⟩ : ∃ x, x = nP l p1 e1 := ⟨_, rfl⟩
  obtain ⟨f2, hf2⟩ : ∃ x, x = nE l p1 e1 := ⟨_, rfl⟩
  obtain ⟨e2, he2⟩ : ∃ x, x = fE f2 (!(y == 0)) 5 := ⟨_, rfl⟩
  obtain ⟨z, hz⟩ : ∃ x, x = nV l p2 e2 := ⟨_, rfl⟩
  obtain ⟨p3, hp3⟩ : ∃ x, x = nP l p2 e2 := ⟨_, rfl⟩
  obtain ⟨f3, hf3⟩ : ∃ x, x = nE l p2 e2 := ⟨_, rfl⟩
  obtain ⟨e3, he3⟩ : ∃ x, x = fE f3 (isIn z a) 5 := ⟨_, rfl⟩
  obtain ⟨m, hm⟩ : ∃ x, x = rV l 32 p3 e3 := ⟨_, rfl⟩
  obtain ⟨p4, hp4⟩ : ∃ x, x = rP l 32 p3 e3 := ⟨_, rfl⟩
  obtain ⟨e4, he4⟩ : ∃ x, x = rE l 32 p3 e3 := ⟨_, rfl⟩
  obtain ⟨k, hk⟩ : ∃ x, x = rV l 32 p4 e4 := ⟨_, rfl⟩
  obtain ⟨p5, hp5⟩ : ∃ x, x = rP l 32 p4 e4 := ⟨_, rfl⟩
  obtain ⟨e5, he5⟩ : ∃ x, x = rE l 32 p4 e4 := ⟨_, rfl⟩
  obtain ⟨q, hq⟩ : ∃ x, x = qcAt l a p5 e5 := ⟨_, rfl⟩
  have hr : hdAt l a p e0 = ⟨x, y, z, m, k, q, fE q.e (fitsB x y q.x q.y m q.m) 6⟩ := by
    unfold hdAt
    simp only [← hx, ← hp1, ← he1, ← hy, ← hp2, ← hf2, ← he2, ← hz, ← hp3, ← hf3, ← he3, ← hm, ← hp4, ← he4, ← hk, ← hp5, ← he5, ← hq]
  rw [hr]
  have hy0 : 0 ≤ y := by rw [hy]; exact nV_lo _ _ _
  have hy1 : y ≤ 1152921504606846975 := by rw [hy]; exact nV_hi _ _ _
  have hz0 : 0 ≤ z := by rw [hz]; exact nV_lo _ _ _
  have S1 := Lib.hid (And.intro hx (And.intro hp1 he1))
  have S2 := Lib.hid (And.intro hy (And.intro hp2 hf2))
  have S3 := Lib.hid (And.intro hz (And.intro hp3 hf3))
  have S4 := Lib.hid (And.intro hm (And.intro hp4 he4))
  have S5 := Lib.hid (And.intro hk (And.intro hp5 he5))
  have E2 := Lib.hid he2
  have E3 := Lib.hid he3
  have HQ := Lib.hid hq
  clear hr hx hp1 he1 hy hp2 hf2 he2 hz hp3 hf3 he3 hm hp4 he4 hk hp5 he5 hq
  have Ha : InvF W (w.alloc (.cells #[.int .i64 a, .int .i64 b, .int .i64 c, .int .i64 d, .int .i64 f] 32)) (segX 53 g [.slice A l.length n, .int .i64 p, .int .i64 e0] :: segX 32 w.heap.size [.int .i64 a, .int .i64 b, .int .i64 c, .int .i64 d, .int .i64 f] :: ss) := (H.newG 32 #[.int .i64 a, .int .i64 b, .int .i64 c, .int .i64 d, .int .i64 f] w.heap.size rfl).front 1 rfl
  have H1 : InvF W ((w.alloc (.cells #[.int .i64 a, .int .i64 b, .int .i64 c, .int .i64 d, .int .i64 f] 32)).alloc (.cells #[.int .i64 0, .int .i64 0, .int .i64 0, .slice none 0 0, .slice none 0 0, .int .i64 0, .int .i64 0, .slice none 0 0, .slice none 0 0, .slice none 0 0] 29)) (segX 53 g [.slice A l.length n, .int .i64 p, .int .i64 e0] :: segX 29 (w.heap.size + 1) [.int .i64 0, .int .i64 0, .int .i64 0, .slice none 0 0, .slice none 0 0, .int .i64 0, .int .i64 0, .slice none 0 0, .slice none 0 0, .slice none 0 0] :: segX 32 w.heap.size [.int .i64 a, .int .i64 b, .int .i64 c, .int .i64 d, .int .i64 f] :: ss) := (Ha.newG 29 #[.int .i64 0, .int .i64 0, .int .i64 0, .slice none 0 0, .slice none 0 0, .int .i64 0, .int .i64 0, .slice none 0 0, .slice none 0 0, .slice none 0 0] (w.heap.size + 1)).front 1 rfl
  clear Ha H
  go_enter Tryd.func23, Tryd.ntmps23
  go_wp2_with fail
  refine (l11Var_any W _ g _ l p e0 _ H1 HV.out (by omega)).mono ?_
  rw [← S1.out.1, ← S1.out.2.1, ← S1.out.2.2]
  rintro ev w2 ⟨rfl, H2⟩
  clear H1
  go_wp2_with fail
  have H3 := (H2.newX 29 #[.int .i64 x, .int .i64 0, .int .i64 0, .slice none 0 0, .slice none 0 0, .int .i64 0, .int .i64 0, .slice none 0 0, .slice none 0 0, .slice none 0 0]).front 1 rfl
  clear H2
  refine (l11Var_any W _ g _ l p1 e1 _ H3 HV.out (by omega)).mono ?_
  rw [← S2.out.1, ← S2.out.2.1, ← S2.out.2.2]
  rintro ev w4 ⟨rfl, H4⟩
  replace H4 : InvF W w4 (segX 53 g [.slice A l.length n, .int .i64 p2, .int .i64 f2] :: segX 29 w2.heap.size [.int .i64 x, .int .i64 0, .int .i64 0, .slice none 0 0, .slice none 0 0, .int .i64 0, .int .i64 0, .slice none 0 0, .slice none 0 0, .slice none 0 0] :: segX 29 (w.heap.size + 1) [.int .i64 0, .int .i64 0, .int .i64 0, .slice none 0 0, .slice none 0 0, .int .i64 0, .int .i64 0, .slice none 0 0, .slice none 0 0, .slice none 0 0] :: segX 32 w.heap.size [.int .i64 a, .int .i64 b, .int .i64 c, .int .i64 d, .int .i64 f] :: ss) := H4
  clear H3
  obtain ⟨o0, o1, o2, o3, o4, o5, o6, o7, o8, o9⟩ := H4.c10 (.tail _ (.head _))
  have f1 := H4.frX (.tail _ (.head _)) 1
  go_wp2_with fail
  have H5 := ((H4.front 1 rfl).setX 1 (.int .i64 y)).front 1 rfl
  clear H4 o0 o1 o2 o3 o4 o5 o6 o7 o8 o9 f1
  refine (l11Fail_any W _ g _ p2 f2 5 _ _ H5).mono ?_
  rw [← E2.out]
  rintro ev w5 ⟨rfl, H6⟩
  replace H6 : InvF W w5 (segX 53 g [.slice A l.length n, .int .i64 p2, .int .i64 e2] :: segX 29 w2.heap.size [.int .i64 x, .int .i64 y, .int .i64 0, .slice none 0 0, .slice none 0 0, .int .i64 0, .int .i64 0, .slice none 0 0, .slice none 0 0, .slice none 0 0] :: segX 29 (w.heap.size + 1) [.int .i64 0, .int .i64 0, .int .i64 0, .slice none 0 0, .slice none 0 0, .int .i64 0, .int .i64 0, .slice none 0 0, .slice none 0 0, .slice none 0 0] :: segX 32 w.heap.size [.int .i64 a, .int .i64 b, .int .i64 c, .int .i64 d, .int .i64 f] :: ss) := H6
  clear H5
  go_wp2_with fail
  refine (l11Var_any W _ g _ l p2 e2 _ H6 HV.out (by omega)).mono ?_
  rw [← S3.out.1, ← S3.out.2.1, ← S3.out.2.2]
  rintro ev w6 ⟨rfl, H7⟩
  replace H7 : InvF W w6 (segX 53 g [.slice A l.length n, .int .i64 p3, .int .i64 f3] :: segX 29 w2.heap.size [.int .i64 x, .int .i64 y, .int .i64 0, .slice none 0 0, .slice none 0 0, .int .i64 0, .int .i64 0, .slice none 0 0, .slice none 0 0, .slice none 0 0] :: segX 29 (w.heap.size + 1) [.int .i64 0, .int .i64 0, .int .i64 0, .slice none 0 0, .slice none 0 0, .int .i64 0, .int .i64 0, .slice none 0 0, .slice none 0 0, .slice none 0 0] :: segX 32 w.heap.size [.int .i64 a, .int .i64 b, .int .i64 c, .int .i64 d, .int .i64 f] :: ss) := H7
  clear H6
  obtain ⟨o0, o1, o2, o3, o4, o5, o6, o7, o8, o9⟩ := H7.c10 (.tail _ (.head _))
  obtain ⟨t0, t1, t2, t3, t4⟩ := H7.c5 (.tail _ (.tail _ (.tail _ (.head _))))
  have f2' := H7.frX (.tail _ (.head _)) 2
  go_wp2_with fail
  have H8 := ((H7.front 1 rfl).setX 2 (.int .i64 z)).front 1 rfl
  clear H7 o0 o1 o2 o3 o4 o5 o6 o7 o8 o9 t0 t1 t2 t3 t4 f2'
  have hge : (!decide (a ≤ z)) = isIn z a := by unfold isIn; by_cases h : a ≤ z <;> simp [h, hz0] <;> omega
  have hcall := l11Fail_any W _ g _ p3 f3 5 (decide (a ≤ z)) _ H8
  rw [hge, ← E3.out] at hcall
  refine hcall.mono ?_
  rintro ev w7 ⟨rfl, H9⟩
  replace H9 : InvF W w7 (segX 53 g [.slice A l.length n, .int .i64 p3, .int .i64 e3] :: segX 29 w2.heap.size [.int .i64 x, .int .i64 y, .int .i64 z, .slice none 0 0, .slice none 0 0, .int .i64 0, .int .i64 0, .slice none 0 0, .slice none 0 0, .slice none 0 0] :: segX 29 (w.heap.size + 1) [.int .i64 0, .int .i64 0, .int .i64 0, .slice none 0 0, .slice none 0 0, .int .i64 0, .int .i64 0, .slice none 0 0, .slice none 0 0, .slice none 0 0] :: segX 32 w.heap.size [.int .i64 a, .int .i64 b, .int .i64 c, .int .i64 d, .int .i64 f] :: ss) := H9
  clear H8 hcall hge
  go_wp2_with fail
  refine (l11Raw_any W _ g _ l p3 e3 _ H9 HV.out (by omega)).mono ?_
  rw [← S4.out.1, ← S4.out.2.1, ← S4.out.2.2]
  rintro ev w8 ⟨u8, rfl, H10⟩
  replace H10 : InvF W w8 (segX 53 g [.slice A l.length n, .int .i64 p4, .int .i64 e4] :: segB 5 u8 m :: segX 29 w2.heap.size [.int .i64 x, .int .i64 y, .int .i64 z, .slice none 0 0, .slice none 0 0, .int .i64 0, .int .i64 0, .slice none 0 0, .slice none 0 0, .slice none 0 0] :: segX 29 (w.heap.size + 1) [.int .i64 0, .int .i64 0, .int .i64 0, .slice none 0 0, .slice none 0 0, .int .i64 0, .int .i64 0, .slice none 0 0, .slice none 0 0, .slice none 0 0] :: segX 32 w.heap.size [.int .i64 a, .int .i64 b, .int .i64 c, .int .i64 d, .int .i64 f] :: ss) := H10
  clear H9
  obtain ⟨A8, c8, rfl⟩ := H10.openB' (.tail _ (.head _))
  obtain ⟨o0, o1, o2, o3, o4, o5, o6, o7, o8, o9⟩ := H10.c10 (.tail _ (.tail _ (.head _)))
  have f3' := H10.frX (.tail _ (.tail _ (.head _))) 3
  go_wp2_with fail
  have H11 : InvF W _ (segX 53 g [.slice A l.length n, .int .i64 p4, .int .i64 e4] :: segX 29 w2.heap.size [.int .i64 x, .int .i64 y, .int .i64 z, .slice A8 m.length c8, .slice none 0 0, .int .i64 0, .int .i64 0, .slice none 0 0, .slice none 0 0, .slice none 0 0] :: segB 5 (.slice A8 m.length c8) m :: segX 29 (w.heap.size + 1) [.int .i64 0, .int .i64 0, .int .i64 0, .slice none 0 0, .slice none 0 0, .int .i64 0, .int .i64 0, .slice none 0 0, .slice none 0 0, .slice none 0 0] :: segX 32 w.heap.size [.int .i64 a, .int .i64 b, .int .i64 c, .int .i64 d, .int .i64 f] :: ss) := ((H10.front 2 rfl).setX 3 (.slice A8 m.length c8)).front 1 rfl
  clear H10 o0 o1 o2 o3 o4 o5 o6 o7 o8 o9 f3'
  refine (l11Raw_any W _ g _ l p4 e4 _ H11 HV.out (by omega)).mono ?_
  rw [← S5.out.1, ← S5.out.2.1, ← S5.out.2.2]
  rintro ev w9 ⟨u9, rfl, H12⟩
  replace H12 : InvF W w9 (segX 53 g [.slice A l.length n, .int .i64 p5, .int .i64 e5] :: segB 5 u9 k :: segX 29 w2.heap.size [.int .i64 x, .int .i64 y, .int .i64 z, .slice A8 m.length c8, .slice none 0 0, .int .i64 0, .int .i64 0, .slice none 0 0, .slice none 0 0, .slice none 0 0] :: segB 5 (.slice A8 m.length c8) m :: segX 29 (w.heap.size + 1) [.int .i64 0, .int .i64 0, .int .i64 0, .slice none 0 0, .slice none 0 0, .int .i64 0, .int .i64 0, .slice none 0 0, .slice none 0 0, .slice none 0 0] :: segX 32 w.heap.size [.int .i64 a, .int .i64 b, .int .i64 c, .int .i64 d, .int .i64 f] :: ss) := H12
  clear H11
  obtain ⟨A9, c9, rfl⟩ := H12.openB' (.tail _ (.head _))
  obtain ⟨o0, o1, o2, o3, o4, o5, o6, o7, o8, o9⟩ := H12.c10 (.tail _ (.tail _ (.head _)))
  obtain ⟨t0, t1, t2, t3, t4⟩ := H12.c5 (.tail _ (.tail _ (.tail _ (.tail _ (.tail _ (.head _))))))
  have f4' := H12.frX (.tail _ (.tail _ (.head _))) 4
  have H13 : InvF W (w9.setCell ⟨w2.heap.size, 4, none⟩ (.slice A9 k.length c9)) (segX 53 g [.slice A l.length n, .int .i64 p5, .int .i64 e5] :: segX 29 w2.heap.size [.int .i64 x, .int .i64 y, .int .i64 z, .slice A8 m.length c8, .slice A9 k.length c9, .int .i64 0, .int .i64 0, .slice none 0 0, .slice none 0 0, .slice none 0 0] :: segB 5 (.slice A9 k.length c9) k :: segB 5 (.slice A8 m.length c8) m :: segX 29 (w.heap.size + 1) [.int .i64 0, .int .i64 0, .int .i64 0, .slice none 0 0, .slice none 0 0, .int .i64 0, .int .i64 0, .slice none 0 0, .slice none 0 0, .slice none 0 0] :: segX 32 w.heap.size [.int .i64 a, .int .i64 b, .int .i64 c, .int .i64 d, .int .i64 f] :: ss) := ((H12.front 2 rfl).setX 4 (.slice A9 k.length c9)).front 1 rfl
  obtain ⟨s0, s1, s2, s3, s4⟩ := H13.c5 (.tail _ (.tail _ (.tail _ (.tail _ (.tail _ (.head _))))))
  go_wp2_with fail
  clear H12 o0 o1 o2 o3 o4 o5 o6 o7 o8 o9 t0 t1 t2 t3 t4 f4' s0 s1 s2 s3 s4
  refine (l12Get_any W _ g _ l a b c d f p5 e5 _ H13 HV.out hl).mono ?_
  rw [← HQ.out]
  obtain ⟨qx, qy, qm, qk, qL, qp, qe⟩ := q
  dsimp only
  rintro ev w10 ⟨u1, u2, u3, vs, rfl, hvs, H14⟩
  dsimp only at hvs H14 ⊢
  replace H14 : InvF W w10 (segX 53 g [.slice A l.length n, .int .i64 qp, .int .i64 qe] :: segB 5 u1 qm :: segB 5 u2 qk :: segS 24 5 u3 vs qL :: segX 29 w2.heap.size [.int .i64 x, .int .i64 y, .int .i64 z, .slice A8 m.length c8, .slice A9 k.length c9, .int .i64 0, .int .i64 0, .slice none 0 0, .slice none 0 0, .slice none 0 0] :: segB 5 (.slice A9 k.length c9) k :: segB 5 (.slice A8 m.length c8) m :: segX 29 (w.heap.size + 1) [.int .i64 0, .int .i64 0, .int .i64 0, .slice none 0 0, .slice none 0 0, .int .i64 0, .int .i64 0, .slice none 0 0, .slice none 0 0, .slice none 0 0] :: segX 32 w.heap.size [.int .i64 a, .int .i64 b, .int .i64 c, .int .i64 d, .int .i64 f] :: ss) := H14
  clear H13
  obtain ⟨B1, d1, rfl⟩ := H14.openB' (.tail _ (.head _))
  obtain ⟨B2, d2, rfl⟩ := H14.openB' (.tail _ (.tail _ (.head _)))
  obtain ⟨B3, d3, rfl⟩ := H14.openS hvs (.tail _ (.tail _ (.tail _ (.head _))))
  have HVS := Lib.hid hvs
  clear hvs
  have hT1 := H14.thereX (.tail _ (.tail _ (.tail _ (.tail _ (.head _))))) 5 5 (by simp)
  have K1 := (H14.front 4 rfl).sets5 (.int .i64 qx) (.int .i64 qy) (.slice B1 qm.length d1) (.slice B2 qk.length d2) (.slice B3 qL.length d3)
  replace K1 : InvF W (w10.setCells w2.heap.size 5 [.int .i64 qx, .int .i64 qy, .slice B1 qm.length d1, .slice B2 qk.length d2, .slice B3 qL.length d3]) (segX 53 g [.slice A l.length n, .int .i64 qp, .int .i64 qe] :: segX 29 w2.heap.size [.int .i64 x, .int .i64 y, .int .i64 z, .slice A8 m.length c8, .slice A9 k.length c9, .int .i64 qx, .int .i64 qy, .slice B1 qm.length d1, .slice B2 qk.length d2, .slice B3 qL.length d3] :: segB 5 (.slice B1 qm.length d1) qm :: segB 5 (.slice B2 qk.length d2) qk :: segS 24 5 (.slice B3 qL.length d3) vs qL :: segB 5 (.slice A9 k.length c9) k :: segB 5 (.slice A8 m.length c8) m :: segX 29 (w.heap.size + 1) [.int .i64 0, .int .i64 0, .int .i64 0, .slice none 0 0, .slice none 0 0, .int .i64 0, .int .i64 0, .slice none 0 0, .slice none 0 0, .slice none 0 0] :: segX 32 w.heap.size [.int .i64 a, .int .i64 b, .int .i64 c, .int .i64 d, .int .i64 f] :: ss) := K1.front 1 rfl
  have hR1 := K1.rangeX (.tail _ (.head _))
  clear H14
  go_simp
  go_step
  go_step
  go_step
  go_step
  refine wpList_store_mid rfl 27 (.tmp 36) (.tmp 35) rfl w2.heap.size 5 #[.int .i64 qx, .int .i64 qy, .slice B1 qm.length d1, .slice B2 qk.length d2, .slice B3 qL.length d3] rfl rfl hT1 (by kernel_rfl) (by simp [Value.oneCell']) ?_
  go_step
  go_step
  go_step
  go_step
  go_step
  go_step
  go_step
  go_step
  refine wpList_load_mid rfl 29 (.tmp 5) rfl w2.heap.size 0 rfl [.int .i64 x, .int .i64 y, .int .i64 z, .slice A8 m.length c8, .slice A9 k.length c9, .int .i64 qx, .int .i64 qy, .slice B1 qm.length d1, .slice B2 qk.length d2, .slice B3 qL.length d3] _ hR1 Tryd.underlying29 rfl (by kernel_rfl) ?_
  show wpList _ _ _ _ _ (w10.setCells w2.heap.size 5 [.int .i64 qx, .int .i64 qy, .slice B1 qm.length d1, .slice B2 qk.length d2, .slice B3 qL.length d3])
  generalize w10.setCells w2.heap.size 5 [.int .i64 qx, .int .i64 qy, .slice B1 qm.length d1, .slice B2 qk.length d2, .slice B3 qL.length d3] = w11 at *
  go_wp2_with fail
  refine (l13Fits_any x y z qx qy _ _ _ _ _ m k qm qk qL _ (K1.slB 5 (.tail _ (.tail _ (.tail _ (.tail _ (.tail _ (.tail _ (.head _)))))))) (K1.slB 5 (.tail _ (.tail _ (.tail _ (.tail _ (.tail _ (.head _))))))) (K1.slB 5 (.tail _ (.tail _ (.head _)))) (K1.slB 5 (.tail _ (.tail _ (.tail _ (.head _))))) (K1.slS 24 5 HVS.out (.tail _ (.tail _ (.tail _ (.tail _ (.head _)))))) hy0 hy1).mono ?_
  rintro ev w12 ⟨rfl, hb⟩
  have K2 := K1.up hb
  clear hb hR1 hT1
  obtain ⟨fb, hfb⟩ : ∃ fb, fb = fitsB x y qx qy m qm := ⟨_, rfl⟩
  rw [← hfb]
  have HFB := Lib.hid hfb
  clear hfb K1
  go_wp2_with fail
  have hcall := l11Fail_any W _ g _ qp qe 6 (!fb) _ K2
  rw [Bool.not_not] at hcall
  refine hcall.mono ?_
  obtain ⟨ee, hee⟩ : ∃ ee, ee = fE qe fb 6 := ⟨_, rfl⟩
  rw [← hee]
  have HEE := Lib.hid hee
  clear hee hcall
  rintro ev w13 ⟨rfl, K3⟩
  replace K3 : InvF W w13 (segX 53 g [.slice A l.length n, .int .i64 qp, .int .i64 ee] :: segX 29 w2.heap.size [.int .i64 x, .int .i64 y, .int .i64 z, .slice A8 m.length c8, .slice A9 k.length c9, .int .i64 qx, .int .i64 qy, .slice B1 qm.length d1, .slice B2 qk.length d2, .slice B3 qL.length d3] :: segB 5 (.slice B1 qm.length d1) qm :: segB 5 (.slice B2 qk.length d2) qk :: segS 24 5 (.slice B3 qL.length d3) vs qL :: segB 5 (.slice A9 k.length c9) k :: segB 5 (.slice A8 m.length c8) m :: segX 29 (w.heap.size + 1) [.int .i64 0, .int .i64 0, .int .i64 0, .slice none 0 0, .slice none 0 0, .int .i64 0, .int .i64 0, .slice none 0 0, .slice none 0 0, .slice none 0 0] :: segX 32 w.heap.size [.int .i64 a, .int .i64 b, .int .i64 c, .int .i64 d, .int .i64 f] :: ss) := K3
  have hR2 := K3.rangeX (.tail _ (.head _))
  have hT2 := K3.thereX (.tail _ (.tail _ (.tail _ (.tail _ (.tail _ (.tail _ (.tail _ (.head _)))))))) 0 10 (by simp)
  have K4 := (K3.front 7 rfl).sets10 (.int .i64 x) (.int .i64 y) (.int .i64 z) (.slice A8 m.length c8) (.slice A9 k.length c9) (.int .i64 qx) (.int .i64 qy) (.slice B1 qm.length d1) (.slice B2 qk.length d2) (.slice B3 qL.length d3)
  have hR3 := K4.rangeX (.head _)
  have K5 := Lib.hid (K4.sub (qs := segX 53 g [.slice A l.length n, .int .i64 qp, .int .i64 ee] :: segB 5 (.slice B1 qm.length d1) qm :: segB 5 (.slice B2 qk.length d2) qk :: segS 24 5 (.slice B3 qL.length d3) vs qL :: segB 5 (.slice A9 k.length c9) k :: segB 5 (.slice A8 m.length c8) m :: ss) (.cons _ (.cons_cons _ (.cons _ (.cons_cons _ (.cons_cons _ (.cons_cons _ (.cons_cons _ (.cons_cons _ (.cons _ (List.Sublist.refl _)))))))))))
  clear K2 K3 K4
  go_simp
  go_step
  go_step
  go_step
  go_step
  go_step
  go_step
  refine wpList_load_mid rfl 29 (.tmp 5) rfl w2.heap.size 0 rfl [.int .i64 x, .int .i64 y, .int .i64 z, .slice A8 m.length c8, .slice A9 k.length c9, .int .i64 qx, .int .i64 qy, .slice B1 qm.length d1, .slice B2 qk.length d2, .slice B3 qL.length d3] _ hR2 Tryd.underlying29 rfl (by kernel_rfl) ?_
  refine wpList_store_mid rfl 29 (.tmp 4) (.tmp 42) rfl (w.heap.size + 1) 0 #[.int .i64 x, .int .i64 y, .int .i64 z, .slice A8 m.length c8, .slice A9 k.length c9, .int .i64 qx, .int .i64 qy, .slice B1 qm.length d1, .slice B2 qk.length d2, .slice B3 qL.length d3] rfl rfl hT2 (by kernel_rfl) (by simp [Value.oneCell']) ?_
  go_step
  go_step
  go_step
  go_step
  refine bodyPost_ret (results_cell_mid Tryd.results23 _ _ (w.heap.size + 1) 0 [.int .i64 x, .int .i64 y, .int .i64 z, .slice A8 m.length c8, .slice A9 k.length c9, .int .i64 qx, .int .i64 qy, .slice B1 qm.length d1, .slice B2 qk.length d2, .slice B3 qL.length d3] _ rfl hR3 Tryd.underlying29 rfl (by kernel_rfl)) rfl ⟨_, _, _, _, _, vs, rfl, HVS.out, ?_⟩
  rw [← HFB.out, ← HEE.out]
  exact ((K5.out.front 4 rfl).front 5 rfl).front 2 rfl

set_option maxRecDepth 100000 in
set_option maxHeartbeats 8000000 in
theorem specGetHead_any (a b c d e p : Int) (v : Value) (l : List UInt8) (w : World) (hv : Sp w w.heap.size v l) (hl : l.length ≤ 1073741824) :
    Calls Tryd.prog 6 #[.agg #[.int .i64 a, .int .i64 b, .int .i64 c, .int .i64 d, .int .i64 e], v, .int .i64 p] w (GotHd w (hdAt l a p (limE a b c d e))) := by
  have HV := Lib.hid hv
  obtain ⟨A, n, rfl, k1⟩ := hv.sl
  clear k1
  obtain ⟨e0, he0⟩ : ∃ e0, e0 = limE a b c d e := ⟨_, rfl⟩
  have c0 := fun W h => l11New_any a b c d e p (.slice A l.length n) W l h
  rw [← he0] at c0 ⊢
  have C0 := Lib.hid c0
  clear c0 he0 hv
  obtain ⟨r, hr⟩ : ∃ r, r = hdAt l a p e0 := ⟨_, rfl⟩
  rw [← hr]
  have HR := Lib.hid hr
  clear hr
  obtain ⟨x, y, z, m, k, ⟨qx, qy, qm, qk, qL, qp, qe⟩, ee⟩ := r
  have H0 := ((InvF.start w).newG 32 #[.int .i64 a, .int .i64 b, .int .i64 c, .int .i64 d, .int .i64 e] w.heap.size).newG 29 #[.int .i64 0, .int .i64 0, .int .i64 0, .slice none 0 0, .slice none 0 0, .int .i64 0, .int .i64 0, .slice none 0 0, .slice none 0 0, .slice none 0 0] (w.heap.size + 1)
  go_enter Tryd.func6, Tryd.ntmps6
  go_wp2_with fail
  refine (C0.out _ (HV.out.up H0.bel).sl).mono ?_
  rintro ev w1 ⟨g, rfl, K⟩
  have H1 : InvF w w1 (segX 53 g [.slice A l.length n, .int .i64 p, .int .i64 e0] :: [segX 29 (w.heap.size + 1) [.int .i64 0, .int .i64 0, .int .i64 0, .slice none 0 0, .slice none 0 0, .int .i64 0, .int .i64 0, .slice none 0 0, .slice none 0 0, .slice none 0 0], segX 32 w.heap.size [.int .i64 a, .int .i64 b, .int .i64 c, .int .i64 d, .int .i64 e]]) := H0.moreF K
  clear H0 K C0
  obtain ⟨t0, t1, t2, t3, t4⟩ := H1.c5 (.tail _ (.tail _ (.head _)))
  go_wp2_with fail
  refine (l13Get_any w _ g _ l a b c d e p e0 _ H1 HV.out hl).mono ?_
  rw [← HR.out]
  clear H1 t0 t1 t2 t3 t4
  rintro ev w3 ⟨u1, u2, u3, u4, u5, vs, rfl, hv, K3⟩
  dsimp only at hv K3 ⊢
  replace K3 : InvF w w3 (segX 53 g [.slice A l.length n, .int .i64 qp, .int .i64 ee] :: segB 5 u1 m :: segB 5 u2 k :: segB 5 u3 qm :: segB 5 u4 qk :: segS 24 5 u5 vs qL :: [segX 29 (w.heap.size + 1) [.int .i64 0, .int .i64 0, .int .i64 0, .slice none 0 0, .slice none 0 0, .int .i64 0, .int .i64 0, .slice none 0 0, .slice none 0 0, .slice none 0 0], segX 32 w.heap.size [.int .i64 a, .int .i64 b, .int .i64 c, .int .i64 d, .int .i64 e]]) := K3
  obtain ⟨B1, d1, rfl⟩ := K3.openB' (.tail _ (.head _))
  obtain ⟨B2, d2, rfl⟩ := K3.openB' (.tail _ (.tail _ (.head _)))
  obtain ⟨B3, d3, rfl⟩ := K3.openB' (.tail _ (.tail _ (.tail _ (.head _))))
  obtain ⟨B4, d4, rfl⟩ := K3.openB' (.tail _ (.tail _ (.tail _ (.tail _ (.head _)))))
  obtain ⟨B5, d5, rfl⟩ := K3.openS hv (.tail _ (.tail _ (.tail _ (.tail _ (.tail _ (.head _))))))
  have HVS := Lib.hid hv
  clear hv
  have K4 : InvF w (w3.alloc (.cells #[.int .i64 x, .int .i64 y, .int .i64 z, .slice B1 m.length d1, .slice B2 k.length d2, .int .i64 qx, .int .i64 qy, .slice B3 qm.length d3, .slice B4 qk.length d4, .slice B5 qL.length d5] 29)) (segX 29 w3.heap.size [.int .i64 x, .int .i64 y, .int .i64 z, .slice B1 m.length d1, .slice B2 k.length d2, .int .i64 qx, .int .i64 qy, .slice B3 qm.length d3, .slice B4 qk.length d4, .slice B5 qL.length d5] :: segX 53 g [.slice A l.length n, .int .i64 qp, .int .i64 ee] :: segB 5 (.slice B1 m.length d1) m :: segB 5 (.slice B2 k.length d2) k :: segB 5 (.slice B3 qm.length d3) qm :: segB 5 (.slice B4 qk.length d4) qk :: segS 24 5 (.slice B5 qL.length d5) vs qL :: [segX 29 (w.heap.size + 1) [.int .i64 0, .int .i64 0, .int .i64 0, .slice none 0 0, .slice none 0 0, .int .i64 0, .int .i64 0, .slice none 0 0, .slice none 0 0, .slice none 0 0], segX 32 w.heap.size [.int .i64 a, .int .i64 b, .int .i64 c, .int .i64 d, .int .i64 e]]) := K3.newX 29 #[.int .i64 x, .int .i64 y, .int .i64 z, .slice B1 m.length d1, .slice B2 k.length d2, .int .i64 qx, .int .i64 qy, .slice B3 qm.length d3, .slice B4 qk.length d4, .slice B5 qL.length d5]
  have q2 := K4.atX (.tail _ (.head _)) 2 rfl
  have q1 := K4.atX (.tail _ (.head _)) 1 rfl
  clear K3
  by_cases he : ee = 0
  · subst he
    have HY := Lib.hid (fun ev w' => goth_yes (w := w) (r := ⟨x, y, z, m, k, ⟨qx, qy, qm, qk, qL, qp, qe⟩, 0⟩) (e := ev) (w' := w') rfl)
    go_wp2_with fail
    clear q2 q1
    generalize w3.alloc (.cells #[.int .i64 x, .int .i64 y, .int .i64 z, .slice B1 m.length d1, .slice B2 k.length d2, .int .i64 qx, .int .i64 qy, .slice B3 qm.length d3, .slice B4 qk.length d4, .slice B5 qL.length d5] 29) = w4 at *
    have K14 := Lib.hid (((K4.front 7 rfl).over10 (.int .i64 x) (.int .i64 y) (.int .i64 z) (.slice B1 m.length d1) (.slice B2 k.length d2) (.int .i64 qx) (.int .i64 qy) (.slice B3 qm.length d3) (.slice B4 qk.length d4) (.slice B5 qL.length d5)).drew1)
    have L13 := Lib.hid (And.intro (K4.drew1.atX (.tail _ (.head _)) 1 rfl) (K4.drew1.k10 (.head _)))
    have L14 := Lib.hid (And.intro (K14.out.atX (.tail _ (.tail _ (.head _))) 1 rfl) (K14.out.k10 (.tail _ (.head _))))
    obtain ⟨r0, r1, r2, r3, r4, r5, r6, r7, r8, r9⟩ := K4.c10 (.tail _ (.tail _ (.tail _ (.tail _ (.tail _ (.tail _ (.tail _ (.head _))))))))
    obtain ⟨f0, f1, f2, f3, f4, f5, f6, f7, f8, f9⟩ := K4.f10 (.tail _ (.tail _ (.tail _ (.tail _ (.tail _ (.tail _ (.tail _ (.head _))))))))
    have hR3 := K14.out.rangeX (.head _)
    clear K4 HV HR
    go_region_held3 (fun w' => w'.cell? ⟨g, 1, none⟩ = some (.int .i64 qp) ∧ w'.cell? ⟨w3.heap.size, 0, none⟩ = some (.int .i64 x) ∧ w'.cell? ⟨w3.heap.size, 1, none⟩ = some (.int .i64 y) ∧ w'.cell? ⟨w3.heap.size, 2, none⟩ = some (.int .i64 z) ∧ w'.cell? ⟨w3.heap.size, 3, none⟩ = some (.slice B1 m.length d1) ∧ w'.cell? ⟨w3.heap.size, 4, none⟩ = some (.slice B2 k.length d2) ∧ w'.cell? ⟨w3.heap.size, 5, none⟩ = some (.int .i64 qx) ∧ w'.cell? ⟨w3.heap.size, 6, none⟩ = some (.int .i64 qy) ∧ w'.cell? ⟨w3.heap.size, 7, none⟩ = some (.slice B3 qm.length d3) ∧ w'.cell? ⟨w3.heap.size, 8, none⟩ = some (.slice B4 qk.length d4) ∧ w'.cell? ⟨w3.heap.size, 9, none⟩ = some (.slice B5 qL.length d5))
      (first
        | with_reducible exact L13.out
        | with_reducible exact L14.out)
      (fail)
    repeat go_step
    refine bodyPost_ret (results_cell3_mid Tryd.results6 _ _ (w.heap.size + 1) 0 [.int .i64 x, .int .i64 y, .int .i64 z, .slice B1 m.length d1, .slice B2 k.length d2, .int .i64 qx, .int .i64 qy, .slice B3 qm.length d3, .slice B4 qk.length d4, .slice B5 qL.length d5] _ (.int .i64 qp) (.int .i64 0) rfl rfl rfl hR3 Tryd.underlying29 rfl (by kernel_rfl)) rfl (HY.out _ _ ⟨_, _, _, _, _, _, vs, rfl, HVS.out, reads0_row (K14.out.2.1 _ (InvF.mem (.tail _ (.tail _ (.tail _ (.tail _ (.tail _ (.tail _ (.tail _ (.head _)))))))) (.head _))), ?_⟩)
    exact K14.out.sub (qs := [segB 5 (.slice B1 m.length d1) m, segB 5 (.slice B2 k.length d2) k, segB 5 (.slice B3 qm.length d3) qm, segB 5 (.slice B4 qk.length d4) qk, segS 24 5 (.slice B5 qL.length d5) vs qL]) (.cons _ (.cons _ (.cons _ (.cons_cons _ (.cons_cons _ (.cons_cons _ (.cons_cons _ (.cons_cons _ (.cons _ .slnil)))))))))
  · have HN := Lib.hid (fun ev w' => goth_no (w := w) (r := ⟨x, y, z, m, k, ⟨qx, qy, qm, qk, qL, qp, qe⟩, ee⟩) (e := ev) (w' := w') he)
    have hne : (ee != 0) = true := by simpa using he
    clear he
    go_wp2_with fail
    clear q2 q1
    generalize w3.alloc (.cells #[.int .i64 x, .int .i64 y, .int .i64 z, .slice B1 m.length d1, .slice B2 k.length d2, .int .i64 qx, .int .i64 qy, .slice B3 qm.length d3, .slice B4 qk.length d4, .slice B5 qL.length d5] 29) = w4 at *
    have K14 := Lib.hid (((K4.front 7 rfl).over10 (.int .i64 0) (.int .i64 0) (.int .i64 0) (.slice none 0 0) (.slice none 0 0) (.int .i64 0) (.int .i64 0) (.slice none 0 0) (.slice none 0 0) (.slice none 0 0)).drew1)
    have L13 := Lib.hid (K4.drew1.atX (.tail _ (.head _)) 2 rfl)
    have L14 := Lib.hid (K14.out.atX (.tail _ (.tail _ (.head _))) 2 rfl)
    obtain ⟨r0, r1, r2, r3, r4, r5, r6, r7, r8, r9⟩ := K4.c10 (.tail _ (.tail _ (.tail _ (.tail _ (.tail _ (.tail _ (.tail _ (.head _))))))))
    obtain ⟨f0, f1, f2, f3, f4, f5, f6, f7, f8, f9⟩ := K4.f10 (.tail _ (.tail _ (.tail _ (.tail _ (.tail _ (.tail _ (.tail _ (.head _))))))))
    have hR3 := K14.out.rangeX (.head _)
    clear K4 HV HR
    go_region_held3 (fun w' => w'.cell? ⟨g, 2, none⟩ = some (.int .i64 ee))
      (first
        | with_reducible exact L13.out
        | with_reducible exact L14.out)
      (fail)
    repeat go_step
    refine bodyPost_ret (results_cell3_mid Tryd.results6 _ _ (w.heap.size + 1) 0 [.int .i64 0, .int .i64 0, .int .i64 0, .slice none 0 0, .slice none 0 0, .int .i64 0, .int .i64 0, .slice none 0 0, .slice none 0 0, .slice none 0 0] _ (.int .i64 0) (.int .i64 ee) rfl rfl rfl hR3 Tryd.underlying29 rfl (by kernel_rfl)) rfl (HN.out _ _ rfl K14.out.bel)
end Go.Proofs.YtgblkopdchpciaaDoor
