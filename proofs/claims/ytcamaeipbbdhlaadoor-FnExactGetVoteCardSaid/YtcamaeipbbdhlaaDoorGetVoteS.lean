/- GetVote of the model. -/
import Derived.Test.YtcamaeipbbdhlaaDoorDecS
import Derived.Test.YtcamaeipbbdhlaaDoorVote
namespace Go.Proofs.YtcamaeipbbdhlaaDoor
open Go.ChangeShapes Go.WideShapes Go.ChangeAt Go.RowKit

/-- What GetVote reads of l from place p on under limits of n signers, the error e being there already: the places and errors behind each part. -/
structure VoteAt where
  x : Int
  y : Int
  m : List UInt8
  z : Int
  k : List UInt8
  p : Int
  e : Int
def voteAt (l : List UInt8) (n p e : Int) : VoteAt :=
  let p1 := nP l p e; let e1 := nE l p e
  let p2 := nP l p1 e1; let e2 := nE l p1 e1
  let p3 := rP l 32 p2 e2; let e3 := rE l 32 p2 e2
  let p4 := nP l p3 e3; let e4 := fE (nE l p3 e3) (isIn (nV l p3 e3) n) 5
  { x := nV l p e, y := nV l p1 e1, m := rV l 32 p2 e2, z := nV l p3 e3, k := rV l 32 p4 e4, p := rP l 32 p4 e4, e := rE l 32 p4 e4 }
/-- The result: a vote and the place behind it, or the error. -/
def gvX (r : VoteAt) : Int := if r.e = 0 then r.x else 0
def gvY (r : VoteAt) : Int := if r.e = 0 then r.y else 0
def gvM (r : VoteAt) : List UInt8 := if r.e = 0 then r.m else []
def gvZ (r : VoteAt) : Int := if r.e = 0 then r.z else 0
def gvK (r : VoteAt) : List UInt8 := if r.e = 0 then r.k else []
def gvP (r : VoteAt) : Int := if r.e = 0 then r.p else 0
theorem gv_all {r : VoteAt} (h : r.e = 0) : gvX r = r.x ∧ gvY r = r.y ∧ gvM r = r.m ∧ gvZ r = r.z ∧ gvK r = r.k ∧ gvP r = r.p := ⟨if_pos h, if_pos h, if_pos h, if_pos h, if_pos h, if_pos h⟩
theorem gv_none {r : VoteAt} (h : r.e ≠ 0) : gvX r = 0 ∧ gvY r = 0 ∧ gvM r = [] ∧ gvZ r = 0 ∧ gvK r = [] ∧ gvP r = 0 := ⟨if_neg h, if_neg h, if_neg h, if_neg h, if_neg h, if_neg h⟩
/-- The call returns a vote of new rows, and two numbers beside it; nothing that was there has turned. -/
def FreshV3 (w : World) (x y z : Int) (l k : List UInt8) (n c : Int) (e : Ending) (w' : World) : Prop :=
  ∃ a b, e = .returned (.tuple #[.agg #[.int .i64 x, .int .i64 y, a, .int .i64 z, b], .int .i64 n, .int .i64 c]) ∧ InvF w w' [segB 5 a l, segB 5 b k]
/-- What GetVote answers. -/
def GotVote (w : World) (r : VoteAt) : Ending → World → Prop := FreshV3 w (gvX r) (gvY r) (gvZ r) (gvM r) (gvK r) (gvP r) r.e

theorem got_yes {w : World} {r : VoteAt} {e : Ending} {w' : World} (h : r.e = 0) (H : FreshV3 w r.x r.y r.z r.m r.k r.p 0 e w') : GotVote w r e w' := by
  obtain ⟨i1, i2, i3, i4, i5, i6⟩ := gv_all h
  unfold GotVote
  rw [i1, i2, i3, i4, i5, i6, h]
  exact H
theorem got_no {w : World} {r : VoteAt} {e : Ending} {w' : World} (h : r.e ≠ 0) (he : e = .returned (.tuple #[.agg #[.int .i64 0, .int .i64 0, .slice none 0 0, .int .i64 0, .slice none 0 0], .int .i64 0, .int .i64 r.e])) (H : Below w.heap.size w w') : GotVote w r e w' := by
  obtain ⟨i1, i2, i3, i4, i5, i6⟩ := gv_none h
  unfold GotVote
  rw [i1, i2, i3, i4, i5, i6]
  refine ⟨.slice none 0 0, .slice none 0 0, he, ?_⟩
  exact ((InvF.start w).moreB (E := 5) (v := .slice none 0 0) (l := []) (World.ownsRow_nil _ _ _ _) (Below.refl _ _)).moreB (E := 5) (v := .slice none 0 0) (l := []) (World.ownsRow_nil _ _ _ _) H
theorem geq_in {z n : Int} (h : 0 ≤ z) : isIn z n = !decide (n ≤ z) := by
  unfold isIn
  by_cases h1 : n ≤ z
  · rw [decide_eq_true h1, decide_eq_false (by omega)]; rfl
  · rw [decide_eq_false h1, decide_eq_true (by omega)]; rfl

set_option maxRecDepth 100000 in
set_option maxHeartbeats 4000000 in
theorem specGetVote_any (a b c d e p : Int) (v : Value) (l : List UInt8) (w : World) (hv : Sp w w.heap.size v l) (hl : l.length ≤ 1073741824) :
    Calls Tryd.prog 4 #[.agg #[.int .i64 a, .int .i64 b, .int .i64 c, .int .i64 d, .int .i64 e], v, .int .i64 p] w (GotVote w (voteAt l a p (limE a b c d e))) := by
  have HV := Lib.hid hv
  obtain ⟨A, n, rfl, k1⟩ := hv.sl
  clear k1
  obtain ⟨e0, he0⟩ : ∃ e0, e0 = limE a b c d e := ⟨_, rfl⟩
  have c0 := fun W h => l11New_any a b c d e p (.slice A l.length n) W l h
  rw [← he0] at c0 ⊢
  have C0 := Lib.hid c0
  clear c0 he0 hv
  obtain ⟨x, hx⟩ : ∃ x, x = nV l p e0 := ⟨_, rfl⟩
  obtain ⟨p1, hp1⟩ : ∃ x, x = nP l p e0 := ⟨_, rfl⟩
  obtain ⟨e1, he1⟩ : ∃ x, x = nE l p e0 := ⟨_, rfl⟩
  obtain ⟨y, hy⟩ : ∃ x, x = nV l p1 e1 := ⟨_, rfl⟩
  obtain ⟨p2, hp2⟩ : ∃ x, x = nP l p1 e1 := ⟨_, rfl⟩
  obtain ⟨e2, he2⟩ : ∃ x, x = nE l p1 e1 := ⟨_, rfl⟩
  obtain ⟨m, hm⟩ : ∃ x, x = rV l 32 p2 e2 := ⟨_, rfl⟩
  obtain ⟨p3, hp3⟩ : ∃ x, x = rP l 32 p2 e2 := ⟨_, rfl⟩
  obtain ⟨e3, he3⟩ : ∃ x, x = rE l 32 p2 e2 := ⟨_, rfl⟩
  obtain ⟨z, hz⟩ : ∃ x, x = nV l p3 e3 := ⟨_, rfl⟩
  obtain ⟨p4, hp4⟩ : ∃ x, x = nP l p3 e3 := ⟨_, rfl⟩
  obtain ⟨e4, he4⟩ : ∃ x, x = nE l p3 e3 := ⟨_, rfl⟩
  obtain ⟨e5, he5⟩ : ∃ x, x = fE e4 (isIn z a) 5 := ⟨_, rfl⟩
  obtain ⟨k, hk⟩ : ∃ x, x = rV l 32 p4 e5 := ⟨_, rfl⟩
  obtain ⟨p6, hp6⟩ : ∃ x, x = rP l 32 p4 e5 := ⟨_, rfl⟩
  obtain ⟨e6, he6⟩ : ∃ x, x = rE l 32 p4 e5 := ⟨_, rfl⟩
  have hr : voteAt l a p e0 = ⟨x, y, m, z, k, p6, e6⟩ := by
    unfold voteAt
    simp only [← hx, ← hp1, ← he1, ← hy, ← hp2, ← he2, ← hm, ← hp3, ← he3, ← hz, ← hp4, ← he4, ← he5, ← hk, ← hp6, ← he6]
  have hz0 : isIn z a = !decide (a ≤ z) := geq_in (by rw [hz]; exact nV_lo _ _ _)
  rw [hz0] at he5
  rw [hr]
  have S1 := Lib.hid (And.intro hx (And.intro hp1 he1))
  have S2 := Lib.hid (And.intro hy (And.intro hp2 he2))
  have S3 := Lib.hid (And.intro hm (And.intro hp3 he3))
  have S4 := Lib.hid (And.intro hz (And.intro hp4 he4))
  have S5 := Lib.hid he5
  have S6 := Lib.hid (And.intro hk (And.intro hp6 he6))
  clear hr hz0 hx hp1 he1 hy hp2 he2 hm hp3 he3 hz hp4 he4 he5 hk hp6 he6
  have H0 := ((InvF.start w).newG 29 #[.int .i64 a, .int .i64 b, .int .i64 c, .int .i64 d, .int .i64 e] w.heap.size).newG 26 #[.int .i64 0, .int .i64 0, .slice none 0 0, .int .i64 0, .slice none 0 0] (w.heap.size + 1)
  go_enter Tryd.func4, Tryd.ntmps4
  go_wp2_with fail
  refine (C0.out _ (HV.out.up H0.bel).sl).mono ?_
  rintro ev w1 ⟨g, rfl, K⟩
  have H1 := H0.moreF K
  have hgn : Hid (¬ g = w.heap.size + 1) := Lib.hid (by have h := K.geX (.head _); simp at h; omega)
  clear H0 K C0
  go_wp2_with fail
  refine (l11Var_any w _ g _ l p e0 _ H1 HV.out (by omega)).mono ?_
  rw [← S1.out.1, ← S1.out.2.1, ← S1.out.2.2]
  rintro ev w2 ⟨rfl, H2⟩
  have hwn : Hid (¬ w2.heap.size = w.heap.size + 1) := Lib.hid (by have h := H2.ltX (.tail _ (.head _)); omega)
  clear H1
  go_wp2_with fail
  have H3 := (H2.newX 26 #[.int .i64 x, .int .i64 0, .slice none 0 0, .int .i64 0, .slice none 0 0]).front 1 rfl
  clear H2
  refine (l11Var_any w _ g _ l p1 e1 _ H3 HV.out (by omega)).mono ?_
  rw [← S2.out.1, ← S2.out.2.1, ← S2.out.2.2]
  rintro ev w4 ⟨rfl, H4⟩
  replace H4 : InvF w w4 [segX 43 g [.slice A l.length n, .int .i64 p2, .int .i64 e2], segX 26 w2.heap.size [.int .i64 x, .int .i64 0, .slice none 0 0, .int .i64 0, .slice none 0 0], segX 26 (w.heap.size + 1) [.int .i64 0, .int .i64 0, .slice none 0 0, .int .i64 0, .slice none 0 0], segX 29 w.heap.size [.int .i64 a, .int .i64 b, .int .i64 c, .int .i64 d, .int .i64 e]] := H4
  clear H3
  obtain ⟨o0, o1, o2, o3, o4⟩ := H4.c5 (.tail _ (.head _))
  have f1 := H4.frX (.tail _ (.head _)) 1
  go_wp2_with fail
  have H5 := ((H4.front 1 rfl).setX 1 (.int .i64 y)).front 1 rfl
  clear H4 o0 o1 o2 o3 o4 f1
  refine (l11Raw_any w _ g _ l p2 e2 _ H5 HV.out (by omega)).mono ?_
  rw [← S3.out.1, ← S3.out.2.1, ← S3.out.2.2]
  rintro ev w6 ⟨u6, rfl, H6⟩
  replace H6 : InvF w w6 [segX 43 g [.slice A l.length n, .int .i64 p3, .int .i64 e3], segB 5 u6 m, segX 26 w2.heap.size [.int .i64 x, .int .i64 y, .slice none 0 0, .int .i64 0, .slice none 0 0], segX 26 (w.heap.size + 1) [.int .i64 0, .int .i64 0, .slice none 0 0, .int .i64 0, .slice none 0 0], segX 29 w.heap.size [.int .i64 a, .int .i64 b, .int .i64 c, .int .i64 d, .int .i64 e]] := H6
  clear H5
  obtain ⟨A6, c6, rfl⟩ := H6.openB (.tail _ (.head _))
  obtain ⟨o0, o1, o2, o3, o4⟩ := H6.c5 (.tail _ (.tail _ (.head _)))
  have f2 := H6.frX (.tail _ (.tail _ (.head _))) 2
  go_wp2_with fail
  have H7 := ((H6.front 2 rfl).setX 2 (.slice A6 m.length c6)).front 1 rfl
  clear H6 o0 o1 o2 o3 o4 f2
  refine (l11Var_any w _ g _ l p3 e3 _ H7 HV.out (by omega)).mono ?_
  rw [← S4.out.1, ← S4.out.2.1, ← S4.out.2.2]
  rintro ev w8 ⟨rfl, H8⟩
  replace H8 : InvF w w8 [segX 43 g [.slice A l.length n, .int .i64 p4, .int .i64 e4], segX 26 w2.heap.size [.int .i64 x, .int .i64 y, .slice A6 m.length c6, .int .i64 0, .slice none 0 0], segB 5 (.slice A6 m.length c6) m, segX 26 (w.heap.size + 1) [.int .i64 0, .int .i64 0, .slice none 0 0, .int .i64 0, .slice none 0 0], segX 29 w.heap.size [.int .i64 a, .int .i64 b, .int .i64 c, .int .i64 d, .int .i64 e]] := H8
  clear H7
  obtain ⟨o0, o1, o2, o3, o4⟩ := H8.c5 (.tail _ (.head _))
  have f3 := H8.frX (.tail _ (.head _)) 3
  have t0 := H8.atX (.tail _ (.tail _ (.tail _ (.tail _ (.head _))))) 0 rfl
  have hg8 := H8.ltX (.tail _ (.head _))
  go_wp2_with fail
  have H9 := ((H8.front 1 rfl).setX 3 (.int .i64 z)).front 1 rfl
  clear H8 o0 o1 o2 o3 o4 f3 t0 hg8
  refine (l11Fail_any w _ g _ p4 e4 5 (decide (a ≤ z)) _ H9).mono ?_
  rw [← S5.out]
  rintro ev w10 ⟨rfl, H10⟩
  clear H9
  go_wp2_with fail
  refine (l11Raw_any w _ g _ l p4 e5 _ H10 HV.out (by omega)).mono ?_
  rw [← S6.out.1, ← S6.out.2.1, ← S6.out.2.2]
  rintro ev w12 ⟨u12, rfl, H12⟩
  replace H12 : InvF w w12 [segX 43 g [.slice A l.length n, .int .i64 p6, .int .i64 e6], segB 5 u12 k, segX 26 w2.heap.size [.int .i64 x, .int .i64 y, .slice A6 m.length c6, .int .i64 z, .slice none 0 0], segB 5 (.slice A6 m.length c6) m, segX 26 (w.heap.size + 1) [.int .i64 0, .int .i64 0, .slice none 0 0, .int .i64 0, .slice none 0 0], segX 29 w.heap.size [.int .i64 a, .int .i64 b, .int .i64 c, .int .i64 d, .int .i64 e]] := H12
  clear H10
  obtain ⟨A12, c12, rfl⟩ := H12.openB (.tail _ (.head _))
  obtain ⟨o0, o1, o2, o3, o4⟩ := H12.c5 (.tail _ (.tail _ (.head _)))
  have f4 := H12.frX (.tail _ (.tail _ (.head _))) 4
  have q2 := H12.atX (.head _) 2 rfl
  have HQ := Lib.hid (((H12.front 2 rfl).setX 4 (.slice A12 k.length c12)).atX (.tail _ (.head _)) 2 rfl)
  have H13 : InvF w (w12.setCell ⟨w2.heap.size, 4, none⟩ (.slice A12 k.length c12)) [segX 26 w2.heap.size [.int .i64 x, .int .i64 y, .slice A6 m.length c6, .int .i64 z, .slice A12 k.length c12], segX 43 g [.slice A l.length n, .int .i64 p6, .int .i64 e6], segB 5 (.slice A12 k.length c12) k, segB 5 (.slice A6 m.length c6) m, segX 26 (w.heap.size + 1) [.int .i64 0, .int .i64 0, .slice none 0 0, .int .i64 0, .slice none 0 0], segX 29 w.heap.size [.int .i64 a, .int .i64 b, .int .i64 c, .int .i64 d, .int .i64 e]] := (H12.front 2 rfl).setX 4 (.slice A12 k.length c12)
  have r2 := HQ.out
  by_cases he : e6 = 0
  · subst he
    have HG := Lib.hid (fun ev w' => got_yes (w := w) (r := ⟨x, y, m, z, k, p6, 0⟩) (e := ev) (w' := w') rfl)
    go_wp2_with fail
    clear o0 o1 o2 o3 o4 f4 q2 HQ r2 H12
    generalize w12.setCell ⟨w2.heap.size, 4, none⟩ (.slice A12 k.length c12) = w13 at *
    have K14 := Lib.hid (((H13.front 4 rfl).over5 (.int .i64 x) (.int .i64 y) (.slice A6 m.length c6) (.int .i64 z) (.slice A12 k.length c12)).drew1)
    have L13 := Lib.hid (And.intro (H13.drew1.atX (.tail _ (.head _)) 1 rfl) (H13.drew1.c5 (.head _)))
    have L14 := Lib.hid (And.intro (K14.out.atX (.tail _ (.tail _ (.head _))) 1 rfl) (K14.out.c5 (.tail _ (.head _))))
    obtain ⟨j0, j1, j2, j3, j4⟩ := H13.c5 (.tail _ (.tail _ (.tail _ (.tail _ (.head _)))))
    obtain ⟨f0, f1, f2, f3, f4⟩ := H13.f5 (.tail _ (.tail _ (.tail _ (.tail _ (.head _)))))
    obtain ⟨k0, k1, k2, k3, k4⟩ := K14.out.c5 (.head _)
    clear H13 S1 S2 S3 S4 S5 S6 HV
    go_region_held3 (fun w' => w'.cell? ⟨g, 1, none⟩ = some (.int .i64 p6) ∧ w'.cell? ⟨w2.heap.size, 0, none⟩ = some (.int .i64 x) ∧ w'.cell? ⟨w2.heap.size, 1, none⟩ = some (.int .i64 y) ∧ w'.cell? ⟨w2.heap.size, 2, none⟩ = some (.slice A6 m.length c6) ∧ w'.cell? ⟨w2.heap.size, 3, none⟩ = some (.int .i64 z) ∧ w'.cell? ⟨w2.heap.size, 4, none⟩ = some (.slice A12 k.length c12))
      (first
        | with_reducible exact L13.out
        | with_reducible exact L14.out)
      (fail)
    go_wp2_with fail
    refine bodyPost_ret (v := .tuple #[.agg #[.int .i64 x, .int .i64 y, .slice A6 m.length c6, .int .i64 z, .slice A12 k.length c12], .int .i64 p6, .int .i64 0]) (by simp [results, Tryd.results4, go_sem, k0, k1, k2, k3, k4]) rfl (HG.out _ _ ⟨_, _, rfl, ?_⟩)
    exact (K14.out.sub (qs := [segB 5 (.slice A12 k.length c12) k, segB 5 (.slice A6 m.length c6) m]) (.cons _ (.cons _ (.cons _ (.cons_cons _ (.cons_cons _ (.cons _ .slnil))))))).front 1 rfl
  · have HG := Lib.hid (fun ev w' => got_no (w := w) (r := ⟨x, y, m, z, k, p6, e6⟩) (e := ev) (w' := w') he)
    have hne : (e6 != 0) = true := by simpa using he
    clear he
    go_wp2_with fail
    clear o0 o1 o2 o3 o4 f4 q2 HQ r2 H12
    generalize w12.setCell ⟨w2.heap.size, 4, none⟩ (.slice A12 k.length c12) = w13 at *
    have K14 := Lib.hid (((H13.front 4 rfl).over5 (.int .i64 0) (.int .i64 0) (.slice none 0 0) (.int .i64 0) (.slice none 0 0)).drew1)
    have L13 := Lib.hid (H13.drew1.atX (.tail _ (.head _)) 2 rfl)
    have L14 := Lib.hid (K14.out.atX (.tail _ (.tail _ (.head _))) 2 rfl)
    obtain ⟨j0, j1, j2, j3, j4⟩ := H13.c5 (.tail _ (.tail _ (.tail _ (.tail _ (.head _)))))
    obtain ⟨f0, f1, f2, f3, f4⟩ := H13.f5 (.tail _ (.tail _ (.tail _ (.tail _ (.head _)))))
    obtain ⟨k0, k1, k2, k3, k4⟩ := K14.out.c5 (.head _)
    clear H13 S1 S2 S3 S4 S5 S6 HV
    go_region_held3 (fun w' => w'.cell? ⟨g, 2, none⟩ = some (.int .i64 e6))
      (first
        | with_reducible exact L13.out
        | with_reducible exact L14.out)
      (fail)
    go_wp2_with fail
    refine bodyPost_ret (v := .tuple #[.agg #[.int .i64 0, .int .i64 0, .slice none 0 0, .int .i64 0, .slice none 0 0], .int .i64 0, .int .i64 e6]) (by simp [results, Tryd.results4, go_sem, k0, k1, k2, k3, k4]) rfl (HG.out _ _ rfl K14.out.bel)
end Go.Proofs.YtcamaeipbbdhlaaDoor
