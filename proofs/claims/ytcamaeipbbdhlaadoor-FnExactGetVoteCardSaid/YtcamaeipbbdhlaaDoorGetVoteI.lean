/- GetVote of the program. -/
import Derived.Test.YtcamaeipbbdhlaaDoorDecI
import Derived.Test.YtcamaeipbbdhlaaDoorGetVoteS
namespace Go.Proofs.YtcamaeipbbdhlaaDoor
open Go.ChangeShapes Go.WideShapes Go.ChangeAt Go.RowKit

section
variable {T : TypeId} {W w w' : World} {g : Nat} {v : Value} {n p e : Int} {ss ss' : List (List Row)}
/-- What turns beside the decoder. -/
theorem Dec.beside (H : Dec T W w g v n p e ss) (f : ∀ d : List Row, InvF W w (d :: ss) → InvF W w' (d :: ss')) : Dec T W w' g v n p e ss' := by
  obtain ⟨i0, i1, i2, i3, i4, b, q, K, h⟩ := H
  exact ⟨i0, i1, i2, i3, i4, b, q, f _ K, h⟩
theorem Dec.rest (H : Dec T W w g v n p e ss) : InvF W w ss := by
  obtain ⟨i0, i1, i2, i3, i4, b, q, K, h⟩ := H
  exact K.sub (.cons _ (List.Sublist.refl _))
/-- The decoder's place and error. -/
theorem Dec.end_ (H : Dec T W w g v n p e ss) : w.cell? ⟨g, 7, none⟩ = some (errV e) ∧ ∃ q, w.cell? ⟨g, 6, none⟩ = some (.int .i64 q) ∧ (e = 0 → q = p) := by
  obtain ⟨i0, i1, i2, i3, i4, b, q, K, h⟩ := H
  exact ⟨K.atX (.head _) 7 rfl, q, K.atX (.head _) 6 rfl, fun h1 => (h h1).2.1⟩
end

theorem errV_cell (c : Int) : (errV c).oneCell' = true := by unfold errV; split <;> rfl
/-- A vote has been decoded: its rows and the decoder behind it. -/
def DecVote (T : TypeId) (W : World) (g : Nat) (v : Value) (n : Int) (r : VoteAt) (ss : List (List Row)) (ev : Ending) (w' : World) : Prop :=
  ∃ a b, ev = .returned (.agg #[.int .i64 r.x, .int .i64 r.y, a, .int .i64 r.z, b]) ∧ Dec T W w' g v n r.p r.e (segB 5 b r.k :: segB 5 a r.m :: ss)

set_option maxRecDepth 100000 in
set_option maxHeartbeats 4000000 in
theorem vote_any (T : TypeId) (W w : World) (g : Nat) (v : Value) (l : List UInt8) (n p e0 : Int) (ss : List (List Row)) (H : Dec T W w g v n p e0 ss) (hv : Sp W W.heap.size v l) (hl : l.length ≤ 4294967296) (hp : p ≤ 9223372036854775807) :
    Calls Tryd.prog 18 #[.pointer (some ⟨g, 0, none⟩)] w (DecVote T W g v n (voteAt l n p e0) ss) := by
  obtain ⟨x, hx⟩ : ∃ x, x = nV l p e0 := ⟨_, rfl⟩
  obtain ⟨p1, hp1⟩ : ∃ x, x = nP l p e0 := ⟨_, rfl⟩
  obtain ⟨e1, he1⟩ : ∃ x, x = nE l p e0 := ⟨_, rfl⟩
  obtain ⟨y, hy⟩ : ∃ x, x = nV l p1 e1 := ⟨_, rfl⟩
  obtain ⟨p2, hp2⟩ : ∃ x, x = nP l p1 e1 := ⟨_, rfl⟩
  obtain ⟨e2, he2⟩ : ∃ x, x = nE l p1 e1 := ⟨_, rfl⟩
  obtain ⟨m, hm⟩ : ∃ x, x = rV l 32 p2 e2 := ⟨_, rfl⟩
  obtain ⟨p3, hp3⟩ : ∃ x, x = rP l 32 p2 e2 := ⟨_, rfl⟩
  obtain ⟨e3, he3⟩ : ∃ x, x = rE l 32 p2 e2 := ⟨_, rfl⟩
  obtain ⟨z, hz⟩ : ∃ x, x = nV l p3 e3 := ⟨_, rfl⟩
  obtain ⟨p4, hp4⟩ : ∃ x, x = nP l p3 e3 := ⟨_, rfl⟩
  obtain ⟨e5, he5⟩ : ∃ x, x = fE (nE l p3 e3) (isIn z n) 5 := ⟨_, rfl⟩
  obtain ⟨k, hk⟩ : ∃ x, x = rV l 32 p4 e5 := ⟨_, rfl⟩
  obtain ⟨p6, hp6⟩ : ∃ x, x = rP l 32 p4 e5 := ⟨_, rfl⟩
  obtain ⟨e6, he6⟩ : ∃ x, x = rE l 32 p4 e5 := ⟨_, rfl⟩
  have hr : voteAt l n p e0 = ⟨x, y, m, z, k, p6, e6⟩ := by
    unfold voteAt
    simp only [← hx, ← hp1, ← he1, ← hy, ← hp2, ← he2, ← hm, ← hp3, ← he3, ← hz, ← hp4, ← he5, ← hk, ← hp6, ← he6]
  rw [hr]
  have b1 : p1 ≤ 9223372036854775807 := by rw [hp1]; exact nP_hi hp hl _
  have b2 : p2 ≤ 9223372036854775807 := by rw [hp2]; exact nP_hi b1 hl _
  have b3 : p3 ≤ 9223372036854775807 := by rw [hp3]; exact rP_hi b2 hl _ _
  have b4 : p4 ≤ 9223372036854775807 := by rw [hp4]; exact nP_hi b3 hl _
  have B2 := Lib.hid b2
  have B4 := Lib.hid b4
  have S1 := Lib.hid (And.intro hx (And.intro hp1 he1))
  have S2 := Lib.hid (And.intro hy (And.intro hp2 he2))
  have S3 := Lib.hid (And.intro hm (And.intro hp3 he3))
  have S4 := Lib.hid (And.intro hz (And.intro hp4 he5))
  have S6 := Lib.hid (And.intro hk (And.intro hp6 he6))
  have HV := Lib.hid hv
  clear hr hx hp1 he1 hy hp2 he2 hm hp3 he3 hz hp4 he5 hk hp6 he6 b1 b2 b3 b4 hv hp
  have Ha : Dec T W (w.alloc (.cells #[.int .i64 0, .int .i64 0, .slice none 0 0, .int .i64 0, .slice none 0 0] 26)) g v n p e0 (segX 26 w.heap.size [.int .i64 0, .int .i64 0, .slice none 0 0, .int .i64 0, .slice none 0 0] :: ss) := H.beside (fun d K => (K.newG 26 #[.int .i64 0, .int .i64 0, .slice none 0 0, .int .i64 0, .slice none 0 0] w.heap.size rfl).front 1 rfl)
  have H1 : Dec T W ((w.alloc (.cells #[.int .i64 0, .int .i64 0, .slice none 0 0, .int .i64 0, .slice none 0 0] 26)).alloc (.cells #[.int .i64 0, .int .i64 0, .slice none 0 0, .int .i64 0, .slice none 0 0] 26)) g v n p e0 (segX 26 (w.heap.size + 1) [.int .i64 0, .int .i64 0, .slice none 0 0, .int .i64 0, .slice none 0 0] :: segX 26 w.heap.size [.int .i64 0, .int .i64 0, .slice none 0 0, .int .i64 0, .slice none 0 0] :: ss) := Ha.beside (fun d K => (K.newG 26 #[.int .i64 0, .int .i64 0, .slice none 0 0, .int .i64 0, .slice none 0 0] (w.heap.size + 1)).front 1 rfl)
  clear Ha
  clear H
  go_enter Tryd.func18, Tryd.ntmps18
  go_wp2_with fail
  refine (number_any T W _ g v l n p e0 _ H1 HV.out hl).mono ?_
  rw [← S1.out.1, ← S1.out.2.1, ← S1.out.2.2]
  rintro ev w2 ⟨rfl, H2⟩
  replace H2 : Dec T W w2 g v n p1 e1 (segX 26 (w.heap.size + 1) [.int .i64 0, .int .i64 0, .slice none 0 0, .int .i64 0, .slice none 0 0] :: segX 26 w.heap.size [.int .i64 0, .int .i64 0, .slice none 0 0, .int .i64 0, .slice none 0 0] :: ss) := H2
  clear H1
  obtain ⟨o0, o1, o2, o3, o4⟩ := H2.rest.c5 (.head _)
  have f0 := H2.rest.frX (.head _) 0
  go_wp2_with fail
  have H3 : Dec T W (w2.setCell ⟨w.heap.size + 1, 0, none⟩ (.int .i64 x)) g v n p1 e1 (segX 26 (w.heap.size + 1) [.int .i64 x, .int .i64 0, .slice none 0 0, .int .i64 0, .slice none 0 0] :: segX 26 w.heap.size [.int .i64 0, .int .i64 0, .slice none 0 0, .int .i64 0, .slice none 0 0] :: ss) := H2.beside (fun d K => by have h := ((K.front 1 rfl).setX 0 (.int .i64 x)).front 1 rfl; exact h)
  clear H2 o0 o1 o2 o3 o4 f0
  refine (number_any T W _ g v l n p1 e1 _ H3 HV.out hl).mono ?_
  rw [← S2.out.1, ← S2.out.2.1, ← S2.out.2.2]
  rintro ev w4 ⟨rfl, H4⟩
  replace H4 : Dec T W w4 g v n p2 e2 (segX 26 (w.heap.size + 1) [.int .i64 x, .int .i64 0, .slice none 0 0, .int .i64 0, .slice none 0 0] :: segX 26 w.heap.size [.int .i64 0, .int .i64 0, .slice none 0 0, .int .i64 0, .slice none 0 0] :: ss) := H4
  clear H3
  obtain ⟨o0, o1, o2, o3, o4⟩ := H4.rest.c5 (.head _)
  have f1 := H4.rest.frX (.head _) 1
  go_wp2_with fail
  have H5 : Dec T W (w4.setCell ⟨w.heap.size + 1, 1, none⟩ (.int .i64 y)) g v n p2 e2 (segX 26 (w.heap.size + 1) [.int .i64 x, .int .i64 y, .slice none 0 0, .int .i64 0, .slice none 0 0] :: segX 26 w.heap.size [.int .i64 0, .int .i64 0, .slice none 0 0, .int .i64 0, .slice none 0 0] :: ss) := H4.beside (fun d K => by have h := ((K.front 1 rfl).setX 1 (.int .i64 y)).front 1 rfl; exact h)
  clear H4 o0 o1 o2 o3 o4 f1
  refine (hash_any T W _ g v l n p2 e2 _ H5 HV.out hl B2.out).mono ?_
  rw [← S3.out.1, ← S3.out.2.1, ← S3.out.2.2]
  rintro ev w6 ⟨u6, rfl, H6⟩
  replace H6 : Dec T W w6 g v n p3 e3 (segB 5 u6 m :: segX 26 (w.heap.size + 1) [.int .i64 x, .int .i64 y, .slice none 0 0, .int .i64 0, .slice none 0 0] :: segX 26 w.heap.size [.int .i64 0, .int .i64 0, .slice none 0 0, .int .i64 0, .slice none 0 0] :: ss) := H6
  clear H5
  obtain ⟨A6, c6, rfl⟩ := H6.rest.openB (.head _)
  obtain ⟨o0, o1, o2, o3, o4⟩ := H6.rest.c5 (.tail _ (.head _))
  have f2 := H6.rest.frX (.tail _ (.head _)) 2
  go_wp2_with fail
  have H7 : Dec T W (w6.setCell ⟨w.heap.size + 1, 2, none⟩ (.slice A6 m.length c6)) g v n p3 e3 (segX 26 (w.heap.size + 1) [.int .i64 x, .int .i64 y, .slice A6 m.length c6, .int .i64 0, .slice none 0 0] :: segB 5 (.slice A6 m.length c6) m :: segX 26 w.heap.size [.int .i64 0, .int .i64 0, .slice none 0 0, .int .i64 0, .slice none 0 0] :: ss) := H6.beside (fun d K => by have h := ((K.front 2 rfl).setX 2 (.slice A6 m.length c6)).front 1 rfl; exact h)
  clear H6 o0 o1 o2 o3 o4 f2
  refine (signer_any T W _ g v l n p3 e3 _ H7 HV.out hl).mono ?_
  rw [← S4.out.1, ← S4.out.2.1, ← S4.out.2.2]
  rintro ev w8 ⟨rfl, H8⟩
  replace H8 : Dec T W w8 g v n p4 e5 (segX 26 (w.heap.size + 1) [.int .i64 x, .int .i64 y, .slice A6 m.length c6, .int .i64 0, .slice none 0 0] :: segB 5 (.slice A6 m.length c6) m :: segX 26 w.heap.size [.int .i64 0, .int .i64 0, .slice none 0 0, .int .i64 0, .slice none 0 0] :: ss) := H8
  clear H7
  obtain ⟨o0, o1, o2, o3, o4⟩ := H8.rest.c5 (.head _)
  have f3 := H8.rest.frX (.head _) 3
  go_wp2_with fail
  have H9 : Dec T W (w8.setCell ⟨w.heap.size + 1, 3, none⟩ (.int .i64 z)) g v n p4 e5 (segX 26 (w.heap.size + 1) [.int .i64 x, .int .i64 y, .slice A6 m.length c6, .int .i64 z, .slice none 0 0] :: segB 5 (.slice A6 m.length c6) m :: segX 26 w.heap.size [.int .i64 0, .int .i64 0, .slice none 0 0, .int .i64 0, .slice none 0 0] :: ss) := H8.beside (fun d K => by have h := ((K.front 1 rfl).setX 3 (.int .i64 z)).front 1 rfl; exact h)
  clear H8 o0 o1 o2 o3 o4 f3
  refine (hash_any T W _ g v l n p4 e5 _ H9 HV.out hl B4.out).mono ?_
  rw [← S6.out.1, ← S6.out.2.1, ← S6.out.2.2]
  rintro ev w10 ⟨u10, rfl, H10⟩
  replace H10 : Dec T W w10 g v n p6 e6 (segB 5 u10 k :: segX 26 (w.heap.size + 1) [.int .i64 x, .int .i64 y, .slice A6 m.length c6, .int .i64 z, .slice none 0 0] :: segB 5 (.slice A6 m.length c6) m :: segX 26 w.heap.size [.int .i64 0, .int .i64 0, .slice none 0 0, .int .i64 0, .slice none 0 0] :: ss) := H10
  clear H9
  obtain ⟨A10, c10, rfl⟩ := H10.rest.openB (.head _)
  obtain ⟨o0, o1, o2, o3, o4⟩ := H10.rest.c5 (.tail _ (.head _))
  have f4 := H10.rest.frX (.tail _ (.head _)) 4
  obtain ⟨r0, r1, r2, r3, r4⟩ := H10.rest.c5 (.tail _ (.tail _ (.tail _ (.head _))))
  obtain ⟨q0, q1, q2, q3, q4⟩ := H10.rest.f5 (.tail _ (.tail _ (.tail _ (.head _))))
  have h6 := H10.rest.ltX (.tail _ (.head _))
  have K10 := Lib.hid H10
  clear H10 S1 S2 S3 S4 S6
  go_wp2
  refine bodyPost_ret (v := .agg #[.int .i64 x, .int .i64 y, .slice A6 m.length c6, .int .i64 z, .slice A10 k.length c10]) (by simp [results, Tryd.results18, go_sem, r0, r1, r2, r3, r4]) rfl ⟨_, _, rfl, ?_⟩
  exact K10.out.beside (fun d K => by have h := ((((K.front 2 rfl).setX 4 (.slice A10 k.length c10)).front 4 rfl).over5 (.int .i64 x) (.int .i64 y) (.slice A6 m.length c6) (.int .i64 z) (.slice A10 k.length c10)); exact h.sub (.cons _ (.cons _ (List.Sublist.refl _))))

set_option maxRecDepth 100000 in
set_option maxHeartbeats 4000000 in
theorem implGetVote_any (a b c d e p : Int) (v : Value) (l : List UInt8) (w : World) (hv : Sp w w.heap.size v l) (hl : l.length ≤ 1073741824) (hp : p ≤ 9223372036854775807) (hg : ErrT w) :
    Calls Tryd.prog 7 #[.agg #[.int .i64 a, .int .i64 b, .int .i64 c, .int .i64 d, .int .i64 e], v, .int .i64 p] w (GotVote w (voteAt l a p (limE a b c d e))) := by
  have HV := Lib.hid hv
  have HG := Lib.hid hg
  have HP := Lib.hid hp
  obtain ⟨A, n, rfl, k1⟩ := hv.sl
  clear k1 hv hg hp
  have c0 := fun W h => decoderAt_any a b c d e p (.slice A l.length n) W l h
  obtain ⟨e0, he0⟩ : ∃ e0, e0 = limE a b c d e := ⟨_, rfl⟩
  rw [← he0] at c0 ⊢
  have C0 := Lib.hid c0
  clear c0 he0
  obtain ⟨r, hr⟩ : ∃ r, r = voteAt l a p e0 := ⟨_, rfl⟩
  rw [← hr]
  have HR := Lib.hid hr
  clear hr
  obtain ⟨x, y, m, z, k, p6, e6⟩ := r
  have H0 := ((InvF.start w).newG 29 #[.int .i64 a, .int .i64 b, .int .i64 c, .int .i64 d, .int .i64 e] w.heap.size).newG 26 #[.int .i64 0, .int .i64 0, .slice none 0 0, .int .i64 0, .slice none 0 0] (w.heap.size + 1)
  go_enter Tryd.func7, Tryd.ntmps7
  go_wp2_with fail
  refine (C0.out _ (HV.out.up H0.bel).sl).mono ?_
  rintro ev w1 ⟨i0, i1, i2, i3, i4, B, n1, m1, q, rfl, hq, hb1⟩
  have H1 := H0.up hb1
  clear H0 hb1 C0
  have HQ := Lib.hid hq
  clear hq
  have hst := fun (W : World) (a : Addr) (m : Mode) => run_store Tryd.prog W a (errV e0) m (errV_cell e0)
  have hst2 : ∀ (W : World) (a : Addr) (m : Mode), (store a (errV e0) m).run Tryd.prog W = stored Tryd.prog W a (errV e0) m := hst
  clear hst
  go_wp2_with fail
  have H2 := H1.newX 50 #[.int .i64 i0, .int .i64 i1, .int .i64 i2, .int .i64 i3, .int .i64 i4, .slice B n1 m1, .int .i64 q, errV e0]
  clear H1
  have D2 : Dec 50 w _ w1.heap.size (.slice A l.length n) a p e0 [segX 26 (w.heap.size + 1) [.int .i64 0, .int .i64 0, .slice none 0 0, .int .i64 0, .slice none 0 0], segX 29 w.heap.size [.int .i64 a, .int .i64 b, .int .i64 c, .int .i64 d, .int .i64 e]] := ⟨_, _, _, _, _, _, _, H2, HQ.out⟩
  clear H2 HQ
  refine (vote_any 50 w _ w1.heap.size _ l a p e0 _ D2 HV.out (by omega) HP.out).mono ?_
  rw [← HR.out]
  clear D2
  rintro ev w3 ⟨u, u', rfl, D3⟩
  dsimp only at D3 ⊢
  obtain ⟨A3, c3, rfl⟩ := D3.rest.openB (.tail _ (.head _))
  obtain ⟨A3', c3', rfl⟩ := D3.rest.openB (.head _)
  obtain ⟨j0, j1, j2, j3, j4, bb, qq, K3, hqq⟩ := D3
  have K4 := K3.newX 26 #[.int .i64 x, .int .i64 y, .slice A3 m.length c3, .int .i64 z, .slice A3' k.length c3']
  have q7 := K4.atX (.tail _ (.head _)) 7 rfl
  have q6 := K4.atX (.tail _ (.head _)) 6 rfl
  clear K3
  by_cases he : e6 = 0
  · subst he
    have HY := Lib.hid (fun ev w' => got_yes (w := w) (r := ⟨x, y, m, z, k, p6, 0⟩) (e := ev) (w' := w') rfl)
    obtain rfl := (hqq rfl).2.1
    rw [errV_zero] at q7
    clear hqq
    go_wp2_with fail
    clear q7 q6
    generalize w3.alloc (.cells #[.int .i64 x, .int .i64 y, .slice A3 m.length c3, .int .i64 z, .slice A3' k.length c3'] 26) = w4 at *
    have K14 := Lib.hid (((K4.front 4 rfl).over5 (.int .i64 x) (.int .i64 y) (.slice A3 m.length c3) (.int .i64 z) (.slice A3' k.length c3')).drew1)
    have L13 := Lib.hid (And.intro (K4.drew1.atX (.tail _ (.head _)) 6 rfl) (K4.drew1.c5 (.head _)))
    have L14 := Lib.hid (And.intro (K14.out.atX (.tail _ (.tail _ (.head _))) 6 rfl) (K14.out.c5 (.tail _ (.head _))))
    obtain ⟨r0, r1, r2, r3, r4⟩ := K4.c5 (.tail _ (.tail _ (.tail _ (.tail _ (.head _)))))
    obtain ⟨f0, f1, f2, f3, f4⟩ := K4.f5 (.tail _ (.tail _ (.tail _ (.tail _ (.head _)))))
    obtain ⟨k0, k1, k2, k3, k4⟩ := K14.out.c5 (.head _)
    clear K4 hst2 HV HG HP HR
    go_region_held3 (fun w' => w'.cell? ⟨w1.heap.size, 6, none⟩ = some (.int .i64 qq) ∧ w'.cell? ⟨w3.heap.size, 0, none⟩ = some (.int .i64 x) ∧ w'.cell? ⟨w3.heap.size, 1, none⟩ = some (.int .i64 y) ∧ w'.cell? ⟨w3.heap.size, 2, none⟩ = some (.slice A3 m.length c3) ∧ w'.cell? ⟨w3.heap.size, 3, none⟩ = some (.int .i64 z) ∧ w'.cell? ⟨w3.heap.size, 4, none⟩ = some (.slice A3' k.length c3'))
      (first
        | with_reducible exact L13.out
        | with_reducible exact L14.out)
      (fail)
    go_wp2_with fail
    refine bodyPost_ret (v := .tuple #[.agg #[.int .i64 x, .int .i64 y, .slice A3 m.length c3, .int .i64 z, .slice A3' k.length c3'], .int .i64 qq, .int .i64 0]) (by simp [results, Tryd.results7, go_sem, k0, k1, k2, k3, k4]) rfl (HY.out _ _ ⟨_, _, rfl, ?_⟩)
    exact (K14.out.sub (qs := [segB 5 (.slice A3' k.length c3') k, segB 5 (.slice A3 m.length c3) m]) (.cons _ (.cons _ (.cons _ (.cons_cons _ (.cons_cons _ (.cons _ .slnil))))))).front 1 rfl
  · have HN := Lib.hid (fun ev w' => got_no (w := w) (r := ⟨x, y, m, z, k, p6, e6⟩) (e := ev) (w' := w') he)
    have HB := Lib.hid (fun W h => codeOf_err e6 W h)
    rw [errV_no he] at q7
    clear he hqq
    go_wp2_with fail
    refine (HB.out _ (HG.out.up K4.bel)).mono ?_
    rintro ev w5 ⟨rfl, hb5⟩
    have K5 := K4.up hb5
    clear K4 q7 q6 hb5 HB
    obtain ⟨r0, r1, r2, r3, r4⟩ := K5.c5 (.tail _ (.tail _ (.tail _ (.tail _ (.head _)))))
    obtain ⟨f0, f1, f2, f3, f4⟩ := K5.f5 (.tail _ (.tail _ (.tail _ (.tail _ (.head _)))))
    have K6 := Lib.hid ((K5.front 4 rfl).over5 (.int .i64 0) (.int .i64 0) (.slice none 0 0) (.int .i64 0) (.slice none 0 0))
    clear K5
    go_wp2_with fail
    refine bodyPost_ret (v := .tuple #[.agg #[.int .i64 0, .int .i64 0, .slice none 0 0, .int .i64 0, .slice none 0 0], .int .i64 0, .int .i64 e6]) (by simp [results, Tryd.results7, go_sem, r0, r1, r2, r3, r4]) rfl (HN.out _ _ rfl K6.out.bel)
end Go.Proofs.YtcamaeipbbdhlaaDoor
