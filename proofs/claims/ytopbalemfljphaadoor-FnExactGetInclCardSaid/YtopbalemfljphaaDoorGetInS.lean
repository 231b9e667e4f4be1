/- GetIncl of the model: the decoder. -/
import Derived.Test.YtopbalemfljphaaDoorInDecMath
import Derived.Test.YtopbalemfljphaaDoorTextRd
import Derived.Test.YtopbalemfljphaaDoorTagSeg
import Derived.Test.YtopbalemfljphaaDoorIncl
import Derived.Deep.RegionHeld3
import Derived.Deep.RegionLaw
namespace Go.Proofs.YtopbalemfljphaaDoor
open Go.ChangeShapes Go.WideShapes Go.ChangeAt Go.RowKit
set_option linter.unusedSimpArgs false

/-- A proof of inclusion has been decoded: its rows and the decoder behind it. -/
def DecInS (W : World) (g : Nat) (v : Value) (r : InAt) (ss : List (List Row)) (ev : Ending) (w' : World) : Prop :=
  ∃ t s vs L p, ev = .returned (.agg #[.int .i64 r.x, .int .i64 r.y, .int .i64 r.z, t, s]) ∧ vs.length = L.length ∧
    InvF W w' (segX 51 g [v, .int .i64 p, .int .i64 r.e] :: segB 5 t r.t :: segS 24 5 s vs L :: ss) ∧ (r.e = 0 → L = r.L ∧ p = r.p)
theorem fE_beq (y : Int) : (!(y == 0)) = (!(y == 0)) := rfl
set_option maxRecDepth 100000 in
set_option maxHeartbeats 8000000 in
theorem l16GetIncl_any (W w : World) (g : Nat) (v : Value) (l : List UInt8) (a b c d f p e0 : Int) (ss : List (List Row)) (H : InvF W w (segX 51 g [v, .int .i64 p, .int .i64 e0] :: ss)) (hv : Sp W W.heap.size v l) (hl : l.length ≤ 1073741824) :
    Calls Tryd.prog 30 #[.pointer (some ⟨g, 0, none⟩), .agg #[.int .i64 a, .int .i64 b, .int .i64 c, .int .i64 d, .int .i64 f]] w (DecInS W g v (inAt l b c p e0) ss) := by
  obtain ⟨i0, hi, hz0, hz1, hz2⟩ := info_parts sbinfo
  have HV := Lib.hid hv
  obtain ⟨A, n, rfl, kk⟩ := hv.sl
  clear kk hv
  obtain ⟨x, hx⟩ : ∃ x, x = nV l p e0 := ⟨_, rfl⟩
  obtain ⟨p1, hp1⟩ : ∃ x, x = nP l p e0 := ⟨_, rfl⟩
  obtain ⟨e1, he1⟩ : ∃ x, x = nE l p e0 := ⟨_, rfl⟩
  obtain ⟨y, hy⟩ : ∃ x, x = nV l p1 e1 := ⟨_, rfl⟩
  obtain ⟨p2, hp2⟩ : ∃ x, x = nP l p1 e1 := ⟨_, rfl⟩
  obtain ⟨f2, hf2⟩ : ∃ x, x = nE l p1 e1 := ⟨_, rfl⟩
  obtain ⟨g2, hg2⟩ : ∃ x, x = fE f2 (!(y == 0)) 5 := ⟨_, rfl⟩
  obtain ⟨e2, he2⟩ : ∃ x, x = fE g2 (decide (y ≤ c)) 3 := ⟨_, rfl⟩
  obtain ⟨z, hz⟩ : ∃ x, x = nV l p2 e2 := ⟨_, rfl⟩
  obtain ⟨p3, hp3⟩ : ∃ x, x = nP l p2 e2 := ⟨_, rfl⟩
  obtain ⟨f3, hf3⟩ : ∃ x, x = nE l p2 e2 := ⟨_, rfl⟩
  obtain ⟨e3, he3⟩ : ∃ x, x = fE f3 (decide (z < y)) 5 := ⟨_, rfl⟩
  obtain ⟨t, ht⟩ : ∃ x, x = tV l b p3 e3 := ⟨_, rfl⟩
  obtain ⟨p4, hp4⟩ : ∃ x, x = tP l b p3 e3 := ⟨_, rfl⟩
  obtain ⟨e4, he4⟩ : ∃ x, x = tE l b p3 e3 := ⟨_, rfl⟩
  have hr : inAt l b c p e0 = inRest l x y z t p4 e4 := by
    unfold inAt
    simp only [← hx, ← hp1, ← he1, ← hy, ← hp2, ← hf2, ← hg2, ← he2, ← hz, ← hp3, ← hf3, ← he3, ← ht, ← hp4, ← he4]
  rw [hr]
  obtain ⟨pl, hpl⟩ : ∃ pl, pl = plenZ z y := ⟨_, rfl⟩
  have hpl0 : 0 ≤ pl := by rw [hpl]; exact plenZ_lo z y
  have hpl1 : pl ≤ 1048576 := by rw [hpl]; exact (plenZ_le z y).1
  have HPL := Lib.hid hpl
  have CP : Hid (∀ W, Calls Tryd.prog 52 #[.int .i64 z, .int .i64 y] W (fun e w' => e = .returned (.int .i64 pl) ∧ W = w')) := Lib.hid (by rw [hpl]; exact fun W => specPathLen_any z y W)
  have S1 := Lib.hid (And.intro hx (And.intro hp1 he1))
  have S2 := Lib.hid (And.intro hy (And.intro hp2 hf2))
  have G2 := Lib.hid hg2
  have E2 := Lib.hid he2
  have S3 := Lib.hid (And.intro hz (And.intro hp3 hf3))
  have E3 := Lib.hid he3
  have S4 := Lib.hid (And.intro ht (And.intro hp4 he4))
  clear hr hx hp1 he1 hy hp2 hf2 hg2 he2 hz hp3 hf3 he3 ht hp4 he4 hpl
  have Ha : InvF W _ (segX 51 g [.slice A l.length n, .int .i64 p, .int .i64 e0] :: segX 33 w.heap.size [.int .i64 a, .int .i64 b, .int .i64 c, .int .i64 d, .int .i64 f] :: ss) := (H.newG 33 #[.int .i64 a, .int .i64 b, .int .i64 c, .int .i64 d, .int .i64 f] w.heap.size rfl).front 1 rfl
  have H1 : InvF W _ (segX 51 g [.slice A l.length n, .int .i64 p, .int .i64 e0] :: segX 42 (w.heap.size + 1) [.int .i64 0, .int .i64 0, .int .i64 0, .slice none 0 0, .slice none 0 0] :: segX 33 w.heap.size [.int .i64 a, .int .i64 b, .int .i64 c, .int .i64 d, .int .i64 f] :: ss) := (Ha.newG 42 #[.int .i64 0, .int .i64 0, .int .i64 0, .slice none 0 0, .slice none 0 0] (w.heap.size + 1)).front 1 rfl
  clear Ha H
  go_enter Tryd.func30, Tryd.ntmps30
  go_wp2_with fail
  refine (l11Var_any W _ g _ l p e0 _ H1 HV.out (by omega)).mono ?_
  rw [← S1.out.1, ← S1.out.2.1, ← S1.out.2.2]
  rintro ev w2 ⟨rfl, H2⟩
  clear H1
  go_wp2_with fail
  have H3 := (H2.newX 42 #[.int .i64 x, .int .i64 0, .int .i64 0, .slice none 0 0, .slice none 0 0]).front 1 rfl
  clear H2
  refine (l11Var_any W _ g _ l p1 e1 _ H3 HV.out (by omega)).mono ?_
  rw [← S2.out.1, ← S2.out.2.1, ← S2.out.2.2]
  rintro ev w4 ⟨rfl, H4⟩
  replace H4 : InvF W w4 (segX 51 g [.slice A l.length n, .int .i64 p2, .int .i64 f2] :: segX 42 w2.heap.size [.int .i64 x, .int .i64 0, .int .i64 0, .slice none 0 0, .slice none 0 0] :: segX 42 (w.heap.size + 1) [.int .i64 0, .int .i64 0, .int .i64 0, .slice none 0 0, .slice none 0 0] :: segX 33 w.heap.size [.int .i64 a, .int .i64 b, .int .i64 c, .int .i64 d, .int .i64 f] :: ss) := H4
  clear H3
  obtain ⟨o0, o1, o2, o3, o4⟩ := H4.c5 (.tail _ (.head _))
  have f1 := H4.frX (.tail _ (.head _)) 1
  go_wp2_with fail
  have H5 := ((H4.front 1 rfl).setX 1 (.int .i64 y)).front 1 rfl
  clear H4 o0 o1 o2 o3 o4 f1
  refine (l11Fail_any W _ g _ p2 f2 5 (y == 0) _ H5).mono ?_
  rw [← G2.out]
  rintro ev w5 ⟨rfl, H6⟩
  replace H6 : InvF W w5 (segX 51 g [.slice A l.length n, .int .i64 p2, .int .i64 g2] :: segX 42 w2.heap.size [.int .i64 x, .int .i64 y, .int .i64 0, .slice none 0 0, .slice none 0 0] :: segX 42 (w.heap.size + 1) [.int .i64 0, .int .i64 0, .int .i64 0, .slice none 0 0, .slice none 0 0] :: segX 33 w.heap.size [.int .i64 a, .int .i64 b, .int .i64 c, .int .i64 d, .int .i64 f] :: ss) := H6
  clear H5
  obtain ⟨o0, o1, o2, o3, o4⟩ := H6.c5 (.tail _ (.head _))
  obtain ⟨t0, t1, t2, t3, t4⟩ := H6.c5 (.tail _ (.tail _ (.tail _ (.head _))))
  go_wp2_with fail
  have hnot : (!decide (c < y)) = decide (y ≤ c) := by by_cases h : c < y <;> simp [h] <;> omega
  have hcall := l11Fail_any W _ g _ p2 g2 3 (decide (c < y)) _ H6
  rw [hnot, ← E2.out] at hcall
  refine hcall.mono ?_
  rintro ev w6 ⟨rfl, H7⟩
  replace H7 : InvF W w6 (segX 51 g [.slice A l.length n, .int .i64 p2, .int .i64 e2] :: segX 42 w2.heap.size [.int .i64 x, .int .i64 y, .int .i64 0, .slice none 0 0, .slice none 0 0] :: segX 42 (w.heap.size + 1) [.int .i64 0, .int .i64 0, .int .i64 0, .slice none 0 0, .slice none 0 0] :: segX 33 w.heap.size [.int .i64 a, .int .i64 b, .int .i64 c, .int .i64 d, .int .i64 f] :: ss) := H7
  clear H6 hcall hnot o0 o1 o2 o3 o4 t0 t1 t2 t3 t4
  go_wp2_with fail
  refine (l11Var_any W _ g _ l p2 e2 _ H7 HV.out (by omega)).mono ?_
  rw [← S3.out.1, ← S3.out.2.1, ← S3.out.2.2]
  rintro ev w7 ⟨rfl, H8⟩
  replace H8 : InvF W w7 (segX 51 g [.slice A l.length n, .int .i64 p3, .int .i64 f3] :: segX 42 w2.heap.size [.int .i64 x, .int .i64 y, .int .i64 0, .slice none 0 0, .slice none 0 0] :: segX 42 (w.heap.size + 1) [.int .i64 0, .int .i64 0, .int .i64 0, .slice none 0 0, .slice none 0 0] :: segX 33 w.heap.size [.int .i64 a, .int .i64 b, .int .i64 c, .int .i64 d, .int .i64 f] :: ss) := H8
  clear H7
  obtain ⟨o0, o1, o2, o3, o4⟩ := H8.c5 (.tail _ (.head _))
  have f1 := H8.frX (.tail _ (.head _)) 2
  go_wp2_with fail
  have H9 := ((H8.front 1 rfl).setX 2 (.int .i64 z)).front 1 rfl
  clear H8 o0 o1 o2 o3 o4 f1
  have hnot : (!decide (y ≤ z)) = decide (z < y) := by by_cases h : y ≤ z <;> simp [h] <;> omega
  have hcall := l11Fail_any W _ g _ p3 f3 5 (decide (y ≤ z)) _ H9
  rw [hnot, ← E3.out] at hcall
  refine hcall.mono ?_
  rintro ev w8 ⟨rfl, H10⟩
  replace H10 : InvF W w8 (segX 51 g [.slice A l.length n, .int .i64 p3, .int .i64 e3] :: segX 42 w2.heap.size [.int .i64 x, .int .i64 y, .int .i64 z, .slice none 0 0, .slice none 0 0] :: segX 42 (w.heap.size + 1) [.int .i64 0, .int .i64 0, .int .i64 0, .slice none 0 0, .slice none 0 0] :: segX 33 w.heap.size [.int .i64 a, .int .i64 b, .int .i64 c, .int .i64 d, .int .i64 f] :: ss) := H10
  clear H9 hcall hnot
  obtain ⟨t0, t1, t2, t3, t4⟩ := H10.c5 (.tail _ (.tail _ (.tail _ (.head _))))
  go_wp2_with fail
  refine (l11Text_any W _ g _ l b p3 e3 _ H10 HV.out (by omega)).mono ?_
  rw [← S4.out.1, ← S4.out.2.1, ← S4.out.2.2]
  rintro ev w9 ⟨u9, rfl, H11⟩
  replace H11 : InvF W w9 (segX 51 g [.slice A l.length n, .int .i64 p4, .int .i64 e4] :: segB 5 u9 t :: segX 42 w2.heap.size [.int .i64 x, .int .i64 y, .int .i64 z, .slice none 0 0, .slice none 0 0] :: segX 42 (w.heap.size + 1) [.int .i64 0, .int .i64 0, .int .i64 0, .slice none 0 0, .slice none 0 0] :: segX 33 w.heap.size [.int .i64 a, .int .i64 b, .int .i64 c, .int .i64 d, .int .i64 f] :: ss) := H11
  clear H10 t0 t1 t2 t3 t4
  obtain ⟨A9, c9, rfl⟩ := H11.openB' (.tail _ (.head _))
  obtain ⟨o0, o1, o2, o3, o4⟩ := H11.c5 (.tail _ (.tail _ (.head _)))
  have f1 := H11.frX (.tail _ (.tail _ (.head _))) 3
  have q2 := H11.atX (.head _) 2 rfl
  have H12 := ((H11.front 2 rfl).setX 3 (.slice A9 t.length c9)).more (s := segS 24 5 (.slice none 0 0) [] []) ((InvG.start _).moreG (p := (24, .slice none 0 0, [])) (World.ownsRow_nil _ _ _ _) (Below.refl _ _))
  replace H12 : InvF W (w9.setCell ⟨w2.heap.size, 3, none⟩ (.slice A9 t.length c9)) (segS 24 5 (.slice none 0 0) [] [] :: segX 42 w2.heap.size [.int .i64 x, .int .i64 y, .int .i64 z, .slice A9 t.length c9, .slice none 0 0] :: segX 51 g [.slice A l.length n, .int .i64 p4, .int .i64 e4] :: segB 5 (.slice A9 t.length c9) t :: segX 42 (w.heap.size + 1) [.int .i64 0, .int .i64 0, .int .i64 0, .slice none 0 0, .slice none 0 0] :: segX 33 w.heap.size [.int .i64 a, .int .i64 b, .int .i64 c, .int .i64 d, .int .i64 f] :: ss) := H12
  have H13 : Hid (InvF W (w9.setCell ⟨w2.heap.size, 3, none⟩ (.slice A9 t.length c9)) (segX 51 g [.slice A l.length n, .int .i64 p4, .int .i64 e4] :: segX 42 w2.heap.size [.int .i64 x, .int .i64 y, .int .i64 z, .slice A9 t.length c9, .slice none 0 0] :: segS 24 5 (.slice none 0 0) [] [] :: segB 5 (.slice A9 t.length c9) t :: segX 42 (w.heap.size + 1) [.int .i64 0, .int .i64 0, .int .i64 0, .slice none 0 0, .slice none 0 0] :: segX 33 w.heap.size [.int .i64 a, .int .i64 b, .int .i64 c, .int .i64 d, .int .i64 f] :: ss)) := Lib.hid ((H12.front 1 rfl).front 2 rfl)
  clear H11 H12
  go_wp2
  clear o0 o1 o2 o3 o4 f1 q2
  have HFIN0 : Hid (e4 = 0 → inRest l x y z t p4 e4 = ⟨x, y, z, t, (tagsAt l p4 0 pl.toNat).1, (tagsAt l p4 0 pl.toNat).2.1, (tagsAt l p4 0 pl.toNat).2.2⟩) := Lib.hid (fun h => by unfold inRest; rw [if_pos h, HPL.out])
  have HFIN1 : Hid (e4 ≠ 0 → inRest l x y z t p4 e4 = ⟨x, y, z, t, [], p4, e4⟩) := Lib.hid (fun h => by unfold inRest; rw [if_neg h])
  go_loopw [6] (fun i wr => ∃ (j : Nat) (At : Option Addr) (ct : Nat) (vs : List Value), (j : Int) ≤ pl ∧ i = .int .i64 (j : Int) ∧ Hid (vs.length = j) ∧ Hid (InvF W wr (segX 51 g [.slice A l.length n, .int .i64 (tagsAt l p4 e4 j).2.1, .int .i64 (tagsAt l p4 e4 j).2.2] :: segX 42 w2.heap.size [.int .i64 x, .int .i64 y, .int .i64 z, .slice A9 t.length c9, .slice At j ct] :: segS 24 5 (.slice At j ct) vs (tagsAt l p4 e4 j).1 :: segB 5 (.slice A9 t.length c9) t :: segX 42 (w.heap.size + 1) [.int .i64 0, .int .i64 0, .int .i64 0, .slice none 0 0, .slice none 0 0] :: segX 33 w.heap.size [.int .i64 a, .int .i64 b, .int .i64 c, .int .i64 d, .int .i64 f] :: ss)))
    (fun i _ => pl.toNat - (intOf i).toNat)
  case atStart => exact ⟨0, none, 0, [], hpl0, rfl, Lib.hid rfl, H13⟩
  case round =>
    clear H13
    obtain ⟨j, At, ct, vs, hj, rfl, hvs, Hj⟩ := hrel
    have hlen : Hid ((tagsAt l p4 e4 j).1.length = j) := Lib.hid (tagsAt_len l p4 e4 j)
    have hstep : Hid (tagsAt l p4 e4 (j + 1) = ((tagsAt l p4 e4 j).1 ++ [rV l 32 (tagsAt l p4 e4 j).2.1 (tagsAt l p4 e4 j).2.2], rP l 32 (tagsAt l p4 e4 j).2.1 (tagsAt l p4 e4 j).2.2, rE l 32 (tagsAt l p4 e4 j).2.1 (tagsAt l p4 e4 j).2.2)) := Lib.hid rfl
    have HFIN : Hid (((tagsAt l p4 e4 j).2.2 ≠ 0 ∨ (j : Int) = pl) → (inRest l x y z t p4 e4).x = x ∧ (inRest l x y z t p4 e4).y = y ∧ (inRest l x y z t p4 e4).z = z ∧ (inRest l x y z t p4 e4).t = t ∧ (inRest l x y z t p4 e4).e = (tagsAt l p4 e4 j).2.2 ∧ ((inRest l x y z t p4 e4).e = 0 → (tagsAt l p4 e4 j).1 = (inRest l x y z t p4 e4).L ∧ (tagsAt l p4 e4 j).2.1 = (inRest l x y z t p4 e4).p)) := Lib.hid (fun h => by
      by_cases he : e4 = 0
      · rw [HFIN0.out he]
        subst he
        rcases h with h | h
        · have h1 := tagsAt_err (l := l) (p := p4) (e := 0) (j := j) h (pl.toNat - j)
          rw [show j + (pl.toNat - j) = pl.toNat by omega] at h1
          exact ⟨rfl, rfl, rfl, rfl, h1, fun h0 => absurd (h1.symm.trans h0) h⟩
        · rw [show pl.toNat = j by omega]
          exact ⟨rfl, rfl, rfl, rfl, rfl, fun _ => ⟨rfl, rfl⟩⟩
      · rw [HFIN1.out he]
        have h1 := tagsAt_err (l := l) (p := p4) (e := e4) (j := 0) he j
        rw [Nat.zero_add] at h1
        exact ⟨rfl, rfl, rfl, rfl, h1.symm, fun h0 => absurd h0 he⟩)
    generalize hT : tagsAt l p4 e4 j = tj at *
    obtain ⟨L, pj, ej⟩ := tj
    dsimp only at hlen hstep Hj HFIN
    clear hT
    have q2 := Hj.out.atX (.head _) 2 rfl
    have o1 := Hj.out.atX (.tail _ (.head _)) 1 rfl
    have o2 := Hj.out.atX (.tail _ (.head _)) 2 rfl
    by_cases hej : ej = 0
    case neg =>
      have hne : (ej == 0) = false := by simpa using hej
      have HFX := Lib.hid (HFIN.out (.inl hej))
      clear hej HFIN hstep o1 o2
      obtain ⟨hf0, hf1, hf2, hf3, hf4, hf5⟩ := HFX.out
      have HF := Lib.hid (And.intro hf0 (And.intro hf1 (And.intro hf2 (And.intro hf3 (And.intro hf4 hf5)))))
      clear hf0 hf1 hf2 hf3 hf4 hf5
      obtain ⟨o0, o1, o2, o3, o4⟩ := Hj.out.c5 (.tail _ (.head _))
      obtain ⟨r0, r1, r2, r3, r4⟩ := Hj.out.c5 (.tail _ (.tail _ (.tail _ (.tail _ (.head _)))))
      obtain ⟨s0, s1, s2, s3, s4⟩ := Hj.out.f5 (.tail _ (.tail _ (.tail _ (.tail _ (.head _)))))
      have h6 := Hj.out.ltX (.tail _ (.head _))
      have h7 := Hj.out.ltX (.tail _ (.tail _ (.tail _ (.tail _ (.head _)))))
      go_wp2
      refine bodyPost_ret (v := .agg #[.int .i64 x, .int .i64 y, .int .i64 z, .slice A9 t.length c9, .slice At j ct]) (by simp [results, Tryd.results30, go_sem, r0, r1, r2, r3, r4]) rfl ⟨_, _, vs, L, pj, by rw [HF.out.1, HF.out.2.1, HF.out.2.2.1], by rw [hvs.out]; exact hlen.out.symm, ?_, HF.out.2.2.2.2.2⟩
      rw [HF.out.2.2.2.1, HF.out.2.2.2.2.1]
      have K7 := ((Hj.out.front 4 rfl).over5 (.int .i64 x) (.int .i64 y) (.int .i64 z) (.slice A9 t.length c9) (.slice At j ct)).sub (qs := segX 51 g [.slice A l.length n, .int .i64 pj, .int .i64 ej] :: segS 24 5 (.slice At j ct) vs L :: segB 5 (.slice A9 t.length c9) t :: ss) (.cons _ (.cons_cons _ (.cons _ (.cons_cons _ (.cons_cons _ (.cons _ (List.Sublist.refl _)))))))
      exact (K7.front 2 rfl).front 1 rfl
    subst hej
    go_wp2_with fail
    refine (CP.out _).mono ?_
    rintro ev _ ⟨rfl, rfl⟩
    by_cases hlt : (j : Int) < pl
    case neg =>
      have d0 : decide ((j : Int) < pl) = false := decide_eq_false hlt
      have HFX := Lib.hid (HFIN.out (.inr (by omega)))
      clear HFIN hstep o1 o2
      obtain ⟨hf0, hf1, hf2, hf3, hf4, hf5⟩ := HFX.out
      have HF := Lib.hid (And.intro hf0 (And.intro hf1 (And.intro hf2 (And.intro hf3 (And.intro hf4 hf5)))))
      clear hf0 hf1 hf2 hf3 hf4 hf5
      obtain ⟨o0, o1, o2, o3, o4⟩ := Hj.out.c5 (.tail _ (.head _))
      obtain ⟨r0, r1, r2, r3, r4⟩ := Hj.out.c5 (.tail _ (.tail _ (.tail _ (.tail _ (.head _)))))
      obtain ⟨s0, s1, s2, s3, s4⟩ := Hj.out.f5 (.tail _ (.tail _ (.tail _ (.tail _ (.head _)))))
      have h6 := Hj.out.ltX (.tail _ (.head _))
      have h7 := Hj.out.ltX (.tail _ (.tail _ (.tail _ (.tail _ (.head _)))))
      go_wp2
      refine bodyPost_ret (v := .agg #[.int .i64 x, .int .i64 y, .int .i64 z, .slice A9 t.length c9, .slice At j ct]) (by simp [results, Tryd.results30, go_sem, r0, r1, r2, r3, r4]) rfl ⟨_, _, vs, L, pj, by rw [HF.out.1, HF.out.2.1, HF.out.2.2.1], by rw [hvs.out]; exact hlen.out.symm, ?_, HF.out.2.2.2.2.2⟩
      rw [HF.out.2.2.2.1, HF.out.2.2.2.2.1]
      have K7 := ((Hj.out.front 4 rfl).over5 (.int .i64 x) (.int .i64 y) (.int .i64 z) (.slice A9 t.length c9) (.slice At j ct)).sub (qs := segX 51 g [.slice A l.length n, .int .i64 pj, .int .i64 0] :: segS 24 5 (.slice At j ct) vs L :: segB 5 (.slice A9 t.length c9) t :: ss) (.cons _ (.cons_cons _ (.cons _ (.cons_cons _ (.cons_cons _ (.cons _ (List.Sublist.refl _)))))))
      exact (K7.front 2 rfl).front 1 rfl
    have hq3 : j ≤ 1048576 := by omega
    clear o1 o2
    obtain ⟨r, hr⟩ : ∃ r, r = rV l 32 pj 0 := ⟨_, rfl⟩
    obtain ⟨pn, hpn⟩ : ∃ r, r = rP l 32 pj 0 := ⟨_, rfl⟩
    obtain ⟨en, hen⟩ : ∃ r, r = rE l 32 pj 0 := ⟨_, rfl⟩
    rw [← hr, ← hpn, ← hen] at hstep
    have SJ := Lib.hid (And.intro hr (And.intro hpn hen))
    clear hr hpn hen HFIN
    have HD := Lib.hid Hj.out.drew1
    have o4 : wr.cell? ⟨w2.heap.size, 4, none⟩ = some (.slice At j ct) := Hj.out.atX (.tail _ (.head _)) 4 rfl
    go_wp2_with fail
    go_region_law (first
      | (refine step_appFS (W := W) (w := w12) (E := 5) (E2 := 24) (s := .slice At j ct) (u := .slice A12 r.length c12) (vs := vs) (L := L) (r := r) (by rfl) (.tmp 57) (.tmp 60) 26 rfl i0 Tryd.underlying26 hi hz0 hz1 hz2 (by rfl) (by rfl) rfl (by rw [hvs.out, hlen.out]) K12.out (by rw [hlen.out]; omega) ?_; intro v14 w14 H14; obtain ⟨A14, c14, e14⟩ := H14.openS (by simp only [List.length_append]; rw [hvs.out, hlen.out]; rfl) (.head _); simp only [List.length_append, List.length_singleton, hlen.out] at e14; subst e14; have o6 := H14.atX (.tail _ (.tail _ (.head _))) 4 rfl; have f6 := H14.frX (.tail _ (.tail _ (.head _))) 4; have K14 := Lib.hid H14; clear H14)
      | (go_simp; go_at_call 53; refine (l11Raw_any W _ g _ l pj 0 _ HD.out HV.out (by omega)).mono ?_; rw [← SJ.out.1, ← SJ.out.2.1, ← SJ.out.2.2]; rintro ev w12 ⟨u12, rfl, H12⟩; obtain ⟨A12, c12, rfl⟩ := H12.openB' (.tail _ (.head _)); have o5 := H12.atX (.tail _ (.tail _ (.head _))) 4 rfl; have o5a := (H12.up ((Below.refl _ _).alloc (Nat.le_refl _) (.cells #[.slice A12 r.length c12] 24))).atX (.tail _ (.tail _ (.head _))) 4 rfl; have K12 := Lib.hid ((H12.front 1 rfl).front 3 rfl); clear H12; dsimp only))
    all_goals
      have HF := Lib.hid (((K14.out.front 2 rfl).setX 4 (.slice A14 (j + 1) c14)).front 2 rfl)
      clear o4 o5 o5a o6 f6 K12 K14 q2
      go_wp2
      go_roundw
      case rel => exact ⟨j + 1, A14, c14, vs ++ [.slice A12 r.length c12], by omega, by go_num, Lib.hid (by rw [List.length_append, hvs.out]; rfl), Lib.hid (by rw [hstep.out]; exact HF.out)⟩
      case measure => simp [intOf]; omega
end Go.Proofs.YtopbalemfljphaaDoor
