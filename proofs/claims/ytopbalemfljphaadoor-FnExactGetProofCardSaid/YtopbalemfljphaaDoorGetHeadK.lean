/- The model's decoders of certificates and headers once more: what they leave beside their rows (InvK). -/
import Derived.Test.YtopbalemfljphaaDoorInvK
import Derived.Test.YtopbalemfljphaaDoorHdM
import Derived.Test.YtopbalemfljphaaDoorQcT
import Derived.Deep.RegionHeld3
import Derived.Deep.RegionLaw
namespace Go.Proofs.YtopbalemfljphaaDoor
open Go.ChangeShapes Go.WideShapes Go.ChangeAt Go.RowKit

/-- A certificate has been decoded: its rows and the decoder behind it. -/
def DecQcK (Sx : Nat → Prop) (wx W : World) (g : Nat) (v : Value) (r : QcAt) (ss : List (List Row)) (ev : Ending) (w' : World) : Prop :=
  ∃ a b s vs, ev = .returned (.agg #[.int .i64 r.x, .int .i64 r.y, a, b, s]) ∧ vs.length = r.L.length ∧
    InvK Sx wx W w' (segX 51 g [v, .int .i64 r.p, .int .i64 r.e] :: segB 5 a r.m :: segB 5 b r.k :: segS 24 5 s vs r.L :: ss)

set_option maxRecDepth 100000 in
set_option maxHeartbeats 8000000 in
theorem l12Get_K (Sx : Nat → Prop) (wx W w : World) (g : Nat) (v : Value) (l : List UInt8) (a b c d f p e0 : Int) (ss : List (List Row)) (H : InvK Sx wx W w (segX 51 g [v, .int .i64 p, .int .i64 e0] :: ss)) (HSG : Sx g) (HSN : ∀ b, wx.heap.size ≤ b → Sx b) (hv : Sp W W.heap.size v l) (hl : l.length ≤ 1073741824) :
    Calls Tryd.prog 40 #[.pointer (some ⟨g, 0, none⟩), .agg #[.int .i64 a, .int .i64 b, .int .i64 c, .int .i64 d, .int .i64 f]] w (DecQcK Sx wx W g v (qcAt l a p e0) ss) := by
  obtain ⟨i0, hi, hz0, hz1, hz2⟩ := info_parts sbinfo
  have HV := Lib.hid hv
  obtain ⟨A, n, rfl, kk⟩ := hv.sl
  clear kk hv
  obtain ⟨x, hx⟩ : ∃ x, x = nV l p e0 := ⟨_, rfl⟩
  obtain ⟨p1, hp1⟩ : ∃ x, x = nP l p e0 := ⟨_, rfl⟩
  obtain ⟨e1, he1⟩ : ∃ x, x = nE l p e0 := ⟨_, rfl⟩
  obtain ⟨y, hy⟩ : ∃ x, x = nV l p1 e1 := ⟨_, rfl⟩
  obtain ⟨p2, hp2⟩ : ∃ x, x = nP l p1 e1 := ⟨_, rfl⟩
  obtain ⟨e2, he2⟩ : ∃ x, x = nE l p1 e1 := ⟨_, rfl⟩
  obtain ⟨m, hm⟩ : ∃ x, x = rV l 32 p2 e2 := ⟨_, rfl⟩
  obtain ⟨p3, hp3⟩ : ∃ x, x = rP l 32 p2 e2 := ⟨_, rfl⟩
  obtain ⟨e3, he3⟩ : ∃ x, x = rE l 32 p2 e2 := ⟨_, rfl⟩
  obtain ⟨k, hk⟩ : ∃ x, x = bV l a p3 e3 := ⟨_, rfl⟩
  obtain ⟨p4, hp4⟩ : ∃ x, x = bP l a p3 e3 := ⟨_, rfl⟩
  obtain ⟨e4, he4⟩ : ∃ x, x = bE l a p3 e3 := ⟨_, rfl⟩
  have hr : qcAt l a p e0 = ⟨x, y, m, k, (tagsAt l p4 e4 (cntB k).toNat).1, (tagsAt l p4 e4 (cntB k).toNat).2.1, (tagsAt l p4 e4 (cntB k).toNat).2.2⟩ := by
    unfold qcAt
    simp only [← hx, ← hp1, ← he1, ← hy, ← hp2, ← he2, ← hm, ← hp3, ← he3, ← hk, ← hp4, ← he4]
  rw [hr]
  have hcnt : 0 ≤ cntB k ∧ cntB k ≤ 10 := by rw [hk]; exact bV_cnt _ _ _ _
  obtain ⟨N, hN⟩ : ∃ N : Nat, N = (cntB k).toNat := ⟨_, rfl⟩
  rw [← hN]
  have hNi : cntB k = (N : Int) := by omega
  have hN10 : N ≤ 10 := by omega
  have HNH := Lib.hid hNi
  clear hN hNi hcnt
  have hkl : k.length ≤ l.length := by rw [hk]; exact bV_len _ _ _ _
  have S1 := Lib.hid (And.intro hx (And.intro hp1 he1))
  have S2 := Lib.hid (And.intro hy (And.intro hp2 he2))
  have S3 := Lib.hid (And.intro hm (And.intro hp3 he3))
  have S4 := Lib.hid (And.intro hk (And.intro hp4 he4))
  clear hr hx hp1 he1 hy hp2 he2 hm hp3 he3 hk hp4 he4
  have hw0 := H.f.size
  have HR1 : Hid (Sx (w.heap.size + 1)) := Lib.hid (HSN _ (by omega))
  clear hw0
  have Ha : InvK Sx wx W (w.alloc (.cells #[.int .i64 a, .int .i64 b, .int .i64 c, .int .i64 d, .int .i64 f] 33)) (segX 51 g [.slice A l.length n, .int .i64 p, .int .i64 e0] :: segX 33 w.heap.size [.int .i64 a, .int .i64 b, .int .i64 c, .int .i64 d, .int .i64 f] :: ss) := (H.newG 33 #[.int .i64 a, .int .i64 b, .int .i64 c, .int .i64 d, .int .i64 f] w.heap.size rfl).front 1 rfl
  have H1 : InvK Sx wx W ((w.alloc (.cells #[.int .i64 a, .int .i64 b, .int .i64 c, .int .i64 d, .int .i64 f] 33)).alloc (.cells #[.int .i64 0, .int .i64 0, .slice none 0 0, .slice none 0 0, .slice none 0 0] 28)) (segX 51 g [.slice A l.length n, .int .i64 p, .int .i64 e0] :: segX 28 (w.heap.size + 1) [.int .i64 0, .int .i64 0, .slice none 0 0, .slice none 0 0, .slice none 0 0] :: segX 33 w.heap.size [.int .i64 a, .int .i64 b, .int .i64 c, .int .i64 d, .int .i64 f] :: ss) := (Ha.newG 28 #[.int .i64 0, .int .i64 0, .slice none 0 0, .slice none 0 0, .slice none 0 0] (w.heap.size + 1)).front 1 rfl
  clear Ha H
  go_enter Tryd.func40, Tryd.ntmps40
  go_wp2_with fail
  refine (l11Var_K Sx wx W _ g _ l p e0 _ H1 HSG HV.out (by omega)).mono ?_
  rw [← S1.out.1, ← S1.out.2.1, ← S1.out.2.2]
  rintro ev w2 ⟨rfl, H2⟩
  have HS2 : Hid (Sx w2.heap.size) := Lib.hid (HSN _ H2.f.size)
  clear H1
  go_wp2_with fail
  have H3 := (H2.newX 28 #[.int .i64 x, .int .i64 0, .slice none 0 0, .slice none 0 0, .slice none 0 0]).front 1 rfl
  clear H2
  refine (l11Var_K Sx wx W _ g _ l p1 e1 _ H3 HSG HV.out (by omega)).mono ?_
  rw [← S2.out.1, ← S2.out.2.1, ← S2.out.2.2]
  rintro ev w4 ⟨rfl, H4⟩
  replace H4 : InvK Sx wx W w4 (segX 51 g [.slice A l.length n, .int .i64 p2, .int .i64 e2] :: segX 28 w2.heap.size [.int .i64 x, .int .i64 0, .slice none 0 0, .slice none 0 0, .slice none 0 0] :: segX 28 (w.heap.size + 1) [.int .i64 0, .int .i64 0, .slice none 0 0, .slice none 0 0, .slice none 0 0] :: segX 33 w.heap.size [.int .i64 a, .int .i64 b, .int .i64 c, .int .i64 d, .int .i64 f] :: ss) := H4
  clear H3
  obtain ⟨o0, o1, o2, o3, o4⟩ := H4.h.c5 (.tail _ (.head _))
  have f1 := H4.h.frX (.tail _ (.head _)) 1
  go_wp2_with fail
  have H5 := ((H4.front 1 rfl).setX HS2.out 1 (.int .i64 y)).front 1 rfl
  clear H4 o0 o1 o2 o3 o4 f1
  refine (l11Raw_K Sx wx W _ g _ l p2 e2 _ H5 HSG HV.out (by omega)).mono ?_
  rw [← S3.out.1, ← S3.out.2.1, ← S3.out.2.2]
  rintro ev w6 ⟨u6, rfl, H6⟩
  replace H6 : InvK Sx wx W w6 (segX 51 g [.slice A l.length n, .int .i64 p3, .int .i64 e3] :: segB 5 u6 m :: segX 28 w2.heap.size [.int .i64 x, .int .i64 y, .slice none 0 0, .slice none 0 0, .slice none 0 0] :: segX 28 (w.heap.size + 1) [.int .i64 0, .int .i64 0, .slice none 0 0, .slice none 0 0, .slice none 0 0] :: segX 33 w.heap.size [.int .i64 a, .int .i64 b, .int .i64 c, .int .i64 d, .int .i64 f] :: ss) := H6
  clear H5
  obtain ⟨A6, c6, rfl⟩ := H6.h.openB' (.tail _ (.head _))
  obtain ⟨o0, o1, o2, o3, o4⟩ := H6.h.c5 (.tail _ (.tail _ (.head _)))
  have f2 := H6.h.frX (.tail _ (.tail _ (.head _))) 2
  have q2 := H6.h.atX (.head _) 2 rfl
  have H7 := (((H6.front 2 rfl).setX HS2.out 2 (.slice A6 m.length c6)).front 2 rfl).front 2 rfl
  replace H7 : InvK Sx wx W (w6.setCell ⟨w2.heap.size, 2, none⟩ (.slice A6 m.length c6)) (segX 51 g [.slice A l.length n, .int .i64 p3, .int .i64 e3] :: segB 5 (.slice A6 m.length c6) m :: segX 28 w2.heap.size [.int .i64 x, .int .i64 y, .slice A6 m.length c6, .slice none 0 0, .slice none 0 0] :: segX 28 (w.heap.size + 1) [.int .i64 0, .int .i64 0, .slice none 0 0, .slice none 0 0, .slice none 0 0] :: segX 33 w.heap.size [.int .i64 a, .int .i64 b, .int .i64 c, .int .i64 d, .int .i64 f] :: ss) := ((H6.front 2 rfl).setX HS2.out 2 (.slice A6 m.length c6)).perm (by exact List.perm_middle (l₁ := [_, _]).symm)
  have r2 := H7.h.atX (.head _) 2 rfl
  have hw7 : ∃ w7, w7 = w6.setCell ⟨w2.heap.size, 2, none⟩ (.slice A6 m.length c6) := ⟨_, rfl⟩
  by_cases he : e3 = 0
  · subst he
    have hgb : gb l p3 a = (k, p4, e4) := by
      obtain ⟨h1, h2, h3⟩ := S4.out
      rw [bV_yes] at h1; rw [bP_yes] at h2; rw [bE_yes] at h3
      rw [h1, h2, h3]
    have hc := fun W h => specGetBits_any (.slice A l.length n) l p3 a W h (by omega)
    rw [hgb] at hc
    unfold Fresh3 at hc
    have HC := Lib.hid hc
    clear hc hgb S1 S2 S3 S4 hw7
    go_wp2_with fail
    clear r2 H6 o0 o1 o2 o3 o4 f2 q2
    generalize w6.setCell ⟨w2.heap.size, 2, none⟩ (.slice A6 m.length c6) = w7 at *
    have HE := Lib.hid H7.drew1
    have L0 := Lib.hid (And.intro (HE.out.h.atX (.head _) 0 rfl) (And.intro (HE.out.h.atX (.head _) 1 rfl) (HE.out.h.atX (.tail _ (.tail _ (.tail _ (.tail _ (.head _))))) 0 rfl)))
    clear H7
    go_region_held3 (fun w' => w'.cell? ⟨g, 0, none⟩ = some (.slice A l.length n) ∧ w'.cell? ⟨g, 1, none⟩ = some (.int .i64 p3) ∧ w'.cell? ⟨w.heap.size, 0, none⟩ = some (.int .i64 a))
      (first
        | exact L0.out
        | exact L1.out)
      (first
        | (go_at_call 63; refine (HC.out _ (HV.out.up HE.out.h.bel)).mono ?_; rintro ev w8 ⟨u8, rfl, ho8, hb8⟩; have H8 := Lib.hid (HE.out.moreB ho8 hb8); have L1 := Lib.hid (And.intro (H8.out.h.atX (.tail _ (.head _)) 0 rfl) (And.intro (H8.out.h.atX (.tail _ (.head _)) 1 rfl) (H8.out.h.atX (.tail _ (.tail _ (.tail _ (.tail _ (.tail _ (.head _)))))) 0 rfl))); clear ho8 hb8))
    obtain ⟨A8, c8, rfl⟩ := H8.out.h.openB' (.head _)
    have r1 := H8.out.h.atX (.tail _ (.head _)) 1 rfl
    have r2 := H8.out.h.atX (.tail _ (.head _)) 2 rfl
    have s1 := H8.out.h.frX (.tail _ (.head _)) 1
    have s2 := H8.out.h.frX (.tail _ (.head _)) 2
    obtain ⟨o0, o1, o2, o3, o4⟩ := H8.out.h.c5 (.tail _ (.tail _ (.tail _ (.head _))))
    have f3 := H8.out.h.frX (.tail _ (.tail _ (.tail _ (.head _)))) 3
    clear HE L0 L1 HC
    go_wp2_with fail
    have H9 := (((((H8.out.front 1 rfl).setX HSG 2 (.int .i64 e4)).setX HSG 1 (.int .i64 p4)).front 3 rfl).setX HS2.out 3 (.slice A8 k.length c8))
    clear H8 r1 r2 s1 s2 o0 o1 o2 o3 o4 f3
    refine (specBitsCount_any (.slice A8 k.length c8) k _ (H9.h.slB 5 (.tail _ (.tail _ (.head _)))) (by omega)).mono ?_
    rw [HNH.out]
    rintro ev w10 ⟨rfl, hb10⟩
    have H10 : InvK Sx wx W w10 (segX 28 w2.heap.size [.int .i64 x, .int .i64 y, .slice A6 m.length c6, .slice A8 k.length c8, .slice none 0 0] :: segX 51 g [.slice A l.length n, .int .i64 p4, .int .i64 e4] :: segB 5 (.slice A8 k.length c8) k :: segB 5 (.slice A6 m.length c6) m :: segX 28 (w.heap.size + 1) [.int .i64 0, .int .i64 0, .slice none 0 0, .slice none 0 0, .slice none 0 0] :: segX 33 w.heap.size [.int .i64 a, .int .i64 b, .int .i64 c, .int .i64 d, .int .i64 f] :: ss) := H9.up hb10
    clear H9 hb10
    have H11 : Hid (InvK Sx wx W w10 (segX 51 g [.slice A l.length n, .int .i64 p4, .int .i64 e4] :: segX 28 w2.heap.size [.int .i64 x, .int .i64 y, .slice A6 m.length c6, .slice A8 k.length c8, .slice none 0 0] :: segS 24 5 (.slice none 0 0) [] [] :: segB 5 (.slice A8 k.length c8) k :: segB 5 (.slice A6 m.length c6) m :: segX 28 (w.heap.size + 1) [.int .i64 0, .int .i64 0, .slice none 0 0, .slice none 0 0, .slice none 0 0] :: segX 33 w.heap.size [.int .i64 a, .int .i64 b, .int .i64 c, .int .i64 d, .int .i64 f] :: ss)) := by
      have h := H10.more (s := segS 24 5 (.slice none 0 0) [] []) ((InvG.start w10).moreG (p := (24, .slice none 0 0, [])) (World.ownsRow_nil _ _ _ _) (Below.refl _ _))
      exact Lib.hid ((h.front 1 rfl).front 2 rfl)
    clear H10
    go_wp2
    go_loopw [9] (fun i wr => ∃ (j q : Nat) (At : Option Addr) (ct : Nat) (vs : List Value), j + q = N ∧ i = .int .i64 (q : Int) ∧ Hid (vs.length = j) ∧ Hid (∀ b, (Value.slice At j ct).ownBlock = some b → Sx b) ∧ Hid (InvK Sx wx W wr (segX 51 g [.slice A l.length n, .int .i64 (tagsAt l p4 e4 j).2.1, .int .i64 (tagsAt l p4 e4 j).2.2] :: segX 28 w2.heap.size [.int .i64 x, .int .i64 y, .slice A6 m.length c6, .slice A8 k.length c8, .slice At j ct] :: segS 24 5 (.slice At j ct) vs (tagsAt l p4 e4 j).1 :: segB 5 (.slice A8 k.length c8) k :: segB 5 (.slice A6 m.length c6) m :: segX 28 (w.heap.size + 1) [.int .i64 0, .int .i64 0, .slice none 0 0, .slice none 0 0, .slice none 0 0] :: segX 33 w.heap.size [.int .i64 a, .int .i64 b, .int .i64 c, .int .i64 d, .int .i64 f] :: ss)))
      (fun i _ => (intOf i).toNat)
    case atStart => exact ⟨0, N, none, 0, [], by omega, rfl, Lib.hid rfl, Lib.hid (fun b hb => by simp [Value.ownBlock] at hb), H11⟩
    case round =>
      clear H11
      obtain ⟨j, q, At, ct, vs, hjq, rfl, hvs, HOB, Hj⟩ := hrel
      have hlen : Hid ((tagsAt l p4 e4 j).1.length = j) := Lib.hid (tagsAt_len l p4 e4 j)
      have hstep : Hid (tagsAt l p4 e4 (j + 1) = ((tagsAt l p4 e4 j).1 ++ [rV l 32 (tagsAt l p4 e4 j).2.1 (tagsAt l p4 e4 j).2.2], rP l 32 (tagsAt l p4 e4 j).2.1 (tagsAt l p4 e4 j).2.2, rE l 32 (tagsAt l p4 e4 j).2.1 (tagsAt l p4 e4 j).2.2)) := Lib.hid rfl
      by_cases hq : 0 < q
      · obtain ⟨q', rfl⟩ : ∃ q', q = q' + 1 := ⟨q - 1, by omega⟩
        have hq1 : (0 : Int) < ((q' + 1 : Nat) : Int) := by omega
        have hq2 : ((q' + 1 : Nat) : Int) - 1 = (q' : Int) := by omega
        have hq3 : q' ≤ 10 := by omega
        generalize hT : tagsAt l p4 e4 j = t at *
        obtain ⟨L, pj, ej⟩ := t
        simp only at hlen hstep Hj
        obtain ⟨r, hr⟩ : ∃ r, r = rV l 32 pj ej := ⟨_, rfl⟩
        obtain ⟨pn, hpn⟩ : ∃ r, r = rP l 32 pj ej := ⟨_, rfl⟩
        obtain ⟨en, hen⟩ : ∃ r, r = rE l 32 pj ej := ⟨_, rfl⟩
        rw [← hr, ← hpn, ← hen] at hstep
        have SJ := Lib.hid (And.intro hr (And.intro hpn hen))
        clear hr hpn hen hT
        have HD := Lib.hid Hj.out.drew1
        have o4 : wr.cell? ⟨w2.heap.size, 4, none⟩ = some (.slice At j ct) := Hj.out.h.atX (.tail _ (.head _)) 4 rfl
        go_wp2_with fail
        go_region_law (first
          | (refine step_appKS (S := Sx) (b := wx) (W := W) (w := w12) (E := 5) (E2 := 24) (s := .slice At j ct) (u := .slice A12 r.length c12) (vs := vs) (L := L) (r := r) (by rfl) (.tmp 57) (.tmp 60) 26 rfl i0 Tryd.underlying26 hi hz0 hz1 hz2 (by rfl) (by rfl) rfl (by rw [hvs.out, hlen.out]) K12.out (by rw [hlen.out]; omega) HOB.out HSN ?_; intro v14 w14 H14 HO14; obtain ⟨A14, c14, e14⟩ := H14.h.openS (by simp only [List.length_append]; rw [hvs.out, hlen.out]; rfl) (.head _); simp only [List.length_append, List.length_singleton, hlen.out] at e14; subst e14; have HO14' := Lib.hid HO14; clear HO14; have o6 := H14.h.atX (.tail _ (.tail _ (.head _))) 4 rfl; have f6 := H14.h.frX (.tail _ (.tail _ (.head _))) 4; have K14 := Lib.hid H14; clear H14)
          | (go_simp; go_at_call 53; refine (l11Raw_K Sx wx W _ g _ l pj ej _ HD.out HSG HV.out (by omega)).mono ?_; rw [← SJ.out.1, ← SJ.out.2.1, ← SJ.out.2.2]; rintro ev w12 ⟨u12, rfl, H12⟩; obtain ⟨A12, c12, rfl⟩ := H12.h.openB' (.tail _ (.head _)); have o5 := H12.h.atX (.tail _ (.tail _ (.head _))) 4 rfl; have o5a := (H12.up ((Below.refl _ _).alloc (Nat.le_refl _) (.cells #[.slice A12 r.length c12] 24))).h.atX (.tail _ (.tail _ (.head _))) 4 rfl; have K12 := Lib.hid ((H12.front 1 rfl).front 3 rfl); clear H12; dsimp only))
        all_goals
          have HF := Lib.hid (((K14.out.front 2 rfl).setX HS2.out 4 (.slice A14 (j + 1) c14)).front 2 rfl)
          clear o4 o5 o5a o6 f6 K12 K14
          go_wp2
          go_roundw
          case rel => exact ⟨j + 1, q', A14, c14, vs ++ [.slice A12 r.length c12], by omega, by go_num, Lib.hid (by rw [List.length_append, hvs.out]; rfl), HO14', Lib.hid (by rw [hstep.out]; exact HF.out)⟩
          case measure => simp [intOf]
      · obtain rfl : q = 0 := by omega
        obtain rfl : j = N := by omega
        have hq1 : ¬ (0 : Int) < ((0 : Nat) : Int) := by omega
        obtain ⟨o0, o1, o2, o3, o4⟩ := Hj.out.h.c5 (.tail _ (.head _))
        obtain ⟨r0, r1, r2, r3, r4⟩ := Hj.out.h.c5 (.tail _ (.tail _ (.tail _ (.tail _ (.tail _ (.head _))))))
        obtain ⟨s0, s1, s2, s3, s4⟩ := Hj.out.h.f5 (.tail _ (.tail _ (.tail _ (.tail _ (.tail _ (.head _))))))
        have h6 := Hj.out.h.ltX (.tail _ (.head _))
        have h7 := Hj.out.h.ltX (.tail _ (.tail _ (.tail _ (.tail _ (.tail _ (.head _))))))
        go_wp2
        refine bodyPost_ret (v := .agg #[.int .i64 x, .int .i64 y, .slice A6 m.length c6, .slice A8 k.length c8, .slice At j ct]) (by simp [results, Tryd.results40, go_sem, r0, r1, r2, r3, r4]) rfl ⟨_, _, _, vs, rfl, by rw [hvs.out]; exact hlen.out.symm, ?_⟩
        have K7 := ((Hj.out.front 5 rfl).over5 HR1.out (.int .i64 x) (.int .i64 y) (.slice A6 m.length c6) (.slice A8 k.length c8) (.slice At j ct)).sub (qs := segX 51 g [.slice A l.length n, .int .i64 (tagsAt l p4 e4 j).2.1, .int .i64 (tagsAt l p4 e4 j).2.2] :: segS 24 5 (.slice At j ct) vs (tagsAt l p4 e4 j).1 :: segB 5 (.slice A8 k.length c8) k :: segB 5 (.slice A6 m.length c6) m :: ss) (.cons _ (.cons_cons _ (.cons _ (.cons_cons _ (.cons_cons _ (.cons_cons _ (.cons _ (List.Sublist.refl _))))))))
        exact ((K7.front 2 rfl).front 3 rfl).front 2 rfl
  · obtain ⟨h1, h2, h3⟩ := S4.out
    rw [bV_no he] at h1; rw [bP_no he] at h2; rw [bE_no he] at h3
    subst h1
    have HH2 := Lib.hid h2
    have HH3 := Lib.hid h3
    obtain rfl : N = 0 := by have h := HNH.out; rw [show cntB ([] : List UInt8) = 0 from rfl] at h; omega
    clear h2 h3
    have hne : (e3 == 0) = false := by simpa using he
    clear he S1 S2 S3 S4 hw7 HNH
    go_wp2_with fail
    clear r2 H6 o0 o1 o2 o3 o4 f2 q2
    generalize w6.setCell ⟨w2.heap.size, 2, none⟩ (.slice A6 m.length c6) = w7 at *
    refine (specBitsCount_any (.slice none 0 0) [] _ Sl.nil_ (by simp)).mono ?_
    rw [show cntB ([] : List UInt8) = 0 from rfl]
    rintro ev w10 ⟨rfl, hb10⟩
    have H10 : InvK Sx wx W w10 (segX 51 g [.slice A l.length n, .int .i64 p3, .int .i64 e3] :: segB 5 (.slice A6 m.length c6) m :: segX 28 w2.heap.size [.int .i64 x, .int .i64 y, .slice A6 m.length c6, .slice none 0 0, .slice none 0 0] :: segX 28 (w.heap.size + 1) [.int .i64 0, .int .i64 0, .slice none 0 0, .slice none 0 0, .slice none 0 0] :: segX 33 w.heap.size [.int .i64 a, .int .i64 b, .int .i64 c, .int .i64 d, .int .i64 f] :: ss) := H7.up hb10
    clear H7 hb10
    obtain ⟨o0, o1, o2, o3, o4⟩ := H10.h.c5 (.tail _ (.tail _ (.head _)))
    obtain ⟨r0, r1, r2, r3, r4⟩ := H10.h.c5 (.tail _ (.tail _ (.tail _ (.head _))))
    obtain ⟨s0, s1, s2, s3, s4⟩ := H10.h.f5 (.tail _ (.tail _ (.tail _ (.head _))))
    have h6 := H10.h.ltX (.tail _ (.tail _ (.head _)))
    have h7 := H10.h.ltX (.tail _ (.tail _ (.tail _ (.head _))))
    have K10 := Lib.hid H10
    clear H10
    go_wp2
    refine wp_loop_rounds 1 ?_
    rw [rounds_succ]
    go_wp2
    refine bodyPost_ret (v := .agg #[.int .i64 x, .int .i64 y, .slice A6 m.length c6, .slice none 0 0, .slice none 0 0]) (by simp [results, Tryd.results40, go_sem, r0, r1, r2, r3, r4]) rfl ⟨_, _, _, [], rfl, rfl, ?_⟩
    have K7 := ((K10.out.front 3 rfl).over5 HR1.out (.int .i64 x) (.int .i64 y) (.slice A6 m.length c6) (.slice none 0 0) (.slice none 0 0)).sub (qs := segX 51 g [.slice A l.length n, .int .i64 p3, .int .i64 e3] :: segB 5 (.slice A6 m.length c6) m :: ss) (.cons _ (.cons_cons _ (.cons_cons _ (.cons _ (.cons _ (List.Sublist.refl _))))))
    have K8 := K7.more (s := segS 24 5 (.slice none 0 0) [] []) ((InvG.start _).moreG (p := (24, .slice none 0 0, [])) (World.ownsRow_nil _ _ _ _) (Below.refl _ _))
    have K9 := K8.moreB (E := 5) (v := .slice none 0 0) (l := []) (World.ownsRow_nil _ _ _ _) (Below.refl _ _)
    have K := (K9.front 3 rfl).front 3 rfl
    rw [← HH2.out, ← HH3.out] at K
    exact K


/-- A header has been decoded: its rows and the decoder behind it. -/
def DecHdK (Sx : Nat → Prop) (wx W : World) (g : Nat) (v : Value) (r : HdAt) (ss : List (List Row)) (ev : Ending) (w' : World) : Prop :=
  ∃ a b qa qb qs vs, ev = .returned (.agg #[.int .i64 r.x, .int .i64 r.y, .int .i64 r.z, a, b, .int .i64 r.q.x, .int .i64 r.q.y, qa, qb, qs]) ∧ vs.length = r.q.L.length ∧
    InvK Sx wx W w' (segX 51 g [v, .int .i64 r.q.p, .int .i64 r.e] :: segB 5 a r.m :: segB 5 b r.k :: segB 5 qa r.q.m :: segB 5 qb r.q.k :: segS 24 5 qs vs r.q.L :: ss)

set_option maxRecDepth 100000 in
set_option maxHeartbeats 8000000 in
theorem l13Get_K (Sx : Nat → Prop) (wx W w : World) (g : Nat) (v : Value) (l : List UInt8) (a b c d f p e0 : Int) (ss : List (List Row)) (H : InvK Sx wx W w (segX 51 g [v, .int .i64 p, .int .i64 e0] :: ss)) (HSG : Sx g) (HSN : ∀ b, wx.heap.size ≤ b → Sx b) (hv : Sp W W.heap.size v l) (hl : l.length ≤ 1073741824) :
    Calls Tryd.prog 39 #[.pointer (some ⟨g, 0, none⟩), .agg #[.int .i64 a, .int .i64 b, .int .i64 c, .int .i64 d, .int .i64 f]] w (DecHdK Sx wx W g v (hdAt l a p e0) ss) := by
  have HV := Lib.hid hv
  obtain ⟨A, n, rfl, kk⟩ := hv.sl
  clear kk hv
  obtain ⟨x, hx⟩ : ∃ x, x = nV l p e0 := ⟨_, rfl⟩
  obtain ⟨p1, hp1⟩ : ∃ x, x = nP l p e0 := ⟨_, rfl⟩
  obtain ⟨e1, he1⟩ : ∃ x, x = nE l p e0 := ⟨_, rfl⟩
  obtain ⟨y, hy⟩ : ∃ x, x = nV l p1 e1 := ⟨_, rfl⟩
  obtain ⟨p2, hp2⟩ : ∃ x, x = nP l p1 e1 := ⟨_, rfl⟩
  obtain ⟨f2, hf2⟩ : ∃ x, x = nE l p1 e1 := ⟨_, rfl⟩
  obtain ⟨e2, he2⟩ : ∃ x, x = fE f2 (!(y == 0)) 5 := ⟨_, rfl⟩
  obtain ⟨z, hz⟩ : ∃ x, x = nV l p2 e2 := ⟨_, rfl⟩
  obtain ⟨p3, hp3⟩ : ∃ x, x = nP l p2 e2 := ⟨_, rfl⟩
  obtain ⟨f3, hf3⟩ : ∃ x, x = nE l p2 e2 := ⟨_, rfl⟩
  obtain ⟨e3, he3⟩ : ∃ x, x = fE f3 (isIn z a) 5 := ⟨_, rfl⟩
  obtain ⟨m, hm⟩ : ∃ x, x = rV l 32 p3 e3 := ⟨_, rfl⟩
  obtain ⟨p4, hp4⟩ : ∃ x, x = rP l 32 p3 e3 := ⟨_, rfl⟩
  obtain ⟨e4, he4⟩ : ∃ x, x = rE l 32 p3 e3 := ⟨_, rfl⟩
  obtain ⟨k, hk⟩ : ∃ x, x = rV l 32 p4 e4 := ⟨_, rfl⟩
  obtain ⟨p5, hp5⟩ : ∃ x, x = rP l 32 p4 e4 := ⟨_, rfl⟩
  obtain ⟨e5, he5⟩ : ∃ x, x = rE l 32 p4 e4 := ⟨_, rfl⟩
  obtain ⟨q, hq⟩ : ∃ x, x = qcAt l a p5 e5 := ⟨_, rfl⟩
  have hr : hdAt l a p e0 = ⟨x, y, z, m, k, q, fE q.e (fitsB x y q.x q.y m q.m) 6⟩ := by
    unfold hdAt
    simp only [← hx, ← hp1, ← he1, ← hy, ← hp2, ← hf2, ← he2, ← hz, ← hp3, ← hf3, ← he3, ← hm, ← hp4, ← he4, ← hk, ← hp5, ← he5, ← hq]
  rw [hr]
  have hy0 : 0 ≤ y := by rw [hy]; exact nV_lo _ _ _
  have hy1 : y ≤ 1152921504606846975 := by rw [hy]; exact nV_hi _ _ _
  have hz0 : 0 ≤ z := by rw [hz]; exact nV_lo _ _ _
  have S1 := Lib.hid (And.intro hx (And.intro hp1 he1))
  have S2 := Lib.hid (And.intro hy (And.intro hp2 hf2))
  have S3 := Lib.hid (And.intro hz (And.intro hp3 hf3))
  have S4 := Lib.hid (And.intro hm (And.intro hp4 he4))
  have S5 := Lib.hid (And.intro hk (And.intro hp5 he5))
  have E2 := Lib.hid he2
  have E3 := Lib.hid he3
  have HQ := Lib.hid hq
  clear hr hx hp1 he1 hy hp2 hf2 he2 hz hp3 hf3 he3 hm hp4 he4 hk hp5 he5 hq
  have hw0 := H.f.size
  have HR1 : Hid (Sx (w.heap.size + 1)) := Lib.hid (HSN _ (by omega))
  clear hw0
  have Ha : InvK Sx wx W (w.alloc (.cells #[.int .i64 a, .int .i64 b, .int .i64 c, .int .i64 d, .int .i64 f] 33)) (segX 51 g [.slice A l.length n, .int .i64 p, .int .i64 e0] :: segX 33 w.heap.size [.int .i64 a, .int .i64 b, .int .i64 c, .int .i64 d, .int .i64 f] :: ss) := (H.newG 33 #[.int .i64 a, .int .i64 b, .int .i64 c, .int .i64 d, .int .i64 f] w.heap.size rfl).front 1 rfl
  have H1 : InvK Sx wx W ((w.alloc (.cells #[.int .i64 a, .int .i64 b, .int .i64 c, .int .i64 d, .int .i64 f] 33)).alloc (.cells #[.int .i64 0, .int .i64 0, .int .i64 0, .slice none 0 0, .slice none 0 0, .int .i64 0, .int .i64 0, .slice none 0 0, .slice none 0 0, .slice none 0 0] 78)) (segX 51 g [.slice A l.length n, .int .i64 p, .int .i64 e0] :: segX 78 (w.heap.size + 1) [.int .i64 0, .int .i64 0, .int .i64 0, .slice none 0 0, .slice none 0 0, .int .i64 0, .int .i64 0, .slice none 0 0, .slice none 0 0, .slice none 0 0] :: segX 33 w.heap.size [.int .i64 a, .int .i64 b, .int .i64 c, .int .i64 d, .int .i64 f] :: ss) := (Ha.newG 78 #[.int .i64 0, .int .i64 0, .int .i64 0, .slice none 0 0, .slice none 0 0, .int .i64 0, .int .i64 0, .slice none 0 0, .slice none 0 0, .slice none 0 0] (w.heap.size + 1)).front 1 rfl
  clear Ha H
  go_enter Tryd.func39, Tryd.ntmps39
  go_wp2_with fail
  refine (l11Var_K Sx wx W _ g _ l p e0 _ H1 HSG HV.out (by omega)).mono ?_
  rw [← S1.out.1, ← S1.out.2.1, ← S1.out.2.2]
  rintro ev w2 ⟨rfl, H2⟩
  have HS2 : Hid (Sx w2.heap.size) := Lib.hid (HSN _ H2.f.size)
  clear H1
  go_wp2_with fail
  have H3 := (H2.newX 78 #[.int .i64 x, .int .i64 0, .int .i64 0, .slice none 0 0, .slice none 0 0, .int .i64 0, .int .i64 0, .slice none 0 0, .slice none 0 0, .slice none 0 0]).front 1 rfl
  clear H2
  refine (l11Var_K Sx wx W _ g _ l p1 e1 _ H3 HSG HV.out (by omega)).mono ?_
  rw [← S2.out.1, ← S2.out.2.1, ← S2.out.2.2]
  rintro ev w4 ⟨rfl, H4⟩
  replace H4 : InvK Sx wx W w4 (segX 51 g [.slice A l.length n, .int .i64 p2, .int .i64 f2] :: segX 78 w2.heap.size [.int .i64 x, .int .i64 0, .int .i64 0, .slice none 0 0, .slice none 0 0, .int .i64 0, .int .i64 0, .slice none 0 0, .slice none 0 0, .slice none 0 0] :: segX 78 (w.heap.size + 1) [.int .i64 0, .int .i64 0, .int .i64 0, .slice none 0 0, .slice none 0 0, .int .i64 0, .int .i64 0, .slice none 0 0, .slice none 0 0, .slice none 0 0] :: segX 33 w.heap.size [.int .i64 a, .int .i64 b, .int .i64 c, .int .i64 d, .int .i64 f] :: ss) := H4
  clear H3
  obtain ⟨o0, o1, o2, o3, o4, o5, o6, o7, o8, o9⟩ := H4.h.c10 (.tail _ (.head _))
  have f1 := H4.h.frX (.tail _ (.head _)) 1
  go_wp2_with fail
  have H5 := ((H4.front 1 rfl).setX HS2.out 1 (.int .i64 y)).front 1 rfl
  clear H4 o0 o1 o2 o3 o4 o5 o6 o7 o8 o9 f1
  refine (l11Fail_K Sx wx W _ g _ p2 f2 5 _ _ H5 HSG).mono ?_
  rw [← E2.out]
  rintro ev w5 ⟨rfl, H6⟩
  replace H6 : InvK Sx wx W w5 (segX 51 g [.slice A l.length n, .int .i64 p2, .int .i64 e2] :: segX 78 w2.heap.size [.int .i64 x, .int .i64 y, .int .i64 0, .slice none 0 0, .slice none 0 0, .int .i64 0, .int .i64 0, .slice none 0 0, .slice none 0 0, .slice none 0 0] :: segX 78 (w.heap.size + 1) [.int .i64 0, .int .i64 0, .int .i64 0, .slice none 0 0, .slice none 0 0, .int .i64 0, .int .i64 0, .slice none 0 0, .slice none 0 0, .slice none 0 0] :: segX 33 w.heap.size [.int .i64 a, .int .i64 b, .int .i64 c, .int .i64 d, .int .i64 f] :: ss) := H6
  clear H5
  go_wp2_with fail
  refine (l11Var_K Sx wx W _ g _ l p2 e2 _ H6 HSG HV.out (by omega)).mono ?_
  rw [← S3.out.1, ← S3.out.2.1, ← S3.out.2.2]
  rintro ev w6 ⟨rfl, H7⟩
  replace H7 : InvK Sx wx W w6 (segX 51 g [.slice A l.length n, .int .i64 p3, .int .i64 f3] :: segX 78 w2.heap.size [.int .i64 x, .int .i64 y, .int .i64 0, .slice none 0 0, .slice none 0 0, .int .i64 0, .int .i64 0, .slice none 0 0, .slice none 0 0, .slice none 0 0] :: segX 78 (w.heap.size + 1) [.int .i64 0, .int .i64 0, .int .i64 0, .slice none 0 0, .slice none 0 0, .int .i64 0, .int .i64 0, .slice none 0 0, .slice none 0 0, .slice none 0 0] :: segX 33 w.heap.size [.int .i64 a, .int .i64 b, .int .i64 c, .int .i64 d, .int .i64 f] :: ss) := H7
  clear H6
  obtain ⟨o0, o1, o2, o3, o4, o5, o6, o7, o8, o9⟩ := H7.h.c10 (.tail _ (.head _))
  obtain ⟨t0, t1, t2, t3, t4⟩ := H7.h.c5 (.tail _ (.tail _ (.tail _ (.head _))))
  have f2' := H7.h.frX (.tail _ (.head _)) 2
  go_wp2_with fail
  have H8 := ((H7.front 1 rfl).setX HS2.out 2 (.int .i64 z)).front 1 rfl
  clear H7 o0 o1 o2 o3 o4 o5 o6 o7 o8 o9 t0 t1 t2 t3 t4 f2'
  have hge : (!decide (a ≤ z)) = isIn z a := by unfold isIn; by_cases h : a ≤ z <;> simp [h, hz0] <;> omega
  have hcall := l11Fail_K Sx wx W _ g _ p3 f3 5 (decide (a ≤ z)) _ H8 HSG
  rw [hge, ← E3.out] at hcall
  refine hcall.mono ?_
  rintro ev w7 ⟨rfl, H9⟩
  replace H9 : InvK Sx wx W w7 (segX 51 g [.slice A l.length n, .int .i64 p3, .int .i64 e3] :: segX 78 w2.heap.size [.int .i64 x, .int .i64 y, .int .i64 z, .slice none 0 0, .slice none 0 0, .int .i64 0, .int .i64 0, .slice none 0 0, .slice none 0 0, .slice none 0 0] :: segX 78 (w.heap.size + 1) [.int .i64 0, .int .i64 0, .int .i64 0, .slice none 0 0, .slice none 0 0, .int .i64 0, .int .i64 0, .slice none 0 0, .slice none 0 0, .slice none 0 0] :: segX 33 w.heap.size [.int .i64 a, .int .i64 b, .int .i64 c, .int .i64 d, .int .i64 f] :: ss) := H9
  clear H8 hcall hge
  go_wp2_with fail
  refine (l11Raw_K Sx wx W _ g _ l p3 e3 _ H9 HSG HV.out (by omega)).mono ?_
  rw [← S4.out.1, ← S4.out.2.1, ← S4.out.2.2]
  rintro ev w8 ⟨u8, rfl, H10⟩
  replace H10 : InvK Sx wx W w8 (segX 51 g [.slice A l.length n, .int .i64 p4, .int .i64 e4] :: segB 5 u8 m :: segX 78 w2.heap.size [.int .i64 x, .int .i64 y, .int .i64 z, .slice none 0 0, .slice none 0 0, .int .i64 0, .int .i64 0, .slice none 0 0, .slice none 0 0, .slice none 0 0] :: segX 78 (w.heap.size + 1) [.int .i64 0, .int .i64 0, .int .i64 0, .slice none 0 0, .slice none 0 0, .int .i64 0, .int .i64 0, .slice none 0 0, .slice none 0 0, .slice none 0 0] :: segX 33 w.heap.size [.int .i64 a, .int .i64 b, .int .i64 c, .int .i64 d, .int .i64 f] :: ss) := H10
  clear H9
  obtain ⟨A8, c8, rfl⟩ := H10.h.openB' (.tail _ (.head _))
  obtain ⟨o0, o1, o2, o3, o4, o5, o6, o7, o8, o9⟩ := H10.h.c10 (.tail _ (.tail _ (.head _)))
  have f3' := H10.h.frX (.tail _ (.tail _ (.head _))) 3
  go_wp2_with fail
  have H11 : InvK Sx wx W _ (segX 51 g [.slice A l.length n, .int .i64 p4, .int .i64 e4] :: segX 78 w2.heap.size [.int .i64 x, .int .i64 y, .int .i64 z, .slice A8 m.length c8, .slice none 0 0, .int .i64 0, .int .i64 0, .slice none 0 0, .slice none 0 0, .slice none 0 0] :: segB 5 (.slice A8 m.length c8) m :: segX 78 (w.heap.size + 1) [.int .i64 0, .int .i64 0, .int .i64 0, .slice none 0 0, .slice none 0 0, .int .i64 0, .int .i64 0, .slice none 0 0, .slice none 0 0, .slice none 0 0] :: segX 33 w.heap.size [.int .i64 a, .int .i64 b, .int .i64 c, .int .i64 d, .int .i64 f] :: ss) := ((H10.front 2 rfl).setX HS2.out 3 (.slice A8 m.length c8)).front 1 rfl
  clear H10 o0 o1 o2 o3 o4 o5 o6 o7 o8 o9 f3'
  refine (l11Raw_K Sx wx W _ g _ l p4 e4 _ H11 HSG HV.out (by omega)).mono ?_
  rw [← S5.out.1, ← S5.out.2.1, ← S5.out.2.2]
  rintro ev w9 ⟨u9, rfl, H12⟩
  replace H12 : InvK Sx wx W w9 (segX 51 g [.slice A l.length n, .int .i64 p5, .int .i64 e5] :: segB 5 u9 k :: segX 78 w2.heap.size [.int .i64 x, .int .i64 y, .int .i64 z, .slice A8 m.length c8, .slice none 0 0, .int .i64 0, .int .i64 0, .slice none 0 0, .slice none 0 0, .slice none 0 0] :: segB 5 (.slice A8 m.length c8) m :: segX 78 (w.heap.size + 1) [.int .i64 0, .int .i64 0, .int .i64 0, .slice none 0 0, .slice none 0 0, .int .i64 0, .int .i64 0, .slice none 0 0, .slice none 0 0, .slice none 0 0] :: segX 33 w.heap.size [.int .i64 a, .int .i64 b, .int .i64 c, .int .i64 d, .int .i64 f] :: ss) := H12
  clear H11
  obtain ⟨A9, c9, rfl⟩ := H12.h.openB' (.tail _ (.head _))
  obtain ⟨o0, o1, o2, o3, o4, o5, o6, o7, o8, o9⟩ := H12.h.c10 (.tail _ (.tail _ (.head _)))
  obtain ⟨t0, t1, t2, t3, t4⟩ := H12.h.c5 (.tail _ (.tail _ (.tail _ (.tail _ (.tail _ (.head _))))))
  have f4' := H12.h.frX (.tail _ (.tail _ (.head _))) 4
  have H13 : InvK Sx wx W (w9.setCell ⟨w2.heap.size, 4, none⟩ (.slice A9 k.length c9)) (segX 51 g [.slice A l.length n, .int .i64 p5, .int .i64 e5] :: segX 78 w2.heap.size [.int .i64 x, .int .i64 y, .int .i64 z, .slice A8 m.length c8, .slice A9 k.length c9, .int .i64 0, .int .i64 0, .slice none 0 0, .slice none 0 0, .slice none 0 0] :: segB 5 (.slice A9 k.length c9) k :: segB 5 (.slice A8 m.length c8) m :: segX 78 (w.heap.size + 1) [.int .i64 0, .int .i64 0, .int .i64 0, .slice none 0 0, .slice none 0 0, .int .i64 0, .int .i64 0, .slice none 0 0, .slice none 0 0, .slice none 0 0] :: segX 33 w.heap.size [.int .i64 a, .int .i64 b, .int .i64 c, .int .i64 d, .int .i64 f] :: ss) := ((H12.front 2 rfl).setX HS2.out 4 (.slice A9 k.length c9)).front 1 rfl
  obtain ⟨s0, s1, s2, s3, s4⟩ := H13.h.c5 (.tail _ (.tail _ (.tail _ (.tail _ (.tail _ (.head _))))))
  go_wp2_with fail
  clear H12 o0 o1 o2 o3 o4 o5 o6 o7 o8 o9 t0 t1 t2 t3 t4 f4' s0 s1 s2 s3 s4
  refine (l12Get_K Sx wx W _ g _ l a b c d f p5 e5 _ H13 HSG HSN HV.out hl).mono ?_
  rw [← HQ.out]
  obtain ⟨qx, qy, qm, qk, qL, qp, qe⟩ := q
  dsimp only
  rintro ev w10 ⟨u1, u2, u3, vs, rfl, hvs, H14⟩
  dsimp only at hvs H14 ⊢
  replace H14 : InvK Sx wx W w10 (segX 51 g [.slice A l.length n, .int .i64 qp, .int .i64 qe] :: segB 5 u1 qm :: segB 5 u2 qk :: segS 24 5 u3 vs qL :: segX 78 w2.heap.size [.int .i64 x, .int .i64 y, .int .i64 z, .slice A8 m.length c8, .slice A9 k.length c9, .int .i64 0, .int .i64 0, .slice none 0 0, .slice none 0 0, .slice none 0 0] :: segB 5 (.slice A9 k.length c9) k :: segB 5 (.slice A8 m.length c8) m :: segX 78 (w.heap.size + 1) [.int .i64 0, .int .i64 0, .int .i64 0, .slice none 0 0, .slice none 0 0, .int .i64 0, .int .i64 0, .slice none 0 0, .slice none 0 0, .slice none 0 0] :: segX 33 w.heap.size [.int .i64 a, .int .i64 b, .int .i64 c, .int .i64 d, .int .i64 f] :: ss) := H14
  clear H13
  obtain ⟨B1, d1, rfl⟩ := H14.h.openB' (.tail _ (.head _))
  obtain ⟨B2, d2, rfl⟩ := H14.h.openB' (.tail _ (.tail _ (.head _)))
  obtain ⟨B3, d3, rfl⟩ := H14.h.openS hvs (.tail _ (.tail _ (.tail _ (.head _))))
  have HVS := Lib.hid hvs
  clear hvs
  have hT1 := H14.h.thereX (.tail _ (.tail _ (.tail _ (.tail _ (.head _))))) 5 5 (by simp)
  have K1 := (H14.front 4 rfl).sets5 HS2.out (.int .i64 qx) (.int .i64 qy) (.slice B1 qm.length d1) (.slice B2 qk.length d2) (.slice B3 qL.length d3)
  replace K1 : InvK Sx wx W (w10.setCells w2.heap.size 5 [.int .i64 qx, .int .i64 qy, .slice B1 qm.length d1, .slice B2 qk.length d2, .slice B3 qL.length d3]) (segX 51 g [.slice A l.length n, .int .i64 qp, .int .i64 qe] :: segX 78 w2.heap.size [.int .i64 x, .int .i64 y, .int .i64 z, .slice A8 m.length c8, .slice A9 k.length c9, .int .i64 qx, .int .i64 qy, .slice B1 qm.length d1, .slice B2 qk.length d2, .slice B3 qL.length d3] :: segB 5 (.slice B1 qm.length d1) qm :: segB 5 (.slice B2 qk.length d2) qk :: segS 24 5 (.slice B3 qL.length d3) vs qL :: segB 5 (.slice A9 k.length c9) k :: segB 5 (.slice A8 m.length c8) m :: segX 78 (w.heap.size + 1) [.int .i64 0, .int .i64 0, .int .i64 0, .slice none 0 0, .slice none 0 0, .int .i64 0, .int .i64 0, .slice none 0 0, .slice none 0 0, .slice none 0 0] :: segX 33 w.heap.size [.int .i64 a, .int .i64 b, .int .i64 c, .int .i64 d, .int .i64 f] :: ss) := K1.front 1 rfl
  have hR1 := K1.h.rangeX (.tail _ (.head _))
  clear H14
  go_simp
  go_step
  go_step
  go_step
  go_step
  refine wpList_store_mid rfl 28 (.tmp 36) (.tmp 35) rfl w2.heap.size 5 #[.int .i64 qx, .int .i64 qy, .slice B1 qm.length d1, .slice B2 qk.length d2, .slice B3 qL.length d3] rfl rfl hT1 (by kernel_rfl) (by simp [Value.oneCell']) ?_
  go_step
  go_step
  go_step
  go_step
  go_step
  go_step
  go_step
  go_step
  refine wpList_load_mid rfl 78 (.tmp 5) rfl w2.heap.size 0 rfl [.int .i64 x, .int .i64 y, .int .i64 z, .slice A8 m.length c8, .slice A9 k.length c9, .int .i64 qx, .int .i64 qy, .slice B1 qm.length d1, .slice B2 qk.length d2, .slice B3 qL.length d3] _ hR1 Tryd.underlying78 rfl (by kernel_rfl) ?_
  show wpList _ _ _ _ _ (w10.setCells w2.heap.size 5 [.int .i64 qx, .int .i64 qy, .slice B1 qm.length d1, .slice B2 qk.length d2, .slice B3 qL.length d3])
  generalize w10.setCells w2.heap.size 5 [.int .i64 qx, .int .i64 qy, .slice B1 qm.length d1, .slice B2 qk.length d2, .slice B3 qL.length d3] = w11 at *
  go_wp2_with fail
  refine (l13Fits_any x y z qx qy _ _ _ _ _ m k qm qk qL _ (K1.h.slB 5 (.tail _ (.tail _ (.tail _ (.tail _ (.tail _ (.tail _ (.head _)))))))) (K1.h.slB 5 (.tail _ (.tail _ (.tail _ (.tail _ (.tail _ (.head _))))))) (K1.h.slB 5 (.tail _ (.tail _ (.head _)))) (K1.h.slB 5 (.tail _ (.tail _ (.tail _ (.head _))))) (K1.h.slS 24 5 HVS.out (.tail _ (.tail _ (.tail _ (.tail _ (.head _)))))) hy0 hy1).mono ?_
  rintro ev w12 ⟨rfl, hb⟩
  have K2 := K1.up hb
  clear hb hR1 hT1
  obtain ⟨fb, hfb⟩ : ∃ fb, fb = fitsB x y qx qy m qm := ⟨_, rfl⟩
  rw [← hfb]
  have HFB := Lib.hid hfb
  clear hfb K1
  go_wp2_with fail
  have hcall := l11Fail_K Sx wx W _ g _ qp qe 6 (!fb) _ K2 HSG
  rw [Bool.not_not] at hcall
  refine hcall.mono ?_
  obtain ⟨ee, hee⟩ : ∃ ee, ee = fE qe fb 6 := ⟨_, rfl⟩
  rw [← hee]
  have HEE := Lib.hid hee
  clear hee hcall
  rintro ev w13 ⟨rfl, K3⟩
  replace K3 : InvK Sx wx W w13 (segX 51 g [.slice A l.length n, .int .i64 qp, .int .i64 ee] :: segX 78 w2.heap.size [.int .i64 x, .int .i64 y, .int .i64 z, .slice A8 m.length c8, .slice A9 k.length c9, .int .i64 qx, .int .i64 qy, .slice B1 qm.length d1, .slice B2 qk.length d2, .slice B3 qL.length d3] :: segB 5 (.slice B1 qm.length d1) qm :: segB 5 (.slice B2 qk.length d2) qk :: segS 24 5 (.slice B3 qL.length d3) vs qL :: segB 5 (.slice A9 k.length c9) k :: segB 5 (.slice A8 m.length c8) m :: segX 78 (w.heap.size + 1) [.int .i64 0, .int .i64 0, .int .i64 0, .slice none 0 0, .slice none 0 0, .int .i64 0, .int .i64 0, .slice none 0 0, .slice none 0 0, .slice none 0 0] :: segX 33 w.heap.size [.int .i64 a, .int .i64 b, .int .i64 c, .int .i64 d, .int .i64 f] :: ss) := K3
  have hR2 := K3.h.rangeX (.tail _ (.head _))
  have hT2 := K3.h.thereX (.tail _ (.tail _ (.tail _ (.tail _ (.tail _ (.tail _ (.tail _ (.head _)))))))) 0 10 (by simp)
  have K4 := (K3.front 7 rfl).sets10 HR1.out (.int .i64 x) (.int .i64 y) (.int .i64 z) (.slice A8 m.length c8) (.slice A9 k.length c9) (.int .i64 qx) (.int .i64 qy) (.slice B1 qm.length d1) (.slice B2 qk.length d2) (.slice B3 qL.length d3)
  have hR3 := K4.h.rangeX (.head _)
  have K5 := Lib.hid (K4.sub (qs := segX 51 g [.slice A l.length n, .int .i64 qp, .int .i64 ee] :: segB 5 (.slice B1 qm.length d1) qm :: segB 5 (.slice B2 qk.length d2) qk :: segS 24 5 (.slice B3 qL.length d3) vs qL :: segB 5 (.slice A9 k.length c9) k :: segB 5 (.slice A8 m.length c8) m :: ss) (.cons _ (.cons_cons _ (.cons _ (.cons_cons _ (.cons_cons _ (.cons_cons _ (.cons_cons _ (.cons_cons _ (.cons _ (List.Sublist.refl _)))))))))))
  clear K2 K3 K4
  go_simp
  go_step
  go_step
  go_step
  go_step
  go_step
  go_step
  refine wpList_load_mid rfl 78 (.tmp 5) rfl w2.heap.size 0 rfl [.int .i64 x, .int .i64 y, .int .i64 z, .slice A8 m.length c8, .slice A9 k.length c9, .int .i64 qx, .int .i64 qy, .slice B1 qm.length d1, .slice B2 qk.length d2, .slice B3 qL.length d3] _ hR2 Tryd.underlying78 rfl (by kernel_rfl) ?_
  refine wpList_store_mid rfl 78 (.tmp 4) (.tmp 42) rfl (w.heap.size + 1) 0 #[.int .i64 x, .int .i64 y, .int .i64 z, .slice A8 m.length c8, .slice A9 k.length c9, .int .i64 qx, .int .i64 qy, .slice B1 qm.length d1, .slice B2 qk.length d2, .slice B3 qL.length d3] rfl rfl hT2 (by kernel_rfl) (by simp [Value.oneCell']) ?_
  go_step
  go_step
  go_step
  go_step
  refine bodyPost_ret (results_cell_mid Tryd.results39 _ _ (w.heap.size + 1) 0 [.int .i64 x, .int .i64 y, .int .i64 z, .slice A8 m.length c8, .slice A9 k.length c9, .int .i64 qx, .int .i64 qy, .slice B1 qm.length d1, .slice B2 qk.length d2, .slice B3 qL.length d3] _ rfl hR3 Tryd.underlying78 rfl (by kernel_rfl)) rfl ⟨_, _, _, _, _, vs, rfl, HVS.out, ?_⟩
  rw [← HFB.out, ← HEE.out]
  exact ((K5.out.front 4 rfl).front 5 rfl).front 2 rfl

end Go.Proofs.YtopbalemfljphaaDoor
