/- GetBlock of the model. -/
import Derived.Test.YtdoaikanaodefaaGreatDoorBkM
import Derived.Test.YtdoaikanaodefaaGreatDoorTextRd
import Derived.Test.YtdoaikanaodefaaGreatDoorGetHeadS
import Derived.Deep.RegionHeld3
import Derived.Deep.RegionLaw
namespace Go.Proofs.YtdoaikanaodefaaGreatDoor
open Go.ChangeShapes Go.WideShapes Go.ChangeAt Go.RowKit

/-- A block has been decoded: its rows and the decoder behind it. -/
def DecBkS (W : World) (g : Nat) (v : Value) (r : BkAt) (ss : List (List Row)) (ev : Ending) (w' : World) : Prop :=
  ∃ a b qa qb qs t vs vt, ev = .returned (.agg #[.int .i64 r.h.x, .int .i64 r.h.y, .int .i64 r.h.z, a, b, .int .i64 r.h.q.x, .int .i64 r.h.q.y, qa, qb, qs, t]) ∧ vs.length = r.h.q.L.length ∧ vt.length = r.T.length ∧
    InvF W w' (segX 74 g [v, .int .i64 r.p, .int .i64 r.e] :: segB 5 a r.h.m :: segB 5 b r.h.k :: segB 5 qa r.h.q.m :: segB 5 qb r.h.q.k :: segS 24 5 qs vs r.h.q.L :: segS 24 5 t vt r.T :: ss)
theorem bkE_same (e c N : Int) : fE e (!(decide (c < N))) 3 = fE e (decide (N ≤ c)) 3 := by
  congr 1
  by_cases h : c < N
  · rw [decide_eq_true h, decide_eq_false (by omega)]; rfl
  · rw [decide_eq_false h, decide_eq_true (by omega)]; rfl
/-- The state of the texts: an error stays; without one there are as many texts as rounds. -/
theorem txs_first {l : List UInt8} {m p e : Int} {j : Nat} (h : (txsAt l m p e j).2.2 = 0) : e = 0 := by
  rcases Decidable.em (e = 0) with h0 | h0
  · exact h0
  · rw [txs_stay (j := 0) h0 j (Nat.zero_le _)] at h
    exact absurd h h0

set_option maxRecDepth 100000 in
set_option maxHeartbeats 16000000 in
theorem l14Get_any (W w : World) (g : Nat) (v : Value) (l : List UInt8) (a b c d f p e0 : Int) (ss : List (List Row)) (H : InvF W w (segX 74 g [v, .int .i64 p, .int .i64 e0] :: ss)) (hv : Sp W W.heap.size v l) (hl : l.length ≤ 1073741824) (hlim : e0 = 0 → b ≤ 40 ∧ c ≤ 8) :
    Calls Tryz.prog 43 #[.pointer (some ⟨g, 0, none⟩), .agg #[.int .i64 a, .int .i64 b, .int .i64 c, .int .i64 d, .int .i64 f]] w (DecBkS W g v (bkAt l a b c p e0) ss) := by
  obtain ⟨i0, hi, hz0, hz1, hz2⟩ := info_parts sbinfo
  have HV := Lib.hid hv
  obtain ⟨A, n, rfl, kk⟩ := hv.sl
  clear kk hv
  obtain ⟨h, hh⟩ : ∃ h, h = hdAt l a p e0 := ⟨_, rfl⟩
  obtain ⟨e2, he2⟩ : ∃ x, x = bkE l h c := ⟨_, rfl⟩
  obtain ⟨p1, hp1⟩ : ∃ x, x = nP l h.q.p h.e := ⟨_, rfl⟩
  obtain ⟨N, hN⟩ : ∃ N : Nat, N = (bkN l h).toNat := ⟨_, rfl⟩
  have hNi : (N : Int) = bkN l h := by have := nV_lo l h.q.p h.e; unfold bkN at hN ⊢; omega
  have hN1 : (N : Int) ≤ 1152921504606846975 := by rw [hNi]; exact nV_hi _ _ _
  have hB : Hid (e2 = 0 → b ≤ 40 ∧ N ≤ 8) := Lib.hid (fun h0 => by
    subst hh
    rw [he2] at h0
    obtain ⟨k1, k2, k3⟩ := bk_few h0
    have k4 : e0 = 0 := by
      rcases Decidable.em (e0 = 0) with q | q
      · exact q
      · have hs := hd_stop (l := l) (n := a) (p := p) q
        rw [nE_no hs] at k3
        exact absurd k3 hs
    have := hlim k4
    omega)
  obtain ⟨RT, hRT⟩ : ∃ x, x = (bkAt l a b c p e0).T := ⟨_, rfl⟩
  obtain ⟨RP, hRP⟩ : ∃ x, x = (bkAt l a b c p e0).p := ⟨_, rfl⟩
  obtain ⟨RE, hRE⟩ : ∃ x, x = (bkAt l a b c p e0).e := ⟨_, rfl⟩
  have hr : bkAt l a b c p e0 = ⟨h, RT, RP, RE⟩ := by rw [hRT, hRP, hRE, hh]; rfl
  have hST : bkT l h b c = txsAt l b p1 e2 N := by rw [hp1, he2, hN]; rfl
  have HRa : Hid (∀ j, j ≤ N → (txsAt l b p1 e2 j).2.2 ≠ 0 → RT = (txsAt l b p1 e2 j).1 ∧ RP = (txsAt l b p1 e2 j).2.1 ∧ RE = (txsAt l b p1 e2 j).2.2) := Lib.hid (fun j hj hne => by
    have hq : bkT l h b c = txsAt l b p1 e2 j := hST.trans (txs_stay hne N hj)
    subst hh
    refine ⟨?_, ?_, ?_⟩
    · rw [hRT]; show (bkT l _ b c).1 = _; rw [hq]
    · rw [hRP]; show (bkT l _ b c).2.1 = _; rw [hq]
    · rw [hRE]; show fE (bkT l _ b c).2.2 _ 7 = _; rw [hq, fE_no hne])
  have HRb : Hid ((txsAt l b p1 e2 N).2.2 = 0 → RT = (txsAt l b p1 e2 N).1 ∧ RP = (txsAt l b p1 e2 N).2.1 ∧ RE = fE 0 (h.k == treeL (txsAt l b p1 e2 N).1) 7) := Lib.hid (fun h0 => by
    subst hh
    refine ⟨?_, ?_, ?_⟩
    · rw [hRT]; show (bkT l _ b c).1 = _; rw [hST]
    · rw [hRP]; show (bkT l _ b c).2.1 = _; rw [hST]
    · rw [hRE]; show fE (bkT l _ b c).2.2 (_ == treeL (bkT l _ b c).1) 7 = _; rw [hST, h0])
  have HH := Lib.hid hh
  have HNI : Hid (nV l h.q.p h.e = (N : Int)) := Lib.hid hNi.symm
  have HE2 : Hid (fE (nE l h.q.p h.e) (!(decide (c < (N : Int)))) 3 = e2) := Lib.hid (by rw [bkE_same, hNi, he2]; rfl)
  have HP1 := Lib.hid hp1
  rw [hr]
  clear hr hRT hRP hRE hST hh he2 hp1 hN hNi
  obtain ⟨x, y, z, m, k, ⟨qx, qy, qm, qk, qL, qp, qe⟩, he⟩ := h
  dsimp only at HNI HE2 HP1 HRb
  obtain ⟨e1, he1⟩ : ∃ q, q = nE l qp he := ⟨_, rfl⟩
  rw [← he1] at HE2
  have HE1 := Lib.hid he1
  clear he1
  have Ha : InvF W (w.alloc (.cells #[.int .i64 a, .int .i64 b, .int .i64 c, .int .i64 d, .int .i64 f] 35)) (segX 74 g [.slice A l.length n, .int .i64 p, .int .i64 e0] :: segX 35 w.heap.size [.int .i64 a, .int .i64 b, .int .i64 c, .int .i64 d, .int .i64 f] :: ss) := (H.newG 35 #[.int .i64 a, .int .i64 b, .int .i64 c, .int .i64 d, .int .i64 f] w.heap.size rfl).front 1 rfl
  have H1 : InvF W ((w.alloc (.cells #[.int .i64 a, .int .i64 b, .int .i64 c, .int .i64 d, .int .i64 f] 35)).alloc (.cells #[.int .i64 0, .int .i64 0, .int .i64 0, .slice none 0 0, .slice none 0 0, .int .i64 0, .int .i64 0, .slice none 0 0, .slice none 0 0, .slice none 0 0, .slice none 0 0] 42)) (segX 74 g [.slice A l.length n, .int .i64 p, .int .i64 e0] :: segX 42 (w.heap.size + 1) [.int .i64 0, .int .i64 0, .int .i64 0, .slice none 0 0, .slice none 0 0, .int .i64 0, .int .i64 0, .slice none 0 0, .slice none 0 0, .slice none 0 0, .slice none 0 0] :: segX 35 w.heap.size [.int .i64 a, .int .i64 b, .int .i64 c, .int .i64 d, .int .i64 f] :: ss) := (Ha.newG 42 #[.int .i64 0, .int .i64 0, .int .i64 0, .slice none 0 0, .slice none 0 0, .int .i64 0, .int .i64 0, .slice none 0 0, .slice none 0 0, .slice none 0 0, .slice none 0 0] (w.heap.size + 1)).front 1 rfl
  clear Ha H
  go_enter Tryz.func43, Tryz.ntmps43
  go_wp2_with fail
  refine (l13Get_any W _ g _ l a b c d f p e0 _ H1 HV.out hl).mono ?_
  rw [← HH.out]
  rintro ev w2 ⟨u1, u2, u3, u4, u5, vs, rfl, hvs, H2⟩
  dsimp only at hvs H2 ⊢
  clear H1
  obtain ⟨A1, c1, rfl⟩ := H2.openB' (.tail _ (.head _))
  obtain ⟨A2, c2, rfl⟩ := H2.openB' (.tail _ (.tail _ (.head _)))
  obtain ⟨A3, c3, rfl⟩ := H2.openB' (.tail _ (.tail _ (.tail _ (.head _))))
  obtain ⟨A4, c4, rfl⟩ := H2.openB' (.tail _ (.tail _ (.tail _ (.tail _ (.head _)))))
  obtain ⟨A5, c5, rfl⟩ := H2.openS hvs (.tail _ (.tail _ (.tail _ (.tail _ (.tail _ (.head _))))))
  have HVS := Lib.hid hvs
  clear hvs
  have H3 : InvF W _ (segX 74 g [.slice A l.length n, .int .i64 qp, .int .i64 he] :: segX 42 w2.heap.size [.int .i64 x, .int .i64 y, .int .i64 z, (.slice A1 m.length c1), (.slice A2 k.length c2), .int .i64 qx, .int .i64 qy, (.slice A3 qm.length c3), (.slice A4 qk.length c4), (.slice A5 qL.length c5), (.slice none 0 0)] :: segB 5 (.slice A1 m.length c1) m :: segB 5 (.slice A2 k.length c2) k :: segB 5 (.slice A3 qm.length c3) qm :: segB 5 (.slice A4 qk.length c4) qk :: segS 24 5 (.slice A5 qL.length c5) vs qL :: segX 42 (w.heap.size + 1) [.int .i64 0, .int .i64 0, .int .i64 0, .slice none 0 0, .slice none 0 0, .int .i64 0, .int .i64 0, .slice none 0 0, .slice none 0 0, .slice none 0 0, .slice none 0 0] :: segX 35 w.heap.size [.int .i64 a, .int .i64 b, .int .i64 c, .int .i64 d, .int .i64 f] :: ss) := (H2.newX 42 #[.int .i64 x, .int .i64 y, .int .i64 z, .slice A1 m.length c1, .slice A2 k.length c2, .int .i64 qx, .int .i64 qy, .slice A3 qm.length c3, .slice A4 qk.length c4, .slice A5 qL.length c5, .slice none 0 0]).front 1 rfl
  clear H2
  go_wp2_with fail
  refine (l11Var_any W _ g _ l qp he _ H3 HV.out (by omega)).mono ?_
  rw [HNI.out, ← HP1.out, ← HE1.out]
  rintro ev w3 ⟨rfl, H4⟩
  replace H4 : InvF W w3 (segX 74 g [.slice A l.length n, .int .i64 p1, .int .i64 e1] :: segX 42 w2.heap.size [.int .i64 x, .int .i64 y, .int .i64 z, (.slice A1 m.length c1), (.slice A2 k.length c2), .int .i64 qx, .int .i64 qy, (.slice A3 qm.length c3), (.slice A4 qk.length c4), (.slice A5 qL.length c5), (.slice none 0 0)] :: segB 5 (.slice A1 m.length c1) m :: segB 5 (.slice A2 k.length c2) k :: segB 5 (.slice A3 qm.length c3) qm :: segB 5 (.slice A4 qk.length c4) qk :: segS 24 5 (.slice A5 qL.length c5) vs qL :: segX 42 (w.heap.size + 1) [.int .i64 0, .int .i64 0, .int .i64 0, .slice none 0 0, .slice none 0 0, .int .i64 0, .int .i64 0, .slice none 0 0, .slice none 0 0, .slice none 0 0, .slice none 0 0] :: segX 35 w.heap.size [.int .i64 a, .int .i64 b, .int .i64 c, .int .i64 d, .int .i64 f] :: ss) := H4
  clear H3
  obtain ⟨t0, t1, t2, t3, t4⟩ := H4.c5 (.tail _ (.tail _ (.tail _ (.tail _ (.tail _ (.tail _ (.tail _ (.tail _ (.head _)))))))))
  have H4h := Lib.hid H4
  clear H4
  go_wp2_with fail
  refine (l11Fail_any W _ g _ p1 e1 3 (decide (c < (N : Int))) _ H4h.out).mono ?_
  rw [HE2.out]
  rintro ev w4 ⟨rfl, H5⟩
  have H6 : Hid (InvF W w4 (segX 74 g [.slice A l.length n, .int .i64 p1, .int .i64 e2] :: segX 42 w2.heap.size [.int .i64 x, .int .i64 y, .int .i64 z, (.slice A1 m.length c1), (.slice A2 k.length c2), .int .i64 qx, .int .i64 qy, (.slice A3 qm.length c3), (.slice A4 qk.length c4), (.slice A5 qL.length c5), (.slice none 0 0)] :: segS 24 5 (.slice none 0 0) [] [] :: segB 5 (.slice A1 m.length c1) m :: segB 5 (.slice A2 k.length c2) k :: segB 5 (.slice A3 qm.length c3) qm :: segB 5 (.slice A4 qk.length c4) qk :: segS 24 5 (.slice A5 qL.length c5) vs qL :: segX 42 (w.heap.size + 1) [.int .i64 0, .int .i64 0, .int .i64 0, .slice none 0 0, .slice none 0 0, .int .i64 0, .int .i64 0, .slice none 0 0, .slice none 0 0, .slice none 0 0, .slice none 0 0] :: segX 35 w.heap.size [.int .i64 a, .int .i64 b, .int .i64 c, .int .i64 d, .int .i64 f] :: ss)) := Lib.hid (by
    have q := H5.more (s := segS 24 5 (.slice none 0 0) [] []) ((InvG.start w4).moreG (p := (24, .slice none 0 0, [])) (World.ownsRow_nil _ _ _ _) (Below.refl _ _))
    exact (q.front 2 rfl).front 2 rfl)
  clear H5 H4h t0 t1 t2 t3 t4 HE1 HP1 HNI HE2 HH hlim
  go_wp2
  go_loopw [7] (fun i wr => ∃ (j : Nat) (At : Option Addr) (ct : Nat) (vt : List Value), j ≤ N ∧ i = .int .i64 (j : Int) ∧ Hid (vt.length = (txsAt l b p1 e2 j).1.length) ∧ Hid (InvF W wr (segX 74 g [.slice A l.length n, .int .i64 (txsAt l b p1 e2 j).2.1, .int .i64 (txsAt l b p1 e2 j).2.2] :: segX 42 w2.heap.size [.int .i64 x, .int .i64 y, .int .i64 z, (.slice A1 m.length c1), (.slice A2 k.length c2), .int .i64 qx, .int .i64 qy, (.slice A3 qm.length c3), (.slice A4 qk.length c4), (.slice A5 qL.length c5), (.slice At (txsAt l b p1 e2 j).1.length ct)] :: segS 24 5 (.slice At (txsAt l b p1 e2 j).1.length ct) vt (txsAt l b p1 e2 j).1 :: segB 5 (.slice A1 m.length c1) m :: segB 5 (.slice A2 k.length c2) k :: segB 5 (.slice A3 qm.length c3) qm :: segB 5 (.slice A4 qk.length c4) qk :: segS 24 5 (.slice A5 qL.length c5) vs qL :: segX 42 (w.heap.size + 1) [.int .i64 0, .int .i64 0, .int .i64 0, .slice none 0 0, .slice none 0 0, .int .i64 0, .int .i64 0, .slice none 0 0, .slice none 0 0, .slice none 0 0, .slice none 0 0] :: segX 35 w.heap.size [.int .i64 a, .int .i64 b, .int .i64 c, .int .i64 d, .int .i64 f] :: ss)))
    (fun i _ => N - (intOf i).toNat)
  case atStart => exact ⟨0, none, 0, [], Nat.zero_le _, rfl, Lib.hid rfl, H6⟩
  case round =>
    clear H6
    obtain ⟨j, At, ct, vt, hj, rfl, hvt, Hj⟩ := hrel
    have HJ : Hid ((txsAt l b p1 e2 j).2.2 = 0 → (txsAt l b p1 e2 j).1.length = j ∧ (txsAt l b p1 e2 j).1.length ≤ 8 ∧ sumL (txsAt l b p1 e2 j).1 ≤ 320 ∧ N ≤ 8) := Lib.hid (fun h0 => by
      obtain ⟨k1, k2⟩ := hB.out (txs_first h0)
      have k3 := txs_sum k1 l p1 e2 j
      have k4 := txs_len h0
      omega)
    have HST := Lib.hid (fun A q hq => txs_more (l := l) (m := b) (p := p1) (e := e2) (j := j) (A := A) (q := q) hq)
    have HRJ := Lib.hid (HRa.out j hj)
    have hbT : Hid (j = N → (txsAt l b p1 e2 j).2.2 = 0 → RT = (txsAt l b p1 e2 j).1 ∧ RP = (txsAt l b p1 e2 j).2.1 ∧ RE = fE 0 (k == treeL (txsAt l b p1 e2 j).1) 7) := Lib.hid (fun q => by subst q; exact HRb.out)
    clear HRa HRb
    have hnx : Hid (∀ A q, txsAt l b p1 e2 j = (A, q, 0) → txsAt l b p1 e2 (j + 1) = (A ++ [txL l q b], txN l q b, txE l q b)) := Lib.hid (fun A q hq => HST.out A q hq)
    clear HST
    generalize hT : txsAt l b p1 e2 j = st at *
    obtain ⟨L, pj, ej⟩ := st
    simp only at hvt Hj HJ HRJ hbT
    by_cases hej : ej = 0
    · subst hej
      obtain ⟨hlj, hL8, hs3, hN8⟩ := HJ.out rfl
      have HL := Lib.hid (And.intro hlj (And.intro hL8 hs3))
      by_cases hq : j < N
      · have hq1 : (j : Int) < (N : Int) := by omega
        have hnext := hnx.out L pj rfl
        obtain ⟨r, hr⟩ : ∃ r, r = txL l pj b := ⟨_, rfl⟩
        obtain ⟨pn, hpn⟩ : ∃ r, r = txN l pj b := ⟨_, rfl⟩
        obtain ⟨en, hen⟩ : ∃ r, r = txE l pj b := ⟨_, rfl⟩
        rw [← hr, ← hpn, ← hen] at hnext
        have SJ := Lib.hid (And.intro hr (And.intro hpn hen))
        have HNX := Lib.hid hnext
        clear hr hpn hen hnext hnx HJ HRJ hbT hlj hL8 hs3
        have HDr := Lib.hid Hj.out.drew1
        have q2 := Hj.out.atX (.head _) 2 rfl
        have o10 : wr.cell? ⟨w2.heap.size, 10, none⟩ = some (.slice At L.length ct) := Hj.out.atX (.tail _ (.head _)) 10 rfl
        have b1 := Hj.out.atX (.tail _ (.tail _ (.tail _ (.tail _ (.tail _ (.tail _ (.tail _ (.tail _ (.tail _ (.head _)))))))))) 1 rfl
        go_wp2_with fail
        go_region_law (first
          | (refine step_appFS (W := W) (w := w12) (E := 5) (E2 := 24) (s := .slice At L.length ct) (u := .slice A12 r.length c12) (vs := vt) (L := L) (r := r) (by rfl) (.tmp 33) (.tmp 38) 25 rfl i0 Tryz.underlying25 hi hz0 hz1 hz2 (by rfl) (by rfl) rfl hvt.out K12.out (by have := HL.out.2.1; omega) ?_; intro v14 w14 H14; obtain ⟨A14, c14, e14⟩ := H14.openS (by simp only [List.length_append]; rw [hvt.out]; rfl) (.head _); subst e14; have o6 := H14.atX (.tail _ (.tail _ (.head _))) 10 rfl; have f6 := H14.frX (.tail _ (.tail _ (.head _))) 10; have K14 := Lib.hid H14; clear H14)
          | (go_simp; go_at_call 74; refine (l11Text_any W _ g _ l b pj 0 _ HDr.out HV.out (by omega)).mono ?_; rw [tV_yes, tP_yes, tE_yes, ← SJ.out.1, ← SJ.out.2.1, ← SJ.out.2.2]; rintro ev w12 ⟨u12, rfl, H12⟩; obtain ⟨A12, c12, rfl⟩ := H12.openB' (.tail _ (.head _)); have o5 := H12.atX (.tail _ (.tail _ (.head _))) 10 rfl; have b5 := H12.atX (.tail _ (.tail _ (.tail _ (.tail _ (.tail _ (.tail _ (.tail _ (.tail _ (.tail _ (.tail _ (.head _))))))))))) 1 rfl; have o5a := (H12.up ((Below.refl _ _).alloc (Nat.le_refl _) (.cells #[.slice A12 r.length c12] 24))).atX (.tail _ (.tail _ (.head _))) 10 rfl; have b5a := (H12.up ((Below.refl _ _).alloc (Nat.le_refl _) (.cells #[.slice A12 r.length c12] 24))).atX (.tail _ (.tail _ (.tail _ (.tail _ (.tail _ (.tail _ (.tail _ (.tail _ (.tail _ (.tail _ (.head _))))))))))) 1 rfl; have K12 := Lib.hid ((H12.front 1 rfl).front 3 rfl); clear H12; dsimp only))
        all_goals
          have e1 : (L ++ [r]).length = L.length + 1 := by simp
          have K15 := K14.out
          rw [e1] at K15
          have HF := Lib.hid (((K15.front 2 rfl).setX 10 (.slice A14 (L.length + 1) c14)).front 2 rfl)
          have E1 := Lib.hid e1
          clear q2 o10 b1 o5 b5 o5a b5a o6 f6 K12 K14 K15 e1
          go_wp2
          go_roundw
          case rel => exact ⟨j + 1, A14, c14, vt ++ [.slice A12 r.length c12], by omega, by go_num, Lib.hid (by rw [HNX.out]; simp only [List.length_append]; rw [hvt.out]; rfl), Lib.hid (by rw [HNX.out]; dsimp only; rw [E1.out]; exact HF.out)⟩
          case measure => simp [intOf]; omega
      · obtain rfl : j = N := by omega
        obtain ⟨k1, k2, k3⟩ := hbT.out rfl rfl
        replace k1 := k1.symm
        replace k2 := k2.symm
        subst k1 k2
        have C7 := Lib.hid (fun W q => specTreeRoot_any (.slice At L.length ct) L W q (by omega) (by omega))
        obtain ⟨rt, hrt⟩ : ∃ rt, rt = treeL L := ⟨_, rfl⟩
        rw [← hrt] at k3 C7
        have HRE := Lib.hid k3
        clear hrt k3 hnx HJ HRJ hbT hlj hL8 hs3 HL hN8
        have hq1 : ¬ (j : Int) < (j : Int) := by omega
        have q2 := Hj.out.atX (.head _) 2 rfl
        have HDr := Lib.hid Hj.out.drew1
        have L0 := Lib.hid (And.intro (HDr.out.atX (.tail _ (.head _)) 4 rfl) (HDr.out.atX (.tail _ (.head _)) 10 rfl))
        go_wp2_with fail
        go_region_held3 (fun w' => w'.cell? ⟨w2.heap.size, 4, none⟩ = some (.slice A2 k.length c2) ∧ w'.cell? ⟨w2.heap.size, 10, none⟩ = some (.slice At L.length ct))
          (first
            | with_reducible exact L0.out
            | with_reducible exact L1.out
            | with_reducible exact L2.out)
          (first
            | (go_at_call 52; refine (C7.out _ (HDr.out.slS 24 5 hvt.out (.tail _ (.tail _ (.head _))))).mono ?_; rintro ev w7 ⟨u7, rfl, ho7, hb7⟩; have K1 := Lib.hid (HDr.out.moreB ho7 hb7); have L1 := Lib.hid (And.intro (K1.out.atX (.tail _ (.tail _ (.head _))) 4 rfl) (K1.out.atX (.tail _ (.tail _ (.head _))) 10 rfl)); clear ho7 hb7)
            | (go_at_call 61; refine (specSameBytes_any _ _ k rt _ (K1.out.slB 5 (.tail _ (.tail _ (.tail _ (.tail _ (.tail _ (.head _))))))) (K1.out.slB 5 (.head _))).mono ?_; rintro ev w' ⟨rfl, rfl⟩)
            | (go_at_call 73; refine (l11Fail_any W _ g _ pj 0 7 (!(k == rt)) _ (K1.out.front 1 rfl)).mono ?_; rw [Bool.not_not, ← HRE.out]; rintro ev w8 ⟨rfl, H8⟩; have K2 := Lib.hid H8; have L2 := Lib.hid (And.intro (K2.out.atX (.tail _ (.tail _ (.head _))) 4 rfl) (K2.out.atX (.tail _ (.tail _ (.head _))) 10 rfl)); clear H8)
            | fail)
        have K3 : Hid (InvF W w8 (segX 74 g [.slice A l.length n, .int .i64 pj, .int .i64 RE] :: segX 42 w2.heap.size [.int .i64 x, .int .i64 y, .int .i64 z, (.slice A1 m.length c1), (.slice A2 k.length c2), .int .i64 qx, .int .i64 qy, (.slice A3 qm.length c3), (.slice A4 qk.length c4), (.slice A5 qL.length c5), (.slice At L.length ct)] :: segS 24 5 (.slice At L.length ct) vt L :: segB 5 (.slice A1 m.length c1) m :: segB 5 (.slice A2 k.length c2) k :: segB 5 (.slice A3 qm.length c3) qm :: segB 5 (.slice A4 qk.length c4) qk :: segS 24 5 (.slice A5 qL.length c5) vs qL :: segX 42 (w.heap.size + 1) [.int .i64 0, .int .i64 0, .int .i64 0, .slice none 0 0, .slice none 0 0, .int .i64 0, .int .i64 0, .slice none 0 0, .slice none 0 0, .slice none 0 0, .slice none 0 0] :: segX 35 w.heap.size [.int .i64 a, .int .i64 b, .int .i64 c, .int .i64 d, .int .i64 f] :: ss)) := Lib.hid (K2.out.sub (.cons_cons _ (.cons _ (List.Sublist.refl _))))
        clear L0 L1 L2 K1 K2 HDr Hj q2
        obtain ⟨o0, o1, o2, o3, o4, o5, o6, o7, o8, o9, o10⟩ := K3.out.c11 (.tail _ (.head _))
        obtain ⟨r0, r1, r2, r3, r4, r5, r6, r7, r8, r9, r10⟩ := K3.out.c11 (.tail _ (.tail _ (.tail _ (.tail _ (.tail _ (.tail _ (.tail _ (.tail _ (.head _)))))))))
        obtain ⟨s0, s1, s2, s3, s4, s5, s6, s7, s8, s9, s10⟩ := K3.out.f11 (.tail _ (.tail _ (.tail _ (.tail _ (.tail _ (.tail _ (.tail _ (.tail _ (.head _)))))))))
        have h6 := K3.out.ltX (.tail _ (.head _))
        have h7 := K3.out.ltX (.tail _ (.tail _ (.tail _ (.tail _ (.tail _ (.tail _ (.tail _ (.tail _ (.head _)))))))))
        have q2 := K3.out.atX (.head _) 2 rfl
        have KR := (K3.out.front 8 rfl).over11 (.int .i64 x) (.int .i64 y) (.int .i64 z) (.slice A1 m.length c1) (.slice A2 k.length c2) (.int .i64 qx) (.int .i64 qy) (.slice A3 qm.length c3) (.slice A4 qk.length c4) (.slice A5 qL.length c5) (.slice At L.length ct)
        have hR2 := KR.rangeX (.head _)
        have KF := Lib.hid ((KR.sub (qs := segX 74 g [.slice A l.length n, .int .i64 pj, .int .i64 RE] :: segS 24 5 (.slice At L.length ct) vt L :: segB 5 (.slice A1 m.length c1) m :: segB 5 (.slice A2 k.length c2) k :: segB 5 (.slice A3 qm.length c3) qm :: segB 5 (.slice A4 qk.length c4) qk :: segS 24 5 (.slice A5 qL.length c5) vs qL :: ss) (.cons _ (.cons_cons _ (.cons _ (.cons_cons _ (.cons_cons _ (.cons_cons _ (.cons_cons _ (.cons_cons _ (.cons_cons _ (.cons _ (List.Sublist.refl _)))))))))))).perm (List.Perm.cons _ (List.perm_append_comm (l₁ := [_]) (l₂ := [_, _, _, _, _]) |>.append_right ss)))
        clear KR K3
        repeat go_step
        refine bodyPost_ret (results_cell_mid Tryz.results43 _ _ (w.heap.size + 1) 0 [.int .i64 x, .int .i64 y, .int .i64 z, .slice A1 m.length c1, .slice A2 k.length c2, .int .i64 qx, .int .i64 qy, .slice A3 qm.length c3, .slice A4 qk.length c4, .slice A5 qL.length c5, .slice At L.length ct] _ rfl hR2 Tryz.underlying42 rfl (by kernel_rfl)) rfl ⟨_, _, _, _, _, _, vs, vt, rfl, HVS.out, hvt.out, KF.out⟩
    · obtain ⟨k1, k2, k3⟩ := HRJ.out hej
      replace k1 := k1.symm
      replace k2 := k2.symm
      replace k3 := k3.symm
      subst k1 k2 k3
      have hne : (ej == 0) = false := by simpa using hej
      clear HJ HRJ hbT hnx hej
      by_cases hq : j < N
      · have hq1 : (j : Int) < (N : Int) := by omega
        clear hj
        obtain ⟨o0, o1, o2, o3, o4, o5, o6, o7, o8, o9, o10⟩ := Hj.out.c11 (.tail _ (.head _))
        obtain ⟨r0, r1, r2, r3, r4, r5, r6, r7, r8, r9, r10⟩ := Hj.out.c11 (.tail _ (.tail _ (.tail _ (.tail _ (.tail _ (.tail _ (.tail _ (.tail _ (.head _)))))))))
        obtain ⟨s0, s1, s2, s3, s4, s5, s6, s7, s8, s9, s10⟩ := Hj.out.f11 (.tail _ (.tail _ (.tail _ (.tail _ (.tail _ (.tail _ (.tail _ (.tail _ (.head _)))))))))
        have h6 := Hj.out.ltX (.tail _ (.head _))
        have h7 := Hj.out.ltX (.tail _ (.tail _ (.tail _ (.tail _ (.tail _ (.tail _ (.tail _ (.tail _ (.head _)))))))))
        have q2 := Hj.out.atX (.head _) 2 rfl
        have KR := (Hj.out.front 8 rfl).over11 (.int .i64 x) (.int .i64 y) (.int .i64 z) (.slice A1 m.length c1) (.slice A2 k.length c2) (.int .i64 qx) (.int .i64 qy) (.slice A3 qm.length c3) (.slice A4 qk.length c4) (.slice A5 qL.length c5) (.slice At L.length ct)
        have hR2 := KR.rangeX (.head _)
        have KF := Lib.hid ((KR.sub (qs := segX 74 g [.slice A l.length n, .int .i64 pj, .int .i64 ej] :: segS 24 5 (.slice At L.length ct) vt L :: segB 5 (.slice A1 m.length c1) m :: segB 5 (.slice A2 k.length c2) k :: segB 5 (.slice A3 qm.length c3) qm :: segB 5 (.slice A4 qk.length c4) qk :: segS 24 5 (.slice A5 qL.length c5) vs qL :: ss) (.cons _ (.cons_cons _ (.cons _ (.cons_cons _ (.cons_cons _ (.cons_cons _ (.cons_cons _ (.cons_cons _ (.cons_cons _ (.cons _ (List.Sublist.refl _)))))))))))).perm (List.Perm.cons _ (List.perm_append_comm (l₁ := [_]) (l₂ := [_, _, _, _, _]) |>.append_right ss)))
        clear KR Hj
        repeat go_step
        refine bodyPost_ret (results_cell_mid Tryz.results43 _ _ (w.heap.size + 1) 0 [.int .i64 x, .int .i64 y, .int .i64 z, .slice A1 m.length c1, .slice A2 k.length c2, .int .i64 qx, .int .i64 qy, .slice A3 qm.length c3, .slice A4 qk.length c4, .slice A5 qL.length c5, .slice At L.length ct] _ rfl hR2 Tryz.underlying42 rfl (by kernel_rfl)) rfl ⟨_, _, _, _, _, _, vs, vt, rfl, HVS.out, hvt.out, KF.out⟩
      · have hq1 : ¬ (j : Int) < (N : Int) := by omega
        obtain ⟨o0, o1, o2, o3, o4, o5, o6, o7, o8, o9, o10⟩ := Hj.out.c11 (.tail _ (.head _))
        obtain ⟨r0, r1, r2, r3, r4, r5, r6, r7, r8, r9, r10⟩ := Hj.out.c11 (.tail _ (.tail _ (.tail _ (.tail _ (.tail _ (.tail _ (.tail _ (.tail _ (.head _)))))))))
        obtain ⟨s0, s1, s2, s3, s4, s5, s6, s7, s8, s9, s10⟩ := Hj.out.f11 (.tail _ (.tail _ (.tail _ (.tail _ (.tail _ (.tail _ (.tail _ (.tail _ (.head _)))))))))
        have h6 := Hj.out.ltX (.tail _ (.head _))
        have h7 := Hj.out.ltX (.tail _ (.tail _ (.tail _ (.tail _ (.tail _ (.tail _ (.tail _ (.tail _ (.head _)))))))))
        have q2 := Hj.out.atX (.head _) 2 rfl
        have KR := (Hj.out.front 8 rfl).over11 (.int .i64 x) (.int .i64 y) (.int .i64 z) (.slice A1 m.length c1) (.slice A2 k.length c2) (.int .i64 qx) (.int .i64 qy) (.slice A3 qm.length c3) (.slice A4 qk.length c4) (.slice A5 qL.length c5) (.slice At L.length ct)
        have hR2 := KR.rangeX (.head _)
        have KF := Lib.hid ((KR.sub (qs := segX 74 g [.slice A l.length n, .int .i64 pj, .int .i64 ej] :: segS 24 5 (.slice At L.length ct) vt L :: segB 5 (.slice A1 m.length c1) m :: segB 5 (.slice A2 k.length c2) k :: segB 5 (.slice A3 qm.length c3) qm :: segB 5 (.slice A4 qk.length c4) qk :: segS 24 5 (.slice A5 qL.length c5) vs qL :: ss) (.cons _ (.cons_cons _ (.cons _ (.cons_cons _ (.cons_cons _ (.cons_cons _ (.cons_cons _ (.cons_cons _ (.cons_cons _ (.cons _ (List.Sublist.refl _)))))))))))).perm (List.Perm.cons _ (List.perm_append_comm (l₁ := [_]) (l₂ := [_, _, _, _, _]) |>.append_right ss)))
        clear KR Hj
        repeat go_step
        refine bodyPost_ret (results_cell_mid Tryz.results43 _ _ (w.heap.size + 1) 0 [.int .i64 x, .int .i64 y, .int .i64 z, .slice A1 m.length c1, .slice A2 k.length c2, .int .i64 qx, .int .i64 qy, .slice A3 qm.length c3, .slice A4 qk.length c4, .slice A5 qL.length c5, .slice At L.length ct] _ rfl hR2 Tryz.underlying42 rfl (by kernel_rfl)) rfl ⟨_, _, _, _, _, _, vs, vt, rfl, HVS.out, hvt.out, KF.out⟩
theorem lim_most {a b c d e : Int} (h : limE a b c d e = 0) : b ≤ 40 ∧ c ≤ 8 := by
  have hB : limB a b c d e = true := by
    unfold limE at h
    rcases Decidable.em (limB a b c d e = true) with h1 | h1
    · exact h1
    · rw [if_neg h1] at h
      exact absurd h (by decide)
  obtain ⟨_, hb, hc, _⟩ := limB_yes hB
  omega
set_option maxRecDepth 100000 in
set_option maxHeartbeats 8000000 in
theorem specGetBlock_any (a b c d e p : Int) (v : Value) (l : List UInt8) (w : World) (hv : Sp w w.heap.size v l) (hl : l.length ≤ 1073741824) :
    Calls Tryz.prog 18 #[.agg #[.int .i64 a, .int .i64 b, .int .i64 c, .int .i64 d, .int .i64 e], v, .int .i64 p] w (GotBk w (bkAt l a b c p (limE a b c d e))) := by
  have HV := Lib.hid hv
  obtain ⟨A, n, rfl, k1⟩ := hv.sl
  clear k1
  have hlim : limE a b c d e = 0 → b ≤ 40 ∧ c ≤ 8 := lim_most
  obtain ⟨e0, he0⟩ : ∃ e0, e0 = limE a b c d e := ⟨_, rfl⟩
  have c0 := fun W h => l11New_any a b c d e p (.slice A l.length n) W l h
  rw [← he0] at c0 hlim ⊢
  have C0 := Lib.hid c0
  have HLIM := Lib.hid hlim
  clear c0 he0 hv hlim
  obtain ⟨r, hr⟩ : ∃ r, r = bkAt l a b c p e0 := ⟨_, rfl⟩
  rw [← hr]
  have HR := Lib.hid hr
  clear hr
  obtain ⟨⟨x, y, z, m, k, ⟨qx, qy, qm, qk, qL, qp, qe⟩, he⟩, T, tp, ee⟩ := r
  have H0 := ((InvF.start w).newG 35 #[.int .i64 a, .int .i64 b, .int .i64 c, .int .i64 d, .int .i64 e] w.heap.size).newG 42 #[.int .i64 0, .int .i64 0, .int .i64 0, .slice none 0 0, .slice none 0 0, .int .i64 0, .int .i64 0, .slice none 0 0, .slice none 0 0, .slice none 0 0, .slice none 0 0] (w.heap.size + 1)
  go_enter Tryz.func18, Tryz.ntmps18
  go_wp2_with fail
  refine (C0.out _ (HV.out.up H0.bel).sl).mono ?_
  rintro ev w1 ⟨g, rfl, K⟩
  have H1 : InvF w w1 (segX 74 g [.slice A l.length n, .int .i64 p, .int .i64 e0] :: [segX 42 (w.heap.size + 1) [.int .i64 0, .int .i64 0, .int .i64 0, .slice none 0 0, .slice none 0 0, .int .i64 0, .int .i64 0, .slice none 0 0, .slice none 0 0, .slice none 0 0, .slice none 0 0], segX 35 w.heap.size [.int .i64 a, .int .i64 b, .int .i64 c, .int .i64 d, .int .i64 e]]) := H0.moreF K
  clear H0 K C0
  obtain ⟨t0, t1, t2, t3, t4⟩ := H1.c5 (.tail _ (.tail _ (.head _)))
  go_wp2_with fail
  refine (l14Get_any w _ g _ l a b c d e p e0 _ H1 HV.out hl HLIM.out).mono ?_
  rw [← HR.out]
  clear H1 t0 t1 t2 t3 t4
  rintro ev w3 ⟨u1, u2, u3, u4, u5, u6, vs, vt, rfl, hv, hvt, K3⟩
  dsimp only at hv hvt K3 ⊢
  obtain ⟨B1, d1, rfl⟩ := K3.openB' (.tail _ (.head _))
  obtain ⟨B2, d2, rfl⟩ := K3.openB' (.tail _ (.tail _ (.head _)))
  obtain ⟨B3, d3, rfl⟩ := K3.openB' (.tail _ (.tail _ (.tail _ (.head _))))
  obtain ⟨B4, d4, rfl⟩ := K3.openB' (.tail _ (.tail _ (.tail _ (.tail _ (.head _)))))
  obtain ⟨B5, d5, rfl⟩ := K3.openS hv (.tail _ (.tail _ (.tail _ (.tail _ (.tail _ (.head _))))))
  obtain ⟨B6, d6, rfl⟩ := K3.openS hvt (.tail _ (.tail _ (.tail _ (.tail _ (.tail _ (.tail _ (.head _)))))))
  have HVS := Lib.hid hv
  have HVT := Lib.hid hvt
  clear hv hvt
  have K4 : InvF w (w3.alloc (.cells #[.int .i64 x, .int .i64 y, .int .i64 z, .slice B1 m.length d1, .slice B2 k.length d2, .int .i64 qx, .int .i64 qy, .slice B3 qm.length d3, .slice B4 qk.length d4, .slice B5 qL.length d5, .slice B6 T.length d6] 42)) (segX 42 w3.heap.size [.int .i64 x, .int .i64 y, .int .i64 z, (.slice B1 m.length d1), (.slice B2 k.length d2), .int .i64 qx, .int .i64 qy, (.slice B3 qm.length d3), (.slice B4 qk.length d4), (.slice B5 qL.length d5), (.slice B6 T.length d6)] :: segX 74 g [.slice A l.length n, .int .i64 tp, .int .i64 ee] :: segB 5 (.slice B1 m.length d1) m :: segB 5 (.slice B2 k.length d2) k :: segB 5 (.slice B3 qm.length d3) qm :: segB 5 (.slice B4 qk.length d4) qk :: segS 24 5 (.slice B5 qL.length d5) vs qL :: segS 24 5 (.slice B6 T.length d6) vt T :: [segX 42 (w.heap.size + 1) [.int .i64 0, .int .i64 0, .int .i64 0, .slice none 0 0, .slice none 0 0, .int .i64 0, .int .i64 0, .slice none 0 0, .slice none 0 0, .slice none 0 0, .slice none 0 0], segX 35 w.heap.size [.int .i64 a, .int .i64 b, .int .i64 c, .int .i64 d, .int .i64 e]]) := K3.newX 42 #[.int .i64 x, .int .i64 y, .int .i64 z, .slice B1 m.length d1, .slice B2 k.length d2, .int .i64 qx, .int .i64 qy, .slice B3 qm.length d3, .slice B4 qk.length d4, .slice B5 qL.length d5, .slice B6 T.length d6]
  have q2 := K4.atX (.tail _ (.head _)) 2 rfl
  have q1 := K4.atX (.tail _ (.head _)) 1 rfl
  clear K3
  by_cases hz : ee = 0
  · subst hz
    have HY := Lib.hid (fun ev w' => gotk_yes (w := w) (r := ⟨⟨x, y, z, m, k, ⟨qx, qy, qm, qk, qL, qp, qe⟩, he⟩, T, tp, 0⟩) (e := ev) (w' := w') rfl)
    go_wp2_with fail
    clear q2 q1
    generalize w3.alloc (.cells #[.int .i64 x, .int .i64 y, .int .i64 z, .slice B1 m.length d1, .slice B2 k.length d2, .int .i64 qx, .int .i64 qy, .slice B3 qm.length d3, .slice B4 qk.length d4, .slice B5 qL.length d5, .slice B6 T.length d6] 42) = w4 at *
    have K14 := Lib.hid (((K4.front 8 rfl).over11 (.int .i64 x) (.int .i64 y) (.int .i64 z) (.slice B1 m.length d1) (.slice B2 k.length d2) (.int .i64 qx) (.int .i64 qy) (.slice B3 qm.length d3) (.slice B4 qk.length d4) (.slice B5 qL.length d5) (.slice B6 T.length d6)).drew1)
    have L13 := Lib.hid (And.intro (K4.drew1.atX (.tail _ (.head _)) 1 rfl) (K4.drew1.c11 (.head _)))
    have L14 := Lib.hid (And.intro (K14.out.atX (.tail _ (.tail _ (.head _))) 1 rfl) (K14.out.c11 (.tail _ (.head _))))
    obtain ⟨r0, r1, r2, r3, r4, r5, r6, r7, r8, r9, r10⟩ := K4.c11 (.tail _ (.tail _ (.tail _ (.tail _ (.tail _ (.tail _ (.tail _ (.tail _ (.head _)))))))))
    obtain ⟨f0, f1, f2, f3, f4, f5, f6, f7, f8, f9, f10⟩ := K4.f11 (.tail _ (.tail _ (.tail _ (.tail _ (.tail _ (.tail _ (.tail _ (.tail _ (.head _)))))))))
    have hR3 := K14.out.rangeX (.head _)
    clear K4 HV HR
    go_region_held3 (fun w' => w'.cell? ⟨g, 1, none⟩ = some (.int .i64 tp) ∧ w'.cell? ⟨w3.heap.size, 0, none⟩ = some (.int .i64 x) ∧ w'.cell? ⟨w3.heap.size, 1, none⟩ = some (.int .i64 y) ∧ w'.cell? ⟨w3.heap.size, 2, none⟩ = some (.int .i64 z) ∧ w'.cell? ⟨w3.heap.size, 3, none⟩ = some (.slice B1 m.length d1) ∧ w'.cell? ⟨w3.heap.size, 4, none⟩ = some (.slice B2 k.length d2) ∧ w'.cell? ⟨w3.heap.size, 5, none⟩ = some (.int .i64 qx) ∧ w'.cell? ⟨w3.heap.size, 6, none⟩ = some (.int .i64 qy) ∧ w'.cell? ⟨w3.heap.size, 7, none⟩ = some (.slice B3 qm.length d3) ∧ w'.cell? ⟨w3.heap.size, 8, none⟩ = some (.slice B4 qk.length d4) ∧ w'.cell? ⟨w3.heap.size, 9, none⟩ = some (.slice B5 qL.length d5) ∧ w'.cell? ⟨w3.heap.size, 10, none⟩ = some (.slice B6 T.length d6))
      (first
        | with_reducible exact L13.out
        | with_reducible exact L14.out)
      (fail)
    repeat go_step
    refine bodyPost_ret (results_cell3_mid Tryz.results18 _ _ (w.heap.size + 1) 0 [.int .i64 x, .int .i64 y, .int .i64 z, .slice B1 m.length d1, .slice B2 k.length d2, .int .i64 qx, .int .i64 qy, .slice B3 qm.length d3, .slice B4 qk.length d4, .slice B5 qL.length d5, .slice B6 T.length d6] _ (.int .i64 tp) (.int .i64 0) rfl rfl rfl hR3 Tryz.underlying42 rfl (by kernel_rfl)) rfl (HY.out _ _ ⟨_, _, _, _, _, _, _, vs, _, vt, rfl, HVS.out, reads0_row (K14.out.2.1 _ (InvF.mem (.tail _ (.tail _ (.tail _ (.tail _ (.tail _ (.tail _ (.tail _ (.head _)))))))) (.head _))), HVT.out, reads0_row (K14.out.2.1 _ (InvF.mem (.tail _ (.tail _ (.tail _ (.tail _ (.tail _ (.tail _ (.tail _ (.tail _ (.head _))))))))) (.head _))), ?_⟩)
    exact K14.out.sub (qs := [segB 5 (.slice B1 m.length d1) m, segB 5 (.slice B2 k.length d2) k, segB 5 (.slice B3 qm.length d3) qm, segB 5 (.slice B4 qk.length d4) qk, segS 24 5 (.slice B5 qL.length d5) vs qL, segS 24 5 (.slice B6 T.length d6) vt T]) (.cons _ (.cons _ (.cons _ (.cons_cons _ (.cons_cons _ (.cons_cons _ (.cons_cons _ (.cons_cons _ (.cons_cons _ (.cons _ .slnil))))))))))
  · have HN := Lib.hid (fun ev w' => gotk_no (w := w) (r := ⟨⟨x, y, z, m, k, ⟨qx, qy, qm, qk, qL, qp, qe⟩, he⟩, T, tp, ee⟩) (e := ev) (w' := w') hz)
    have hne : (ee != 0) = true := by simpa using hz
    clear hz
    go_wp2_with fail
    clear q2 q1
    generalize w3.alloc (.cells #[.int .i64 x, .int .i64 y, .int .i64 z, .slice B1 m.length d1, .slice B2 k.length d2, .int .i64 qx, .int .i64 qy, .slice B3 qm.length d3, .slice B4 qk.length d4, .slice B5 qL.length d5, .slice B6 T.length d6] 42) = w4 at *
    have K14 := Lib.hid (((K4.front 8 rfl).over11 (.int .i64 0) (.int .i64 0) (.int .i64 0) (.slice none 0 0) (.slice none 0 0) (.int .i64 0) (.int .i64 0) (.slice none 0 0) (.slice none 0 0) (.slice none 0 0) (.slice none 0 0)).drew1)
    have L13 := Lib.hid (K4.drew1.atX (.tail _ (.head _)) 2 rfl)
    have L14 := Lib.hid (K14.out.atX (.tail _ (.tail _ (.head _))) 2 rfl)
    obtain ⟨r0, r1, r2, r3, r4, r5, r6, r7, r8, r9, r10⟩ := K4.c11 (.tail _ (.tail _ (.tail _ (.tail _ (.tail _ (.tail _ (.tail _ (.tail _ (.head _)))))))))
    obtain ⟨f0, f1, f2, f3, f4, f5, f6, f7, f8, f9, f10⟩ := K4.f11 (.tail _ (.tail _ (.tail _ (.tail _ (.tail _ (.tail _ (.tail _ (.tail _ (.head _)))))))))
    have hR3 := K14.out.rangeX (.head _)
    clear K4 HV HR
    go_region_held3 (fun w' => w'.cell? ⟨g, 2, none⟩ = some (.int .i64 ee))
      (first
        | with_reducible exact L13.out
        | with_reducible exact L14.out)
      (fail)
    repeat go_step
    refine bodyPost_ret (results_cell3_mid Tryz.results18 _ _ (w.heap.size + 1) 0 [.int .i64 0, .int .i64 0, .int .i64 0, .slice none 0 0, .slice none 0 0, .int .i64 0, .int .i64 0, .slice none 0 0, .slice none 0 0, .slice none 0 0, .slice none 0 0] _ (.int .i64 0) (.int .i64 ee) rfl rfl rfl hR3 Tryz.underlying42 rfl (by kernel_rfl)) rfl (HN.out _ _ rfl K14.out.bel)
end Go.Proofs.YtdoaikanaodefaaGreatDoor
