/- The program's decoder of timeout certificates: entries, tc, GetTc. -/
import Derived.Test.YtickneafppbegaaDoorGetTcE
import Derived.Test.YtickneafppbegaaDoorEnt
import Derived.Deep.RegionHeld3
namespace Go.Proofs.YtickneafppbegaaDoor
open Go.ChangeShapes Go.WideShapes Go.ChangeAt Go.RowKit

/-- What entries has made after j entries. -/
def TJ (M : List Et) (N : Nat) : List Et := M ++ List.replicate (N - M.length) default
theorem TJ_nil (N : Nat) : TJ [] N = List.replicate N default := by simp [TJ]
theorem TJ_full {M : List Et} {N : Nat} (h : M.length = N) : TJ M N = M := by simp [TJ, h]
theorem TJ_len {M : List Et} {N : Nat} (h : M.length ≤ N) : (TJ M N).length = N := by simp [TJ]; omega
theorem TJ_take (M : List Et) (N : Nat) : (TJ M N).take M.length = M := by simp [TJ]
theorem TJ_set {M : List Et} {N : Nat} (h : M.length < N) (t : Et) : (TJ M N).set M.length t = TJ (M ++ [t]) N := by
  unfold TJ
  rw [List.set_append_right _ _ (Nat.le_refl _), Nat.sub_self, show N - M.length = (N - (M ++ [t]).length) + 1 by rw [List.length_append, List.length_singleton]; omega, List.replicate_succ, List.set_cons_zero, List.append_assoc]
  rfl

set_option maxRecDepth 100000 in
set_option maxHeartbeats 8000000 in
theorem entries_any (I : Int × Int × Int × Int) (T : TypeId) (W w : World) (g : Nat) (v : Value) (l : List UInt8) (n p e x : Int) (ss : List (List Row)) (H : Dec I T W w g v n p e ss) (hv : Sp W W.heap.size v l) (hl : l.length ≤ 1073741824) (hp : p ≤ 9223372036854775807) (hN : e = 0 → n ≤ 10) :
    Calls Tryd.prog 27 #[.pointer (some ⟨g, 0, none⟩), .int .i64 x] w (fun ev w' => ∃ r s ps, r = tcRest l n x (nV l p e) (nP l p e) (fE (nE l p e) (decide (nV l p e ≤ n)) 3) ∧ ev = .returned s ∧ ps.length = r.L.length ∧ Dec I T W w' g v n r.p r.e (segE s ps r.L :: ss)) := by
  have HV := Lib.hid hv
  have HL := Lib.hid hl
  have HC := Lib.hid (number_any I T W w g v l n p e ss H hv (by omega))
  obtain ⟨c, hc⟩ : ∃ z, z = nV l p e := ⟨_, rfl⟩
  obtain ⟨p2, hp2⟩ : ∃ z, z = nP l p e := ⟨_, rfl⟩
  obtain ⟨e2, he2⟩ : ∃ z, z = nE l p e := ⟨_, rfl⟩
  obtain ⟨e3, he3⟩ : ∃ z, z = fE e2 (decide (c ≤ n)) 3 := ⟨_, rfl⟩
  rw [← hc, ← hp2, ← he2] at HC
  rw [← hc, ← hp2, ← he2, ← he3]
  have hc0 : 0 ≤ c := by rw [hc]; exact nV_lo _ _ _
  have hp2h : Hid (p2 ≤ 9223372036854775807) := Lib.hid (by rw [hp2]; exact nP_hi hp (by omega) _)
  have HCN : Hid (e3 = 0 → c ≤ 10) := Lib.hid (fun h => by
    have h1 := fE_zero (by decide) (he3.symm.trans h)
    have h2 := nE_zero (by rw [← he2]; exact h1.1)
    have h3 := of_decide_eq_true h1.2
    have := hN h2
    omega)
  have S3 := Lib.hid he3
  clear hc hp2 he2 he3 H hv hl hp hN
  go_enter Tryd.func27, Tryd.ntmps27
  go_wp2_with fail
  refine HC.out.mono ?_
  rintro ev w1 ⟨rfl, D⟩
  obtain ⟨i0, i1, i2, i3, i4, bb, qq, K0, hqq⟩ := D
  have hE2 : fE e2 (decide (c ≤ i0)) 3 = e3 := by
    rw [S3.out]
    rcases Decidable.em (e2 = 0) with h | h
    · rw [(hqq h).2.2.1]
    · rw [fE_no h, fE_no h]
  have HE2 := Lib.hid hE2
  have HQQ : Hid (e3 = 0 → bb = v ∧ qq = p2 ∧ i0 = n ∧ I = (i1, i2, i3, i4)) := Lib.hid (fun h => hqq (fE_zero (by decide) (S3.out.symm.trans h)).1)
  clear hE2 hqq HC
  have q2 := K0.atX (.head _) 0 rfl
  have HD := Lib.hid K0.drew1
  clear K0
  go_wp2_with fail
  go_region_held3 (fun w' => w'.cell? ⟨g, 0, none⟩ = some (.int .i64 i0))
    (first
      | go_keep
      | exact HE1.out.atX (.head _) 0 rfl)
    (first
      | (go_at_call 38; refine (requireO_any T W _ g i0 i1 i2 i3 i4 qq e2 3 bb (decide (c ≤ i0)) (by decide) ss HD.out).mono ?_; rintro ev w2 ⟨rfl, K1⟩; have HE1 := Lib.hid K1; clear K1))
  have K2 := HE1.out
  rw [HE2.out] at K2
  have D2 : Dec I T W w2 g v n p2 e3 ss := ⟨i0, i1, i2, i3, i4, bb, qq, K2, HQQ.out⟩
  have DH := Lib.hid D2
  have q7 := K2.atX (.head _) 7 rfl
  clear D2 HE1 HD q2 K2 HE2 HQQ
  by_cases he : e3 = 0
  case neg =>
    have HRE : Hid (tcRest l n x c p2 e3 = ⟨x, [], p2, e3⟩) := Lib.hid (by unfold tcRest; rw [if_neg he])
    rw [errV_no he] at q7
    clear he
    go_wp2
    go_ret
    refine ⟨_, _, [], rfl, rfl, by rw [HRE.out]; rfl, ?_⟩
    rw [HRE.out]
    exact DH.out.beside (fun d K => (K.more (s := segE (.slice none 0 0) [] []) ((InvG.start _).moreG (p := (58, .slice none 0 0, [])) (World.ownsRow_nil _ _ _ _) (Below.refl _ _))).front 1 rfl)
  subst he
  rw [errV_zero] at q7
  have hc10 := HCN.out rfl
  obtain ⟨N, rfl⟩ : ∃ N : Nat, c = (N : Int) := ⟨c.toNat, by omega⟩
  have hN10 : N ≤ 10 := by omega
  have HRE : Hid (tcRest l n x (N : Int) p2 0 = ⟨x, (entsAt l n x p2 0 N).1, (entsAt l n x p2 0 N).2.1, (entsAt l n x p2 0 N).2.2⟩) := Lib.hid (by unfold tcRest; rw [if_pos rfl]; rfl)
  clear HCN S3 hc10
  obtain ⟨i9, hi, hz0, hz1, hz2⟩ := info_parts einfo
  have hby : i9.bytes * N ≤ 281474976710656 := by rw [hz2]; omega
  have hml : N ≤ maxLen := by unfold maxLen; omega
  go_wp2_with (at_make; refine wpList_make_full _ rfl _ _ _ rfl w2.heap.size 58 i9 (.agg #[.int .i64 0, .int .i64 0, .slice none 0 0]) 3 Tryd.underlying25 hi hz0 hz1 .i64 .i64 _ _ N rfl rfl rfl rfl hby hml (Nat.le_refl _) ?_; intro w3 hown3 hg3)
  have hb3 : Below w2.heap.size w2 w3 := (Below.refl _ _).grown hg3 (Nat.le_refl _) (by simp)
  have H3 : Hid (Dec I T W w3 g v n p2 0 (segE (.slice (some ⟨w2.heap.size, 0, none⟩) N N) (List.replicate N (.slice none 0 0)) (TJ [] N) :: ss)) := Lib.hid (by
    rw [TJ_nil]
    exact DH.out.beside (fun d K => (K.madeE (by omega) hown3 hb3).front 1 rfl))
  clear hown3 hg3 hb3 DH q7
  go_wp2
  go_loopw [34] (fun i wr => ∃ (j : Nat) (ps : List Value), j ≤ N ∧ i = .int .i64 (j : Int) ∧ Hid (ps.length = N) ∧ Hid (Dec I T W wr g v n (entsAt l n x p2 0 j).2.1 (entsAt l n x p2 0 j).2.2 (segE (.slice (some ⟨w2.heap.size, 0, none⟩) N N) ps (TJ (entsAt l n x p2 0 j).1 N) :: ss)))
    (fun i _ => N - (intOf i).toNat)
  case atStart => exact ⟨0, _, Nat.zero_le _, rfl, Lib.hid (by simp), H3⟩
  case round =>
    clear H3
    obtain ⟨j, ps, hj, rfl, HPS, Hj⟩ := hrel
    have HLEN := Lib.hid (entsAt_len l n x p2 0 j)
    by_cases hlt : j < N
    · have HASC := Lib.hid (entsAt_asc l n x p2 0 j)
      have HHI : Hid ((entsAt l n x p2 0 j).2.1 ≤ 9223372036854775807) := Lib.hid (entsAt_hi hp2h.out (by have := HL.out; omega) n x 0 j)
      have HSTEP : Hid (entsAt l n x p2 0 (j + 1) = entStep l n x (entsAt l n x p2 0 j)) := Lib.hid rfl
      generalize entsAt l n x p2 0 j = sj at *
      obtain ⟨M, pj, ej⟩ := sj
      dsimp only at Hj HLEN HASC HHI
      have hpl : Hid (ps.length = (TJ M N).length) := Lib.hid (by rw [TJ_len (by rw [HLEN.out]; omega)]; exact HPS.out)
      have hv : Hid (Value.slice (some ⟨w2.heap.size, 0, none⟩) N N = .slice (some ⟨w2.heap.size, 0, none⟩) (TJ M N).length N) := Lib.hid (by rw [TJ_len (by rw [HLEN.out]; omega)])
      have HMM : Hid (∀ w', InvF W w' (segE (.slice (some ⟨w2.heap.size, 0, none⟩) N N) ps (TJ M N) :: ss) → SlE w' w'.heap.size (.slice (some ⟨w2.heap.size, 0, none⟩) j N) M) := Lib.hid (fun w' K => by
        have h := (K.slE hpl.out (.head _)).take (j := j) (by rw [TJ_len (by rw [HLEN.out]; omega)]; omega)
        have e : (TJ M N).take j = M := by
          have := TJ_take M N
          rw [HLEN.out] at this
          exact this
        rw [e] at h
        exact h)
      have HCA := Lib.hid (entry_any I T W wr g v l n pj ej x (.slice (some ⟨w2.heap.size, 0, none⟩) j N) M _ Hj.out HV.out HL.out HHI.out ⟨_, N, by rw [HLEN.out]⟩ HMM.out HASC.out)
      clear HMM HASC HHI
      go_wp2_with fail
      refine HCA.out.mono ?_
      rintro ev w5 ⟨t, p', e', u, rfl, hst, D5⟩
      obtain ⟨A5, c5, rfl⟩ := D5.rest.openB' (.head _)
      have HSTE : Hid (entsAt l n x p2 0 (j + 1) = (M ++ [t], p', e')) := Lib.hid (by rw [HSTEP.out, hst])
      obtain ⟨t0, ht0⟩ := getE (L := TJ M N) (k := j) (by rw [TJ_len (by rw [HLEN.out]; omega)]; exact hlt)
      obtain ⟨p0, hp0⟩ : ∃ q, ps[j]? = some q := ⟨ps[j]'(by rw [HPS.out]; exact hlt), List.getElem?_eq_getElem (by rw [HPS.out]; exact hlt)⟩
      obtain ⟨o0, o1, o2⟩ := D5.rest.cellsE hpl.out (.tail _ (.head _)) hv.out ht0 hp0
      have f0 := D5.rest.frE hpl.out (.tail _ (.head _)) hv.out (j * 3)
      have f1 := D5.rest.frE hpl.out (.tail _ (.head _)) hv.out (j * 3 + 1)
      have f2 := D5.rest.frE hpl.out (.tail _ (.head _)) hv.out (j * 3 + 2)
      have hset : (TJ M N).set j t = TJ (M ++ [t]) N := by
        have := TJ_set (M := M) (N := N) (by rw [HLEN.out]; exact hlt) t
        rw [HLEN.out] at this
        exact this
      have D6 : Dec I T W (((w5.setCell ⟨w2.heap.size, j * 3, none⟩ (.int .i64 t.x)).setCell ⟨w2.heap.size, j * 3 + 1, none⟩ (.int .i64 t.y)).setCell ⟨w2.heap.size, j * 3 + 2, none⟩ (.slice A5 t.k.length c5)) g v n p' e' (segE (.slice (some ⟨w2.heap.size, 0, none⟩) N N) (ps.set j (.slice A5 t.k.length c5)) ((TJ M N).set j t) :: ss) := D5.beside (fun d K => by
        have h := InvF.putE (t := t) (i := j) hpl.out ((K.front 2 rfl).front 2 rfl) hv.out (by rw [TJ_len (by rw [HLEN.out]; omega)]; exact hlt)
        exact h.front 1 rfl)
      rw [hset] at D6
      have HD6 := Lib.hid D6
      have HPS2 : Hid ((ps.set j (.slice A5 t.k.length c5)).length = N) := Lib.hid (by rw [List.length_set]; exact HPS.out)
      clear D5 D6 hset ht0 hp0 hst HCA HSTEP Hj
      obtain ⟨d0, d1, d2⟩ := t0
      obtain ⟨tx, ty, tk⟩ := t
      dsimp only at *
      go_wp2
      go_roundw
      case rel => exact ⟨j + 1, _, by omega, by go_num, HPS2, by rw [HSTE.out]; exact HD6⟩
      case measure => simp [intOf]; omega
    · obtain rfl : j = N := by omega
      rw [TJ_full HLEN.out] at Hj
      go_wp2
      go_ret
      refine ⟨_, _, ps, rfl, rfl, by rw [HRE.out]; exact HPS.out.trans HLEN.out.symm, ?_⟩
      rw [HRE.out]
      exact Hj.out

/-- A timeout certificate has been decoded: its rows and the decoder behind it. -/
def DecTcI (I : Int × Int × Int × Int) (T : TypeId) (W : World) (g : Nat) (v : Value) (n : Int) (r : TcAt) (ss : List (List Row)) (ev : Ending) (w' : World) : Prop :=
  ∃ s ps, ev = .returned (.agg #[.int .i64 r.x, s]) ∧ ps.length = r.L.length ∧ Dec I T W w' g v n r.p r.e (segE s ps r.L :: ss)
theorem tcRest_x (l : List UInt8) (n x c p2 e3 : Int) : (tcRest l n x c p2 e3).x = x := by
  unfold tcRest
  split <;> rfl
set_option maxRecDepth 100000 in
set_option maxHeartbeats 4000000 in
theorem tc_any (I : Int × Int × Int × Int) (T : TypeId) (W w : World) (g : Nat) (v : Value) (l : List UInt8) (n p e0 : Int) (ss : List (List Row)) (H : Dec I T W w g v n p e0 ss) (hv : Sp W W.heap.size v l) (hl : l.length ≤ 1073741824) (hp : p ≤ 9223372036854775807) (hN : e0 = 0 → n ≤ 10) :
    Calls Tryd.prog 16 #[.pointer (some ⟨g, 0, none⟩)] w (DecTcI I T W g v n (tcAt l n p e0) ss) := by
  obtain ⟨x, hx⟩ : ∃ x, x = nV l p e0 := ⟨_, rfl⟩
  obtain ⟨p1, hp1⟩ : ∃ x, x = nP l p e0 := ⟨_, rfl⟩
  obtain ⟨e1, he1⟩ : ∃ x, x = nE l p e0 := ⟨_, rfl⟩
  have hr : tcAt l n p e0 = tcRest l n x (nV l p1 e1) (nP l p1 e1) (fE (nE l p1 e1) (decide (nV l p1 e1 ≤ n)) 3) := by
    unfold tcAt
    simp only [← hx, ← hp1, ← he1]
  obtain ⟨r, hrr⟩ : ∃ r, r = tcAt l n p e0 := ⟨_, rfl⟩
  rw [← hrr]
  have HR : Hid (r = tcRest l n x (nV l p1 e1) (nP l p1 e1) (fE (nE l p1 e1) (decide (nV l p1 e1 ≤ n)) 3)) := Lib.hid (hrr.trans hr)
  have HRX : Hid (r.x = x) := Lib.hid (by rw [HR.out]; exact tcRest_x _ _ _ _ _ _)
  have B1 : Hid (p1 ≤ 9223372036854775807) := Lib.hid (by rw [hp1]; exact nP_hi hp (by omega) _)
  have HN : Hid (e1 = 0 → n ≤ 10) := Lib.hid (fun h => hN (nE_zero (by rw [← he1]; exact h)))
  have S1 := Lib.hid (And.intro hx (And.intro hp1 he1))
  have HV := Lib.hid hv
  have HL := Lib.hid hl
  have hl' := Lib.hid (show l.length ≤ 4294967296 by omega)
  clear hrr hr hx hp1 he1 hv hp hN hl
  have Ha : Dec I T W _ g v n p e0 (segX 27 w.heap.size [.int .i64 0, .slice none 0 0] :: ss) := H.beside (fun d K => (K.newG 27 #[.int .i64 0, .slice none 0 0] w.heap.size rfl).front 1 rfl)
  have H1 : Dec I T W _ g v n p e0 (segX 27 (w.heap.size + 1) [.int .i64 0, .slice none 0 0] :: segX 27 w.heap.size [.int .i64 0, .slice none 0 0] :: ss) := Ha.beside (fun d K => (K.newG 27 #[.int .i64 0, .slice none 0 0] (w.heap.size + 1)).front 1 rfl)
  clear Ha H
  go_enter Tryd.func16, Tryd.ntmps16
  go_wp2_with fail
  refine (number_any I T W _ g v l n p e0 _ H1 HV.out hl'.out).mono ?_
  rw [← S1.out.1, ← S1.out.2.1, ← S1.out.2.2]
  rintro ev w2 ⟨rfl, H2⟩
  replace H2 : Dec I T W w2 g v n p1 e1 (segX 27 (w.heap.size + 1) [.int .i64 0, .slice none 0 0] :: segX 27 w.heap.size [.int .i64 0, .slice none 0 0] :: ss) := H2
  clear H1
  obtain ⟨o0, o1⟩ := H2.rest.c2 (.head _)
  have f0 := H2.rest.frX (.head _) 0
  have h1 := H2.rest.ltX (.head _)
  have H3 : Dec I T W (w2.setCell ⟨w.heap.size + 1, 0, none⟩ (.int .i64 x)) g v n p1 e1 (segX 27 (w.heap.size + 1) [.int .i64 x, .slice none 0 0] :: segX 27 w.heap.size [.int .i64 0, .slice none 0 0] :: ss) := H2.beside (fun d K => by have h := ((K.front 1 rfl).setX 0 (.int .i64 x)).front 1 rfl; exact h)
  have k0 := H3.rest.atX (.head _) 0 rfl
  have HD3 := Lib.hid H3
  clear H2 H3
  go_wp2_with fail
  clear o0 o1 f0 h1 k0
  refine (entries_any I T W _ g v l n p1 e1 x _ HD3.out HV.out HL.out B1.out HN.out).mono ?_
  rw [← HR.out]
  rintro ev w4 ⟨r', s, ps, hr', rfl, hps, H4⟩
  subst hr'
  obtain ⟨A4, c4, rfl⟩ := H4.rest.openE hps (.head _)
  have HPS := Lib.hid hps
  obtain ⟨o0, o1⟩ := H4.rest.c2 (.tail _ (.head _))
  have f1 := H4.rest.frX (.tail _ (.head _)) 1
  have h1 := H4.rest.ltX (.tail _ (.head _))
  obtain ⟨r0, r1⟩ := H4.rest.c2 (.tail _ (.tail _ (.head _)))
  obtain ⟨q0, q1⟩ := H4.rest.f2 (.tail _ (.tail _ (.head _)))
  have h2 := H4.rest.ltX (.tail _ (.tail _ (.head _)))
  have K4 := Lib.hid H4
  clear H4 HD3 hps S1 HR
  go_wp2
  refine bodyPost_ret (v := .agg #[.int .i64 x, .slice A4 r'.L.length c4]) (by simp [results, Tryd.results16, go_sem, r0, r1]) rfl ⟨_, ps, by rw [HRX.out], HPS.out, ?_⟩
  exact K4.out.beside (fun d K => by have h := ((((K.front 2 rfl).setX 1 (.slice A4 r'.L.length c4)).front 3 rfl).over2 (.int .i64 x) (.slice A4 r'.L.length c4)); exact h.sub (.cons _ (.cons _ (List.Sublist.refl _))))

/-- What GetTc of the program returns: a certificate of new rows, the place, the error. -/
def GotTc (w : World) (r : TcAt) (e : Ending) (w' : World) : Prop := ∃ s ps, e = .returned (.tuple #[.agg #[.int .i64 (gtX r), s], .int .i64 (gtP r), .int .i64 r.e]) ∧ ps.length = (gtL r).length ∧ InvF w w' [segE s ps (gtL r)]
theorem gott_yes {w : World} {r : TcAt} {e : Ending} {w' : World} (h : r.e = 0) (k : ∃ s ps, e = .returned (.tuple #[.agg #[.int .i64 r.x, s], .int .i64 r.p, .int .i64 0]) ∧ ps.length = r.L.length ∧ InvF w w' [segE s ps r.L]) : GotTc w r e w' := by
  obtain ⟨h1, h2, h3⟩ := gt_all h
  unfold GotTc
  rw [h1, h2, h3, h]
  exact k
theorem gott_no {w : World} {r : TcAt} {e : Ending} {w' : World} (h : r.e ≠ 0) (k : e = .returned (.tuple #[.agg #[.int .i64 0, .slice none 0 0], .int .i64 0, .int .i64 r.e])) (hb : Below w.heap.size w w') : GotTc w r e w' := by
  obtain ⟨h1, h2, h3⟩ := gt_none h
  unfold GotTc
  rw [h1, h2, h3]
  exact ⟨_, [], k, rfl, (InvF.start w).more (s := segE (.slice none 0 0) [] []) ((InvG.start w).moreG (p := (58, .slice none 0 0, [])) (World.ownsRow_nil _ _ _ _) hb)⟩
set_option maxRecDepth 100000 in
set_option maxHeartbeats 4000000 in
theorem implGetTc_any (a b c d e p : Int) (v : Value) (l : List UInt8) (w : World) (hv : Sp w w.heap.size v l) (hl : l.length ≤ 1073741824) (hp : p ≤ 9223372036854775807) (hg : ErrT w) :
    Calls Tryd.prog 7 #[.agg #[.int .i64 a, .int .i64 b, .int .i64 c, .int .i64 d, .int .i64 e], v, .int .i64 p] w (GotTc w (tcAt l a p (limE a b c d e))) := by
  have HV := Lib.hid hv
  have HG := Lib.hid hg
  have HP := Lib.hid hp
  have HL := Lib.hid hl
  obtain ⟨A, n, rfl, k1⟩ := hv.sl
  clear k1 hv hg hp
  have c0 := fun W h => decoderAt_any a b c d e p (.slice A l.length n) W l h
  obtain ⟨e0, he0⟩ : ∃ e0, e0 = limE a b c d e := ⟨_, rfl⟩
  have hN : e0 = 0 → a ≤ 10 := fun h => by
    rw [he0] at h
    unfold limE at h
    split at h
    · rename_i hb
      have := (limB_yes hb).1
      unfold cntOk at this
      omega
    · cases h
  rw [← he0] at c0 ⊢
  have C0 := Lib.hid c0
  have HN := Lib.hid hN
  clear c0 he0 hN
  obtain ⟨r, hr⟩ : ∃ r, r = tcAt l a p e0 := ⟨_, rfl⟩
  rw [← hr]
  have HR := Lib.hid hr
  clear hr
  obtain ⟨x, L, p6, e6⟩ := r
  have H0 := ((InvF.start w).newG 30 #[.int .i64 a, .int .i64 b, .int .i64 c, .int .i64 d, .int .i64 e] w.heap.size).newG 27 #[.int .i64 0, .slice none 0 0] (w.heap.size + 1)
  go_enter Tryd.func7, Tryd.ntmps7
  go_wp2_with fail
  refine (C0.out _ (HV.out.up H0.bel).sl).mono ?_
  rintro ev w1 ⟨i0, i1, i2, i3, i4, B, n1, m1, q, rfl, hq, hb1⟩
  have H1 := H0.up hb1
  clear H0 hb1 C0
  have HQ := Lib.hid hq
  clear hq
  have hst := fun (W : World) (a : Addr) (m : Mode) => run_store Tryd.prog W a (errV e0) m (errV_cell e0)
  have hst2 : ∀ (W : World) (a : Addr) (m : Mode), (store a (errV e0) m).run Tryd.prog W = stored Tryd.prog W a (errV e0) m := hst
  clear hst
  go_wp2_with fail
  have H2 := H1.newX 49 #[.int .i64 i0, .int .i64 i1, .int .i64 i2, .int .i64 i3, .int .i64 i4, .slice B n1 m1, .int .i64 q, errV e0]
  clear H1
  have D2 : Dec (b, c, d, e) 49 w _ w1.heap.size (.slice A l.length n) a p e0 [segX 27 (w.heap.size + 1) [.int .i64 0, .slice none 0 0], segX 30 w.heap.size [.int .i64 a, .int .i64 b, .int .i64 c, .int .i64 d, .int .i64 e]] := ⟨_, _, _, _, _, _, _, H2, HQ.out⟩
  clear H2 HQ
  refine (tc_any (b, c, d, e) 49 w _ w1.heap.size _ l a p e0 _ D2 HV.out HL.out HP.out HN.out).mono ?_
  rw [← HR.out]
  clear D2
  rintro ev w3 ⟨s, ps, rfl, hps, D3⟩
  dsimp only at hps D3 ⊢
  obtain ⟨A3, c3, rfl⟩ := D3.rest.openE hps (.head _)
  have HPS := Lib.hid hps
  clear hps
  obtain ⟨j0, j1, j2, j3, j4, bb, qq, K3, hqq⟩ := D3
  have K4 := K3.newX 27 #[.int .i64 x, .slice A3 L.length c3]
  have q7 := K4.atX (.tail _ (.head _)) 7 rfl
  have q6 := K4.atX (.tail _ (.head _)) 6 rfl
  clear K3
  by_cases he : e6 = 0
  · subst he
    have HY := Lib.hid (fun ev w' => gott_yes (w := w) (r := ⟨x, L, p6, 0⟩) (e := ev) (w' := w') rfl)
    obtain rfl := (hqq rfl).2.1
    rw [errV_zero] at q7
    clear hqq
    go_wp2_with fail
    clear q7 q6
    generalize w3.alloc (.cells #[.int .i64 x, .slice A3 L.length c3] 27) = w4 at *
    have K14 := Lib.hid (((K4.front 3 rfl).over2 (.int .i64 x) (.slice A3 L.length c3)).drew1)
    have L13 := Lib.hid (And.intro (K4.drew1.atX (.tail _ (.head _)) 6 rfl) (K4.drew1.c2 (.head _)))
    have L14 := Lib.hid (And.intro (K14.out.atX (.tail _ (.tail _ (.head _))) 6 rfl) (K14.out.c2 (.tail _ (.head _))))
    obtain ⟨r0, r1⟩ := K4.c2 (.tail _ (.tail _ (.tail _ (.head _))))
    obtain ⟨f0, f1⟩ := K4.f2 (.tail _ (.tail _ (.tail _ (.head _))))
    obtain ⟨k0, k1⟩ := K14.out.c2 (.head _)
    clear K4 hst2 HV HG HP HR
    go_region_held3 (fun w' => w'.cell? ⟨w1.heap.size, 6, none⟩ = some (.int .i64 qq) ∧ w'.cell? ⟨w3.heap.size, 0, none⟩ = some (.int .i64 x) ∧ w'.cell? ⟨w3.heap.size, 1, none⟩ = some (.slice A3 L.length c3))
      (first
        | with_reducible exact L13.out
        | with_reducible exact L14.out)
      (fail)
    go_wp2_with fail
    refine bodyPost_ret (v := .tuple #[.agg #[.int .i64 x, .slice A3 L.length c3], .int .i64 qq, .int .i64 0]) (by simp [results, Tryd.results7, go_sem, k0, k1]) rfl (HY.out _ _ ⟨_, ps, rfl, HPS.out, ?_⟩)
    exact K14.out.sub (.cons _ (.cons _ (.cons _ (.cons_cons _ (.cons _ .slnil)))))
  · have HN := Lib.hid (fun ev w' => gott_no (w := w) (r := ⟨x, L, p6, e6⟩) (e := ev) (w' := w') he)
    have HB := Lib.hid (fun W h => codeOf_err e6 W h)
    rw [errV_no he] at q7
    clear he hqq
    go_wp2_with fail
    refine (HB.out _ (HG.out.up K4.bel)).mono ?_
    rintro ev w5 ⟨rfl, hb5⟩
    have K5 := K4.up hb5
    clear K4 q7 q6 hb5 HB
    obtain ⟨r0, r1⟩ := K5.c2 (.tail _ (.tail _ (.tail _ (.head _))))
    obtain ⟨f0, f1⟩ := K5.f2 (.tail _ (.tail _ (.tail _ (.head _))))
    have K6 := Lib.hid ((K5.front 3 rfl).over2 (.int .i64 0) (.slice none 0 0))
    clear K5
    go_wp2_with fail
    refine bodyPost_ret (v := .tuple #[.agg #[.int .i64 0, .slice none 0 0], .int .i64 0, .int .i64 e6]) (by simp [results, Tryd.results7, go_sem, r0, r1]) rfl (HN.out _ _ rfl K6.out.bel)
end Go.Proofs.YtickneafppbegaaDoor
