/- GetQc of the program: bits, tags, qc of its decoder. -/
import Derived.Test.YtopbalemfljphaaDoorDecI
import Derived.Test.YtopbalemfljphaaDoorQcT
import Derived.Deep.RegionHeld3
namespace Go.Proofs.YtopbalemfljphaaDoor
open Go.ChangeShapes Go.WideShapes Go.ChangeAt Go.RowKit

section
variable {W w : World} {ss : List (List Row)} {E : TypeId} {u : Value} {vs : List Value} {L : List (List UInt8)}
theorem InvF.snocRows2 {d q : List Row} {r : List UInt8} (hv : vs.length = L.length) (H : InvF W w (d :: q :: segB E u r :: rowsS E vs L :: ss)) : InvF W w (d :: q :: rowsS E (vs ++ [u]) (L ++ [r]) :: ss) := by
  have H1 : InvF W w (d :: q :: rowsS E vs L :: segB E u r :: ss) := H.perm (List.Perm.cons _ (List.Perm.cons _ (List.Perm.swap _ _ _)))
  unfold InvF at H1 ⊢
  rw [rowsS_snoc E vs L u r hv]
  simpa [segB] using H1
theorem InvF.joinRows2 {d q : List Row} {p : Row} (H : InvF W w (d :: [p] :: q :: ss)) : InvF W w (d :: (p :: q) :: ss) := by
  unfold InvF at H ⊢
  simpa using H
end

set_option maxRecDepth 100000 in
set_option maxHeartbeats 2000000 in
theorem bits_any (I : Int × Int × Int × Int) (T : TypeId) (W w : World) (g : Nat) (v : Value) (l : List UInt8) (n p e : Int) (ss : List (List Row)) (H : Dec I T W w g v n p e ss) (hv : Sp W W.heap.size v l) (hl : l.length ≤ 1073741824) (hp : p ≤ 9223372036854775807) :
    Calls Tryd.prog 69 #[.pointer (some ⟨g, 0, none⟩)] w (fun ev w' => ∃ u, ev = .returned u ∧ Dec I T W w' g v n (bP l n p e) (bE l n p e) (segB 5 u (bV l n p e) :: ss)) := by
  obtain ⟨i0, i1, i2, i3, i4, b, q, K0, hq⟩ := H
  by_cases he : e = 0
  · subst he
    obtain ⟨rfl, rfl, rfl, rfl⟩ := hq rfl
    obtain ⟨A, m, rfl, k1⟩ := hv.sl
    clear k1 hq
    rw [bV_yes, bP_yes, bE_yes]
    have hc := fun W h => readBits_any (.slice A l.length m) l q i0 W h (by omega) hp
    unfold Fresh3 at hc
    obtain ⟨⟨x, y, z⟩, hr⟩ : ∃ r, r = gb l q i0 := ⟨_, rfl⟩
    rw [← hr] at hc ⊢
    have HC := Lib.hid hc
    clear hr hc
    have HV := Lib.hid hv
    rw [errV_zero] at K0
    have q0 := K0.atX (.head _) 0 rfl
    have q5 := K0.atX (.head _) 5 rfl
    have q6 := K0.atX (.head _) 6 rfl
    have q7 := K0.atX (.head _) 7 rfl
    have HE := Lib.hid K0.drew1
    have L0 := Lib.hid (And.intro (HE.out.atX (.head _) 5 rfl) (And.intro (HE.out.atX (.head _) 6 rfl) (HE.out.atX (.head _) 0 rfl)))
    clear K0 hv
    by_cases hz : z = 0
    · subst hz
      simp only [errV_zero] at HC
      go_enter Tryd.func69, Tryd.ntmps69
      go_wp2_with fail
      go_region_held3 (fun w' => w'.cell? ⟨g, 5, none⟩ = some (.slice A l.length m) ∧ w'.cell? ⟨g, 6, none⟩ = some (.int .i64 q) ∧ w'.cell? ⟨g, 0, none⟩ = some (.int .i64 i0))
        (first
          | exact L0.out
          | exact ⟨HE1.out.atX (.head _) 5 rfl, HE1.out.atX (.head _) 6 rfl, HE1.out.atX (.head _) 0 rfl⟩)
        (first
          | (go_at_call 91; refine (HC.out _ (HV.out.up HE.out.bel)).mono ?_; rintro ev w1 ⟨u, rfl, ho1, hb1⟩; have HE1 := Lib.hid ((HE.out.moreB ho1 hb1).front 1 rfl); clear ho1 hb1))
      have t6 := HE1.out.atX (.head _) 6 rfl
      have t7 := HE1.out.atX (.head _) 7 rfl
      have r6 := HE1.out.frX (.head _) 6
      have r7 := HE1.out.frX (.head _) 7
      clear q0 q5 q6 q7 HE L0
      go_wp2
      go_ret
      exact ⟨_, rfl, _, _, _, _, _, _, _, (HE1.out.setX 6 (.int .i64 y)).setX 7 .nilIface, fun _ => ⟨rfl, rfl, rfl, rfl⟩⟩
    · simp only [errV_no hz] at HC
      have HZ := Lib.hid hz
      have HN := Lib.hid (errV_no hz)
      clear hz
      go_enter Tryd.func69, Tryd.ntmps69
      go_wp2_with fail
      go_region_held3 (fun w' => w'.cell? ⟨g, 5, none⟩ = some (.slice A l.length m) ∧ w'.cell? ⟨g, 6, none⟩ = some (.int .i64 q) ∧ w'.cell? ⟨g, 0, none⟩ = some (.int .i64 i0))
        (first
          | exact L0.out
          | exact ⟨HE1.out.atX (.head _) 5 rfl, HE1.out.atX (.head _) 6 rfl, HE1.out.atX (.head _) 0 rfl⟩)
        (first
          | (go_at_call 91; refine (HC.out _ (HV.out.up HE.out.bel)).mono ?_; rintro ev w1 ⟨u, rfl, ho1, hb1⟩; have HE1 := Lib.hid ((HE.out.moreB ho1 hb1).front 1 rfl); clear ho1 hb1))
      have t6 := HE1.out.atX (.head _) 6 rfl
      have t7 := HE1.out.atX (.head _) 7 rfl
      have r6 := HE1.out.frX (.head _) 6
      have r7 := HE1.out.frX (.head _) 7
      clear q0 q5 q6 q7 HE L0
      go_wp2
      go_ret
      exact ⟨_, rfl, _, _, _, _, _, _, _, by rw [HN.out]; exact (HE1.out.setX 6 (.int .i64 y)).setX 7 (.iface 83 (.agg #[.int .i64 z])), fun h => absurd h HZ.out⟩
  · rw [bV_no he, bP_no he, bE_no he]
    have HK := Lib.hid (And.intro ((K0.moreB (E := 5) (v := .slice none 0 0) (l := []) (World.ownsRow_nil _ _ _ _) (Below.refl _ _)).front 1 rfl) hq)
    rw [errV_no he] at K0
    have q7 := K0.atX (.head _) 7 rfl
    clear K0 he hv hq
    go_enter Tryd.func69, Tryd.ntmps69
    go_wp2
    go_ret
    exact ⟨_, rfl, _, _, _, _, _, _, _, HK.out.1, HK.out.2⟩

/-- Tags have been decoded: the slice, the places behind it, the rows; the decoder behind them. -/
def DecTags (I : Int × Int × Int × Int) (T : TypeId) (W : World) (g : Nat) (v : Value) (n : Int) (L : List (List UInt8)) (p e : Int) (ss : List (List Row)) (ev : Ending) (w' : World) : Prop :=
  ∃ s row vs, ev = .returned s ∧ vs.length = L.length ∧ Reads0 s row vs ∧ Dec I T W w' g v n p e ((row :: rowsS 5 vs L) :: ss)

set_option maxRecDepth 100000 in
set_option maxHeartbeats 4000000 in
theorem tags_any (I : Int × Int × Int × Int) (T : TypeId) (W w : World) (g : Nat) (v : Value) (l : List UInt8) (n p e : Int) (N : Nat) (ss : List (List Row)) (H : Dec I T W w g v n p e ss) (hv : Sp W W.heap.size v l) (hl : l.length ≤ 1073741824) (hp : p ≤ 9223372036854775807) (hN : N ≤ 10) :
    Calls Tryd.prog 70 #[.pointer (some ⟨g, 0, none⟩), .int .i64 (N : Int)] w (DecTags I T W g v n (tagsAt l p e N).1 (tagsAt l p e N).2.1 (tagsAt l p e N).2.2 ss) := by
  have HV := Lib.hid hv
  have HP := Lib.hid (tagsAt_hi (l := l) hp (by omega) e)
  have H1 : Hid (Dec I T W (w.alloc (.cells #[.slice none 0 0, .slice none 0 0, .slice none 0 0, .slice none 0 0, .slice none 0 0, .slice none 0 0, .slice none 0 0, .slice none 0 0, .slice none 0 0, .slice none 0 0] 140)) g v n (tagsAt l p e 0).2.1 (tagsAt l p e 0).2.2 (segX 140 w.heap.size (CB [] 10) :: rowsS 5 [] (tagsAt l p e 0).1 :: ss)) := by
    have h := H.beside (w' := w.alloc (.cells #[.slice none 0 0, .slice none 0 0, .slice none 0 0, .slice none 0 0, .slice none 0 0, .slice none 0 0, .slice none 0 0, .slice none 0 0, .slice none 0 0, .slice none 0 0] 140)) (ss' := segX 140 w.heap.size (CB [] 10) :: [] :: ss) (fun d K => by
      have h1 := (K.newG 140 #[.slice none 0 0, .slice none 0 0, .slice none 0 0, .slice none 0 0, .slice none 0 0, .slice none 0 0, .slice none 0 0, .slice none 0 0, .slice none 0 0, .slice none 0 0] w.heap.size rfl).front 1 rfl
      have h2 : InvF W _ (d :: segX 140 w.heap.size (CB [] 10) :: ss) := h1
      unfold InvF at h2 ⊢
      simpa using h2)
    exact Lib.hid h
  clear H hv hp
  go_enter Tryd.func70, Tryd.ntmps70
  go_wp2
  go_loopw [8] (fun i wr => ∃ (j : Nat) (vs : List Value), j ≤ N ∧ i = .int .i64 (j : Int) ∧ Hid (vs.length = j) ∧ Hid (Dec I T W wr g v n (tagsAt l p e j).2.1 (tagsAt l p e j).2.2 (segX 140 w.heap.size (CB vs 10) :: rowsS 5 vs (tagsAt l p e j).1 :: ss)))
    (fun i _ => N - (intOf i).toNat)
  case atStart => exact ⟨0, [], Nat.zero_le _, rfl, Lib.hid rfl, H1⟩
  case round =>
    clear H1
    obtain ⟨j, vs, hj, rfl, hvs, Hj⟩ := hrel
    have hlen : Hid ((tagsAt l p e j).1.length = j) := Lib.hid (tagsAt_len l p e j)
    have hstep : Hid (tagsAt l p e (j + 1) = ((tagsAt l p e j).1 ++ [rV l 32 (tagsAt l p e j).2.1 (tagsAt l p e j).2.2], rP l 32 (tagsAt l p e j).2.1 (tagsAt l p e j).2.2, rE l 32 (tagsAt l p e j).2.1 (tagsAt l p e j).2.2)) := Lib.hid rfl
    have hpj := Lib.hid (HP.out j)
    by_cases hlt : j < N
    · generalize hT : tagsAt l p e j = t at *
      obtain ⟨L, pj, ej⟩ := t
      simp only at hlen hstep hpj Hj
      have HC := Lib.hid (hashRd_any I T W wr g v l n pj ej _ Hj.out HV.out (by omega) hpj.out)
      obtain ⟨r, hr⟩ : ∃ r, r = rV l 32 pj ej := ⟨_, rfl⟩
      obtain ⟨pn, hpn⟩ : ∃ r, r = rP l 32 pj ej := ⟨_, rfl⟩
      obtain ⟨en, hen⟩ : ∃ r, r = rE l 32 pj ej := ⟨_, rfl⟩
      rw [← hr, ← hpn, ← hen] at hstep HC
      clear hr hpn hen hT
      have hj10 : (j : Int) < 10 := by omega
      have hj10' : j < 10 := by omega
      go_wp2_with fail
      refine HC.out.mono ?_
      rintro ev w2 ⟨u, rfl, H2⟩
      obtain ⟨A2, c2, rfl⟩ := H2.rest.openB' (.head _)
      have hat : (CB vs 10)[j]? = some (.slice none 0 0) := by rw [← hvs.out]; exact CB_at (by rw [hvs.out]; omega)
      have oj := H2.rest.atX (.tail _ (.head _)) j hat
      have fj := H2.rest.frX (.tail _ (.head _)) j
      have hset : (CB vs 10).set j (.slice A2 r.length c2) = CB (vs ++ [.slice A2 r.length c2]) 10 := by rw [← hvs.out]; exact CB_set _ (by rw [hvs.out]; omega)
      have H3 : Hid (Dec I T W (w2.setCell ⟨w.heap.size, j, none⟩ (.slice A2 r.length c2)) g v n pn en (segX 140 w.heap.size (CB (vs ++ [.slice A2 r.length c2]) 10) :: rowsS 5 (vs ++ [.slice A2 r.length c2]) (L ++ [r]) :: ss)) := Lib.hid (H2.beside (fun d K => by
        have h := (((K.front 2 rfl).setX j (.slice A2 r.length c2)).front 1 rfl)
        rw [hset] at h
        exact InvF.snocRows2 (by rw [hvs.out, hlen.out]) h))
      clear H2 hat hset HC Hj
      go_wp2
      go_roundw
      case rel => exact ⟨j + 1, vs ++ [.slice A2 r.length c2], by omega, by go_num, Lib.hid (by rw [List.length_append, hvs.out]; rfl), Lib.hid (by rw [hstep.out]; exact H3.out)⟩
      case measure => simp [intOf]; omega
    · obtain rfl : j = N := by omega
      have hj10 : (j : Int) ≤ 10 := by omega
      have htk : (CB vs 10).take j = vs := by unfold CB; rw [← hvs.out]; exact List.take_left
      have hln : (CB vs 10).length = 10 := CB_length (by rw [hvs.out]; omega)
      have hrd := reads0_box (T := 140) (g := w.heap.size) (n := j) (xs := CB vs 10) (by omega) (by unfold maxLen; omega)
      rw [htk] at hrd
      have HRD := Lib.hid hrd
      clear htk hln hrd
      go_wp2
      go_ret
      exact ⟨_, _, vs, rfl, by rw [hvs.out]; exact hlen.out.symm, HRD.out, Hj.out.beside (fun d K => InvF.joinRows2 K)⟩

/-- A certificate has been decoded: its rows and the decoder behind it. -/
def DecQcI (I : Int × Int × Int × Int) (T : TypeId) (W : World) (g : Nat) (v : Value) (n : Int) (r : QcAt) (ss : List (List Row)) (ev : Ending) (w' : World) : Prop :=
  ∃ a b s row vs, ev = .returned (.agg #[.int .i64 r.x, .int .i64 r.y, a, b, s]) ∧ vs.length = r.L.length ∧ Reads0 s row vs ∧ Dec I T W w' g v n r.p r.e ((row :: rowsS 5 vs r.L) :: segB 5 b r.k :: segB 5 a r.m :: ss)

set_option maxRecDepth 100000 in
set_option maxHeartbeats 8000000 in
theorem qc_any (I : Int × Int × Int × Int) (T : TypeId) (W w : World) (g : Nat) (v : Value) (l : List UInt8) (n p e0 : Int) (ss : List (List Row)) (H : Dec I T W w g v n p e0 ss) (hv : Sp W W.heap.size v l) (hl : l.length ≤ 1073741824) (hp : p ≤ 9223372036854775807) :
    Calls Tryd.prog 46 #[.pointer (some ⟨g, 0, none⟩)] w (DecQcI I T W g v n (qcAt l n p e0) ss) := by
  obtain ⟨x, hx⟩ : ∃ x, x = nV l p e0 := ⟨_, rfl⟩
  obtain ⟨p1, hp1⟩ : ∃ x, x = nP l p e0 := ⟨_, rfl⟩
  obtain ⟨e1, he1⟩ : ∃ x, x = nE l p e0 := ⟨_, rfl⟩
  obtain ⟨y, hy⟩ : ∃ x, x = nV l p1 e1 := ⟨_, rfl⟩
  obtain ⟨p2, hp2⟩ : ∃ x, x = nP l p1 e1 := ⟨_, rfl⟩
  obtain ⟨e2, he2⟩ : ∃ x, x = nE l p1 e1 := ⟨_, rfl⟩
  obtain ⟨m, hm⟩ : ∃ x, x = rV l 32 p2 e2 := ⟨_, rfl⟩
  obtain ⟨p3, hp3⟩ : ∃ x, x = rP l 32 p2 e2 := ⟨_, rfl⟩
  obtain ⟨e3, he3⟩ : ∃ x, x = rE l 32 p2 e2 := ⟨_, rfl⟩
  obtain ⟨k, hk⟩ : ∃ x, x = bV l n p3 e3 := ⟨_, rfl⟩
  obtain ⟨p4, hp4⟩ : ∃ x, x = bP l n p3 e3 := ⟨_, rfl⟩
  obtain ⟨e4, he4⟩ : ∃ x, x = bE l n p3 e3 := ⟨_, rfl⟩
  have hr : qcAt l n p e0 = ⟨x, y, m, k, (tagsAt l p4 e4 (cntB k).toNat).1, (tagsAt l p4 e4 (cntB k).toNat).2.1, (tagsAt l p4 e4 (cntB k).toNat).2.2⟩ := by
    unfold qcAt
    simp only [← hx, ← hp1, ← he1, ← hy, ← hp2, ← he2, ← hm, ← hp3, ← he3, ← hk, ← hp4, ← he4]
  rw [hr]
  have hcnt : 0 ≤ cntB k ∧ cntB k ≤ 10 := by rw [hk]; exact bV_cnt _ _ _ _
  have hkl : k.length ≤ 1073741824 := by have := bV_len l n p3 e3; rw [← hk] at this; omega
  obtain ⟨N, hN⟩ : ∃ N : Nat, N = (cntB k).toNat := ⟨_, rfl⟩
  rw [← hN]
  have hNi : cntB k = (N : Int) := by omega
  have hN10 : N ≤ 10 := by omega
  have HNH := Lib.hid hNi
  clear hN hNi hcnt
  have b1 : p1 ≤ 9223372036854775807 := by rw [hp1]; exact nP_hi hp (by omega) _
  have b2 : p2 ≤ 9223372036854775807 := by rw [hp2]; exact nP_hi b1 (by omega) _
  have b3 : p3 ≤ 9223372036854775807 := by rw [hp3]; exact rP_hi b2 (by omega) _ _
  have b4 : p4 ≤ 9223372036854775807 := by rw [hp4]; exact bP_hi b3 (by omega) _ _
  have B2 := Lib.hid b2
  have B3 := Lib.hid b3
  have B4 := Lib.hid b4
  have HKL := Lib.hid hkl
  have hl' := Lib.hid (show l.length ≤ 4294967296 by omega)
  have HL := Lib.hid hl
  have S1 := Lib.hid (And.intro hx (And.intro hp1 he1))
  have S2 := Lib.hid (And.intro hy (And.intro hp2 he2))
  have S3 := Lib.hid (And.intro hm (And.intro hp3 he3))
  have S4 := Lib.hid (And.intro hk (And.intro hp4 he4))
  have HV := Lib.hid hv
  clear hr hx hp1 he1 hy hp2 he2 hm hp3 he3 hk hp4 he4 b1 b2 b3 b4 hv hp hkl hl
  obtain ⟨t, ht⟩ : ∃ t, t = tagsAt l p4 e4 N := ⟨_, rfl⟩
  rw [← ht]
  have HT := Lib.hid ht
  clear ht
  obtain ⟨L, p6, e6⟩ := t
  dsimp only
  have Ha : Dec I T W (w.alloc (.cells #[.int .i64 0, .int .i64 0, .slice none 0 0, .slice none 0 0, .slice none 0 0] 28)) g v n p e0 (segX 28 w.heap.size [.int .i64 0, .int .i64 0, .slice none 0 0, .slice none 0 0, .slice none 0 0] :: ss) := H.beside (fun d K => (K.newG 28 #[.int .i64 0, .int .i64 0, .slice none 0 0, .slice none 0 0, .slice none 0 0] w.heap.size rfl).front 1 rfl)
  have H1 : Dec I T W ((w.alloc (.cells #[.int .i64 0, .int .i64 0, .slice none 0 0, .slice none 0 0, .slice none 0 0] 28)).alloc (.cells #[.int .i64 0, .int .i64 0, .slice none 0 0, .slice none 0 0, .slice none 0 0] 28)) g v n p e0 (segX 28 (w.heap.size + 1) [.int .i64 0, .int .i64 0, .slice none 0 0, .slice none 0 0, .slice none 0 0] :: segX 28 w.heap.size [.int .i64 0, .int .i64 0, .slice none 0 0, .slice none 0 0, .slice none 0 0] :: ss) := Ha.beside (fun d K => (K.newG 28 #[.int .i64 0, .int .i64 0, .slice none 0 0, .slice none 0 0, .slice none 0 0] (w.heap.size + 1)).front 1 rfl)
  clear Ha
  clear H
  go_enter Tryd.func46, Tryd.ntmps46
  go_wp2_with fail
  refine (number_any I T W _ g v l n p e0 _ H1 HV.out hl'.out).mono ?_
  rw [← S1.out.1, ← S1.out.2.1, ← S1.out.2.2]
  rintro ev w2 ⟨rfl, H2⟩
  replace H2 : Dec I T W w2 g v n p1 e1 (segX 28 (w.heap.size + 1) [.int .i64 0, .int .i64 0, .slice none 0 0, .slice none 0 0, .slice none 0 0] :: segX 28 w.heap.size [.int .i64 0, .int .i64 0, .slice none 0 0, .slice none 0 0, .slice none 0 0] :: ss) := H2
  clear H1
  obtain ⟨o0, o1, o2, o3, o4⟩ := H2.rest.c5 (.head _)
  have f0 := H2.rest.frX (.head _) 0
  go_wp2_with fail
  have H3 : Dec I T W (w2.setCell ⟨w.heap.size + 1, 0, none⟩ (.int .i64 x)) g v n p1 e1 (segX 28 (w.heap.size + 1) [.int .i64 x, .int .i64 0, .slice none 0 0, .slice none 0 0, .slice none 0 0] :: segX 28 w.heap.size [.int .i64 0, .int .i64 0, .slice none 0 0, .slice none 0 0, .slice none 0 0] :: ss) := H2.beside (fun d K => by have h := ((K.front 1 rfl).setX 0 (.int .i64 x)).front 1 rfl; exact h)
  clear H2 o0 o1 o2 o3 o4 f0
  refine (number_any I T W _ g v l n p1 e1 _ H3 HV.out hl'.out).mono ?_
  rw [← S2.out.1, ← S2.out.2.1, ← S2.out.2.2]
  rintro ev w4 ⟨rfl, H4⟩
  replace H4 : Dec I T W w4 g v n p2 e2 (segX 28 (w.heap.size + 1) [.int .i64 x, .int .i64 0, .slice none 0 0, .slice none 0 0, .slice none 0 0] :: segX 28 w.heap.size [.int .i64 0, .int .i64 0, .slice none 0 0, .slice none 0 0, .slice none 0 0] :: ss) := H4
  clear H3
  obtain ⟨o0, o1, o2, o3, o4⟩ := H4.rest.c5 (.head _)
  have f1 := H4.rest.frX (.head _) 1
  go_wp2_with fail
  have H5 : Dec I T W (w4.setCell ⟨w.heap.size + 1, 1, none⟩ (.int .i64 y)) g v n p2 e2 (segX 28 (w.heap.size + 1) [.int .i64 x, .int .i64 y, .slice none 0 0, .slice none 0 0, .slice none 0 0] :: segX 28 w.heap.size [.int .i64 0, .int .i64 0, .slice none 0 0, .slice none 0 0, .slice none 0 0] :: ss) := H4.beside (fun d K => by have h := ((K.front 1 rfl).setX 1 (.int .i64 y)).front 1 rfl; exact h)
  clear H4 o0 o1 o2 o3 o4 f1
  refine (hashRd_any I T W _ g v l n p2 e2 _ H5 HV.out hl'.out B2.out).mono ?_
  rw [← S3.out.1, ← S3.out.2.1, ← S3.out.2.2]
  rintro ev w6 ⟨u6, rfl, H6⟩
  replace H6 : Dec I T W w6 g v n p3 e3 (segB 5 u6 m :: segX 28 (w.heap.size + 1) [.int .i64 x, .int .i64 y, .slice none 0 0, .slice none 0 0, .slice none 0 0] :: segX 28 w.heap.size [.int .i64 0, .int .i64 0, .slice none 0 0, .slice none 0 0, .slice none 0 0] :: ss) := H6
  clear H5
  obtain ⟨A6, c6, rfl⟩ := H6.rest.openB' (.head _)
  obtain ⟨o0, o1, o2, o3, o4⟩ := H6.rest.c5 (.tail _ (.head _))
  have f2 := H6.rest.frX (.tail _ (.head _)) 2
  go_wp2_with fail
  have H7 : Dec I T W (w6.setCell ⟨w.heap.size + 1, 2, none⟩ (.slice A6 m.length c6)) g v n p3 e3 (segX 28 (w.heap.size + 1) [.int .i64 x, .int .i64 y, .slice A6 m.length c6, .slice none 0 0, .slice none 0 0] :: segB 5 (.slice A6 m.length c6) m :: segX 28 w.heap.size [.int .i64 0, .int .i64 0, .slice none 0 0, .slice none 0 0, .slice none 0 0] :: ss) := H6.beside (fun d K => by have h := ((K.front 2 rfl).setX 2 (.slice A6 m.length c6)).front 1 rfl; exact h)
  clear H6 o0 o1 o2 o3 o4 f2
  refine (bits_any I T W _ g v l n p3 e3 _ H7 HV.out HL.out B3.out).mono ?_
  rw [← S4.out.1, ← S4.out.2.1, ← S4.out.2.2]
  rintro ev w8 ⟨u8, rfl, H8⟩
  replace H8 : Dec I T W w8 g v n p4 e4 (segB 5 u8 k :: segX 28 (w.heap.size + 1) [.int .i64 x, .int .i64 y, .slice A6 m.length c6, .slice none 0 0, .slice none 0 0] :: segB 5 (.slice A6 m.length c6) m :: segX 28 w.heap.size [.int .i64 0, .int .i64 0, .slice none 0 0, .slice none 0 0, .slice none 0 0] :: ss) := H8
  clear H7
  obtain ⟨A8, c8, rfl⟩ := H8.rest.openB' (.head _)
  obtain ⟨o0, o1, o2, o3, o4⟩ := H8.rest.c5 (.tail _ (.head _))
  have f3 := H8.rest.frX (.tail _ (.head _)) 3
  go_wp2_with fail
  have H9 : Dec I T W (w8.setCell ⟨w.heap.size + 1, 3, none⟩ (.slice A8 k.length c8)) g v n p4 e4 (segX 28 (w.heap.size + 1) [.int .i64 x, .int .i64 y, .slice A6 m.length c6, .slice A8 k.length c8, .slice none 0 0] :: segB 5 (.slice A8 k.length c8) k :: segB 5 (.slice A6 m.length c6) m :: segX 28 w.heap.size [.int .i64 0, .int .i64 0, .slice none 0 0, .slice none 0 0, .slice none 0 0] :: ss) := H8.beside (fun d K => by have h := ((K.front 2 rfl).setX 3 (.slice A8 k.length c8)).front 1 rfl; exact h)
  clear H8 o0 o1 o2 o3 o4 f3
  refine (implBitsCount_any (.slice A8 k.length c8) k _ (H9.rest.slB 5 (.tail _ (.head _))) (by have := HKL.out; omega)).mono ?_
  rw [HNH.out]
  rintro ev w9 ⟨rfl, hb9⟩
  have H10 : Dec I T W w9 g v n p4 e4 (segX 28 (w.heap.size + 1) [.int .i64 x, .int .i64 y, .slice A6 m.length c6, .slice A8 k.length c8, .slice none 0 0] :: segB 5 (.slice A8 k.length c8) k :: segB 5 (.slice A6 m.length c6) m :: segX 28 w.heap.size [.int .i64 0, .int .i64 0, .slice none 0 0, .slice none 0 0, .slice none 0 0] :: ss) := H9.beside (fun d K => K.up hb9)
  clear H9 hb9
  obtain ⟨o0, o1, o2, o3, o4⟩ := H10.rest.c5 (.head _)
  go_wp2_with fail
  refine (tags_any I T W _ g v l n p4 e4 N _ H10 HV.out HL.out B4.out hN10).mono ?_
  rw [← HT.out]
  rintro ev w11 ⟨u10, row, vs, rfl, hvs, hrd, H11⟩
  dsimp only at hvs H11
  replace H11 : Dec I T W w11 g v n p6 e6 ((row :: rowsS 5 vs L) :: segX 28 (w.heap.size + 1) [.int .i64 x, .int .i64 y, .slice A6 m.length c6, .slice A8 k.length c8, .slice none 0 0] :: segB 5 (.slice A8 k.length c8) k :: segB 5 (.slice A6 m.length c6) m :: segX 28 w.heap.size [.int .i64 0, .int .i64 0, .slice none 0 0, .slice none 0 0, .slice none 0 0] :: ss) := H11
  clear H10 o0 o1 o2 o3 o4
  obtain ⟨A10, c10, rfl⟩ := H11.rest.openT hvs hrd
  have HVS := Lib.hid hvs
  have HRD := Lib.hid hrd
  clear hvs hrd
  obtain ⟨o0, o1, o2, o3, o4⟩ := H11.rest.c5 (.tail _ (.head _))
  have f4 := H11.rest.frX (.tail _ (.head _)) 4
  obtain ⟨r0, r1, r2, r3, r4⟩ := H11.rest.c5 (.tail _ (.tail _ (.tail _ (.tail _ (.head _)))))
  obtain ⟨q0, q1, q2, q3, q4⟩ := H11.rest.f5 (.tail _ (.tail _ (.tail _ (.tail _ (.head _)))))
  have h6 := H11.rest.ltX (.tail _ (.head _))
  have K10 := Lib.hid H11
  clear H11 S1 S2 S3 S4
  go_wp2
  refine bodyPost_ret (v := .agg #[.int .i64 x, .int .i64 y, .slice A6 m.length c6, .slice A8 k.length c8, .slice A10 L.length c10]) (by simp [results, Tryd.results46, go_sem, r0, r1, r2, r3, r4]) rfl ⟨_, _, _, row, vs, rfl, HVS.out, HRD.out, ?_⟩
  exact K10.out.beside (fun d K => by have h := ((((K.front 2 rfl).setX 4 (.slice A10 L.length c10)).front 5 rfl).over5 (.int .i64 x) (.int .i64 y) (.slice A6 m.length c6) (.slice A8 k.length c8) (.slice A10 L.length c10)); exact h.sub (.cons _ (.cons _ (List.Sublist.refl _))))

end Go.Proofs.YtopbalemfljphaaDoor
