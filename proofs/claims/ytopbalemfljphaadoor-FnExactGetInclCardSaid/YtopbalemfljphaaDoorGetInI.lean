/- GetIncl of the program. -/
import Derived.Test.YtopbalemfljphaaDoorInDecMath
import Derived.Test.YtopbalemfljphaaDoorTextRd
import Derived.Test.YtopbalemfljphaaDoorReqO
import Derived.Test.YtopbalemfljphaaDoorGetQcI
import Derived.Test.YtopbalemfljphaaDoorIncl
import Derived.Test.YtopbalemfljphaaDoorGetInP
import Derived.Deep.RegionHeld3
namespace Go.Proofs.YtopbalemfljphaaDoor
open Go.ChangeShapes Go.WideShapes Go.ChangeAt Go.RowKit
set_option linter.unusedSimpArgs false

set_option maxRecDepth 100000 in
set_option maxHeartbeats 2000000 in
/-- text, its decoder cell by cell. -/
theorem textE_any (T : TypeId) (W w : World) (g : Nat) (i0 i1 i2 i3 i4 q m e : Int) (bv v : Value) (l : List UInt8) (ss : List (List Row)) (K0 : InvF W w (segX T g [.int .i64 i0, .int .i64 i1, .int .i64 i2, .int .i64 i3, .int .i64 i4, bv, .int .i64 q, errV e] :: ss)) (hb : e = 0 → bv = v) (hv : Sp W W.heap.size v l) (hl : l.length ≤ 4294967296) :
    Calls Tryd.prog 55 #[.pointer (some ⟨g, 0, none⟩), .int .i64 m] w (fun ev w' => ∃ u, ev = .returned u ∧ InvF W w' (segX T g [.int .i64 i0, .int .i64 i1, .int .i64 i2, .int .i64 i3, .int .i64 i4, bv, .int .i64 (tP l m q e), errV (tE l m q e)] :: segB 5 u (tV l m q e) :: ss)) := by
  by_cases he : e = 0
  · subst he
    obtain rfl := hb rfl
    rw [tV_yes, tP_yes, tE_yes]
    obtain ⟨A, M, rfl, k1⟩ := hv.sl
    clear k1
    have hc := fun W h => readText_any (.slice A l.length M) l q m W h hl
    unfold Fresh3 at hc
    obtain ⟨x, hx⟩ : ∃ r, r = txL l q m := ⟨_, rfl⟩
    obtain ⟨y, hy⟩ : ∃ r, r = txN l q m := ⟨_, rfl⟩
    obtain ⟨z, hz⟩ : ∃ r, r = txE l q m := ⟨_, rfl⟩
    rw [← hx, ← hy, ← hz]
    rw [← hx, ← hy, ← hz] at hc
    have HC := Lib.hid hc
    clear hx hy hz hc
    have HV := Lib.hid hv
    rw [errV_zero] at K0
    have q5 := K0.atX (.head _) 5 rfl
    have q6 := K0.atX (.head _) 6 rfl
    have q7 := K0.atX (.head _) 7 rfl
    have HE := Lib.hid K0.drew1
    clear K0 hv
    by_cases hz : z = 0
    · subst hz
      simp only [errV_zero] at HC
      go_enter Tryd.func55, Tryd.ntmps55
      go_wp2_with fail
      go_region_held3 (fun w' => w'.cell? ⟨g, 5, none⟩ = some (.slice A l.length M) ∧ w'.cell? ⟨g, 6, none⟩ = some (.int .i64 q))
        (first
          | go_keep
          | exact ⟨HE1.out.atX (.head _) 5 rfl, HE1.out.atX (.head _) 6 rfl⟩)
        (first
          | (go_at_call 81; refine (HC.out _ (HV.out.up HE.out.bel)).mono ?_; rintro ev w1 ⟨u, rfl, ho1, hb1⟩; have HE1 := Lib.hid ((HE.out.moreB ho1 hb1).front 1 rfl); clear ho1 hb1))
      have t6 := HE1.out.atX (.head _) 6 rfl
      have t7 := HE1.out.atX (.head _) 7 rfl
      have r6 := HE1.out.frX (.head _) 6
      have r7 := HE1.out.frX (.head _) 7
      clear q5 q6 q7 HE
      go_wp2
      go_ret
      exact ⟨_, rfl, (HE1.out.setX 6 (.int .i64 y)).setX 7 .nilIface⟩
    · simp only [errV_no hz] at HC
      have HN := Lib.hid (errV_no hz)
      clear hz
      go_enter Tryd.func55, Tryd.ntmps55
      go_wp2_with fail
      go_region_held3 (fun w' => w'.cell? ⟨g, 5, none⟩ = some (.slice A l.length M) ∧ w'.cell? ⟨g, 6, none⟩ = some (.int .i64 q))
        (first
          | go_keep
          | exact ⟨HE1.out.atX (.head _) 5 rfl, HE1.out.atX (.head _) 6 rfl⟩)
        (first
          | (go_at_call 81; refine (HC.out _ (HV.out.up HE.out.bel)).mono ?_; rintro ev w1 ⟨u, rfl, ho1, hb1⟩; have HE1 := Lib.hid ((HE.out.moreB ho1 hb1).front 1 rfl); clear ho1 hb1))
      have t6 := HE1.out.atX (.head _) 6 rfl
      have t7 := HE1.out.atX (.head _) 7 rfl
      have r6 := HE1.out.frX (.head _) 6
      have r7 := HE1.out.frX (.head _) 7
      clear q5 q6 q7 HE
      go_wp2
      go_ret
      exact ⟨_, rfl, by rw [HN.out]; exact (HE1.out.setX 6 (.int .i64 y)).setX 7 (.iface 83 (.agg #[.int .i64 z]))⟩
  · rw [tV_no he, tP_no he, tE_no he]
    have HK := Lib.hid ((K0.moreB (E := 5) (v := .slice none 0 0) (l := []) (World.ownsRow_nil _ _ _ _) (Below.refl _ _)).front 1 rfl)
    rw [errV_no he] at K0
    have q7 := K0.atX (.head _) 7 rfl
    clear K0 he hv hb
    go_enter Tryd.func55, Tryd.ntmps55
    go_wp2
    go_ret
    exact ⟨_, rfl, HK.out⟩

set_option maxRecDepth 100000 in
set_option maxHeartbeats 4000000 in
theorem getHashes_any (I : Int × Int × Int × Int) (T : TypeId) (W w : World) (g g2 : Nat) (v : Value) (l : List UInt8) (n p e : Int) (N : Nat) (ss : List (List Row)) (H : Dec I T W w g v n p e (segX 24 g2 (CB [] N) :: [] :: ss)) (hv : Sp W W.heap.size v l) (hl : l.length ≤ 1073741824) (hp : p ≤ 9223372036854775807) (hN : N ≤ 1048576) :
    Calls Tryd.prog 57 #[.slice (some ⟨g2, 0, none⟩) N N, .func (Fn.func 58) #[.pointer (some ⟨g, 0, none⟩)] #[]] w (fun ev w' => ev = .returned (.tuple #[]) ∧ ∃ vs, vs.length = N ∧ Dec I T W w' g v n (tagsAt l p e N).2.1 (tagsAt l p e N).2.2 (segX 24 g2 vs :: rowsS 5 vs (tagsAt l p e N).1 :: ss)) := by
  have HV := Lib.hid hv
  have HP := Lib.hid (tagsAt_hi (l := l) hp (by omega) e)
  have H1 : Hid (Dec I T W w g v n (tagsAt l p e 0).2.1 (tagsAt l p e 0).2.2 (segX 24 g2 (CB [] N) :: rowsS 5 [] (tagsAt l p e 0).1 :: ss)) := Lib.hid H
  clear H hv hp
  go_enter Tryd.func57, Tryd.ntmps57
  go_wp2
  go_loopw [4, 7] (fun _ i wr => ∃ (j : Nat) (vs : List Value), j ≤ N ∧ i = .int .i64 (j : Int) ∧ Hid (vs.length = j) ∧ Hid (Dec I T W wr g v n (tagsAt l p e j).2.1 (tagsAt l p e j).2.2 (segX 24 g2 (CB vs N) :: rowsS 5 vs (tagsAt l p e j).1 :: ss)))
    (fun _ i _ => N - (intOf i).toNat)
  case atStart => exact ⟨0, [], Nat.zero_le _, rfl, Lib.hid rfl, H1⟩
  case round =>
    clear H1
    obtain ⟨j, vs, hj, rfl, hvs, Hj⟩ := hrel
    have hlen : Hid ((tagsAt l p e j).1.length = j) := Lib.hid (tagsAt_len l p e j)
    have hstep : Hid (tagsAt l p e (j + 1) = ((tagsAt l p e j).1 ++ [rV l 32 (tagsAt l p e j).2.1 (tagsAt l p e j).2.2], rP l 32 (tagsAt l p e j).2.1 (tagsAt l p e j).2.2, rE l 32 (tagsAt l p e j).2.1 (tagsAt l p e j).2.2)) := Lib.hid rfl
    have hpj := Lib.hid (HP.out j)
    by_cases hlt : j < N
    · generalize hT : tagsAt l p e j = t at *
      obtain ⟨L, pj, ej⟩ := t
      simp only at hlen hstep hpj Hj
      have HC := Lib.hid (hashRd_any I T W wr g v l n pj ej _ Hj.out HV.out (by omega) hpj.out)
      obtain ⟨r, hr⟩ : ∃ r, r = rV l 32 pj ej := ⟨_, rfl⟩
      obtain ⟨pn, hpn⟩ : ∃ r, r = rP l 32 pj ej := ⟨_, rfl⟩
      obtain ⟨en, hen⟩ : ∃ r, r = rE l 32 pj ej := ⟨_, rfl⟩
      rw [← hr, ← hpn, ← hen] at hstep HC
      clear hr hpn hen hT
      have hjl : (j : Int) < (N : Int) := by omega
      go_wp2_with fail
      refine HC.out.mono ?_
      rintro ev w2 ⟨u, rfl, H2⟩
      obtain ⟨A2, c2, rfl⟩ := H2.rest.openB' (.head _)
      have hat : (CB vs N)[j]? = some (.slice none 0 0) := by rw [← hvs.out]; exact CB_at (by rw [hvs.out]; omega)
      have oj := H2.rest.atX (.tail _ (.head _)) j hat
      have fj := H2.rest.frX (.tail _ (.head _)) j
      have hset : (CB vs N).set j (.slice A2 r.length c2) = CB (vs ++ [.slice A2 r.length c2]) N := by rw [← hvs.out]; exact CB_set _ (by rw [hvs.out]; omega)
      have H3 : Hid (Dec I T W (w2.setCell ⟨g2, j, none⟩ (.slice A2 r.length c2)) g v n pn en (segX 24 g2 (CB (vs ++ [.slice A2 r.length c2]) N) :: rowsS 5 (vs ++ [.slice A2 r.length c2]) (L ++ [r]) :: ss)) := Lib.hid (H2.beside (fun d K => by
        have h := (((K.front 2 rfl).setX j (.slice A2 r.length c2)).front 1 rfl)
        rw [hset] at h
        exact InvF.snocRows2 (by rw [hvs.out, hlen.out]) h))
      clear H2 hat hset HC Hj
      go_wp2
      go_roundw
      case rel => exact ⟨j + 1, vs ++ [.slice A2 r.length c2], by omega, by go_num, Lib.hid (by rw [List.length_append, hvs.out]; rfl), Lib.hid (by rw [hstep.out]; exact H3.out)⟩
      case measure => simp [intOf]; omega
    · obtain rfl : j = N := by omega
      rw [CB_full hvs.out] at Hj
      go_wp2
      go_end0
      exact ⟨rfl, vs, hvs.out, Hj.out⟩

/-- A proof of inclusion has been decoded: its rows and the decoder behind it. -/
def DecInI (I : Int × Int × Int × Int) (T : TypeId) (W : World) (g : Nat) (v : Value) (n : Int) (r : InAt) (ss : List (List Row)) (ev : Ending) (w' : World) : Prop :=
  ∃ t s row vs L p, ev = .returned (.agg #[.int .i64 r.x, .int .i64 r.y, .int .i64 r.z, t, s]) ∧ vs.length = L.length ∧ Reads0 s row vs ∧
    Dec I T W w' g v n p r.e ((row :: rowsS 5 vs L) :: segB 5 t r.t :: ss) ∧ (r.e = 0 → L = r.L ∧ p = r.p)
theorem fE_alike {e c : Int} {a b : Bool} (h : e = 0 → a = b) : fE e a c = fE e b c := by
  by_cases he : e = 0
  · rw [h he]
  · rw [fE_no he, fE_no he]

set_option maxRecDepth 100000 in
set_option maxHeartbeats 8000000 in
theorem incl_any (b c d f : Int) (T : TypeId) (W w : World) (g : Nat) (v : Value) (l : List UInt8) (n p e0 : Int) (ss : List (List Row)) (H : Dec (b, c, d, f) T W w g v n p e0 ss) (hv : Sp W W.heap.size v l) (hl : l.length ≤ 1073741824) (hp : p ≤ 9223372036854775807) :
    Calls Tryd.prog 31 #[.pointer (some ⟨g, 0, none⟩)] w (DecInI (b, c, d, f) T W g v n (inAt l b c p e0) ss) := by
  have hmf : ∀ (fn : Fn) (first cap : Array Value) (w : World), (Instr.makeFunc fn first cap).run Tryd.prog w = .ok (.func fn first cap) w := fun _ _ _ _ => rfl
  obtain ⟨i9, hi, hz0, hz1, hz2⟩ := info_parts sbinfo
  obtain ⟨x, hx⟩ : ∃ x, x = nV l p e0 := ⟨_, rfl⟩
  obtain ⟨p1, hp1⟩ : ∃ x, x = nP l p e0 := ⟨_, rfl⟩
  obtain ⟨e1, he1⟩ : ∃ x, x = nE l p e0 := ⟨_, rfl⟩
  obtain ⟨y, hy⟩ : ∃ x, x = nV l p1 e1 := ⟨_, rfl⟩
  obtain ⟨p2, hp2⟩ : ∃ x, x = nP l p1 e1 := ⟨_, rfl⟩
  obtain ⟨f2, hf2⟩ : ∃ x, x = nE l p1 e1 := ⟨_, rfl⟩
  obtain ⟨g2, hg2⟩ : ∃ x, x = fE f2 (!(y == 0)) 5 := ⟨_, rfl⟩
  obtain ⟨e2, he2⟩ : ∃ x, x = fE g2 (decide (y ≤ c)) 3 := ⟨_, rfl⟩
  obtain ⟨z, hz⟩ : ∃ x, x = nV l p2 e2 := ⟨_, rfl⟩
  obtain ⟨p3, hp3⟩ : ∃ x, x = nP l p2 e2 := ⟨_, rfl⟩
  obtain ⟨f3, hf3⟩ : ∃ x, x = nE l p2 e2 := ⟨_, rfl⟩
  obtain ⟨e3, he3⟩ : ∃ x, x = fE f3 (decide (z < y)) 5 := ⟨_, rfl⟩
  obtain ⟨t, ht⟩ : ∃ x, x = tV l b p3 e3 := ⟨_, rfl⟩
  obtain ⟨p4, hp4⟩ : ∃ x, x = tP l b p3 e3 := ⟨_, rfl⟩
  obtain ⟨e4, he4⟩ : ∃ x, x = tE l b p3 e3 := ⟨_, rfl⟩
  have hr : inAt l b c p e0 = inRest l x y z t p4 e4 := by
    unfold inAt
    simp only [← hx, ← hp1, ← he1, ← hy, ← hp2, ← hf2, ← hg2, ← he2, ← hz, ← hp3, ← hf3, ← he3, ← ht, ← hp4, ← he4]
  rw [hr]
  obtain ⟨R, hR⟩ : ∃ R, R = inRest l x y z t p4 e4 := ⟨_, rfl⟩
  rw [← hR]
  have b1 : p1 ≤ 9223372036854775807 := by rw [hp1]; exact nP_hi hp (by omega) _
  have b2 : p2 ≤ 9223372036854775807 := by rw [hp2]; exact nP_hi b1 (by omega) _
  have b3 : p3 ≤ 9223372036854775807 := by rw [hp3]; exact nP_hi b2 (by omega) _
  have b4 : p4 ≤ 9223372036854775807 := by rw [hp4]; exact tP_hi b3 (by omega) _ _
  have B4 := Lib.hid b4
  have hpl0 : 0 ≤ plenZ z y := plenZ_lo z y
  have hpl1 : plenZ z y ≤ 1048576 := (plenZ_le z y).1
  obtain ⟨N, hN⟩ : ∃ N : Nat, plenZ z y = (N : Int) := ⟨(plenZ z y).toNat, by omega⟩
  have hN1 : N ≤ 1048576 := by omega
  have CP : Hid (∀ W, Calls Tryd.prog 56 #[.int .i64 z, .int .i64 y] W (fun e w' => e = .returned (.int .i64 (N : Int)) ∧ Below W.heap.size W w')) := Lib.hid (by rw [← hN]; exact fun W => implPathLen_any z y W)
  have hRe : R = if e4 = 0 then ⟨x, y, z, t, (tagsAt l p4 0 N).1, (tagsAt l p4 0 N).2.1, (tagsAt l p4 0 N).2.2⟩ else ⟨x, y, z, t, [], p4, e4⟩ := by rw [hR]; unfold inRest; rw [hN]; rfl
  have HRX : Hid (R.x = x ∧ R.y = y ∧ R.z = z ∧ R.t = t) := Lib.hid (by rw [hRe]; split <;> exact ⟨rfl, rfl, rfl, rfl⟩)
  have HRF : Hid (∀ L p6 e6, tagsAt l p4 e4 N = (L, p6, e6) → R.e = e6 ∧ (e6 = 0 → L = R.L ∧ p6 = R.p)) := Lib.hid (fun L p6 e6 h => by
    by_cases h4 : e4 = 0
    · subst h4
      rw [hRe, if_pos rfl, h]
      exact ⟨rfl, fun _ => ⟨rfl, rfl⟩⟩
    · have k := tagsAt_err (l := l) (p := p4) (e := e4) (j := 0) h4 N
      rw [Nat.zero_add, h] at k
      have k2 : e6 = e4 := k
      rw [hRe, if_neg h4]
      exact ⟨k2.symm, fun h => absurd (k2.symm.trans h) h4⟩)
  have S1 := Lib.hid (And.intro hx (And.intro hp1 he1))
  have S2 := Lib.hid (And.intro hy (And.intro hp2 hf2))
  have G2 := Lib.hid hg2
  have E2 := Lib.hid he2
  have S3 := Lib.hid (And.intro hz (And.intro hp3 hf3))
  have E3 := Lib.hid he3
  have S4 := Lib.hid (And.intro ht (And.intro hp4 he4))
  have HV := Lib.hid hv
  have HL := Lib.hid hl
  have hl' := Lib.hid (show l.length ≤ 4294967296 by omega)
  have hby : i9.bytes * N ≤ 281474976710656 := by rw [hz2]; omega
  have hml : N ≤ maxLen := by unfold maxLen; omega
  clear hr hR hRe hx hp1 he1 hy hp2 hf2 hg2 he2 hz hp3 hf3 he3 ht hp4 he4 b1 b2 b3 b4 hv hp hl hpl0 hpl1 hN
  have Ha : Dec (b, c, d, f) T W _ g v n p e0 (segX 42 w.heap.size [.int .i64 0, .int .i64 0, .int .i64 0, .slice none 0 0, .slice none 0 0] :: ss) := H.beside (fun d K => (K.newG 42 #[.int .i64 0, .int .i64 0, .int .i64 0, .slice none 0 0, .slice none 0 0] w.heap.size rfl).front 1 rfl)
  have H1 : Dec (b, c, d, f) T W _ g v n p e0 (segX 42 (w.heap.size + 1) [.int .i64 0, .int .i64 0, .int .i64 0, .slice none 0 0, .slice none 0 0] :: segX 42 w.heap.size [.int .i64 0, .int .i64 0, .int .i64 0, .slice none 0 0, .slice none 0 0] :: ss) := Ha.beside (fun d K => (K.newG 42 #[.int .i64 0, .int .i64 0, .int .i64 0, .slice none 0 0, .slice none 0 0] (w.heap.size + 1)).front 1 rfl)
  clear Ha H
  go_enter Tryd.func31, Tryd.ntmps31
  go_wp2_with fail
  refine (number_any (b, c, d, f) T W _ g v l n p e0 _ H1 HV.out hl'.out).mono ?_
  rw [← S1.out.1, ← S1.out.2.1, ← S1.out.2.2]
  rintro ev w2 ⟨rfl, H2⟩
  replace H2 : Dec (b, c, d, f) T W w2 g v n p1 e1 (segX 42 (w.heap.size + 1) [.int .i64 0, .int .i64 0, .int .i64 0, .slice none 0 0, .slice none 0 0] :: segX 42 w.heap.size [.int .i64 0, .int .i64 0, .int .i64 0, .slice none 0 0, .slice none 0 0] :: ss) := H2
  clear H1
  obtain ⟨o0, o1, o2, o3, o4⟩ := H2.rest.c5 (.head _)
  have fr := H2.rest.frX (.head _) 0
  go_wp2_with fail
  have H3 : Dec (b, c, d, f) T W (w2.setCell ⟨w.heap.size + 1, 0, none⟩ (.int .i64 x)) g v n p1 e1 (segX 42 (w.heap.size + 1) [.int .i64 x, .int .i64 0, .int .i64 0, .slice none 0 0, .slice none 0 0] :: segX 42 w.heap.size [.int .i64 0, .int .i64 0, .int .i64 0, .slice none 0 0, .slice none 0 0] :: ss) := H2.beside (fun d K => by have h := ((K.front 1 rfl).setX 0 (.int .i64 x)).front 1 rfl; exact h)
  clear H2 o0 o1 o2 o3 o4 fr
  refine (number_any (b, c, d, f) T W _ g v l n p1 e1 _ H3 HV.out hl'.out).mono ?_
  rw [← S2.out.1, ← S2.out.2.1, ← S2.out.2.2]
  rintro ev w4 ⟨rfl, H4⟩
  replace H4 : Dec (b, c, d, f) T W w4 g v n p2 f2 (segX 42 (w.heap.size + 1) [.int .i64 x, .int .i64 0, .int .i64 0, .slice none 0 0, .slice none 0 0] :: segX 42 w.heap.size [.int .i64 0, .int .i64 0, .int .i64 0, .slice none 0 0, .slice none 0 0] :: ss) := H4
  clear H3
  obtain ⟨o0, o1, o2, o3, o4⟩ := H4.rest.c5 (.head _)
  have fr := H4.rest.frX (.head _) 1
  have H5 : Dec (b, c, d, f) T W (w4.setCell ⟨w.heap.size + 1, 1, none⟩ (.int .i64 y)) g v n p2 f2 (segX 42 (w.heap.size + 1) [.int .i64 x, .int .i64 y, .int .i64 0, .slice none 0 0, .slice none 0 0] :: segX 42 w.heap.size [.int .i64 0, .int .i64 0, .int .i64 0, .slice none 0 0, .slice none 0 0] :: ss) := H4.beside (fun d K => by have h := ((K.front 1 rfl).setX 1 (.int .i64 y)).front 1 rfl; exact h)
  have HE := Lib.hid (H5.beside (fun d K => K.drew1))
  have s1 := H5.rest.atX (.head _) 1 rfl
  have HK := Lib.hid (HE.out.rest.atX (.head _) 1 rfl)
  go_wp2_with fail
  clear H4 H5 s1 o0 o1 o2 o3 o4 fr
  go_region_held3 (fun w' => w'.cell? ⟨w.heap.size + 1, 1, none⟩ = some (.int .i64 y))
    (first
      | exact HK.out
      | exact HK6.out)
    (first
      | (go_at_call 47; refine (require_any (b, c, d, f) T W _ g v n p2 f2 (!(y == 0)) _ HE.out).mono ?_; rw [← G2.out]; rintro ev w5 ⟨rfl, H6⟩; have HE6 := Lib.hid H6; have HK6 := Lib.hid (H6.rest.atX (.head _) 1 rfl); clear H6))
  have H6 : Dec (b, c, d, f) T W w5 g v n p2 g2 (segX 42 (w.heap.size + 1) [.int .i64 x, .int .i64 y, .int .i64 0, .slice none 0 0, .slice none 0 0] :: segX 42 w.heap.size [.int .i64 0, .int .i64 0, .int .i64 0, .slice none 0 0, .slice none 0 0] :: ss) := HE6.out
  clear HE HK HE6 HK6
  obtain ⟨i0, i1, i2, i3, i4, bb, qq, K0, hqq⟩ := H6
  have hE2 : fE g2 (decide (y ≤ i2)) 3 = e2 := by
    rw [E2.out]
    refine fE_alike (fun h => ?_)
    have := (hqq h).2.2.2
    simp only [Prod.mk.injEq] at this
    rw [this.2.1]
  have HE2 := Lib.hid hE2
  have HQQ : Hid (e2 = 0 → bb = v ∧ qq = p2 ∧ i0 = n ∧ (b, c, d, f) = (i1, i2, i3, i4)) := Lib.hid (fun h => hqq (in_fE (by decide) (E2.out.symm.trans h)).1)
  clear hE2 hqq
  have q2 := K0.atX (.head _) 2 rfl
  have s1 := K0.atX (.tail _ (.head _)) 1 rfl
  have HD := Lib.hid K0.drew1
  have HK := Lib.hid (And.intro (HD.out.atX (.tail _ (.head _)) 1 rfl) (HD.out.atX (.head _) 2 rfl))
  clear K0
  go_wp2_with fail
  clear q2 s1
  go_region_held3 (fun w' => w'.cell? ⟨w.heap.size + 1, 1, none⟩ = some (.int .i64 y) ∧ w'.cell? ⟨g, 2, none⟩ = some (.int .i64 i2))
    (first
      | exact HK.out
      | exact HK7.out)
    (first
      | (go_at_call 47; refine (requireO_any T W _ g i0 i1 i2 i3 i4 qq g2 3 bb (decide (y ≤ i2)) (by decide) _ HD.out).mono ?_; rintro ev w6 ⟨rfl, K1⟩; have HE1 := Lib.hid K1; have HK7 := Lib.hid (And.intro (K1.atX (.tail _ (.head _)) 1 rfl) (K1.atX (.head _) 2 rfl)); clear K1))
  have K2 := HE1.out
  rw [HE2.out] at K2
  have H7 : Dec (b, c, d, f) T W w6 g v n p2 e2 (segX 42 (w.heap.size + 1) [.int .i64 x, .int .i64 y, .int .i64 0, .slice none 0 0, .slice none 0 0] :: segX 42 w.heap.size [.int .i64 0, .int .i64 0, .int .i64 0, .slice none 0 0, .slice none 0 0] :: ss) := ⟨i0, i1, i2, i3, i4, bb, qq, K2, HQQ.out⟩
  clear HE1 HD HK HK7 K2 HE2 HQQ
  go_wp2_with fail
  refine (number_any (b, c, d, f) T W _ g v l n p2 e2 _ H7 HV.out hl'.out).mono ?_
  rw [← S3.out.1, ← S3.out.2.1, ← S3.out.2.2]
  rintro ev w7 ⟨rfl, H8⟩
  replace H8 : Dec (b, c, d, f) T W w7 g v n p3 f3 (segX 42 (w.heap.size + 1) [.int .i64 x, .int .i64 y, .int .i64 0, .slice none 0 0, .slice none 0 0] :: segX 42 w.heap.size [.int .i64 0, .int .i64 0, .int .i64 0, .slice none 0 0, .slice none 0 0] :: ss) := H8
  clear H7
  obtain ⟨o0, o1, o2, o3, o4⟩ := H8.rest.c5 (.head _)
  have fr := H8.rest.frX (.head _) 2
  have H9 : Dec (b, c, d, f) T W (w7.setCell ⟨w.heap.size + 1, 2, none⟩ (.int .i64 z)) g v n p3 f3 (segX 42 (w.heap.size + 1) [.int .i64 x, .int .i64 y, .int .i64 z, .slice none 0 0, .slice none 0 0] :: segX 42 w.heap.size [.int .i64 0, .int .i64 0, .int .i64 0, .slice none 0 0, .slice none 0 0] :: ss) := H8.beside (fun d K => by have h := ((K.front 1 rfl).setX 2 (.int .i64 z)).front 1 rfl; exact h)
  have HE := Lib.hid (H9.beside (fun d K => K.drew1))
  have s1 := H9.rest.atX (.head _) 1 rfl
  have s2 := H9.rest.atX (.head _) 2 rfl
  have HK := Lib.hid (And.intro (HE.out.rest.atX (.head _) 2 rfl) (HE.out.rest.atX (.head _) 1 rfl))
  go_wp2_with fail
  clear H8 H9 s1 s2 o0 o1 o2 o3 o4 fr
  go_region_held3 (fun w' => w'.cell? ⟨w.heap.size + 1, 2, none⟩ = some (.int .i64 z) ∧ w'.cell? ⟨w.heap.size + 1, 1, none⟩ = some (.int .i64 y))
    (first
      | exact HK.out
      | exact HK6.out)
    (first
      | (go_at_call 47; refine (require_any (b, c, d, f) T W _ g v n p3 f3 (decide (z < y)) _ HE.out).mono ?_; rw [← E3.out]; rintro ev w8 ⟨rfl, H6⟩; have HE6 := Lib.hid H6; have HK6 := Lib.hid (And.intro (H6.rest.atX (.head _) 2 rfl) (H6.rest.atX (.head _) 1 rfl)); clear H6))
  have H10 : Dec (b, c, d, f) T W w8 g v n p3 e3 (segX 42 (w.heap.size + 1) [.int .i64 x, .int .i64 y, .int .i64 z, .slice none 0 0, .slice none 0 0] :: segX 42 w.heap.size [.int .i64 0, .int .i64 0, .int .i64 0, .slice none 0 0, .slice none 0 0] :: ss) := HE6.out
  clear HE HK HE6 HK6
  obtain ⟨i0, i1, i2, i3, i4, bb, qq, K0, hqq⟩ := H10
  have hI : e3 = 0 → bb = v ∧ qq = p3 ∧ i0 = n ∧ (b, c, d, f) = (i1, i2, i3, i4) ∧ b = i1 := fun h => by
    have h4 := hqq h
    refine ⟨h4.1, h4.2.1, h4.2.2.1, h4.2.2.2, ?_⟩
    have := h4.2.2.2
    simp only [Prod.mk.injEq] at this
    exact this.1
  clear hqq
  obtain ⟨tq, htq⟩ : ∃ x, x = tP l i1 qq e3 := ⟨_, rfl⟩
  have hTE : tV l i1 qq e3 = t ∧ tE l i1 qq e3 = e4 ∧ (e4 = 0 → tq = p4) := by
    rw [S4.out.1, S4.out.2.2, S4.out.2.1]
    by_cases he : e3 = 0
    · obtain ⟨_, k2, _, _, k5⟩ := hI he
      rw [htq, k2, k5]
      exact ⟨rfl, rfl, fun _ => rfl⟩
    · rw [tV_no he, tE_no he, tV_no he, tE_no he]
      exact ⟨rfl, rfl, fun h => absurd h he⟩
  have HC : Hid (∀ w', InvF W w' (segX T g [.int .i64 i0, .int .i64 i1, .int .i64 i2, .int .i64 i3, .int .i64 i4, bb, .int .i64 qq, errV e3] :: segX 42 (w.heap.size + 1) [.int .i64 x, .int .i64 y, .int .i64 z, .slice none 0 0, .slice none 0 0] :: segX 42 w.heap.size [.int .i64 0, .int .i64 0, .int .i64 0, .slice none 0 0, .slice none 0 0] :: ss) → Calls Tryd.prog 55 #[.pointer (some ⟨g, 0, none⟩), .int .i64 i1] w' (fun ev w'' => ∃ u, ev = .returned u ∧ InvF W w'' (segX T g [.int .i64 i0, .int .i64 i1, .int .i64 i2, .int .i64 i3, .int .i64 i4, bb, .int .i64 tq, errV e4] :: segB 5 u t :: segX 42 (w.heap.size + 1) [.int .i64 x, .int .i64 y, .int .i64 z, .slice none 0 0, .slice none 0 0] :: segX 42 w.heap.size [.int .i64 0, .int .i64 0, .int .i64 0, .slice none 0 0, .slice none 0 0] :: ss))) := Lib.hid (fun w' h => by
    have h9 := textE_any T W w' g i0 i1 i2 i3 i4 qq i1 e3 bb v l _ h (fun h => (hI h).1) HV.out hl'.out
    rw [hTE.1, hTE.2.1, ← htq] at h9
    exact h9)
  have HTQ := Lib.hid hTE.2.2
  have HQ4 : Hid (e4 = 0 → bb = v ∧ tq = p4 ∧ i0 = n ∧ (b, c, d, f) = (i1, i2, i3, i4)) := Lib.hid (fun h => by
    have h3 : e3 = 0 := in_tE (l := l) (m := b) (p := p3) (by rw [← S4.out.2.2]; exact h)
    obtain ⟨k1, k2, k3, k4, _⟩ := hI h3
    exact ⟨k1, hTE.2.2 h, k3, k4⟩)
  clear hI htq hTE
  have q1 := K0.atX (.head _) 1 rfl
  have HD := Lib.hid K0.drew1
  have HK := Lib.hid (HD.out.atX (.head _) 1 rfl)
  clear K0
  go_wp2_with fail
  clear q1
  go_region_held3 (fun w' => w'.cell? ⟨g, 1, none⟩ = some (.int .i64 i1))
    (first
      | exact HK.out
      | exact HK7.out
      | exact HK8.out)
    (first
      | (go_at_call 55; refine (HC.out _ HD.out).mono ?_; rintro ev w9 ⟨u9, rfl, K1⟩; obtain ⟨A9, c9, rfl⟩ := K1.openB' (.tail _ (.head _)); have HE1 := Lib.hid K1; have HK7 := Lib.hid (K1.atX (.head _) 1 rfl); have o3 := K1.atX (.tail _ (.tail _ (.head _))) 3 rfl; have fr3 := K1.frX (.tail _ (.tail _ (.head _))) 3; have h3 := K1.ltX (.tail _ (.tail _ (.head _))); have HE2 := Lib.hid (((K1.front 2 rfl).setX 3 (.slice A9 t.length c9)).front 1 rfl); have HK8 := Lib.hid (HE2.out.atX (.head _) 1 rfl); clear K1))
  have D11 : Dec (b, c, d, f) T W (w9.setCell ⟨w.heap.size + 1, 3, none⟩ (.slice A9 t.length c9)) g v n p4 e4 (segX 42 (w.heap.size + 1) [.int .i64 x, .int .i64 y, .int .i64 z, .slice A9 t.length c9, .slice none 0 0] :: segB 5 (.slice A9 t.length c9) t :: segX 42 w.heap.size [.int .i64 0, .int .i64 0, .int .i64 0, .slice none 0 0, .slice none 0 0] :: ss) := ⟨i0, i1, i2, i3, i4, bb, tq, HE2.out, HQ4.out⟩
  clear HE1 HE2 HK HK7 HK8 HD HC o3 fr3 h3 HQ4 HTQ
  obtain ⟨o0, o1, o2, o3, o4⟩ := D11.rest.c5 (.head _)
  go_wp2_with fail
  refine (CP.out _).mono ?_
  rintro ev w12 ⟨rfl, hb12⟩
  have D12 : Dec (b, c, d, f) T W w12 g v n p4 e4 (segX 42 (w.heap.size + 1) [.int .i64 x, .int .i64 y, .int .i64 z, .slice A9 t.length c9, .slice none 0 0] :: segB 5 (.slice A9 t.length c9) t :: segX 42 w.heap.size [.int .i64 0, .int .i64 0, .int .i64 0, .slice none 0 0, .slice none 0 0] :: ss) := D11.beside (fun d K => K.up hb12)
  clear D11 hb12 o0 o1 o2 o3 o4 CP
  go_wp2_with (at_make; refine wpList_make_full _ rfl _ _ _ rfl w12.heap.size 24 i9 (.slice none 0 0) 1 Tryd.underlying99 hi hz0 hz1 .i64 .i64 _ _ N rfl rfl rfl rfl hby hml (Nat.le_refl _) ?_; intro w13 hown13 hg13)
  have D13 : Dec (b, c, d, f) T W w13 g v n p4 e4 (segX 24 w12.heap.size (CB [] N) :: [] :: segX 42 (w.heap.size + 1) [.int .i64 x, .int .i64 y, .int .i64 z, .slice A9 t.length c9, .slice none 0 0] :: segB 5 (.slice A9 t.length c9) t :: segX 42 w.heap.size [.int .i64 0, .int .i64 0, .int .i64 0, .slice none 0 0, .slice none 0 0] :: ss) := D12.beside (fun d K => by
    have hb4 : Below w12.heap.size w12 w13 := (Below.refl _ _).grown hg13 (Nat.le_refl _) (by simp)
    have k1 := K.more (s := segX 24 w12.heap.size (CB [] N)) ((InvG.start w12).moreG (p := (24, .slice (some ⟨w12.heap.size, 0, none⟩) (CB [] N).length (CB [] N).length, CB [] N)) (by
      unfold GOwn
      simp only
      rw [CB_length (Nat.zero_le _), CB_nil]
      have e : (madeCells (Value.slice none 0 0).cells (N * 1)).toList = List.replicate N (.slice none 0 0) := by rw [Nat.mul_one]; exact toList_madeCells_one _ _
      rw [← e]
      exact hown13) hb4)
    have k2 := k1.front 1 rfl
    unfold InvF at k2 ⊢
    simpa using k2)
  clear D12 hown13 hg13
  refine (getHashes_any (b, c, d, f) T W _ g w12.heap.size v l n p4 e4 N _ D13 HV.out HL.out B4.out hN1).mono ?_
  rintro ev w14 ⟨rfl, vs, hvs, D14⟩
  clear D13
  have hlen := tagsAt_len l p4 e4 N
  have hrf := HRF.out
  obtain ⟨tt, htt⟩ : ∃ tt, tt = tagsAt l p4 e4 N := ⟨_, rfl⟩
  rw [← htt] at D14 hlen hrf
  clear htt
  obtain ⟨L, p6, e6⟩ := tt
  have HF := Lib.hid (hrf L p6 e6 rfl)
  have HLN : Hid (vs.length = L.length) := Lib.hid (hvs.trans hlen.symm)
  have hrd := reads0_box (T := 24) (g := w12.heap.size) (n := N) (xs := vs) (by omega) hml
  rw [List.take_of_length_le (by omega)] at hrd
  have HRD := Lib.hid hrd
  clear hrf hlen hvs hrd HRF
  dsimp only at D14
  obtain ⟨o0, o1, o2, o3, o4⟩ := D14.rest.c5 (.tail _ (.tail _ (.head _)))
  have fr := D14.rest.frX (.tail _ (.tail _ (.head _))) 4
  have h6 := D14.rest.ltX (.tail _ (.tail _ (.head _)))
  obtain ⟨r0, r1, r2, r3, r4⟩ := D14.rest.c5 (.tail _ (.tail _ (.tail _ (.tail _ (.head _)))))
  obtain ⟨q0, q1, q2, q3, q4⟩ := D14.rest.f5 (.tail _ (.tail _ (.tail _ (.tail _ (.head _)))))
  have K14 := Lib.hid D14
  clear D14 S1 S2 S3 S4 G2 E2 E3
  go_wp2
  refine bodyPost_ret (v := .agg #[.int .i64 x, .int .i64 y, .int .i64 z, .slice A9 t.length c9, .slice (some ⟨w12.heap.size, 0, none⟩) N N]) (by simp [results, Tryd.results31, go_sem, r0, r1, r2, r3, r4]) rfl ⟨_, _, _, vs, L, p6, by rw [HRX.out.1, HRX.out.2.1, HRX.out.2.2.1], HLN.out, HRD.out, ?_, fun h => HF.out.2 (HF.out.1.symm.trans h)⟩
  rw [HRX.out.2.2.2, HF.out.1]
  refine K14.out.beside (fun d K => ?_)
  have h := (((K.front 3 rfl).setX 4 (.slice (some ⟨w12.heap.size, 0, none⟩) N N)).front 5 rfl).over5 (.int .i64 x) (.int .i64 y) (.int .i64 z) (.slice A9 t.length c9) (.slice (some ⟨w12.heap.size, 0, none⟩) N N)
  exact InvF.joinRows2 (h.sub (.cons _ (.cons _ (List.Sublist.refl _))))

set_option maxRecDepth 100000 in
set_option maxHeartbeats 4000000 in
theorem implGetIncl_any (a b c d e p : Int) (v : Value) (l : List UInt8) (w : World) (hv : Sp w w.heap.size v l) (hl : l.length ≤ 1073741824) (hp : p ≤ 9223372036854775807) (hg : ErrT w) :
    Calls Tryd.prog 15 #[.agg #[.int .i64 a, .int .i64 b, .int .i64 c, .int .i64 d, .int .i64 e], v, .int .i64 p] w (GotIn w (inAt l b c p (limE a b c d e))) := by
  have HV := Lib.hid hv
  have HG := Lib.hid hg
  have HP := Lib.hid hp
  have HL := Lib.hid hl
  obtain ⟨A, n, rfl, k1⟩ := hv.sl
  clear k1 hv hg hp
  have c0 := fun W h => decoderAt_any a b c d e p (.slice A l.length n) W l h
  obtain ⟨e0, he0⟩ : ∃ e0, e0 = limE a b c d e := ⟨_, rfl⟩
  rw [← he0] at c0 ⊢
  have C0 := Lib.hid c0
  clear c0 he0
  obtain ⟨r, hr⟩ : ∃ r, r = inAt l b c p e0 := ⟨_, rfl⟩
  rw [← hr]
  have HR := Lib.hid hr
  clear hr
  obtain ⟨x, y, z, t, L, p6, e6⟩ := r
  have H0 := ((InvF.start w).newG 33 #[.int .i64 a, .int .i64 b, .int .i64 c, .int .i64 d, .int .i64 e] w.heap.size).newG 42 #[.int .i64 0, .int .i64 0, .int .i64 0, .slice none 0 0, .slice none 0 0] (w.heap.size + 1)
  go_enter Tryd.func15, Tryd.ntmps15
  go_wp2_with fail
  refine (C0.out _ (HV.out.up H0.bel).sl).mono ?_
  rintro ev w1 ⟨i0, i1, i2, i3, i4, B, n1, m1, q, rfl, hq, hb1⟩
  have H1 := H0.up hb1
  clear H0 hb1 C0
  have HQ := Lib.hid hq
  clear hq
  have hst := fun (W : World) (a : Addr) (m : Mode) => run_store Tryd.prog W a (errV e0) m (errV_cell e0)
  have hst2 : ∀ (W : World) (a : Addr) (m : Mode), (store a (errV e0) m).run Tryd.prog W = stored Tryd.prog W a (errV e0) m := hst
  clear hst
  go_wp2_with fail
  have H2 := H1.newX 70 #[.int .i64 i0, .int .i64 i1, .int .i64 i2, .int .i64 i3, .int .i64 i4, .slice B n1 m1, .int .i64 q, errV e0]
  clear H1
  have D2 : Dec (b, c, d, e) 70 w _ w1.heap.size (.slice A l.length n) a p e0 [segX 42 (w.heap.size + 1) [.int .i64 0, .int .i64 0, .int .i64 0, .slice none 0 0, .slice none 0 0], segX 33 w.heap.size [.int .i64 a, .int .i64 b, .int .i64 c, .int .i64 d, .int .i64 e]] := ⟨_, _, _, _, _, _, _, H2, HQ.out⟩
  clear H2 HQ
  refine (incl_any b c d e 70 w _ w1.heap.size _ l a p e0 _ D2 HV.out HL.out HP.out).mono ?_
  rw [← HR.out]
  clear D2
  rintro ev w3 ⟨u, s, row, vs, M, p7, rfl, hvs, hrd, D3, hlp⟩
  dsimp only at hvs D3 hlp ⊢
  have HLP := Lib.hid hlp
  clear hlp
  obtain ⟨A3, c3, rfl⟩ := D3.rest.openB' (.tail _ (.head _))
  obtain ⟨A3'', c3'', rfl⟩ := D3.rest.openT hvs hrd
  have HVS := Lib.hid hvs
  have HRD := Lib.hid hrd
  clear hvs hrd
  obtain ⟨j0, j1, j2, j3, j4, bb, qq, K3, hqq⟩ := D3
  have K4 := K3.newX 42 #[.int .i64 x, .int .i64 y, .int .i64 z, .slice A3 t.length c3, .slice A3'' M.length c3'']
  have q7 := K4.atX (.tail _ (.head _)) 7 rfl
  have q6 := K4.atX (.tail _ (.head _)) 6 rfl
  clear K3
  by_cases he : e6 = 0
  · obtain ⟨hL, hp7⟩ := HLP.out he
    subst hL hp7 he
    have HY := Lib.hid (fun ev w' => goti_yes (w := w) (r := ⟨x, y, z, t, M, p7, 0⟩) (e := ev) (w' := w') rfl)
    obtain rfl := (hqq rfl).2.1
    rw [errV_zero] at q7
    clear hqq
    go_wp2_with fail
    clear q7 q6
    generalize w3.alloc (.cells #[.int .i64 x, .int .i64 y, .int .i64 z, .slice A3 t.length c3, .slice A3'' M.length c3''] 42) = w4 at *
    have K14 := Lib.hid (((K4.front 4 rfl).over5 (.int .i64 x) (.int .i64 y) (.int .i64 z) (.slice A3 t.length c3) (.slice A3'' M.length c3'')).drew1)
    have L13 := Lib.hid (And.intro (K4.drew1.atX (.tail _ (.head _)) 6 rfl) (K4.drew1.c5 (.head _)))
    have L14 := Lib.hid (And.intro (K14.out.atX (.tail _ (.tail _ (.head _))) 6 rfl) (K14.out.c5 (.tail _ (.head _))))
    obtain ⟨r0, r1, r2, r3, r4⟩ := K4.c5 (.tail _ (.tail _ (.tail _ (.tail _ (.head _)))))
    obtain ⟨f0, f1, f2, f3, f4⟩ := K4.f5 (.tail _ (.tail _ (.tail _ (.tail _ (.head _)))))
    obtain ⟨k0, k1, k2, k3, k4⟩ := K14.out.c5 (.head _)
    clear K4 hst2 HV HG HP HR
    go_region_held3 (fun w' => w'.cell? ⟨w1.heap.size, 6, none⟩ = some (.int .i64 qq) ∧ w'.cell? ⟨w3.heap.size, 0, none⟩ = some (.int .i64 x) ∧ w'.cell? ⟨w3.heap.size, 1, none⟩ = some (.int .i64 y) ∧ w'.cell? ⟨w3.heap.size, 2, none⟩ = some (.int .i64 z) ∧ w'.cell? ⟨w3.heap.size, 3, none⟩ = some (.slice A3 t.length c3) ∧ w'.cell? ⟨w3.heap.size, 4, none⟩ = some (.slice A3'' M.length c3''))
      (first
        | with_reducible exact L13.out
        | with_reducible exact L14.out)
      (fail)
    go_wp2_with fail
    refine bodyPost_ret (v := .tuple #[.agg #[.int .i64 x, .int .i64 y, .int .i64 z, .slice A3 t.length c3, .slice A3'' M.length c3''], .int .i64 qq, .int .i64 0]) (by simp [results, Tryd.results15, go_sem, k0, k1, k2, k3, k4]) rfl (HY.out _ _ ⟨_, _, row, vs, rfl, HVS.out, HRD.out, ?_⟩)
    exact ((K14.out.sub (qs := [row :: rowsS 5 vs M, segB 5 (.slice A3 t.length c3) t]) (.cons _ (.cons _ (.cons _ (.cons_cons _ (.cons_cons _ (.cons _ .slnil))))))).front 1 rfl)
  · have HN := Lib.hid (fun ev w' => goti_no (w := w) (r := ⟨x, y, z, t, L, p6, e6⟩) (e := ev) (w' := w') he)
    have HB := Lib.hid (fun W h => codeOf_err e6 W h)
    rw [errV_no he] at q7
    clear he hqq
    go_wp2_with fail
    refine (HB.out _ (HG.out.up K4.bel)).mono ?_
    rintro ev w5 ⟨rfl, hb5⟩
    have K5 := K4.up hb5
    clear K4 q7 q6 hb5 HB
    obtain ⟨r0, r1, r2, r3, r4⟩ := K5.c5 (.tail _ (.tail _ (.tail _ (.tail _ (.head _)))))
    obtain ⟨f0, f1, f2, f3, f4⟩ := K5.f5 (.tail _ (.tail _ (.tail _ (.tail _ (.head _)))))
    have K6 := Lib.hid ((K5.front 4 rfl).over5 (.int .i64 0) (.int .i64 0) (.int .i64 0) (.slice none 0 0) (.slice none 0 0))
    clear K5
    go_wp2_with fail
    refine bodyPost_ret (v := .tuple #[.agg #[.int .i64 0, .int .i64 0, .int .i64 0, .slice none 0 0, .slice none 0 0], .int .i64 0, .int .i64 e6]) (by simp [results, Tryd.results15, go_sem, r0, r1, r2, r3, r4]) rfl (HN.out _ _ rfl K6.out.bel)

end Go.Proofs.YtopbalemfljphaaDoor
