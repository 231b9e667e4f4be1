/- ProofOk of the model. -/
import Derived.Test.YtopbalemfljphaaProofM
import Derived.Test.YtopbalemfljphaaProof
import Derived.Test.YtopbalemfljphaaWat
namespace Go.Proofs.Ytopbalemfljphaa
open Go.ChangeShapes Go.WideShapes Go.ChangeAt Go.RowKit
set_option linter.unusedSimpArgs false

set_option maxRecDepth 100000 in
set_option maxHeartbeats 4000000 in
theorem l16Fits_any (qx qy : Int) (hs qa qb qs : Value) (M : List Ht) (ql qk : List UInt8) (L : List (List UInt8)) (w : World) (hm : SlH w w.heap.size hs M) (hqa : Sl w w.heap.size qa ql) (hqb : Sl w w.heap.size qb qk) (hqs : SlS w w.heap.size qs L) (hn : 0 < M.length) :
    Calls Try.prog 40 #[.agg #[hs, .int .i64 qx, .int .i64 qy, qa, qb, qs]] w (BoolB w (lastB M qx qy)) := by
  obtain ⟨A, c, rfl, h1, h2, h0, h3⟩ := hm
  unfold maxLen at h2
  clear h0
  obtain ⟨C, cc, rfl, p1, p2, p0, p3⟩ := id hqa
  clear p1 p2 p0 p3
  obtain ⟨D, dc, rfl, p1, p2, p0, p3⟩ := id hqb
  clear p1 p2 p0 p3
  obtain ⟨E, ec, rfl, p1, p2, p0, p3⟩ := id hqs
  clear p1 p2 p0 p3
  obtain ⟨n, hn1⟩ : ∃ n, M.length = n + 1 := ⟨M.length - 1, by omega⟩
  obtain ⟨b, off, rfl, hbb, hcell⟩ := h3 hn
  obtain ⟨t, ht⟩ := getH (L := M) (k := n) (by omega)
  obtain ⟨ua, ub, uqa, uqb, uqs, hat⟩ := hcell n t ht
  have hl := lastB_at (qx := qx) (qy := qy) (show M[M.length - 1]? = some t by rw [hn1]; exact ht)
  obtain ⟨R, hR⟩ : ∃ R, R = lastB M qx qy := ⟨_, rfl⟩
  rw [← hR]
  rw [hl] at hR
  have H1 := (InvF.start w).newG 38 #[.slice (some ⟨b, off, none⟩) M.length c, .int .i64 qx, .int .i64 qy, .slice C ql.length cc, .slice D qk.length dc, .slice E L.length ec] w.heap.size
  have hat1 := hat.below H1.bel hbb
  have hR1 := Lib.hid hat1.range
  have H2 := H1.newG 67 #[.int .i64 t.x, .int .i64 t.y, .int .i64 t.z, ua, ub, .int .i64 t.qx, .int .i64 t.qy, uqa, uqb, uqs] (w.heap.size + 1)
  obtain ⟨⟨c0, c1, c2, c3, c4, c5, c6, c7, c8, c9⟩, s1, s2, s3, s4, s5⟩ := hat1
  obtain ⟨A1, e1, rfl, _⟩ := s1
  obtain ⟨A2, e2, rfl, _⟩ := s2
  obtain ⟨A3, e3, rfl, _⟩ := s3
  obtain ⟨A4, e4, rfl, _⟩ := s4
  obtain ⟨A5, e5, rfl, _⟩ := s5
  obtain ⟨o0, o1, o2, o3, o4, o5⟩ := H2.c6 (.tail _ (.head _))
  have hk := H2.k10 (.head _)
  have hB := H2.bel
  clear h3 hn hl
  generalize M.length = N at *
  subst hn1
  have hix : ((n + 1 : Nat) : Int) - 1 = (n : Int) := by omega
  generalize t.x = tx at *; generalize t.y = ty at *; generalize t.z = tz at *; generalize t.qx = tqx at *; generalize t.qy = tqy at *
  obtain ⟨x0, g0⟩ : ∃ r : Bool, r = (qx == tx) := ⟨_, rfl⟩
  obtain ⟨x1, g1⟩ : ∃ r : Bool, r = (qy == ty) := ⟨_, rfl⟩
  rw [← g0, ← g1] at hR
  have HR := Lib.hid hR
  replace g0 := g0.symm; replace g1 := g1.symm
  have HBB := Lib.hid hB
  clear hcell ht hR H1 H2 hat hB hqa hqb hqs
  rcases x0 with _ | _
  · obtain rfl : R = false := by rw [HR.out]; rfl
    go_enter Try.func40, Try.ntmps40
    go_wp2
    go_ret
    exact ⟨rfl, HBB.out⟩
  · obtain rfl : R = x1 := by rw [HR.out, Bool.true_and]
    rcases R with _ | _
    all_goals
      go_enter Try.func40, Try.ntmps40
      go_wp2
      go_ret
      exact ⟨rfl, HBB.out⟩

set_option maxRecDepth 100000 in
set_option maxHeartbeats 8000000 in
theorem specProofOk_any (a b c0 d e qx qy : Int) (hs qa qb qs : Value) (M : List Ht) (ql qk : List UInt8) (L : List (List UInt8)) (w : World) (hm : SlH w w.heap.size hs M) (hqa : Sl w w.heap.size qa ql) (hqb : Sl w w.heap.size qb qk) (hqs : SlS w w.heap.size qs L) (hvol : volH M ≤ 1048576) (hqk : qk.length ≤ 1048576) :
    Calls Try.prog 10 #[.agg #[.int .i64 a, .int .i64 b, .int .i64 c0, .int .i64 d, .int .i64 e], .agg #[hs, .int .i64 qx, .int .i64 qy, qa, qb, qs]] w (BoolB w (proofB a b c0 d e M qx qy ql qk L)) := by
  have hm' := hm
  obtain ⟨A, c, rfl, h1, h2, h0, h3⟩ := hm
  unfold maxLen at h2
  clear h0
  obtain ⟨C, cc, rfl, p1, p2, p0, p3⟩ := id hqa
  clear p1 p2 p0 p3
  obtain ⟨D, dc, rfl, p1, p2, p0, p3⟩ := id hqb
  clear p1 p2 p0 p3
  obtain ⟨E, ec, rfl, p1, p2, p0, p3⟩ := id hqs
  clear p1 p2 p0 p3
  have HA := Lib.hid (And.intro hm' (And.intro hqa (And.intro hqb hqs)))
  clear hm' hqa hqb hqs
  obtain ⟨ss, hss⟩ : ∃ ss, ss = [segX 38 (w.heap.size + 1) [.slice A M.length c, .int .i64 qx, .int .i64 qy, .slice C ql.length cc, .slice D qk.length dc, .slice E L.length ec], segX 33 w.heap.size [.int .i64 a, .int .i64 b, .int .i64 c0, .int .i64 d, .int .i64 e]] := ⟨_, rfl⟩
  have H0 := ((InvF.start w).newG 33 #[.int .i64 a, .int .i64 b, .int .i64 c0, .int .i64 d, .int .i64 e] w.heap.size).newG 38 #[.slice A M.length c, .int .i64 qx, .int .i64 qy, .slice C ql.length cc, .slice D qk.length dc, .slice E L.length ec] (w.heap.size + 1)
  have H1 : InvF w ((w.alloc (.cells #[.int .i64 a, .int .i64 b, .int .i64 c0, .int .i64 d, .int .i64 e] 33)).alloc (.cells #[.slice A M.length c, .int .i64 qx, .int .i64 qy, .slice C ql.length cc, .slice D qk.length dc, .slice E L.length ec] 38)) ss := by rw [hss]; exact H0
  have HM1 : segX 38 (w.heap.size + 1) [.slice A M.length c, .int .i64 qx, .int .i64 qy, .slice C ql.length cc, .slice D qk.length dc, .slice E L.length ec] ∈ ss := by rw [hss]; exact .head _
  have HM2 : segX 33 w.heap.size [.int .i64 a, .int .i64 b, .int .i64 c0, .int .i64 d, .int .i64 e] ∈ ss := by rw [hss]; exact .tail _ (.head _)
  obtain ⟨R, hR⟩ : ∃ R, R = proofB a b c0 d e M qx qy ql qk L := ⟨_, rfl⟩
  rw [← hR]
  unfold proofB at hR
  obtain ⟨x0, g0⟩ : ∃ x0, x0 = limB a b c0 d e := ⟨_, rfl⟩
  obtain ⟨x1, g1⟩ : ∃ x1, x1 = decide (3 ≤ (M.length : Int) ∧ (M.length : Int) ≤ e) := ⟨_, rfl⟩
  obtain ⟨x2, g2⟩ : ∃ x2, x2 = qcB a b c0 d e qx qy ql qk L := ⟨_, rfl⟩
  obtain ⟨x3, g3⟩ : ∃ x3, x3 = lastB M qx qy := ⟨_, rfl⟩
  rw [← g0, ← g1, ← g2, ← g3] at hR
  have HPOS : Hid (x1 = true → 0 < M.length) := Lib.hid (fun h => by
    have := of_decide_eq_true (g1.symm.trans h)
    omega)
  have G0 := Lib.hid g0; have G1 := Lib.hid g1; have G2 := Lib.hid g2; have G3 := Lib.hid g3
  have HR := Lib.hid hR
  have HV := Lib.hid hvol
  clear g0 g1 g2 g3 hss H0 hR hvol
  go_enter Try.func10, Try.ntmps10
  go_wp2_with fail
  refine (specLimitsOk_any a b c0 d e _).mono ?_
  rw [← G0.out]
  rintro ev w4 ⟨rfl, hb4⟩
  have H4 := H1.up hb4
  clear H1 hb4
  obtain ⟨o0, o1, o2, o3, o4, o5⟩ := H4.c6 HM1
  obtain ⟨t0, t1, t2, t3, t4⟩ := H4.c5 HM2
  rcases x0 with _ | _
  · obtain rfl : R = false := by rw [HR.out]; simp
    have hb := H4.bel
    go_wp2
    go_ret
    exact ⟨rfl, hb⟩
  go_wp2_with fail
  refine (l01In_any (M.length : Int) 3 e _).mono ?_
  rw [← G1.out]
  rintro ev _ ⟨rfl, rfl⟩
  rcases x1 with _ | _
  · obtain rfl : R = false := by rw [HR.out]; simp
    have hb := H4.bel
    go_wp2
    go_ret
    exact ⟨rfl, hb⟩
  have hpos := HPOS.out (by rfl)
  have HP := Lib.hid hpos
  clear hpos
  go_wp2
  clear o0 o1 o2 o3 o4 o5 t0 t1 t2 t3 t4
  go_loopw [22] (fun i wr => ∃ j : Nat, j ≤ M.length ∧ i = .int .i64 j ∧ Hid (HeadsTo a b c0 d e M j) ∧ ∃ z : WF w ss, wr = z.w)
    (fun i _ => M.length - (intOf i).toNat)
  case atStart => exact ⟨0, Nat.zero_le _, rfl, Lib.hid HeadsTo.zero, ⟨_, H4⟩, rfl⟩
  case round =>
    clear H4
    obtain ⟨j, hj, rfl, HE, z, rfl⟩ := hrel
    by_cases hlt : j < M.length
    · obtain ⟨bb, off, rfl, hbb, hcell⟩ := h3 (by omega)
      obtain ⟨t, ht⟩ := getH hlt
      obtain ⟨ua, ub, uqa, uqb, uqs, hat⟩ := hcell j t ht
      have hat1 := hat.below z.h.bel hbb
      have hv1 := volH_mem ht
      have hq1 : t.qk.length ≤ 4294967296 := by have := HV.out; unfold volT at hv1; omega
      obtain ⟨sb, hsb⟩ : ∃ sb, sb = headTB a b c0 d e t := ⟨_, rfl⟩
      have HSB := Lib.hid hsb
      have HNO : Hid (sb = false → R = false) := Lib.hid (fun h => by rw [HR.out, headsB_no ht (hsb.symm.trans h)]; simp)
      have HYES : Hid (sb = true → HeadsTo a b c0 d e M (j + 1)) := Lib.hid (fun h => HE.out.succ ht (hsb.symm.trans h))
      obtain ⟨⟨k0, k1, k2, k3, k4, k5, k6, k7, k8, k9⟩, s1, s2, s3, s4, s5⟩ := hat1
      obtain ⟨A1, e1, rfl, _⟩ := id s1
      obtain ⟨A2, e2, rfl, _⟩ := id s2
      obtain ⟨A3, e3, rfl, _⟩ := id s3
      obtain ⟨A4, e4, rfl, _⟩ := id s4
      obtain ⟨A5, e5, rfl, _⟩ := id s5
      have hnew : Below z.w.heap.size z.w (z.w.alloc (.cells #[.int .i64 t.x, .int .i64 t.y, .int .i64 t.z, .slice A1 t.l.length e1, .slice A2 t.k.length e2, .int .i64 t.qx, .int .i64 t.qy, .slice A3 t.ql.length e3, .slice A4 t.qk.length e4, .slice A5 t.L.length e5] 67)) := (Below.refl _ _).alloc (Nat.le_refl _) _
      have Q := Lib.hid (And.intro ((s1.mono z.h.bel.size).up hnew) (And.intro ((s2.mono z.h.bel.size).up hnew) (And.intro ((s3.mono z.h.bel.size).up hnew) (And.intro ((s4.mono z.h.bel.size).up hnew) ((s5.mono z.h.bel.size).up hnew)))))
      have H3 := z.h.newG 67 #[.int .i64 t.x, .int .i64 t.y, .int .i64 t.z, .slice A1 t.l.length e1, .slice A2 t.k.length e2, .int .i64 t.qx, .int .i64 t.qy, .slice A3 t.ql.length e3, .slice A4 t.qk.length e4, .slice A5 t.L.length e5] z.w.heap.size
      have hk := H3.k10 (.head _)
      obtain ⟨t0, t1, t2, t3, t4⟩ := H3.c5 (.tail _ HM2)
      have HI := Lib.hid H3
      clear hcell hat hv1 hsb s1 s2 s3 s4 s5 hnew H3 ht
      go_wp2_with fail
      refine (specHeadOk_any a b c0 d e t.x t.y t.z t.qx t.qy _ _ _ _ _ t.l t.k t.ql t.qk t.L _ Q.out.1 Q.out.2.1 Q.out.2.2.1 Q.out.2.2.2.1 Q.out.2.2.2.2 hq1).mono ?_
      rw [show headB a b c0 d e t.x t.y t.z t.qx t.qy t.l t.k t.ql t.qk t.L = sb from HSB.out.symm]
      rintro ev w5 ⟨rfl, hb5⟩
      have H5 : InvF w w5 ss := (HI.out.up hb5).sub (.cons _ (List.Sublist.refl _))
      have hb := H5.bel
      clear hb5 t0 t1 t2 t3 t4 hk k0 k1 k2 k3 k4 k5 k6 k7 k8 k9
      rcases sb with _ | _
      · obtain rfl : R = false := HNO.out (by rfl)
        go_wp2
        go_ret
        exact ⟨rfl, hb⟩
      · have HS := Lib.hid (HYES.out (by rfl))
        have HZ : Hid (∃ z : WF w ss, w5 = z.w) := Lib.hid ⟨⟨w5, H5⟩, rfl⟩
        go_wp2
        go_roundw
        case rel => exact ⟨j + 1, by omega, by go_num, HS, HZ.out⟩
        case measure => simp [intOf]; omega
    · obtain rfl : j = M.length := by omega
      have HRE : Hid (R = (x2 && x3)) := Lib.hid (by rw [HR.out, headsB_yes HE.out]; simp)
      obtain ⟨o0, o1, o2, o3, o4, o5⟩ := z.h.c6 HM1
      obtain ⟨t0, t1, t2, t3, t4⟩ := z.h.c5 HM2
      have hb := z.h.bel
      go_wp2_with fail
      refine (specQcOk_any a b c0 d e qx qy _ _ _ ql qk L _ (HA.out.2.1.up hb) (HA.out.2.2.1.up hb) (HA.out.2.2.2.up hb) (by omega)).mono ?_
      rw [← G2.out]
      rintro ev w5 ⟨rfl, hb5⟩
      have H5 := z.h.up hb5
      have hbw := H5.bel
      clear o0 o1 o2 o3 o4 o5 t0 t1 t2 t3 t4 hb hb5
      obtain ⟨o0, o1, o2, o3, o4, o5⟩ := H5.c6 HM1
      rcases x2 with _ | _
      · obtain rfl : R = false := by rw [HRE.out]; rfl
        go_wp2
        go_ret
        exact ⟨rfl, hbw⟩
      obtain rfl : R = x3 := by rw [HRE.out, Bool.true_and]
      go_wp2_with fail
      refine (l16Fits_any qx qy _ _ _ _ M ql qk L _ (HA.out.1.up hbw) (HA.out.2.1.up hbw) (HA.out.2.2.1.up hbw) (HA.out.2.2.2.up hbw) HP.out).mono ?_
      rw [← G3.out]
      rintro ev w6 ⟨rfl, hb6⟩
      have HB6 := Lib.hid (hbw.trans (hb6.mono hbw.size))
      go_wp2
      go_ret
      exact ⟨rfl, HB6.out⟩
end Go.Proofs.Ytopbalemfljphaa
