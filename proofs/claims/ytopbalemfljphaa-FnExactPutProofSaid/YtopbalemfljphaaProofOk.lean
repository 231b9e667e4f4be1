/- ProofOk of the program: certifiesLast, the function literal, partList.all. -/
import Derived.Test.YtopbalemfljphaaProofOkS
import Derived.Test.YtopbalemfljphaaHeadOk
namespace Go.Proofs.Ytopbalemfljphaa
open Go.ChangeShapes Go.WideShapes Go.ChangeAt Go.RowKit
set_option linter.unusedSimpArgs false

set_option maxRecDepth 100000 in
set_option maxHeartbeats 4000000 in
theorem certifiesLast_any (qx qy : Int) (hs qa qb qs : Value) (M : List Ht) (ql qk : List UInt8) (L : List (List UInt8)) (w : World) (hm : SlH w w.heap.size hs M) (hqa : Sl w w.heap.size qa ql) (hqb : Sl w w.heap.size qb qk) (hqs : SlS w w.heap.size qs L) (hn : 0 < M.length) :
    Calls Try.prog 48 #[.agg #[hs, .int .i64 qx, .int .i64 qy, qa, qb, qs]] w (BoolB w (lastB M qx qy)) := by
  obtain ⟨A, c, rfl, h1, h2, h0, h3⟩ := hm
  unfold maxLen at h2
  clear h0
  obtain ⟨C, cc, rfl, p1, p2, p0, p3⟩ := id hqa
  clear p1 p2 p0 p3
  obtain ⟨D, dc, rfl, p1, p2, p0, p3⟩ := id hqb
  clear p1 p2 p0 p3
  obtain ⟨E, ec, rfl, p1, p2, p0, p3⟩ := id hqs
  clear p1 p2 p0 p3
  obtain ⟨n, hn1⟩ : ∃ n, M.length = n + 1 := ⟨M.length - 1, by omega⟩
  obtain ⟨b, off, rfl, hbb, hcell⟩ := h3 hn
  obtain ⟨t, ht⟩ := getH (L := M) (k := n) (by omega)
  obtain ⟨ua, ub, uqa, uqb, uqs, hat⟩ := hcell n t ht
  have hl := lastB_at (qx := qx) (qy := qy) (show M[M.length - 1]? = some t by rw [hn1]; exact ht)
  obtain ⟨R, hR⟩ : ∃ R, R = lastB M qx qy := ⟨_, rfl⟩
  rw [← hR]
  rw [hl] at hR
  have H1 := (InvF.start w).newG 38 #[.slice (some ⟨b, off, none⟩) M.length c, .int .i64 qx, .int .i64 qy, .slice C ql.length cc, .slice D qk.length dc, .slice E L.length ec] w.heap.size
  have hat1 := hat.below H1.bel hbb
  have hR1 := Lib.hid hat1.range
  have H2 := H1.newG 67 #[.int .i64 t.x, .int .i64 t.y, .int .i64 t.z, ua, ub, .int .i64 t.qx, .int .i64 t.qy, uqa, uqb, uqs] (w.heap.size + 1)
  obtain ⟨⟨c0, c1, c2, c3, c4, c5, c6, c7, c8, c9⟩, s1, s2, s3, s4, s5⟩ := hat1
  obtain ⟨A1, e1, rfl, _⟩ := s1
  obtain ⟨A2, e2, rfl, _⟩ := s2
  obtain ⟨A3, e3, rfl, _⟩ := s3
  obtain ⟨A4, e4, rfl, _⟩ := s4
  obtain ⟨A5, e5, rfl, _⟩ := s5
  obtain ⟨o0, o1, o2, o3, o4, o5⟩ := H2.c6 (.tail _ (.head _))
  have hk := H2.k10 (.head _)
  have hB := H2.bel
  clear h3 hn hl
  generalize M.length = N at *
  subst hn1
  have hix : ((n + 1 : Nat) : Int) - 1 = (n : Int) := by omega
  generalize t.x = tx at *; generalize t.y = ty at *; generalize t.z = tz at *; generalize t.qx = tqx at *; generalize t.qy = tqy at *
  obtain ⟨x0, g0⟩ : ∃ r : Bool, r = (qx == tx) := ⟨_, rfl⟩
  obtain ⟨x1, g1⟩ : ∃ r : Bool, r = (qy == ty) := ⟨_, rfl⟩
  rw [← g0, ← g1] at hR
  have HR := Lib.hid hR
  replace g0 := g0.symm; replace g1 := g1.symm
  have HBB := Lib.hid hB
  clear hcell ht hR H1 H2 hat hB hqa hqb hqs
  rcases x0 with _ | _
  · obtain rfl : R = false := by rw [HR.out]; rfl
    go_enter Try.func48, Try.ntmps48
    go_wp2
    go_ret
    exact ⟨rfl, HBB.out⟩
  · obtain rfl : R = x1 := by rw [HR.out, Bool.true_and]
    rcases R with _ | _
    all_goals
      go_enter Try.func48, Try.ntmps48
      go_wp2
      go_ret
      exact ⟨rfl, HBB.out⟩


set_option maxRecDepth 100000 in
set_option maxHeartbeats 4000000 in
theorem headOkF_any (g : Nat) (a b c0 d e : Int) (t : Ht) (ua ub uqa uqb uqs : Value) (w : World) (hg : g < w.heap.size) (hlim : w.cell? ⟨g, 0, none⟩ = some (.int .i64 a) ∧ w.cell? ⟨g, 1, none⟩ = some (.int .i64 b) ∧ w.cell? ⟨g, 2, none⟩ = some (.int .i64 c0) ∧ w.cell? ⟨g, 3, none⟩ = some (.int .i64 d) ∧ w.cell? ⟨g, 4, none⟩ = some (.int .i64 e)) (s1 : Sl w w.heap.size ua t.l) (s2 : Sl w w.heap.size ub t.k) (s3 : Sl w w.heap.size uqa t.ql) (s4 : Sl w w.heap.size uqb t.qk) (s5 : SlS w w.heap.size uqs t.L) (hqk : t.qk.length ≤ 4294967296) :
    Calls Try.prog 43 #[.agg #[.int .i64 t.x, .int .i64 t.y, .int .i64 t.z, ua, ub, .int .i64 t.qx, .int .i64 t.qy, uqa, uqb, uqs], .pointer (some ⟨g, 0, none⟩)] w (BoolB w (headTB a b c0 d e t)) := by
  obtain ⟨A1, e1, rfl, _⟩ := id s1
  obtain ⟨A2, e2, rfl, _⟩ := id s2
  obtain ⟨A3, e3, rfl, _⟩ := id s3
  obtain ⟨A4, e4, rfl, _⟩ := id s4
  obtain ⟨A5, e5, rfl, _⟩ := id s5
  have H3 := (InvF.start w).newG 67 #[.int .i64 t.x, .int .i64 t.y, .int .i64 t.z, .slice A1 t.l.length e1, .slice A2 t.k.length e2, .int .i64 t.qx, .int .i64 t.qy, .slice A3 t.ql.length e3, .slice A4 t.qk.length e4, .slice A5 t.L.length e5] w.heap.size
  have hb := H3.bel
  have hk := H3.k10 (.head _)
  have Q := Lib.hid (And.intro (s1.up hb) (And.intro (s2.up hb) (And.intro (s3.up hb) (And.intro (s4.up hb) (s5.up hb)))))
  obtain ⟨l0, l1, l2, l3, l4⟩ := hlim
  replace l0 := (hb.cell (p := ⟨g, 0, none⟩) hg).trans l0
  replace l1 := (hb.cell (p := ⟨g, 1, none⟩) hg).trans l1
  replace l2 := (hb.cell (p := ⟨g, 2, none⟩) hg).trans l2
  replace l3 := (hb.cell (p := ⟨g, 3, none⟩) hg).trans l3
  replace l4 := (hb.cell (p := ⟨g, 4, none⟩) hg).trans l4
  obtain ⟨sb, hsb⟩ : ∃ sb, sb = headTB a b c0 d e t := ⟨_, rfl⟩
  rw [← hsb]
  have HSB := Lib.hid hsb
  have HB := Lib.hid hb
  clear s1 s2 s3 s4 s5 H3 hsb hb
  go_enter Try.func43, Try.ntmps43
  go_wp2_with fail
  refine (implHeadOk_any a b c0 d e t.x t.y t.z t.qx t.qy _ _ _ _ _ t.l t.k t.ql t.qk t.L _ Q.out.1 Q.out.2.1 Q.out.2.2.1 Q.out.2.2.2.1 Q.out.2.2.2.2 hqk).mono ?_
  rw [show headB a b c0 d e t.x t.y t.z t.qx t.qy t.l t.k t.ql t.qk t.L = sb from HSB.out.symm]
  rintro ev w5 ⟨rfl, hb5⟩
  have HB5 := Lib.hid (HB.out.trans (hb5.mono HB.out.size))
  clear hb5 hk l0 l1 l2 l3 l4
  go_wp2
  go_ret
  exact ⟨rfl, HB5.out⟩

set_option maxRecDepth 100000 in
set_option maxHeartbeats 8000000 in
theorem allHeads_any (g : Nat) (a b c0 d e : Int) (v : Value) (M : List Ht) (w : World) (hg : g < w.heap.size) (hlim : w.cell? ⟨g, 0, none⟩ = some (.int .i64 a) ∧ w.cell? ⟨g, 1, none⟩ = some (.int .i64 b) ∧ w.cell? ⟨g, 2, none⟩ = some (.int .i64 c0) ∧ w.cell? ⟨g, 3, none⟩ = some (.int .i64 d) ∧ w.cell? ⟨g, 4, none⟩ = some (.int .i64 e)) (hm : SlH w w.heap.size v M) (hvol : volH M ≤ 1048576) :
    Calls Try.prog 46 #[v, .func (Fn.func 43) #[] #[.pointer (some ⟨g, 0, none⟩)]] w (BoolB w (headsB a b c0 d e M)) := by
  obtain ⟨A, c, rfl, h1, h2, h0, h3⟩ := hm
  unfold maxLen at h2
  clear h0
  obtain ⟨R, hR⟩ : ∃ R, R = headsB a b c0 d e M := ⟨_, rfl⟩
  rw [← hR]
  have HR := Lib.hid hR
  have HV := Lib.hid hvol
  have HG := Lib.hid hg
  have HLIM := Lib.hid hlim
  clear hR hvol hg hlim
  go_enter Try.func46, Try.ntmps46
  go_wp2
  go_loopw [9] (fun i wr => ∃ j : Nat, j ≤ M.length ∧ i = .int .i64 (j : Int) ∧ Hid (HeadsTo a b c0 d e M j) ∧ Hid (Below w.heap.size w wr))
    (fun i _ => M.length - (intOf i).toNat)
  case atStart => exact ⟨0, Nat.zero_le _, rfl, Lib.hid HeadsTo.zero, Lib.hid (Below.refl _ _)⟩
  case round =>
    obtain ⟨j, hj, rfl, HE, HBj⟩ := hrel
    by_cases hlt : j < M.length
    · obtain ⟨bb, off, rfl, hbb, hcell⟩ := h3 (by omega)
      obtain ⟨t, ht⟩ := getH hlt
      have hjl : (j : Int) < (M.length : Int) := by omega
      obtain ⟨ua, ub, uqa, uqb, uqs, hat⟩ := hcell j t ht
      have hat1 := hat.below HBj.out hbb
      have hv1 := volH_mem ht
      have hq1 : t.qk.length ≤ 4294967296 := by have := HV.out; unfold volT at hv1; omega
      obtain ⟨sb, hsb⟩ : ∃ sb, sb = headTB a b c0 d e t := ⟨_, rfl⟩
      have HSB := Lib.hid hsb
      have HNO : Hid (sb = false → R = false) := Lib.hid (fun h => by rw [HR.out, headsB_no ht (hsb.symm.trans h)])
      have HYES : Hid (sb = true → HeadsTo a b c0 d e M (j + 1)) := Lib.hid (fun h => HE.out.succ ht (hsb.symm.trans h))
      obtain ⟨⟨k0, k1, k2, k3, k4, k5, k6, k7, k8, k9⟩, s1, s2, s3, s4, s5⟩ := hat1
      obtain ⟨A1, e1, rfl, _⟩ := id s1
      obtain ⟨A2, e2, rfl, _⟩ := id s2
      obtain ⟨A3, e3, rfl, _⟩ := id s3
      obtain ⟨A4, e4, rfl, _⟩ := id s4
      obtain ⟨A5, e5, rfl, _⟩ := id s5
      have H3 := (InvF.start wr).newG 67 #[.int .i64 t.x, .int .i64 t.y, .int .i64 t.z, .slice A1 t.l.length e1, .slice A2 t.k.length e2, .int .i64 t.qx, .int .i64 t.qy, .slice A3 t.ql.length e3, .slice A4 t.qk.length e4, .slice A5 t.L.length e5] wr.heap.size
      have hle := HBj.out.size
      have hb2 : Below w.heap.size w (wr.alloc (.cells #[.int .i64 t.x, .int .i64 t.y, .int .i64 t.z, .slice A1 t.l.length e1, .slice A2 t.k.length e2, .int .i64 t.qx, .int .i64 t.qy, .slice A3 t.ql.length e3, .slice A4 t.qk.length e4, .slice A5 t.L.length e5] 67)) := HBj.out.trans (H3.bel.mono hle)
      have hk := H3.k10 (.head _)
      have HB2 := Lib.hid hb2
      have Q := Lib.hid (And.intro ((s1.mono hle).up H3.bel) (And.intro ((s2.mono hle).up H3.bel) (And.intro ((s3.mono hle).up H3.bel) (And.intro ((s4.mono hle).up H3.bel) ((s5.mono hle).up H3.bel)))))
      have hl0 := HLIM.out
      have HL : Hid ((wr.alloc (.cells #[.int .i64 t.x, .int .i64 t.y, .int .i64 t.z, .slice A1 t.l.length e1, .slice A2 t.k.length e2, .int .i64 t.qx, .int .i64 t.qy, .slice A3 t.ql.length e3, .slice A4 t.qk.length e4, .slice A5 t.L.length e5] 67)).cell? ⟨g, 0, none⟩ = some (.int .i64 a) ∧ (wr.alloc (.cells #[.int .i64 t.x, .int .i64 t.y, .int .i64 t.z, .slice A1 t.l.length e1, .slice A2 t.k.length e2, .int .i64 t.qx, .int .i64 t.qy, .slice A3 t.ql.length e3, .slice A4 t.qk.length e4, .slice A5 t.L.length e5] 67)).cell? ⟨g, 1, none⟩ = some (.int .i64 b) ∧ (wr.alloc (.cells #[.int .i64 t.x, .int .i64 t.y, .int .i64 t.z, .slice A1 t.l.length e1, .slice A2 t.k.length e2, .int .i64 t.qx, .int .i64 t.qy, .slice A3 t.ql.length e3, .slice A4 t.qk.length e4, .slice A5 t.L.length e5] 67)).cell? ⟨g, 2, none⟩ = some (.int .i64 c0) ∧ (wr.alloc (.cells #[.int .i64 t.x, .int .i64 t.y, .int .i64 t.z, .slice A1 t.l.length e1, .slice A2 t.k.length e2, .int .i64 t.qx, .int .i64 t.qy, .slice A3 t.ql.length e3, .slice A4 t.qk.length e4, .slice A5 t.L.length e5] 67)).cell? ⟨g, 3, none⟩ = some (.int .i64 d) ∧ (wr.alloc (.cells #[.int .i64 t.x, .int .i64 t.y, .int .i64 t.z, .slice A1 t.l.length e1, .slice A2 t.k.length e2, .int .i64 t.qx, .int .i64 t.qy, .slice A3 t.ql.length e3, .slice A4 t.qk.length e4, .slice A5 t.L.length e5] 67)).cell? ⟨g, 4, none⟩ = some (.int .i64 e)) := Lib.hid ⟨(hb2.cell (p := ⟨g, 0, none⟩) HG.out).trans hl0.1, (hb2.cell (p := ⟨g, 1, none⟩) HG.out).trans hl0.2.1, (hb2.cell (p := ⟨g, 2, none⟩) HG.out).trans hl0.2.2.1, (hb2.cell (p := ⟨g, 3, none⟩) HG.out).trans hl0.2.2.2.1, (hb2.cell (p := ⟨g, 4, none⟩) HG.out).trans hl0.2.2.2.2⟩
      have HGl : Hid (g < (wr.alloc (.cells #[.int .i64 t.x, .int .i64 t.y, .int .i64 t.z, .slice A1 t.l.length e1, .slice A2 t.k.length e2, .int .i64 t.qx, .int .i64 t.qy, .slice A3 t.ql.length e3, .slice A4 t.qk.length e4, .slice A5 t.L.length e5] 67)).heap.size) := Lib.hid (Nat.lt_of_lt_of_le HG.out hb2.size)
      clear hcell hat hv1 hsb s1 s2 s3 s4 s5 H3 ht hb2 hl0 hle
      go_wp2_with fail
      refine (headOkF_any g a b c0 d e t _ _ _ _ _ _ HGl.out HL.out Q.out.1 Q.out.2.1 Q.out.2.2.1 Q.out.2.2.2.1 Q.out.2.2.2.2 hq1).mono ?_
      rw [← HSB.out]
      rintro ev w5 ⟨rfl, hb5⟩
      have HB5 := Lib.hid (HB2.out.trans (hb5.mono HB2.out.size))
      clear hb5 hk k0 k1 k2 k3 k4 k5 k6 k7 k8 k9 HB2
      rcases sb with _ | _
      · obtain rfl : R = false := HNO.out (by rfl)
        go_wp2
        go_ret
        exact ⟨rfl, HB5.out⟩
      · have HS := Lib.hid (HYES.out (by rfl))
        go_wp2
        go_roundw
        case rel => exact ⟨j + 1, by omega, by go_num, HS, HB5⟩
        case measure => simp [intOf]; omega
    · obtain rfl : j = M.length := by omega
      obtain rfl : R = true := by rw [HR.out]; exact headsB_yes HE.out
      go_wp2
      go_ret
      exact ⟨rfl, HBj.out⟩

theorem qcB_lim {a b c d e x y : Int} {l k : List UInt8} {L : List (List UInt8)} (h : qcB a b c d e x y l k L = true) : limB a b c d e = true := by
  unfold qcB at h
  rw [Bool.and_eq_true] at h
  exact h.1
theorem proofB_qc (a b c d e : Int) (M : List Ht) (qx qy : Int) (ql qk : List UInt8) (L : List (List UInt8)) : proofB a b c d e M qx qy ql qk L = (decide (3 ≤ (M.length : Int) ∧ (M.length : Int) ≤ e) && (headsB a b c d e M && (qcB a b c d e qx qy ql qk L && lastB M qx qy))) := by
  unfold proofB
  cases hq : qcB a b c d e qx qy ql qk L with
  | false => simp
  | true => rw [qcB_lim hq, Bool.true_and]

set_option maxRecDepth 100000 in
set_option maxHeartbeats 8000000 in
theorem implProofOk_any (a b c0 d e qx qy : Int) (hs qa qb qs : Value) (M : List Ht) (ql qk : List UInt8) (L : List (List UInt8)) (w : World) (hm : SlH w w.heap.size hs M) (hqa : Sl w w.heap.size qa ql) (hqb : Sl w w.heap.size qb qk) (hqs : SlS w w.heap.size qs L) (hvol : volH M ≤ 1048576) (hqk : qk.length ≤ 1048576) :
    Calls Try.prog 13 #[.agg #[.int .i64 a, .int .i64 b, .int .i64 c0, .int .i64 d, .int .i64 e], .agg #[hs, .int .i64 qx, .int .i64 qy, qa, qb, qs]] w (BoolB w (proofB a b c0 d e M qx qy ql qk L)) := by
  have hm' := hm
  obtain ⟨A, c, rfl, h1, h2, h0, h3⟩ := hm
  unfold maxLen at h2
  clear h0 h3
  obtain ⟨C, cc, rfl, p1, p2, p0, p3⟩ := id hqa
  clear p1 p2 p0 p3
  obtain ⟨D, dc, rfl, p1, p2, p0, p3⟩ := id hqb
  clear p1 p2 p0 p3
  obtain ⟨E, ec, rfl, p1, p2, p0, p3⟩ := id hqs
  clear p1 p2 p0 p3
  have HA := Lib.hid (And.intro hm' (And.intro hqa (And.intro hqb hqs)))
  clear hm' hqa hqb hqs
  obtain ⟨ss, hss⟩ : ∃ ss, ss = [segX 38 (w.heap.size + 1) [.slice A M.length c, .int .i64 qx, .int .i64 qy, .slice C ql.length cc, .slice D qk.length dc, .slice E L.length ec], segX 33 w.heap.size [.int .i64 a, .int .i64 b, .int .i64 c0, .int .i64 d, .int .i64 e]] := ⟨_, rfl⟩
  have H0 := ((InvF.start w).newG 33 #[.int .i64 a, .int .i64 b, .int .i64 c0, .int .i64 d, .int .i64 e] w.heap.size).newG 38 #[.slice A M.length c, .int .i64 qx, .int .i64 qy, .slice C ql.length cc, .slice D qk.length dc, .slice E L.length ec] (w.heap.size + 1)
  have H1 : InvF w ((w.alloc (.cells #[.int .i64 a, .int .i64 b, .int .i64 c0, .int .i64 d, .int .i64 e] 33)).alloc (.cells #[.slice A M.length c, .int .i64 qx, .int .i64 qy, .slice C ql.length cc, .slice D qk.length dc, .slice E L.length ec] 38)) ss := by rw [hss]; exact H0
  have HM1 : segX 38 (w.heap.size + 1) [.slice A M.length c, .int .i64 qx, .int .i64 qy, .slice C ql.length cc, .slice D qk.length dc, .slice E L.length ec] ∈ ss := by rw [hss]; exact .head _
  have HM2 : segX 33 w.heap.size [.int .i64 a, .int .i64 b, .int .i64 c0, .int .i64 d, .int .i64 e] ∈ ss := by rw [hss]; exact .tail _ (.head _)
  obtain ⟨R, hR⟩ : ∃ R, R = proofB a b c0 d e M qx qy ql qk L := ⟨_, rfl⟩
  rw [← hR]
  rw [proofB_qc] at hR
  have hmf : ∀ (fn : Fn) (first cap : Array Value) (w : World), (Instr.makeFunc fn first cap).run Try.prog w = .ok (.func fn first cap) w := fun _ _ _ _ => rfl
  obtain ⟨x1, g1⟩ : ∃ x1, x1 = decide (3 ≤ (M.length : Int) ∧ (M.length : Int) ≤ e) := ⟨_, rfl⟩
  obtain ⟨x2, g2⟩ : ∃ x2, x2 = headsB a b c0 d e M := ⟨_, rfl⟩
  obtain ⟨x3, g3⟩ : ∃ x3, x3 = qcB a b c0 d e qx qy ql qk L := ⟨_, rfl⟩
  obtain ⟨x4, g4⟩ : ∃ x4, x4 = lastB M qx qy := ⟨_, rfl⟩
  rw [← g1, ← g2, ← g3, ← g4] at hR
  have HPOS : Hid (x1 = true → 0 < M.length) := Lib.hid (fun h => by
    have := of_decide_eq_true (g1.symm.trans h)
    omega)
  have G1 := Lib.hid g1; have G2 := Lib.hid g2; have G3 := Lib.hid g3; have G4 := Lib.hid g4
  have HR := Lib.hid hR
  have HV := Lib.hid hvol
  have HM1' := Lib.hid HM1; have HM2' := Lib.hid HM2
  have HK1 := Lib.hid H1
  clear g1 g2 g3 g4 hss H0 hR hvol HM1 HM2 H1
  obtain ⟨o0, o1, o2, o3, o4, o5⟩ := HK1.out.c6 HM1'.out
  obtain ⟨t0, t1, t2, t3, t4⟩ := HK1.out.c5 HM2'.out
  go_enter Try.func13, Try.ntmps13
  go_wp2_with fail
  refine (isFrom_any (M.length : Int) 3 e _).mono ?_
  rw [← G1.out]
  rintro ev _ ⟨rfl, rfl⟩
  rcases x1 with _ | _
  · obtain rfl : R = false := by rw [HR.out]; simp
    have hb := HK1.out.bel
    clear o0 o1 o2 o3 o4 o5 t0 t1 t2 t3 t4
    go_wp2
    go_ret
    exact ⟨rfl, hb⟩
  have hpos := HPOS.out (by rfl)
  have HP := Lib.hid hpos
  clear hpos
  go_wp2_with fail
  refine (allHeads_any w.heap.size a b c0 d e _ M _ (HK1.out.ltX HM2'.out) (HK1.out.c5 HM2'.out) (HA.out.1.up HK1.out.bel) HV.out).mono ?_
  rw [← G2.out]
  rintro ev w2 ⟨rfl, hb2⟩
  have HK2 := Lib.hid (HK1.out.up hb2)
  clear o0 o1 o2 o3 o4 o5 t0 t1 t2 t3 t4 hb2 HK1
  rcases x2 with _ | _
  · obtain rfl : R = false := by rw [HR.out]; simp
    have hb := HK2.out.bel
    go_wp2
    go_ret
    exact ⟨rfl, hb⟩
  obtain ⟨o0, o1, o2, o3, o4, o5⟩ := HK2.out.c6 HM1'.out
  obtain ⟨t0, t1, t2, t3, t4⟩ := HK2.out.c5 HM2'.out
  go_wp2_with fail
  refine (implQcOk_any a b c0 d e qx qy _ _ _ ql qk L _ (HA.out.2.1.up HK2.out.bel) (HA.out.2.2.1.up HK2.out.bel) (HA.out.2.2.2.up HK2.out.bel) (by omega)).mono ?_
  rw [← G3.out]
  rintro ev w3 ⟨rfl, hb3⟩
  have HK3 := Lib.hid (HK2.out.up hb3)
  clear o0 o1 o2 o3 o4 o5 t0 t1 t2 t3 t4 hb3 HK2
  rcases x3 with _ | _
  · obtain rfl : R = false := by rw [HR.out]; simp
    have hb := HK3.out.bel
    go_wp2
    go_ret
    exact ⟨rfl, hb⟩
  obtain ⟨o0, o1, o2, o3, o4, o5⟩ := HK3.out.c6 HM1'.out
  obtain ⟨t0, t1, t2, t3, t4⟩ := HK3.out.c5 HM2'.out
  obtain rfl : R = x4 := by rw [HR.out]; rfl
  go_wp2_with fail
  refine (certifiesLast_any qx qy _ _ _ _ M ql qk L _ (HA.out.1.up HK3.out.bel) (HA.out.2.1.up HK3.out.bel) (HA.out.2.2.1.up HK3.out.bel) (HA.out.2.2.2.up HK3.out.bel) HP.out).mono ?_
  rw [← G4.out]
  rintro ev w4 ⟨rfl, hb4⟩
  have HK4 := Lib.hid (HK3.out.up hb4)
  clear o0 o1 o2 o3 o4 o5 t0 t1 t2 t3 t4 hb4 HK3
  have hb := HK4.out.bel
  go_wp2
  go_ret
  exact ⟨rfl, hb⟩
end Go.Proofs.Ytopbalemfljphaa
