/- PutProof of the program: the function literal, partList.put. -/
import Derived.Test.YtopbalemfljphaaProofOk
import Derived.Test.YtopbalemfljphaaPutProofS
namespace Go.Proofs.Ytopbalemfljphaa
open Go.ChangeShapes Go.WideShapes Go.ChangeAt Go.RowKit
set_option linter.unusedSimpArgs false

set_option maxRecDepth 100000 in
set_option maxHeartbeats 4000000 in
theorem putHeadF_any (g : Nat) (a b c0 d e : Int) (t : Ht) (bv ua ub uqa uqb uqs : Value) (l : List UInt8) (w : World) (hg : g < w.heap.size) (hlim : w.cell? ⟨g, 0, none⟩ = some (.int .i64 a) ∧ w.cell? ⟨g, 1, none⟩ = some (.int .i64 b) ∧ w.cell? ⟨g, 2, none⟩ = some (.int .i64 c0) ∧ w.cell? ⟨g, 3, none⟩ = some (.int .i64 d) ∧ w.cell? ⟨g, 4, none⟩ = some (.int .i64 e)) (hbv : Sl w w.heap.size bv l) (s1 : Sl w w.heap.size ua t.l) (s2 : Sl w w.heap.size ub t.k) (s3 : Sl w w.heap.size uqa t.ql) (s4 : Sl w w.heap.size uqb t.qk) (s5 : SlS w w.heap.size uqs t.L) (hl : l.length ≤ 1073741000) (hqk : t.qk.length ≤ 4294967296) (hok : headTB a b c0 d e t = true) :
    Calls Try.prog 59 #[bv, .agg #[.int .i64 t.x, .int .i64 t.y, .int .i64 t.z, ua, ub, .int .i64 t.qx, .int .i64 t.qy, uqa, uqb, uqs], .pointer (some ⟨g, 0, none⟩)] w (Fresh w (headTL l t)) := by
  obtain ⟨A1, e1, rfl, _⟩ := id s1
  obtain ⟨A2, e2, rfl, _⟩ := id s2
  obtain ⟨A3, e3, rfl, _⟩ := id s3
  obtain ⟨A4, e4, rfl, _⟩ := id s4
  obtain ⟨A5, e5, rfl, _⟩ := id s5
  have H3 := (InvF.start w).newG 67 #[.int .i64 t.x, .int .i64 t.y, .int .i64 t.z, .slice A1 t.l.length e1, .slice A2 t.k.length e2, .int .i64 t.qx, .int .i64 t.qy, .slice A3 t.ql.length e3, .slice A4 t.qk.length e4, .slice A5 t.L.length e5] w.heap.size
  have hb := H3.bel
  have hk := H3.k10 (.head _)
  have Q := Lib.hid (And.intro (s1.up hb) (And.intro (s2.up hb) (And.intro (s3.up hb) (And.intro (s4.up hb) (And.intro (s5.up hb) (hbv.up hb))))))
  obtain ⟨l0, l1, l2, l3, l4⟩ := hlim
  replace l0 := (hb.cell (p := ⟨g, 0, none⟩) hg).trans l0
  replace l1 := (hb.cell (p := ⟨g, 1, none⟩) hg).trans l1
  replace l2 := (hb.cell (p := ⟨g, 2, none⟩) hg).trans l2
  replace l3 := (hb.cell (p := ⟨g, 3, none⟩) hg).trans l3
  replace l4 := (hb.cell (p := ⟨g, 4, none⟩) hg).trans l4
  obtain ⟨R, hR⟩ : ∃ R, R = headTL l t := ⟨_, rfl⟩
  rw [← hR]
  have HR := Lib.hid hR
  have HOK := Lib.hid hok
  have HB := Lib.hid hb
  clear s1 s2 s3 s4 s5 hbv H3 hR hb hok
  go_enter Try.func59, Try.ntmps59
  go_wp2_with fail
  refine (implPutHead_any a b c0 d e t.x t.y t.z t.qx t.qy bv _ _ _ _ _ l t.l t.k t.ql t.qk t.L _ Q.out.2.2.2.2.2 Q.out.1 Q.out.2.1 Q.out.2.2.1 Q.out.2.2.2.1 Q.out.2.2.2.2.1 hl hqk).mono ?_
  rw [show headB a b c0 d e t.x t.y t.z t.qx t.qy t.l t.k t.ql t.qk t.L = true from HOK.out, show putHeadL a b c0 d e l t.x t.y t.z t.qx t.qy t.l t.k t.ql t.qk t.L = R from (if_pos HOK.out).trans HR.out.symm]
  rintro ev w5 ⟨v5, rfl, ho5, hb5⟩
  have HO5 := Lib.hid (ho5.mono HB.out.size)
  have HB5 := Lib.hid (HB.out.trans (hb5.mono HB.out.size))
  clear hb5 ho5 hk l0 l1 l2 l3 l4
  go_wp2
  go_ret
  exact ⟨_, rfl, HO5.out, HB5.out⟩

set_option maxRecDepth 100000 in
set_option maxHeartbeats 8000000 in
theorem putHeads_any (g : Nat) (a b c0 d e : Int) (v bv : Value) (l : List UInt8) (M : List Ht) (W w : World) (ss : List (List Row)) (K : InvF W w (segB 5 bv l :: ss)) (hmem : segX 33 g [.int .i64 a, .int .i64 b, .int .i64 c0, .int .i64 d, .int .i64 e] ∈ ss) (hm : SlH W W.heap.size v M) (hvol : volH M ≤ 1048576) (hok : ∀ t ∈ M, headTB a b c0 d e t = true) (hbd : ∀ j, (headsL l (M.take j)).length ≤ 1073741000) :
    Calls Try.prog 62 #[v, bv, .func (Fn.func 59) #[] #[.pointer (some ⟨g, 0, none⟩)]] w (fun ev w' => ∃ u, ev = .returned u ∧ InvF W w' (segB 5 u (headsL l M) :: ss)) := by
  obtain ⟨A, c, rfl, h1, h2, h0, h3⟩ := hm
  unfold maxLen at h2
  clear h0
  have HV := Lib.hid hvol
  have HOK := Lib.hid hok
  have HBDA := Lib.hid hbd
  have HMEM := Lib.hid hmem
  have H5 : Hid (InvF W w (segB 5 bv (headsL l (M.take 0)) :: ss)) := Lib.hid K
  clear hvol hok hbd hmem K
  go_enter Try.func62, Try.ntmps62
  go_wp2
  go_loopw [1, 11] (fun bv i wr => ∃ (j : Nat) (ov : Value), ov = bv ∧ j ≤ M.length ∧ i = .int .i64 (j : Int) ∧ Hid (InvF W wr (segB 5 ov (headsL l (M.take j)) :: ss)))
    (fun _ i _ => M.length - (intOf i).toNat)
  case atStart => exact ⟨0, _, rfl, Nat.zero_le _, rfl, H5⟩
  case round =>
    clear H5
    obtain ⟨j, ov, rfl, hj, rfl, Hj⟩ := hrel
    by_cases hlt : j < M.length
    · obtain ⟨bb, off, rfl, hbb, hcell⟩ := h3 (by omega)
      obtain ⟨t, ht⟩ := getH hlt
      have hjl : (j : Int) < (M.length : Int) := by omega
      obtain ⟨ua, ub, uqa, uqb, uqs, hat⟩ := hcell j t ht
      have hat1 := hat.below Hj.out.bel hbb
      have hv1 := volH_mem ht
      have hq1 : t.qk.length ≤ 4294967296 := by have := HV.out; unfold volT at hv1; omega
      have HTB := Lib.hid (HOK.out t (List.mem_of_getElem? ht))
      have HST := Lib.hid (headsL_take l M j t ht)
      have HBD := Lib.hid (HBDA.out j)
      obtain ⟨⟨k0, k1, k2, k3, k4, k5, k6, k7, k8, k9⟩, s1, s2, s3, s4, s5⟩ := hat1
      obtain ⟨A1, e1, rfl, _⟩ := id s1
      obtain ⟨A2, e2, rfl, _⟩ := id s2
      obtain ⟨A3, e3, rfl, _⟩ := id s3
      obtain ⟨A4, e4, rfl, _⟩ := id s4
      obtain ⟨A5, e5, rfl, _⟩ := id s5
      obtain ⟨out, hout⟩ : ∃ out, out = headsL l (M.take j) := ⟨_, rfl⟩
      obtain ⟨out', hout'⟩ : ∃ out', out' = headsL l (M.take (j + 1)) := ⟨_, rfl⟩
      rw [← hout, ← hout'] at HST
      rw [← hout] at HBD Hj
      have HO' := Lib.hid hout'
      clear hout hout'
      have hle := Hj.out.bel.size
      have hnew : Below wr.heap.size wr (wr.alloc (.cells #[.int .i64 t.x, .int .i64 t.y, .int .i64 t.z, .slice A1 t.l.length e1, .slice A2 t.k.length e2, .int .i64 t.qx, .int .i64 t.qy, .slice A3 t.ql.length e3, .slice A4 t.qk.length e4, .slice A5 t.L.length e5] 67)) := (Below.refl _ _).alloc (Nat.le_refl _) _
      have Q := Lib.hid (And.intro ((s1.mono hle).up hnew) (And.intro ((s2.mono hle).up hnew) (And.intro ((s3.mono hle).up hnew) (And.intro ((s4.mono hle).up hnew) ((s5.mono hle).up hnew)))))
      have H3 : InvF W _ (segX 67 wr.heap.size [.int .i64 t.x, .int .i64 t.y, .int .i64 t.z, .slice A1 t.l.length e1, .slice A2 t.k.length e2, .int .i64 t.qx, .int .i64 t.qy, .slice A3 t.ql.length e3, .slice A4 t.qk.length e4, .slice A5 t.L.length e5] :: segB 5 ov out :: ss) := Hj.out.newG 67 #[.int .i64 t.x, .int .i64 t.y, .int .i64 t.z, .slice A1 t.l.length e1, .slice A2 t.k.length e2, .int .i64 t.qx, .int .i64 t.qy, .slice A3 t.ql.length e3, .slice A4 t.qk.length e4, .slice A5 t.L.length e5] wr.heap.size
      have hk := H3.k10 (.head _)
      have HL := Lib.hid (H3.c5 (.tail _ (.tail _ HMEM.out)))
      have HG := Lib.hid (H3.ltX (.tail _ (.tail _ HMEM.out)))
      have HI := Lib.hid H3
      have HSO := Lib.hid (H3.slB 5 (.tail _ (.head _)))
      clear hcell hat hv1 s1 s2 s3 s4 s5 hnew H3 ht hle
      go_wp2_with fail
      refine (putHeadF_any g a b c0 d e t ov _ _ _ _ _ out _ HG.out HL.out HSO.out Q.out.1 Q.out.2.1 Q.out.2.2.1 Q.out.2.2.2.1 Q.out.2.2.2.2 HBD.out hq1 HTB.out).mono ?_
      rw [← HST.out]
      rintro ev w5 ⟨v5, rfl, ho5, hb5⟩
      have HF : Hid (InvF W w5 (segB 5 v5 (headsL l (M.take (j + 1))) :: ss)) := Lib.hid (by rw [← HO'.out]; exact (HI.out.moreB ho5 hb5).sub (.cons_cons _ (.cons _ (.cons _ (List.Sublist.refl _)))))
      clear ho5 hb5 HI HSO Q HL HG hk k0 k1 k2 k3 k4 k5 k6 k7 k8 k9 Hj HST HTB HO'
      go_wp2
      go_roundw
      case rel => exact ⟨j + 1, v5, rfl, by omega, by go_num, HF⟩
      case measure => simp [intOf]; omega
    · obtain rfl : j = M.length := by omega
      rw [List.take_length] at Hj
      go_wp2
      go_ret
      exact ⟨_, rfl, Hj.out⟩

set_option maxRecDepth 100000 in
set_option maxHeartbeats 8000000 in
theorem implPutProof_any (a b c0 d e qx qy : Int) (t0v hs qa qb qs : Value) (l : List UInt8) (M : List Ht) (ql qk : List UInt8) (L : List (List UInt8)) (w : World) (ht : Sl w w.heap.size t0v l) (hm : SlH w w.heap.size hs M) (hqa : Sl w w.heap.size qa ql) (hqb : Sl w w.heap.size qb qk) (hqs : SlS w w.heap.size qs L) (hvol : volH M ≤ 1048576) (hql1 : ql.length ≤ 1048576) (hqk1 : qk.length ≤ 1048576) (hN1 : sumL L ≤ 1048576) (hl : l.length ≤ 536870912) :
    Calls Try.prog 19 #[.agg #[.int .i64 a, .int .i64 b, .int .i64 c0, .int .i64 d, .int .i64 e], t0v, .agg #[hs, .int .i64 qx, .int .i64 qy, qa, qb, qs]] w (Fresh2 w (putProofL a b c0 d e l M qx qy ql qk L) (.bool (proofB a b c0 d e M qx qy ql qk L))) := by
  have HT0 := Lib.hid ht
  obtain ⟨A0, tc, rfl, p1, p2, p0, p3⟩ := ht
  clear p1 p2 p0 p3
  have hm' := hm
  obtain ⟨A, c, rfl, h1, h2, h0, h3⟩ := hm
  unfold maxLen at h2
  clear h0 h3
  obtain ⟨C, cc, rfl, p1, p2, p0, p3⟩ := id hqa
  clear p1 p2 p0 p3
  obtain ⟨D, dc, rfl, p1, p2, p0, p3⟩ := id hqb
  clear p1 p2 p0 p3
  obtain ⟨E, ec, rfl, p1, p2, p0, p3⟩ := id hqs
  clear p1 p2 p0 p3
  have HA := Lib.hid (And.intro hm' (And.intro hqa (And.intro hqb hqs)))
  clear hm' hqa hqb hqs
  have hP : proofB a b c0 d e M qx qy ql qk L = true → (M.length ≤ 5 ∧ (∀ t ∈ M, headTB a b c0 d e t = true) ∧ qcB a b c0 d e qx qy ql qk L = true) ∧ putProofL a b c0 d e l M qx qy ql qk L = qcL (headsL (putVarL l M.length) M) qx qy ql qk L := fun h => ⟨proofB_parts h, if_pos h⟩
  have hNo : proofB a b c0 d e M qx qy ql qk L = false → putProofL a b c0 d e l M qx qy ql qk L = [] := fun h => if_neg (by simp [h])
  obtain ⟨R, hR⟩ : ∃ R, R = putProofL a b c0 d e l M qx qy ql qk L := ⟨_, rfl⟩
  obtain ⟨x0, g0⟩ : ∃ x0, x0 = proofB a b c0 d e M qx qy ql qk L := ⟨_, rfl⟩
  rw [← hR] at hP hNo ⊢
  rw [← g0] at hP hNo ⊢
  have G0 := Lib.hid g0
  have HP := Lib.hid hP
  have HNo := Lib.hid hNo
  have HV := Lib.hid (And.intro hvol (And.intro hql1 (And.intro hqk1 hN1)))
  clear hP hNo hR g0
  have H0 : InvF w _ [segX 38 (w.heap.size + 1) [.slice A M.length c, .int .i64 qx, .int .i64 qy, .slice C ql.length cc, .slice D qk.length dc, .slice E L.length ec], segX 33 w.heap.size [.int .i64 a, .int .i64 b, .int .i64 c0, .int .i64 d, .int .i64 e]] := ((InvF.start w).newG 33 #[.int .i64 a, .int .i64 b, .int .i64 c0, .int .i64 d, .int .i64 e] w.heap.size).newG 38 #[.slice A M.length c, .int .i64 qx, .int .i64 qy, .slice C ql.length cc, .slice D qk.length dc, .slice E L.length ec] (w.heap.size + 1)
  obtain ⟨o0, o1, o2, o3, o4, o5⟩ := H0.c6 (.head _)
  obtain ⟨t0, t1, t2, t3, t4⟩ := H0.c5 (.tail _ (.head _))
  have hmf : ∀ (fn : Fn) (first cap : Array Value) (w : World), (Instr.makeFunc fn first cap).run Try.prog w = .ok (.func fn first cap) w := fun _ _ _ _ => rfl
  go_enter Try.func19, Try.ntmps19
  go_wp2_with fail
  refine (implProofOk_any a b c0 d e qx qy _ _ _ _ M ql qk L _ (HA.out.1.up H0.bel) (HA.out.2.1.up H0.bel) (HA.out.2.2.1.up H0.bel) (HA.out.2.2.2.up H0.bel) hvol hqk1).mono ?_
  rw [← G0.out]
  rintro ev w1 ⟨rfl, hb1⟩
  have H := H0.up hb1
  clear H0 hb1 o0 o1 o2 o3 o4 o5 t0 t1 t2 t3 t4
  rcases x0 with _ | _
  · have HB := Lib.hid H.bel
    clear H
    go_wp2
    go_ret2
    exact ⟨_, rfl, by rw [HNo.out (by first | trivial | rfl)]; exact World.ownsRow_nil _ _ _ _, HB.out⟩
  obtain ⟨⟨hM5, hMB, hQB⟩, hRe⟩ := HP.out (by first | trivial | rfl)
  have HRE := Lib.hid hRe
  have HQB := Lib.hid hQB
  have HMB := Lib.hid hMB
  have hbd : Hid (∀ j, (headsL (putVarL l M.length) (M.take j)).length ≤ 1073741000) := Lib.hid (fun j => by
    have k0 := putVarL_len l M.length
    have k1 := headsL_len (M.take j) (putVarL l M.length)
    have k2 := volH_le M j
    have k3 : (M.take j).length ≤ 5 := by rw [List.length_take]; omega
    omega)
  have hl2 : l.length ≤ 2147483648 := by omega
  clear HP HNo hRe hQB hMB
  obtain ⟨o0, o1, o2, o3, o4, o5⟩ := H.c6 (.head _)
  go_wp2_with fail
  have hI := Lib.hid (show OwnI 3 (w1.alloc (.cells #[.int .i64 (M.length : Int)] 3)) w1.heap.size (.slice (some ⟨w1.heap.size, 0, none⟩) 1 1) [(M.length : Int)] from World.ownsRow_lit w1 #[.int .i64 (M.length : Int)] 1 (Nat.le_refl _) (by simp [maxLen]) rfl).sl
  have H1 := H.up ((Below.refl _ _).alloc (Nat.le_refl _) (.cells #[.int .i64 (M.length : Int)] 3))
  clear H o0 o1 o2 o3 o4 o5
  refine (putNumbers_any _ _ l [(M.length : Int)] _ (HT0.out.up H1.bel) hI.out (by simp) (by simp) hl2).mono ?_
  rintro ev w2 ⟨v2, rfl, ho2, hb2⟩
  have H2 : InvF w w2 (segB 5 v2 (putVarL l (M.length : Int)) :: [segX 38 (w.heap.size + 1) [.slice A M.length c, .int .i64 qx, .int .i64 qy, .slice C ql.length cc, .slice D qk.length dc, .slice E L.length ec], segX 33 w.heap.size [.int .i64 a, .int .i64 b, .int .i64 c0, .int .i64 d, .int .i64 e]]) := H1.moreB ho2 hb2
  clear H1 hI ho2 hb2
  generalize putVarL l (M.length : Int) = h9 at *
  obtain ⟨o0, o1, o2, o3, o4, o5⟩ := H2.c6 (.tail _ (.head _))
  have K2 := Lib.hid H2
  clear H2
  go_wp2_with fail
  refine (putHeads_any w.heap.size a b c0 d e _ v2 h9 M w _ _ K2.out (.tail _ (.head _)) HA.out.1 HV.out.1 HMB.out hbd.out).mono ?_
  rintro ev w3 ⟨v3, rfl, K3⟩
  clear o0 o1 o2 o3 o4 o5 K2
  obtain ⟨o0, o1, o2, o3, o4, o5⟩ := K3.c6 (.tail _ (.head _))
  obtain ⟨t0, t1, t2, t3, t4⟩ := K3.c5 (.tail _ (.tail _ (.head _)))
  have HK3 := Lib.hid K3
  have HBD := Lib.hid (hbd.out M.length)
  rw [List.take_length] at HBD
  clear K3
  generalize headsL h9 M = h8 at *
  go_wp2_with fail
  refine (implPutQc_any a b c0 d e qx qy v3 _ _ _ h8 ql qk L _ (HK3.out.slB 5 (.head _)) (HA.out.2.1.up HK3.out.bel) (HA.out.2.2.1.up HK3.out.bel) (HA.out.2.2.2.up HK3.out.bel) (by have := HBD.out; omega) (by have := HV.out.2.2.1; omega)).mono ?_
  rw [HQB.out, show putQcL a b c0 d e h8 qx qy ql qk L = R from (if_pos HQB.out).trans HRE.out.symm]
  rintro ev w6 ⟨v6, rfl, ho6, hb6⟩
  have H6 := Lib.hid (HK3.out.moreB ho6 hb6)
  clear ho6 hb6 HK3 o0 o1 o2 o3 o4 o5 t0 t1 t2 t3 t4
  go_wp2
  go_ret2
  exact ⟨_, rfl, H6.out.ownB 5 (.head _), H6.out.bel⟩
end Go.Proofs.Ytopbalemfljphaa
