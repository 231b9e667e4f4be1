/- PutProof of the model. -/
import Derived.Test.YtopbalemfljphaaProofOkS
import Derived.Test.YtopbalemfljphaaPutHead
namespace Go.Proofs.Ytopbalemfljphaa
open Go.ChangeShapes Go.WideShapes Go.ChangeAt Go.RowKit
set_option linter.unusedSimpArgs false

/-- A header put behind l. -/
def headTL (l : List UInt8) (t : Ht) : List UInt8 := headL l t.x t.y t.z t.qx t.qy t.l t.k t.ql t.qk t.L
/-- Headers put behind l. -/
def headsL (l : List UInt8) (M : List Ht) : List UInt8 := M.foldl headTL l
theorem headsL_take (l : List UInt8) (M : List Ht) (j : Nat) (t : Ht) (h : M[j]? = some t) : headsL l (M.take (j + 1)) = headTL (headsL l (M.take j)) t := by
  unfold headsL
  rw [List.take_add_one, h, List.foldl_append]
  rfl
theorem headTL_len (l : List UInt8) (t : Ht) : (headTL l t).length ≤ l.length + volT t + 45 := by
  have h1 := qcL_len (putVarL (putVarL (putVarL l t.x) t.y) t.z ++ t.l ++ t.k) t.qx t.qy t.ql t.qk t.L
  have h2 := num3_len l t.x t.y t.z
  rw [List.length_append, List.length_append] at h1
  unfold headTL headL volT
  omega
theorem headsL_len : ∀ (M : List Ht) (l : List UInt8), (headsL l M).length ≤ l.length + volH M + 45 * M.length
  | [], l => by simp [headsL, volH]
  | t :: M, l => by
    have h1 := headsL_len M (headTL l t)
    have h2 := headTL_len l t
    show (headsL (headTL l t) M).length ≤ _
    simp only [volH, List.length_cons]
    omega
/-- What PutProof yields. -/
def putProofL (a b c d e : Int) (l : List UInt8) (M : List Ht) (qx qy : Int) (ql qk : List UInt8) (L : List (List UInt8)) : List UInt8 := if proofB a b c d e M qx qy ql qk L = true then qcL (headsL (putVarL l M.length) M) qx qy ql qk L else []
theorem headsB_all {a b c d e : Int} : ∀ {M : List Ht}, headsB a b c d e M = true → ∀ t ∈ M, headTB a b c d e t = true
  | [], _, _, h => by simp at h
  | t :: M, h, u, hu => by
    simp only [headsB, Bool.and_eq_true] at h
    rcases List.mem_cons.1 hu with rfl | hu
    · exact h.1
    · exact headsB_all h.2 u hu
theorem proofB_parts {a b c d e : Int} {M : List Ht} {qx qy : Int} {ql qk : List UInt8} {L : List (List UInt8)} (h : proofB a b c d e M qx qy ql qk L = true) : M.length ≤ 5 ∧ (∀ t ∈ M, headTB a b c d e t = true) ∧ qcB a b c d e qx qy ql qk L = true := by
  unfold proofB at h
  simp only [Bool.and_eq_true, decide_eq_true_eq] at h
  obtain ⟨h0, h1, h2, h3, _⟩ := h
  have h5 := (limB_yes h0).2.2.2.2
  exact ⟨by omega, headsB_all h2, h3⟩
theorem putProofL_len (a b c d e : Int) (l : List UInt8) (M : List Ht) (qx qy : Int) (ql qk : List UInt8) (L : List (List UInt8)) : (putProofL a b c d e l M qx qy ql qk L).length ≤ l.length + volH M + ql.length + qk.length + sumL L + 252 := by
  unfold putProofL
  split
  · rename_i h
    have h0 := (proofB_parts h).1
    have h1 := qcL_len (headsL (putVarL l M.length) M) qx qy ql qk L
    have h2 := headsL_len M (putVarL l M.length)
    have h3 := putVarL_len l M.length
    omega
  · exact Nat.zero_le _

set_option maxRecDepth 100000 in
set_option maxHeartbeats 8000000 in
theorem specPutProof_any (a b c0 d e qx qy : Int) (t0v hs qa qb qs : Value) (l : List UInt8) (M : List Ht) (ql qk : List UInt8) (L : List (List UInt8)) (w : World) (ht : Sl w w.heap.size t0v l) (hm : SlH w w.heap.size hs M) (hqa : Sl w w.heap.size qa ql) (hqb : Sl w w.heap.size qb qk) (hqs : SlS w w.heap.size qs L) (hvol : volH M ≤ 1048576) (hql1 : ql.length ≤ 1048576) (hqk1 : qk.length ≤ 1048576) (hN1 : sumL L ≤ 1048576) (hl : l.length ≤ 536870912) :
    Calls Try.prog 17 #[.agg #[.int .i64 a, .int .i64 b, .int .i64 c0, .int .i64 d, .int .i64 e], t0v, .agg #[hs, .int .i64 qx, .int .i64 qy, qa, qb, qs]] w (Fresh2 w (putProofL a b c0 d e l M qx qy ql qk L) (.bool (proofB a b c0 d e M qx qy ql qk L))) := by
  have HT0 := Lib.hid ht
  obtain ⟨A0, tc, rfl, p1, p2, p0, p3⟩ := ht
  clear p1 p2 p0 p3
  have hm' := hm
  obtain ⟨A, c, rfl, h1, h2, h0, h3⟩ := hm
  unfold maxLen at h2
  clear h0
  obtain ⟨C, cc, rfl, p1, p2, p0, p3⟩ := id hqa
  clear p1 p2 p0 p3
  obtain ⟨D, dc, rfl, p1, p2, p0, p3⟩ := id hqb
  clear p1 p2 p0 p3
  obtain ⟨E, ec, rfl, p1, p2, p0, p3⟩ := id hqs
  clear p1 p2 p0 p3
  have HA := Lib.hid (And.intro hm' (And.intro hqa (And.intro hqb hqs)))
  clear hm' hqa hqb hqs
  have hP : proofB a b c0 d e M qx qy ql qk L = true → (M.length ≤ 5 ∧ (∀ t ∈ M, headTB a b c0 d e t = true) ∧ qcB a b c0 d e qx qy ql qk L = true) ∧ putProofL a b c0 d e l M qx qy ql qk L = qcL (headsL (putVarL l M.length) M) qx qy ql qk L := fun h => ⟨proofB_parts h, if_pos h⟩
  have hNo : proofB a b c0 d e M qx qy ql qk L = false → putProofL a b c0 d e l M qx qy ql qk L = [] := fun h => if_neg (by simp [h])
  obtain ⟨R, hR⟩ : ∃ R, R = putProofL a b c0 d e l M qx qy ql qk L := ⟨_, rfl⟩
  obtain ⟨x0, g0⟩ : ∃ x0, x0 = proofB a b c0 d e M qx qy ql qk L := ⟨_, rfl⟩
  rw [← hR] at hP hNo ⊢
  rw [← g0] at hP hNo ⊢
  have G0 := Lib.hid g0
  have HP := Lib.hid hP
  have HNo := Lib.hid hNo
  have HV := Lib.hid (And.intro hvol (And.intro hql1 (And.intro hqk1 hN1)))
  clear hP hNo hR g0
  have H0 : InvF w _ [segX 38 (w.heap.size + 1) [.slice A M.length c, .int .i64 qx, .int .i64 qy, .slice C ql.length cc, .slice D qk.length dc, .slice E L.length ec], segX 33 w.heap.size [.int .i64 a, .int .i64 b, .int .i64 c0, .int .i64 d, .int .i64 e]] := ((InvF.start w).newG 33 #[.int .i64 a, .int .i64 b, .int .i64 c0, .int .i64 d, .int .i64 e] w.heap.size).newG 38 #[.slice A M.length c, .int .i64 qx, .int .i64 qy, .slice C ql.length cc, .slice D qk.length dc, .slice E L.length ec] (w.heap.size + 1)
  obtain ⟨o0, o1, o2, o3, o4, o5⟩ := H0.c6 (.head _)
  obtain ⟨t0, t1, t2, t3, t4⟩ := H0.c5 (.tail _ (.head _))
  go_enter Try.func17, Try.ntmps17
  go_wp2_with fail
  refine (specProofOk_any a b c0 d e qx qy _ _ _ _ M ql qk L _ (HA.out.1.up H0.bel) (HA.out.2.1.up H0.bel) (HA.out.2.2.1.up H0.bel) (HA.out.2.2.2.up H0.bel) hvol hqk1).mono ?_
  rw [← G0.out]
  rintro ev w1 ⟨rfl, hb1⟩
  have H := H0.up hb1
  clear H0 hb1 o0 o1 o2 o3 o4 o5 t0 t1 t2 t3 t4
  rcases x0 with _ | _
  · have HB := Lib.hid H.bel
    clear H
    go_wp2
    go_ret2
    exact ⟨_, rfl, by rw [HNo.out (by first | trivial | rfl)]; exact World.ownsRow_nil _ _ _ _, HB.out⟩
  obtain ⟨⟨hM5, hMB, hQB⟩, hRe⟩ := HP.out (by first | trivial | rfl)
  have HRE := Lib.hid hRe
  have HQB := Lib.hid hQB
  have HMB := Lib.hid hMB
  have hbd : Hid (∀ j, (headsL (putVarL l M.length) (M.take j)).length ≤ 1073741000) := Lib.hid (fun j => by
    have k0 := putVarL_len l M.length
    have k1 := headsL_len (M.take j) (putVarL l M.length)
    have k2 := volH_le M j
    have k3 : (M.take j).length ≤ 5 := by rw [List.length_take]; omega
    omega)
  have hst := Lib.hid (fun j t hj => headsL_take (putVarL l M.length) M j t hj)
  clear HP HNo hRe hQB hMB
  obtain ⟨o0, o1, o2, o3, o4, o5⟩ := H.c6 (.head _)
  have HX := Lib.hid H
  have hl2 : l.length ≤ 4294967296 := by omega
  clear H
  go_wp2_with fail
  refine (l11Num_any _ l (M.length : Int) _ (HT0.out.up HX.out.bel) hl2).mono ?_
  rintro ev w2 ⟨v2, rfl, ho2, hb2⟩
  have H5 : Hid (InvF w w2 [segB 5 v2 (headsL (putVarL l M.length) (M.take 0)), segX 38 (w.heap.size + 1) [.slice A M.length c, .int .i64 qx, .int .i64 qy, .slice C ql.length cc, .slice D qk.length dc, .slice E L.length ec], segX 33 w.heap.size [.int .i64 a, .int .i64 b, .int .i64 c0, .int .i64 d, .int .i64 e]]) := Lib.hid (HX.out.moreB ho2 hb2)
  clear ho2 hb2 HX o0 o1 o2 o3 o4 o5
  generalize putVarL l (M.length : Int) = h9 at *
  obtain ⟨o0, o1, o2, o3, o4, o5⟩ := H5.out.c6 (.tail _ (.head _))
  go_wp2
  clear o0 o1 o2 o3 o4 o5
  go_loopw [8, 23] (fun bv i wr => ∃ (j : Nat) (ov : Value), ov = bv ∧ j ≤ M.length ∧ i = .int .i64 (j : Int) ∧ Hid (InvF w wr [segB 5 ov (headsL h9 (M.take j)), segX 38 (w.heap.size + 1) [.slice A M.length c, .int .i64 qx, .int .i64 qy, .slice C ql.length cc, .slice D qk.length dc, .slice E L.length ec], segX 33 w.heap.size [.int .i64 a, .int .i64 b, .int .i64 c0, .int .i64 d, .int .i64 e]]))
    (fun _ i _ => M.length - (intOf i).toNat)
  case atStart => exact ⟨0, _, rfl, Nat.zero_le _, rfl, H5⟩
  case round =>
    clear H5
    obtain ⟨j, ov, rfl, hj, rfl, Hj⟩ := hrel
    by_cases hlt : j < M.length
    · obtain ⟨bb, off, rfl, hbb, hcell⟩ := h3 (by omega)
      obtain ⟨t, ht⟩ := getH hlt
      obtain ⟨ua, ub, uqa, uqb, uqs, hat⟩ := hcell j t ht
      have hat1 := hat.below Hj.out.bel hbb
      have hv1 := volH_mem ht
      have hq1 : t.qk.length ≤ 4294967296 := by have := HV.out.1; unfold volT at hv1; omega
      have HTB := Lib.hid (HMB.out t (List.mem_of_getElem? ht))
      have HST := Lib.hid (hst.out j t ht)
      have HBD := Lib.hid (hbd.out j)
      obtain ⟨⟨k0, k1, k2, k3, k4, k5, k6, k7, k8, k9⟩, s1, s2, s3, s4, s5⟩ := hat1
      obtain ⟨A1, e1, rfl, _⟩ := id s1
      obtain ⟨A2, e2, rfl, _⟩ := id s2
      obtain ⟨A3, e3, rfl, _⟩ := id s3
      obtain ⟨A4, e4, rfl, _⟩ := id s4
      obtain ⟨A5, e5, rfl, _⟩ := id s5
      obtain ⟨out, hout⟩ : ∃ out, out = headsL h9 (M.take j) := ⟨_, rfl⟩
      obtain ⟨out', hout'⟩ : ∃ out', out' = headsL h9 (M.take (j + 1)) := ⟨_, rfl⟩
      rw [← hout, ← hout'] at HST
      rw [← hout] at HBD Hj
      have HO' := Lib.hid hout'
      clear hout hout'
      have hle := Hj.out.bel.size
      have hnew : Below wr.heap.size wr (wr.alloc (.cells #[.int .i64 t.x, .int .i64 t.y, .int .i64 t.z, .slice A1 t.l.length e1, .slice A2 t.k.length e2, .int .i64 t.qx, .int .i64 t.qy, .slice A3 t.ql.length e3, .slice A4 t.qk.length e4, .slice A5 t.L.length e5] 67)) := (Below.refl _ _).alloc (Nat.le_refl _) _
      have Q := Lib.hid (And.intro ((s1.mono hle).up hnew) (And.intro ((s2.mono hle).up hnew) (And.intro ((s3.mono hle).up hnew) (And.intro ((s4.mono hle).up hnew) ((s5.mono hle).up hnew)))))
      have H3 : InvF w _ [segX 67 wr.heap.size [.int .i64 t.x, .int .i64 t.y, .int .i64 t.z, .slice A1 t.l.length e1, .slice A2 t.k.length e2, .int .i64 t.qx, .int .i64 t.qy, .slice A3 t.ql.length e3, .slice A4 t.qk.length e4, .slice A5 t.L.length e5], segB 5 ov out, segX 38 (w.heap.size + 1) [.slice (some ⟨bb, off, none⟩) M.length c, .int .i64 qx, .int .i64 qy, .slice C ql.length cc, .slice D qk.length dc, .slice E L.length ec], segX 33 w.heap.size [.int .i64 a, .int .i64 b, .int .i64 c0, .int .i64 d, .int .i64 e]] := Hj.out.newG 67 #[.int .i64 t.x, .int .i64 t.y, .int .i64 t.z, .slice A1 t.l.length e1, .slice A2 t.k.length e2, .int .i64 t.qx, .int .i64 t.qy, .slice A3 t.ql.length e3, .slice A4 t.qk.length e4, .slice A5 t.L.length e5] wr.heap.size
      have hk := H3.k10 (.head _)
      obtain ⟨t0, t1, t2, t3, t4⟩ := H3.c5 (.tail _ (.tail _ (.tail _ (.head _))))
      have HI := Lib.hid H3
      have HSO := Lib.hid (H3.slB 5 (.tail _ (.head _)))
      clear hcell hat hv1 s1 s2 s3 s4 s5 hnew H3 ht hle
      go_wp2_with fail
      refine (specPutHead_any a b c0 d e t.x t.y t.z t.qx t.qy _ _ _ _ _ _ out t.l t.k t.ql t.qk t.L _ HSO.out Q.out.1 Q.out.2.1 Q.out.2.2.1 Q.out.2.2.2.1 Q.out.2.2.2.2 HBD.out hq1).mono ?_
      rw [show headB a b c0 d e t.x t.y t.z t.qx t.qy t.l t.k t.ql t.qk t.L = true from HTB.out, show putHeadL a b c0 d e out t.x t.y t.z t.qx t.qy t.l t.k t.ql t.qk t.L = out' from (if_pos HTB.out).trans HST.out.symm]
      rintro ev w5 ⟨v5, rfl, ho5, hb5⟩
      have HF : Hid (InvF w w5 [segB 5 v5 (headsL h9 (M.take (j + 1))), segX 38 (w.heap.size + 1) [.slice (some ⟨bb, off, none⟩) M.length c, .int .i64 qx, .int .i64 qy, .slice C ql.length cc, .slice D qk.length dc, .slice E L.length ec], segX 33 w.heap.size [.int .i64 a, .int .i64 b, .int .i64 c0, .int .i64 d, .int .i64 e]]) := Lib.hid (by rw [← HO'.out]; exact (HI.out.moreB ho5 hb5).sub (.cons_cons _ (.cons _ (.cons _ (.cons_cons _ (.cons_cons _ .slnil))))))
      clear ho5 hb5 HI HSO Q t0 t1 t2 t3 t4 hk k0 k1 k2 k3 k4 k5 k6 k7 k8 k9 Hj HST HTB
      go_wp2
      go_roundw
      case rel => exact ⟨j + 1, v5, rfl, by omega, by go_num, HF⟩
      case measure => simp [intOf]; omega
    · obtain rfl : j = M.length := by omega
      have HBD := Lib.hid (hbd.out M.length)
      have hfull : M.take M.length = M := List.take_length
      rw [hfull] at Hj HBD
      clear hfull
      obtain ⟨o0, o1, o2, o3, o4, o5⟩ := Hj.out.c6 (.tail _ (.head _))
      obtain ⟨t0, t1, t2, t3, t4⟩ := Hj.out.c5 (.tail _ (.tail _ (.head _)))
      have hb := Hj.out.bel
      have HSO := Lib.hid (Hj.out.slB 5 (.head _))
      go_wp2_with fail
      refine (specPutQc_any a b c0 d e qx qy _ _ _ _ (headsL h9 M) ql qk L _ HSO.out (HA.out.2.1.up hb) (HA.out.2.2.1.up hb) (HA.out.2.2.2.up hb) (by have := HBD.out; omega) (by have := HV.out.2.2.1; omega)).mono ?_
      rw [HQB.out, show putQcL a b c0 d e (headsL h9 M) qx qy ql qk L = R from (if_pos HQB.out).trans HRE.out.symm]
      rintro ev w6 ⟨v6, rfl, ho6, hb6⟩
      have H6 := Lib.hid (Hj.out.moreB ho6 hb6)
      clear ho6 hb6
      go_wp2
      go_ret2
      exact ⟨_, rfl, H6.out.ownB 5 (.head _), H6.out.bel⟩
end Go.Proofs.Ytopbalemfljphaa
