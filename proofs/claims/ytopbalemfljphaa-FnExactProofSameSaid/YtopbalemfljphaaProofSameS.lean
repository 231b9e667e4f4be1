/- ProofSame of the model. -/
import Derived.Test.YtopbalemfljphaaProofM
import Derived.Test.YtopbalemfljphaaProof
import Derived.Test.YtopbalemfljphaaWat
namespace Go.Proofs.Ytopbalemfljphaa
open Go.ChangeShapes Go.WideShapes Go.ChangeAt Go.RowKit
set_option linter.unusedSimpArgs false

set_option maxRecDepth 100000 in
set_option maxHeartbeats 8000000 in
theorem specProofSame_any (qx qy qx' qy' : Int) (hs qa qb qs hs' qa' qb' qs' : Value) (M : List Ht) (ql qk : List UInt8) (L : List (List UInt8)) (M' : List Ht) (ql' qk' : List UInt8) (L' : List (List UInt8)) (w : World) (hm : SlH w w.heap.size hs M) (hqa : Sl w w.heap.size qa ql) (hqb : Sl w w.heap.size qb qk) (hqs : SlS w w.heap.size qs L) (hm' : SlH w w.heap.size hs' M') (hqa' : Sl w w.heap.size qa' ql') (hqb' : Sl w w.heap.size qb' qk') (hqs' : SlS w w.heap.size qs' L') :
    Calls Try.prog 15 #[.agg #[hs, .int .i64 qx, .int .i64 qy, qa, qb, qs], .agg #[hs', .int .i64 qx', .int .i64 qy', qa', qb', qs']] w (BoolB w (samePB M qx qy ql qk L M' qx' qy' ql' qk' L')) := by
  obtain ⟨A, c, rfl, h1, h2, h0, h3⟩ := hm
  unfold maxLen at h2
  clear h0
  obtain ⟨C, cc, rfl, p1, p2, p0, p3⟩ := id hqa
  clear p1 p2 p0 p3
  obtain ⟨D, dc, rfl, p1, p2, p0, p3⟩ := id hqb
  clear p1 p2 p0 p3
  obtain ⟨E, ec, rfl, p1, p2, p0, p3⟩ := id hqs
  clear p1 p2 p0 p3
  obtain ⟨A', c', rfl, h1', h2', h0', h3'⟩ := hm'
  unfold maxLen at h2'
  clear h0'
  obtain ⟨C', cc', rfl, p1, p2, p0, p3⟩ := id hqa'
  clear p1 p2 p0 p3
  obtain ⟨D', dc', rfl, p1, p2, p0, p3⟩ := id hqb'
  clear p1 p2 p0 p3
  obtain ⟨E', ec', rfl, p1, p2, p0, p3⟩ := id hqs'
  clear p1 p2 p0 p3
  obtain ⟨R, hR⟩ : ∃ R, R = samePB M qx qy ql qk L M' qx' qy' ql' qk' L' := ⟨_, rfl⟩
  rw [← hR]
  unfold samePB at hR
  obtain ⟨ss, hss⟩ : ∃ ss, ss = [segX 38 (w.heap.size + 1) [.slice A' M'.length c', .int .i64 qx', .int .i64 qy', .slice C' ql'.length cc', .slice D' qk'.length dc', .slice E' L'.length ec'], segX 38 w.heap.size [.slice A M.length c, .int .i64 qx, .int .i64 qy, .slice C ql.length cc, .slice D qk.length dc, .slice E L.length ec]] := ⟨_, rfl⟩
  have H0 := ((InvF.start w).newG 38 #[.slice A M.length c, .int .i64 qx, .int .i64 qy, .slice C ql.length cc, .slice D qk.length dc, .slice E L.length ec] w.heap.size).newG 38 #[.slice A' M'.length c', .int .i64 qx', .int .i64 qy', .slice C' ql'.length cc', .slice D' qk'.length dc', .slice E' L'.length ec'] (w.heap.size + 1)
  have H1 : Hid (InvF w ((w.alloc (.cells #[.slice A M.length c, .int .i64 qx, .int .i64 qy, .slice C ql.length cc, .slice D qk.length dc, .slice E L.length ec] 38)).alloc (.cells #[.slice A' M'.length c', .int .i64 qx', .int .i64 qy', .slice C' ql'.length cc', .slice D' qk'.length dc', .slice E' L'.length ec'] 38)) ss) := Lib.hid (by rw [hss]; exact H0)
  have HM1 : Hid (segX 38 (w.heap.size + 1) [.slice A' M'.length c', .int .i64 qx', .int .i64 qy', .slice C' ql'.length cc', .slice D' qk'.length dc', .slice E' L'.length ec'] ∈ ss) := Lib.hid (by rw [hss]; exact .head _)
  have HM2 : Hid (segX 38 w.heap.size [.slice A M.length c, .int .i64 qx, .int .i64 qy, .slice C ql.length cc, .slice D qk.length dc, .slice E L.length ec] ∈ ss) := Lib.hid (by rw [hss]; exact .tail _ (.head _))
  have HQ := Lib.hid (And.intro hqa (And.intro hqb (And.intro hqs (And.intro hqa' (And.intro hqb' hqs')))))
  clear hss H0 hqa hqb hqs hqa' hqb' hqs'
  obtain ⟨sq, hsq⟩ : ∃ sq, sq = sameQB qx qy ql qk L qx' qy' ql' qk' L' := ⟨_, rfl⟩
  rw [← hsq] at hR
  have HSQ := Lib.hid hsq
  have HR := Lib.hid hR
  clear hsq hR
  have hB := H1.out.bel
  by_cases hlen : M.length = M'.length
  case neg =>
    have hcmp : ((M.length : Int) != (M'.length : Int)) = true := by rw [bne_iff_ne]; omega
    obtain rfl : R = false := by rw [HR.out, eqHs_len hlen]; rfl
    clear hlen h3 h3'
    go_enter Try.func15, Try.ntmps15
    go_wp2
    go_ret
    exact ⟨rfl, hB⟩
  have hcmp : ((M.length : Int) != (M'.length : Int)) = false := by rw [bne_eq_false_iff_eq]; omega
  have HLEN := Lib.hid hlen
  clear hlen hB
  go_enter Try.func15, Try.ntmps15
  go_wp2
  go_loopw [16] (fun i wr => ∃ j : Nat, j ≤ M.length ∧ i = .int .i64 (j : Int) ∧ Hid (SameHTo M M' j) ∧ ∃ z : WF w ss, wr = z.w)
    (fun i _ => M.length - (intOf i).toNat)
  case atStart => exact ⟨0, Nat.zero_le _, rfl, Lib.hid SameHTo.zero, ⟨_, H1.out⟩, rfl⟩
  case round =>
    clear H1
    obtain ⟨j, hj, rfl, hsame, z, rfl⟩ := hrel
    by_cases hlt : j < M.length
    · obtain ⟨b, off, rfl, hbb, hcell⟩ := h3 (by omega)
      obtain ⟨b', off', rfl, hbb', hcell'⟩ := h3' (by have := HLEN.out; omega)
      obtain ⟨t, ht⟩ := getH hlt
      have hlt' : j < M'.length := by have := HLEN.out; omega
      obtain ⟨u, hu⟩ := getH hlt'
      obtain ⟨ua, ub, uqa, uqb, uqs, hat⟩ := hcell j t ht
      obtain ⟨va, vb, vqa, vqb, vqs, hat'⟩ := hcell' j u hu
      have p1 := hat.2
      have p2 := hat'.2
      obtain ⟨sb, hsb⟩ : ∃ sb, sb = sameHt t u := ⟨_, rfl⟩
      have Q := Lib.hid (fun y : WF w ss => y.below (specHeadSame_any t.x t.y t.z t.qx t.qy u.x u.y u.z u.qx u.qy ua ub uqa uqb uqs va vb vqa vqb vqs t.l t.k t.ql t.qk t.L u.l u.k u.ql u.qk u.L y.w (p1.1.up y.h.bel) (p1.2.1.up y.h.bel) (p1.2.2.1.up y.h.bel) (p1.2.2.2.1.up y.h.bel) (p1.2.2.2.2.up y.h.bel) (p2.1.up y.h.bel) (p2.2.1.up y.h.bel) (p2.2.2.1.up y.h.bel) (p2.2.2.2.1.up y.h.bel) (p2.2.2.2.2.up y.h.bel)))
      simp only [show sameHB t.x t.y t.z t.qx t.qy t.l t.k t.ql t.qk t.L u.x u.y u.z u.qx u.qy u.l u.k u.ql u.qk u.L = sb from hsb.symm] at Q
      have HNO : Hid (sb = false → R = false) := Lib.hid (fun h => by rw [HR.out, eqHs_no ht hu (hsb.symm.trans h)]; rfl)
      have HYES : Hid (sb = true → SameHTo M M' (j + 1)) := Lib.hid (fun h => hsame.out.succ ht hu (hsb.symm.trans h))
      obtain ⟨⟨c0, c1, c2, c3, c4, c5, c6, c7, c8, c9⟩, _⟩ := hat
      obtain ⟨⟨d0, d1, d2, d3, d4, d5, d6, d7, d8, d9⟩, _⟩ := hat'
      replace c0 := WF.cellOldH (ss := ss) hbb c0; replace d0 := WF.cellOldH (ss := ss) hbb' d0
      replace c1 := WF.cellOldH (ss := ss) hbb c1; replace d1 := WF.cellOldH (ss := ss) hbb' d1
      replace c2 := WF.cellOldH (ss := ss) hbb c2; replace d2 := WF.cellOldH (ss := ss) hbb' d2
      replace c3 := WF.cellOldH (ss := ss) hbb c3; replace d3 := WF.cellOldH (ss := ss) hbb' d3
      replace c4 := WF.cellOldH (ss := ss) hbb c4; replace d4 := WF.cellOldH (ss := ss) hbb' d4
      replace c5 := WF.cellOldH (ss := ss) hbb c5; replace d5 := WF.cellOldH (ss := ss) hbb' d5
      replace c6 := WF.cellOldH (ss := ss) hbb c6; replace d6 := WF.cellOldH (ss := ss) hbb' d6
      replace c7 := WF.cellOldH (ss := ss) hbb c7; replace d7 := WF.cellOldH (ss := ss) hbb' d7
      replace c8 := WF.cellOldH (ss := ss) hbb c8; replace d8 := WF.cellOldH (ss := ss) hbb' d8
      replace c9 := WF.cellOldH (ss := ss) hbb c9; replace d9 := WF.cellOldH (ss := ss) hbb' d9
      have m0 := fun y : WF w ss => y.h.atX HM1.out 0 rfl
      have n0 := fun y : WF w ss => y.h.atX HM2.out 0 rfl
      have hne : Nonempty (WF w ss) := ⟨z⟩
      clear hcell hcell' h3 h3' p1 p2 hbb hbb' ht hu hsb
      generalize t.x = tx at *; generalize t.y = ty at *; generalize t.z = tz at *; generalize t.qx = tqx at *; generalize t.qy = tqy at *
      generalize u.x = vx at *; generalize u.y = vy at *; generalize u.z = vz at *; generalize u.qx = vqx at *; generalize u.qy = vqy at *
      rcases sb with _ | _
      · obtain rfl : R = false := HNO.out (by rfl)
        go_wp2_with fail
        refine wp_region_wf (by kernel_rfl) (by kernel_rfl) z.h ?_
        repeat (go_big_quiet_step ((go_at_call 51; exact Q.out _)))
        refine wpQuiet_nil ?_
        rintro _ ⟨y, rfl⟩
        have hb := y.h.bel
        go_wp2
        go_ret
        exact ⟨rfl, hb⟩
      · have HS := Lib.hid (HYES.out (by rfl))
        go_wp2_with fail
        refine wp_region_wf (by kernel_rfl) (by kernel_rfl) z.h ?_
        repeat (go_big_quiet_step ((go_at_call 51; exact Q.out _)))
        refine wpQuiet_nil ?_
        rintro _ ⟨y, rfl⟩
        go_wp2
        go_roundw
        case rel => exact ⟨j + 1, by omega, by go_num, HS, y, by first | trivial | rfl⟩
        case measure => simp [intOf]; omega
    · obtain rfl : j = M.length := by omega
      have HRQ : Hid (R = sq) := Lib.hid (by rw [HR.out, eqHs_yes HLEN.out hsame.out, Bool.true_and])
      obtain ⟨o0, o1, o2, o3, o4, o5⟩ := z.h.c6 HM1.out
      obtain ⟨q0, q1, q2, q3, q4, q5⟩ := z.h.c6 HM2.out
      have hb := z.h.bel
      clear h3 h3'
      go_wp2_with fail
      refine (specQcSame_any qx qy qx' qy' _ _ _ _ _ _ ql qk L ql' qk' L' _ (HQ.out.1.up hb) (HQ.out.2.1.up hb) (HQ.out.2.2.1.up hb) (HQ.out.2.2.2.1.up hb) (HQ.out.2.2.2.2.1.up hb) (HQ.out.2.2.2.2.2.up hb)).mono ?_
      rw [← HSQ.out, ← HRQ.out]
      rintro ev w3 ⟨rfl, hw3⟩
      have HB3 := Lib.hid (hb.trans (hw3.mono hb.size))
      go_wp2
      go_ret
      exact ⟨rfl, HB3.out⟩
end Go.Proofs.Ytopbalemfljphaa
