/- ProofSame of the program, with slices.EqualFunc over headers. -/
import Derived.Test.YtopbalemfljphaaProofM
import Derived.Test.YtopbalemfljphaaProof
import Derived.Test.YtopbalemfljphaaWat
namespace Go.Proofs.Ytopbalemfljphaa
open Go.ChangeShapes Go.WideShapes Go.ChangeAt Go.RowKit
set_option linter.unusedSimpArgs false

set_option maxRecDepth 100000 in
set_option maxHeartbeats 8000000 in
theorem equalFuncH_any (v u : Value) (V W : List Ht) (w : World) (h : SlH w w.heap.size v V) (h' : SlH w w.heap.size u W) :
    Calls Try.prog 53 #[v, u, .func (Fn.func 54) #[] #[]] w (BoolB w (eqHs V W)) := by
  obtain ⟨A, c, rfl, h1, h2, h0, h3⟩ := h
  obtain ⟨A', c', rfl, h1', h2', h0', h3'⟩ := h'
  unfold maxLen at h2 h2'
  clear h0 h0'
  obtain ⟨R, hR⟩ : ∃ R, R = eqHs V W := ⟨_, rfl⟩
  rw [← hR]
  have HR := Lib.hid hR
  clear hR
  by_cases hlen : V.length = W.length
  · have HLEN := Lib.hid hlen
    rw [← hlen] at h1' h3' ⊢
    have hne : ((V.length : Int) != (V.length : Int)) = false := by simp
    clear hlen
    go_enter Try.func53, Try.ntmps53
    go_wp2
    go_loopw [7, 17] (fun _ i wr => ∃ j : Nat, j ≤ V.length ∧ i = .int .i64 (j : Int) ∧ Hid (SameHTo V W j) ∧ Hid (Below w.heap.size w wr))
      (fun _ i _ => V.length - (intOf i).toNat)
    case atStart => exact ⟨0, Nat.zero_le _, rfl, Lib.hid SameHTo.zero, Lib.hid (Below.refl _ _)⟩
    case round =>
      obtain ⟨j, hj, rfl, hsame, HBj⟩ := hrel
      by_cases hlt : j < V.length
      · obtain ⟨b, off, rfl, hbb, hcell⟩ := h3 (by omega)
        obtain ⟨b', off', rfl, hbb', hcell'⟩ := h3' (by omega)
        obtain ⟨t, ht⟩ := getH hlt
        have hlw : j < W.length := by have := HLEN.out; omega
        obtain ⟨q, hq⟩ := getH hlw
        have hjl : (j : Int) < (V.length : Int) := by omega
        obtain ⟨ua, ub, uqa, uqb, uqs, hat⟩ := hcell j t ht
        obtain ⟨va, vb, vqa, vqb, vqs, hat'⟩ := hcell' j q hq
        obtain ⟨⟨g0, g1, g2, g3, g4, g5, g6, g7, g8, g9⟩, s1, s2, s3, s4, s5⟩ := hat.below HBj.out hbb
        obtain ⟨⟨k0, k1, k2, k3, k4, k5, k6, k7, k8, k9⟩, r1, r2, r3, r4, r5⟩ := hat'
        obtain ⟨A1, e1, rfl, _⟩ := id s1
        obtain ⟨A2, e2, rfl, _⟩ := id s2
        obtain ⟨A3, e3, rfl, _⟩ := id s3
        obtain ⟨A4, e4, rfl, _⟩ := id s4
        obtain ⟨A5, e5, rfl, _⟩ := id s5
        obtain ⟨B1, f1, rfl, _⟩ := id r1
        obtain ⟨B2, f2, rfl, _⟩ := id r2
        obtain ⟨B3, f3, rfl, _⟩ := id r3
        obtain ⟨B4, f4, rfl, _⟩ := id r4
        obtain ⟨B5, f5, rfl, _⟩ := id r5
        have H1 := (InvF.start wr).newG 67 #[.int .i64 t.x, .int .i64 t.y, .int .i64 t.z, .slice A1 t.l.length e1, .slice A2 t.k.length e2, .int .i64 t.qx, .int .i64 t.qy, .slice A3 t.ql.length e3, .slice A4 t.qk.length e4, .slice A5 t.L.length e5] wr.heap.size
        have hb1 : Below w.heap.size w (wr.alloc (.cells #[.int .i64 t.x, .int .i64 t.y, .int .i64 t.z, .slice A1 t.l.length e1, .slice A2 t.k.length e2, .int .i64 t.qx, .int .i64 t.qy, .slice A3 t.ql.length e3, .slice A4 t.qk.length e4, .slice A5 t.L.length e5] 67)) := HBj.out.trans (H1.bel.mono HBj.out.size)
        replace k0 := (hb1.cell (p := ⟨b', off' + j * 10, none⟩) hbb').trans k0
        replace k1 := (hb1.cell (p := ⟨b', off' + j * 10 + 1, none⟩) hbb').trans k1
        replace k2 := (hb1.cell (p := ⟨b', off' + j * 10 + 2, none⟩) hbb').trans k2
        replace k3 := (hb1.cell (p := ⟨b', off' + j * 10 + 3, none⟩) hbb').trans k3
        replace k4 := (hb1.cell (p := ⟨b', off' + j * 10 + 4, none⟩) hbb').trans k4
        replace k5 := (hb1.cell (p := ⟨b', off' + j * 10 + 5, none⟩) hbb').trans k5
        replace k6 := (hb1.cell (p := ⟨b', off' + j * 10 + 6, none⟩) hbb').trans k6
        replace k7 := (hb1.cell (p := ⟨b', off' + j * 10 + 7, none⟩) hbb').trans k7
        replace k8 := (hb1.cell (p := ⟨b', off' + j * 10 + 8, none⟩) hbb').trans k8
        replace k9 := (hb1.cell (p := ⟨b', off' + j * 10 + 9, none⟩) hbb').trans k9
        have H2 := H1.newG 67 #[.int .i64 q.x, .int .i64 q.y, .int .i64 q.z, .slice B1 q.l.length f1, .slice B2 q.k.length f2, .int .i64 q.qx, .int .i64 q.qy, .slice B3 q.ql.length f3, .slice B4 q.qk.length f4, .slice B5 q.L.length f5] (wr.heap.size + 1)
        obtain ⟨m0, m1, m2, m3, m4, m5, m6, m7, m8, m9⟩ := H2.k10 (.tail _ (.head _))
        obtain ⟨n0, n1, n2, n3, n4, n5, n6, n7, n8, n9⟩ := H2.k10 (.head _)
        have HB2 : Hid (Below w.heap.size w ((wr.alloc (.cells #[.int .i64 t.x, .int .i64 t.y, .int .i64 t.z, .slice A1 t.l.length e1, .slice A2 t.k.length e2, .int .i64 t.qx, .int .i64 t.qy, .slice A3 t.ql.length e3, .slice A4 t.qk.length e4, .slice A5 t.L.length e5] 67)).alloc (.cells #[.int .i64 q.x, .int .i64 q.y, .int .i64 q.z, .slice B1 q.l.length f1, .slice B2 q.k.length f2, .int .i64 q.qx, .int .i64 q.qy, .slice B3 q.ql.length f3, .slice B4 q.qk.length f4, .slice B5 q.L.length f5] 67))) := Lib.hid (HBj.out.trans (H2.bel.mono HBj.out.size))
        have Q1 := Lib.hid ((s1.mono HBj.out.size).up H2.bel)
        have Q2 := Lib.hid ((s2.mono HBj.out.size).up H2.bel)
        have Q3 := Lib.hid ((s3.mono HBj.out.size).up H2.bel)
        have Q4 := Lib.hid ((s4.mono HBj.out.size).up H2.bel)
        have Q5 := Lib.hid ((s5.mono HBj.out.size).up H2.bel)
        have P1 := Lib.hid (r1.up HB2.out)
        have P2 := Lib.hid (r2.up HB2.out)
        have P3 := Lib.hid (r3.up HB2.out)
        have P4 := Lib.hid (r4.up HB2.out)
        have P5 := Lib.hid (r5.up HB2.out)
        obtain ⟨sb, hsb⟩ : ∃ sb, sb = sameHt t q := ⟨_, rfl⟩
        have HNO : Hid (sb = false → R = false) := Lib.hid (fun h => by rw [HR.out, eqHs_no ht hq (hsb.symm.trans h)])
        have HYES : Hid (sb = true → SameHTo V W (j + 1)) := Lib.hid (fun h => hsame.out.succ ht hq (hsb.symm.trans h))
        have HSB := Lib.hid hsb
        clear hcell hcell' s1 s2 s3 s4 s5 r1 r2 r3 r4 r5 hsb ht hq H1 H2 hb1 h3 h3' hat
        go_wp2_with fail
        refine (implHeadSame_any t.x t.y t.z t.qx t.qy q.x q.y q.z q.qx q.qy _ _ _ _ _ _ _ _ _ _ t.l t.k t.ql t.qk t.L q.l q.k q.ql q.qk q.L _ Q1.out Q2.out Q3.out Q4.out Q5.out P1.out P2.out P3.out P4.out P5.out).mono ?_
        rw [show sameHB t.x t.y t.z t.qx t.qy t.l t.k t.ql t.qk t.L q.x q.y q.z q.qx q.qy q.l q.k q.ql q.qk q.L = sb from HSB.out.symm]
        rintro ev w11 ⟨rfl, hb11⟩
        have HB3 := Lib.hid (HB2.out.trans (hb11.mono HB2.out.size))
        clear hb11 g0 g1 g2 g3 g4 g5 g6 g7 g8 g9 k0 k1 k2 k3 k4 k5 k6 k7 k8 k9 m0 m1 m2 m3 m4 m5 m6 m7 m8 m9 n0 n1 n2 n3 n4 n5 n6 n7 n8 n9 HB2
        rcases sb with _ | _
        · obtain rfl : R = false := HNO.out (by rfl)
          go_wp2
          go_ret
          exact ⟨rfl, HB3.out⟩
        · have HS := Lib.hid (HYES.out (by rfl))
          go_wp2
          go_roundw
          case rel => exact ⟨j + 1, by omega, by go_num, HS, HB3⟩
          case measure => simp [intOf]; omega
      · obtain rfl : j = V.length := by omega
        obtain rfl : R = true := by rw [HR.out]; exact eqHs_yes HLEN.out hsame.out
        go_wp2
        go_ret
        exact ⟨rfl, HBj.out⟩
  · obtain rfl : R = false := by rw [HR.out]; exact eqHs_len hlen
    have hne : ((V.length : Int) != (W.length : Int)) = true := by simp; omega
    clear h3 h3'
    go_enter Try.func53, Try.ntmps53
    go_wp2
    go_ret
    exact ⟨rfl, Below.refl _ _⟩

set_option maxRecDepth 100000 in
set_option maxHeartbeats 8000000 in
theorem implProofSame_any (qx qy qx' qy' : Int) (hs qa qb qs hs' qa' qb' qs' : Value) (M : List Ht) (ql qk : List UInt8) (L : List (List UInt8)) (M' : List Ht) (ql' qk' : List UInt8) (L' : List (List UInt8)) (w : World) (hm : SlH w w.heap.size hs M) (hqa : Sl w w.heap.size qa ql) (hqb : Sl w w.heap.size qb qk) (hqs : SlS w w.heap.size qs L) (hm' : SlH w w.heap.size hs' M') (hqa' : Sl w w.heap.size qa' ql') (hqb' : Sl w w.heap.size qb' qk') (hqs' : SlS w w.heap.size qs' L') :
    Calls Try.prog 16 #[.agg #[hs, .int .i64 qx, .int .i64 qy, qa, qb, qs], .agg #[hs', .int .i64 qx', .int .i64 qy', qa', qb', qs']] w (BoolB w (samePB M qx qy ql qk L M' qx' qy' ql' qk' L')) := by
  obtain ⟨A, c, rfl, p1, p2, p0, p3⟩ := id hm
  clear p1 p2 p0 p3
  obtain ⟨C, cc, rfl, p1, p2, p0, p3⟩ := id hqa
  clear p1 p2 p0 p3
  obtain ⟨D, dc, rfl, p1, p2, p0, p3⟩ := id hqb
  clear p1 p2 p0 p3
  obtain ⟨E, ec, rfl, p1, p2, p0, p3⟩ := id hqs
  clear p1 p2 p0 p3
  obtain ⟨A', c', rfl, p1, p2, p0, p3⟩ := id hm'
  clear p1 p2 p0 p3
  obtain ⟨C', cc', rfl, p1, p2, p0, p3⟩ := id hqa'
  clear p1 p2 p0 p3
  obtain ⟨D', dc', rfl, p1, p2, p0, p3⟩ := id hqb'
  clear p1 p2 p0 p3
  obtain ⟨E', ec', rfl, p1, p2, p0, p3⟩ := id hqs'
  clear p1 p2 p0 p3
  obtain ⟨R, hR⟩ : ∃ R, R = samePB M qx qy ql qk L M' qx' qy' ql' qk' L' := ⟨_, rfl⟩
  rw [← hR]
  unfold samePB at hR
  obtain ⟨sh, hsh⟩ : ∃ sh, sh = eqHs M M' := ⟨_, rfl⟩
  obtain ⟨sq, hsq⟩ : ∃ sq, sq = sameQB qx qy ql qk L qx' qy' ql' qk' L' := ⟨_, rfl⟩
  rw [← hsh, ← hsq] at hR
  have HSH := Lib.hid hsh
  have HSQ := Lib.hid hsq
  have HR := Lib.hid hR
  clear hsh hsq hR
  have HQ := Lib.hid (And.intro hm (And.intro hm' (And.intro hqa (And.intro hqb (And.intro hqs (And.intro hqa' (And.intro hqb' hqs')))))))
  have H1 := Lib.hid (((InvF.start w).newG 38 #[.slice A M.length c, .int .i64 qx, .int .i64 qy, .slice C ql.length cc, .slice D qk.length dc, .slice E L.length ec] w.heap.size).newG 38 #[.slice A' M'.length c', .int .i64 qx', .int .i64 qy', .slice C' ql'.length cc', .slice D' qk'.length dc', .slice E' L'.length ec'] (w.heap.size + 1))
  clear hm hm' hqa hqb hqs hqa' hqb' hqs'
  obtain ⟨n0, n1, n2, n3, n4, n5⟩ := H1.out.c6 (.tail _ (.head _))
  obtain ⟨m0, m1, m2, m3, m4, m5⟩ := H1.out.c6 (.head _)
  go_enter Try.func16, Try.ntmps16
  go_wp2_with fail
  refine (equalFuncH_any _ _ M M' _ (HQ.out.1.up H1.out.bel) (HQ.out.2.1.up H1.out.bel)).mono ?_
  rw [← HSH.out]
  rintro ev w2 ⟨rfl, hb2⟩
  have H2 := Lib.hid (H1.out.up hb2)
  clear hb2 n0 n1 n2 n3 n4 n5 m0 m1 m2 m3 m4 m5 H1
  have hb := H2.out.bel
  obtain ⟨n0, n1, n2, n3, n4, n5⟩ := H2.out.c6 (.tail _ (.head _))
  obtain ⟨m0, m1, m2, m3, m4, m5⟩ := H2.out.c6 (.head _)
  rcases sh with _ | _
  · obtain rfl : R = false := by rw [HR.out]; rfl
    go_wp2
    go_ret
    exact ⟨rfl, hb⟩
  obtain rfl : R = sq := by rw [HR.out]; rfl
  go_wp2_with fail
  refine (implQcSame_any qx qy qx' qy' _ _ _ _ _ _ ql qk L ql' qk' L' _ (HQ.out.2.2.1.up hb) (HQ.out.2.2.2.1.up hb) (HQ.out.2.2.2.2.1.up hb) (HQ.out.2.2.2.2.2.1.up hb) (HQ.out.2.2.2.2.2.2.1.up hb) (HQ.out.2.2.2.2.2.2.2.up hb)).mono ?_
  rw [← HSQ.out]
  rintro ev w3 ⟨rfl, hw3⟩
  have HB3 := Lib.hid (hb.trans (hw3.mono hb.size))
  clear n0 n1 n2 n3 n4 n5 m0 m1 m2 m3 m4 m5
  go_wp2
  go_ret
  exact ⟨rfl, HB3.out⟩
end Go.Proofs.Ytopbalemfljphaa
