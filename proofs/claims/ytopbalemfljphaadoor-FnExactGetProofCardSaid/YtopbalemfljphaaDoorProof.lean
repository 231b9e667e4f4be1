/- Commit proofs: the contracts of the helpers of exact laws on them: szProof, toProof, eqProof, markProof, heldProof. -/
import Derived.Test.YtopbalemfljphaaDoorHdSC
namespace Go.Proofs.YtopbalemfljphaaDoor
open Go.ChangeShapes Go.WideShapes Go.ChangeAt Go.RowKit

section
variable {W w : World} {ss : List (List Row)} {T : TypeId} {g : Nat}
theorem InvF.c6 {a b c d e f : Value} (H : InvF W w ss) (h : segX T g [a, b, c, d, e, f] ∈ ss) : w.cell? ⟨g, 0, none⟩ = some a ∧ w.cell? ⟨g, 1, none⟩ = some b ∧ w.cell? ⟨g, 2, none⟩ = some c ∧ w.cell? ⟨g, 3, none⟩ = some d ∧ w.cell? ⟨g, 4, none⟩ = some e ∧ w.cell? ⟨g, 5, none⟩ = some f := ⟨H.atX h 0 rfl, H.atX h 1 rfl, H.atX h 2 rfl, H.atX h 3 rfl, H.atX h 4 rfl, H.atX h 5 rfl⟩
theorem InvF.f6 {a b c d e f : Value} (H : InvF W w ss) (h : segX T g [a, b, c, d, e, f] ∈ ss) : w.frozen? ⟨g, 0, none⟩ = false ∧ w.frozen? ⟨g, 1, none⟩ = false ∧ w.frozen? ⟨g, 2, none⟩ = false ∧ w.frozen? ⟨g, 3, none⟩ = false ∧ w.frozen? ⟨g, 4, none⟩ = false ∧ w.frozen? ⟨g, 5, none⟩ = false := ⟨H.frX h 0, H.frX h 1, H.frX h 2, H.frX h 3, H.frX h 4, H.frX h 5⟩
theorem InvF.over6 {a b c d e f : Value} (H : InvF W w (segX T g [a, b, c, d, e, f] :: ss)) (a' b' c' d' e' f' : Value) :
    InvF W ((((((w.setCell ⟨g, 0, none⟩ a').setCell ⟨g, 1, none⟩ b').setCell ⟨g, 2, none⟩ c').setCell ⟨g, 3, none⟩ d').setCell ⟨g, 4, none⟩ e').setCell ⟨g, 5, none⟩ f') (segX T g [a', b', c', d', e', f'] :: ss) := (((((H.setX 0 a').setX 1 b').setX 2 c').setX 3 d').setX 4 e').setX 5 f'
theorem InvF.sets5x1 {a b c d e f : Value} (H : InvF W w (segX T g [a, b, c, d, e, f] :: ss)) (b' c' d' e' f' : Value) : InvF W (w.setCells g 1 [b', c', d', e', f']) (segX T g [a, b', c', d', e', f'] :: ss) := InvF.setsL [b', c', d', e', f'] 1 w [a, b, c, d, e, f] H
theorem InvF.sets6 {a b c d e f : Value} (H : InvF W w (segX T g [a, b, c, d, e, f] :: ss)) (a' b' c' d' e' f' : Value) : InvF W (w.setCells g 0 [a', b', c', d', e', f']) (segX T g [a', b', c', d', e', f'] :: ss) := InvF.setsL [a', b', c', d', e', f'] 0 w [a, b, c, d, e, f] H
theorem ten6 {p0 p1 p2 p3 p4 p5 u : Prop} (h : p0 ∧ p1 ∧ p2 ∧ p3 ∧ p4 ∧ p5) (k : u) : p0 ∧ p1 ∧ p2 ∧ p3 ∧ p4 ∧ p5 ∧ u := ⟨h.1, h.2.1, h.2.2.1, h.2.2.2.1, h.2.2.2.2.1, h.2.2.2.2.2, k⟩
end
/-- What szProof leaves of m. -/
def szPZ (M : List Ht) (ql qk : List UInt8) (L : List (List UInt8)) (m : Int) : Int := if m < (M.length : Int) + (volH M : Int) + (ql.length : Int) + (qk.length : Int) + (L.length : Int) + (sumL L : Int) then -1 else m - ((M.length : Int) + (volH M : Int) + (ql.length : Int) + (qk.length : Int) + (L.length : Int) + (sumL L : Int))
theorem szPZ_big {M : List Ht} {ql qk : List UInt8} {L : List (List UInt8)} {m : Int} (h : m < (M.length : Int) + (volH M : Int) + (ql.length : Int) + (qk.length : Int) + (L.length : Int) + (sumL L : Int)) : szPZ M ql qk L m = -1 := if_pos h
theorem szPZ_ok {M : List Ht} {ql qk : List UInt8} {L : List (List UInt8)} {m : Int} (h : ¬ m < (M.length : Int) + (volH M : Int) + (ql.length : Int) + (qk.length : Int) + (L.length : Int) + (sumL L : Int)) : szPZ M ql qk L m = m - ((M.length : Int) + (volH M : Int) + (ql.length : Int) + (qk.length : Int) + (L.length : Int) + (sumL L : Int)) := if_neg h
/-- The call returns a proof of new rows; nothing that was there has turned. -/
def FreshP (w : World) (qx qy : Int) (M : List Ht) (ql qk : List UInt8) (L : List (List UInt8)) (e : Ending) (w' : World) : Prop :=
  ∃ hs qa qb qs ps vs, e = .returned (.agg #[hs, .int .i64 qx, .int .i64 qy, qa, qb, qs]) ∧ OkH M ps ∧ vs.length = L.length ∧ InvF w w' [segH hs ps M, segB 5 qa ql, segB 5 qb qk, segS 24 5 qs vs L]
set_option maxHeartbeats 2000000 in
theorem eqProof_any (qx qy : Int) (hs qa qb qs hs' qa' qb' qs' : Value) (M : List Ht) (ql qk : List UInt8) (L : List (List UInt8)) (w : World) (hm0 : SlH w w.heap.size hs M) (hqa : Sl w w.heap.size qa ql) (hqb : Sl w w.heap.size qb qk) (hqs : SlS w w.heap.size qs L) (hm0' : SlH w w.heap.size hs' M) (hqa' : Sl w w.heap.size qa' ql) (hqb' : Sl w w.heap.size qb' qk) (hqs' : SlS w w.heap.size qs' L) :
    Calls Tryd.prog 9 #[.agg #[hs, .int .i64 qx, .int .i64 qy, qa, qb, qs], .agg #[hs', .int .i64 qx, .int .i64 qy, qa', qb', qs']] w (Yes w) := by
  obtain ⟨A, c, rfl, p1, p2, p0, p3⟩ := id hm0
  clear p1 p2 p0 p3
  obtain ⟨C, cc, rfl, p1, p2, p0, p3⟩ := id hqa
  clear p1 p2 p0 p3
  obtain ⟨D, dc, rfl, p1, p2, p0, p3⟩ := id hqb
  clear p1 p2 p0 p3
  obtain ⟨E, ec, rfl, p1, p2, p0, p3⟩ := id hqs
  clear p1 p2 p0 p3
  obtain ⟨A', c', rfl, p1, p2, p0, p3⟩ := id hm0'
  clear p1 p2 p0 p3
  obtain ⟨C', cc', rfl, p1, p2, p0, p3⟩ := id hqa'
  clear p1 p2 p0 p3
  obtain ⟨D', dc', rfl, p1, p2, p0, p3⟩ := id hqb'
  clear p1 p2 p0 p3
  obtain ⟨E', ec', rfl, p1, p2, p0, p3⟩ := id hqs'
  clear p1 p2 p0 p3
  have HK := Lib.hid (((InvF.start w).newG 30 #[.slice A M.length c, .int .i64 qx, .int .i64 qy, .slice C ql.length cc, .slice D qk.length dc, .slice E L.length ec] w.heap.size).newG 30 #[.slice A' M.length c', .int .i64 qx, .int .i64 qy, .slice C' ql.length cc', .slice D' qk.length dc', .slice E' L.length ec'] (w.heap.size + 1))
  have hB := HK.out.bel
  have HS := Lib.hid (And.intro hqa (And.intro hqb (And.intro hqs (And.intro hqa' (And.intro hqb' hqs')))))
  go_enter Tryd.func9, Tryd.ntmps9
  go_wp2_with fail
  refine (eqHeadS_any _ _ M _ (hm0.up hB) (hm0'.up hB)).mono ?_
  rintro e w2 ⟨rfl, hw⟩
  have HK2 := HK.out.up hw
  obtain ⟨o0, o1, o2, o3, o4, o5⟩ := HK2.c6 (.head _)
  obtain ⟨q0, q1, q2, q3, q4, q5⟩ := HK2.c6 (.tail _ (.head _))
  have hb2 := HK2.bel
  go_wp2_with fail
  refine (eqQc_any qx qy _ _ _ _ _ _ ql qk L _ (HS.out.1.up hb2) (HS.out.2.1.up hb2) (HS.out.2.2.1.up hb2) (HS.out.2.2.2.1.up hb2) (HS.out.2.2.2.2.1.up hb2) (HS.out.2.2.2.2.2.up hb2)).mono ?_
  rintro e w3 ⟨rfl, hw3⟩
  have HB3 := Lib.hid (hb2.trans (hw3.mono hb2.size))
  go_wp2_with fail
  go_ret
  exact ⟨rfl, HB3.out⟩

set_option maxHeartbeats 4000000 in
theorem markProof_z (qx qy : Int) (W w : World) (hs qa qb qs : Value) (ps : List HP) (vs : List Value) (M : List Ht) (ql qk : List UInt8) (L : List (List UInt8)) (ss : List (List Row)) (m : Nat) (mz : Int) (hp : OkH M ps) (hv : vs.length = L.length) (K : InvF W w (segH hs ps M :: segB 5 qa ql :: segB 5 qb qk :: segS 24 5 qs vs L :: ss)) (hz : mz = (m : Int)) (hm : m ≤ 134217728) (hM : mkH M ≤ 8388608) (hql : ql.length ≤ 4194304) (hqk : qk.length ≤ 4194304) (hN : sumL L ≤ 4194304) :
    Calls Tryd.prog 12 #[.agg #[hs, .int .i64 qx, .int .i64 qy, qa, qb, qs], .int .i64 mz] w (fun e w' => e = .returned (.int .i64 (mz + (mkH M : Int) + (ql.length : Int) + (qk.length : Int) + (sumL L : Int))) ∧
      InvF W w' (segH hs ps (marksH m M) :: segB 5 qa (marks (m + mkH M) ql.length) :: segB 5 qb (marks (m + mkH M + ql.length) qk.length) :: segS 24 5 qs vs (marksS (m + mkH M + ql.length + qk.length) L) :: ss)) := by
  obtain ⟨A, c, rfl⟩ := K.openH hp (.head _)
  obtain ⟨C, cc, rfl⟩ := K.openB' (.tail _ (.head _))
  obtain ⟨D, dc, rfl⟩ := K.openB' (.tail _ (.tail _ (.head _)))
  obtain ⟨E, ec, rfl⟩ := K.openS hv (.tail _ (.tail _ (.tail _ (.head _))))
  have HP := Lib.hid hp
  have HV := Lib.hid hv
  have K1 := K.newG 30 #[.slice A M.length c, .int .i64 qx, .int .i64 qy, .slice C ql.length cc, .slice D qk.length dc, .slice E L.length ec] w.heap.size
  replace K1 := Lib.hid (K1.front 1 rfl)
  have HZ := Lib.hid hz
  have HM := Lib.hid hM
  have HQ := Lib.hid (And.intro hql (And.intro hqk hN))
  have hz2 : Hid (mz + (mkH M : Int) = ((m + mkH M : Nat) : Int)) := Lib.hid (by omega)
  have hb0 : 0 ≤ mz := by omega
  have hb1 : mz ≤ 134217728 := by omega
  clear K hz hp hv hM hql hqk hN
  go_enter Tryd.func12, Tryd.ntmps12
  go_wp2_with fail
  refine (markHeadS_z W _ _ ps M _ m _ HP.out K1.out HZ.out (by omega) HM.out).mono ?_
  rintro e w4 ⟨rfl, K4⟩
  obtain ⟨o0, o1, o2, o3, o4, o5⟩ := K4.c6 (.tail _ (.head _))
  have K5 := Lib.hid (((K4.front 2 rfl).front 3 rfl).front 4 rfl)
  go_wp2_with fail
  have K6 : InvF W w4 (segB 5 (.slice C ql.length cc) ql :: segB 5 (.slice D qk.length dc) qk :: segS 24 5 (.slice E L.length ec) vs L :: segH (.slice A M.length c) ps (marksH m M) :: ss) := by
    have h := K4
    refine (h.perm (qs := segX 30 w.heap.size [.slice A M.length c, .int .i64 qx, .int .i64 qy, .slice C ql.length cc, .slice D qk.length dc, .slice E L.length ec] :: segB 5 (.slice C ql.length cc) ql :: segB 5 (.slice D qk.length dc) qk :: segS 24 5 (.slice E L.length ec) vs L :: segH (.slice A M.length c) ps (marksH m M) :: ss) ?_).sub (.cons _ (List.Sublist.refl _))
    exact (List.perm_append_comm (l₁ := [segH (.slice A M.length c) ps (marksH m M)]) (l₂ := [segX 30 w.heap.size [.slice A M.length c, .int .i64 qx, .int .i64 qy, .slice C ql.length cc, .slice D qk.length dc, .slice E L.length ec], segB 5 (.slice C ql.length cc) ql, segB 5 (.slice D qk.length dc) qk, segS 24 5 (.slice E L.length ec) vs L])).append_right ss
  refine (markQc_z qx qy W _ _ _ _ vs ql qk L _ (m + mkH M) _ HV.out K6 hz2.out (by have := HM.out; omega) HQ.out.1 HQ.out.2.1 HQ.out.2.2).mono ?_
  rintro e w5 ⟨rfl, K7⟩
  have K8 := Lib.hid (K7.front 3 rfl)
  clear K7 K6 K5 K4 o0 o1 o2 o3 o4 o5
  go_wp2
  go_ret
  exact ⟨rfl, K8.out⟩

set_option maxHeartbeats 4000000 in
theorem heldProof_z (qx qy : Int) (hs qa qb qs : Value) (m : Nat) (M : List Ht) (q r : Nat) (L : List (List UInt8)) (mz : Int) (w : World) (hm0 : SlH w w.heap.size hs (marksH m M)) (hqa : Sl w w.heap.size qa (marks (m + mkH M) q)) (hqb : Sl w w.heap.size qb (marks (m + mkH M + q) r)) (hqs : SlS w w.heap.size qs (marksS (m + mkH M + q + r) L)) (hz : mz = (m : Int)) (hm : m ≤ 134217728) (hM : mkH M ≤ 8388608) (hq : q ≤ 4194304) (hr : r ≤ 4194304) (hN : sumL L ≤ 4194304) :
    Calls Tryd.prog 13 #[.agg #[hs, .int .i64 qx, .int .i64 qy, qa, qb, qs], .int .i64 mz] w (fun e w' => e = .returned (.int .i64 (mz + (mkH M : Int) + (q : Int) + (r : Int) + (sumL L : Int))) ∧ Below w.heap.size w w') := by
  obtain ⟨A, c, rfl, p1, p2, p0, p3⟩ := id hm0
  clear p1 p2 p0 p3
  obtain ⟨C, cc, rfl, p1, p2, p0, p3⟩ := id hqa
  clear p1 p2 p0 p3
  obtain ⟨D, dc, rfl, p1, p2, p0, p3⟩ := id hqb
  clear p1 p2 p0 p3
  obtain ⟨E, ec, rfl, p1, p2, p0, p3⟩ := id hqs
  clear p1 p2 p0 p3
  rw [marks_length] at hqa hqb
  rw [marks_length, marks_length]
  rw [marksS_length] at hqs ⊢
  rw [marksH_length] at hm0 ⊢
  have hB : Below w.heap.size w (w.alloc (.cells #[.slice A M.length c, .int .i64 qx, .int .i64 qy, .slice C q cc, .slice D r dc, .slice E L.length ec] 30)) := (Below.refl _ w).alloc (Nat.le_refl _) _
  have HZ := Lib.hid hz
  have HN := Lib.hid hN
  have HM := Lib.hid hM
  have hz1 : ¬ (mz + (mkH M : Int) < 0) := by omega
  have hz4 : ¬ (mz + (mkH M : Int) + (q : Int) + (r : Int) + (sumL L : Int) < 0) := by omega
  have hz2 : Hid (mz + (mkH M : Int) = ((m + mkH M : Nat) : Int)) := Lib.hid (by omega)
  have hb0 : 0 ≤ mz := by omega
  have hb1 : mz ≤ 134217728 := by omega
  clear hz hN hM
  go_enter Tryd.func13, Tryd.ntmps13
  go_wp2_with fail
  refine (heldHeadS_z _ m _ M _ (hm0.up hB) HZ.out (by omega) HM.out).mono ?_
  rintro e _ ⟨rfl, i, rfl⟩
  have hBq := below_drewN hB i
  go_wp2_with fail
  refine (heldQc_z qx qy _ _ _ (m + mkH M) q r L _ _ (hqa.up hBq) (hqb.up hBq) (hqs.up hBq) hz2.out (by have := HM.out; omega) (by omega) (by omega) HN.out).mono ?_
  rintro e w3 ⟨rfl, h3⟩
  have HBr := Lib.hid (hBq.trans (h3.mono hBq.size))
  clear h3
  go_wp2_with fail
  go_ret
  exact ⟨rfl, HBr.out⟩
end Go.Proofs.YtopbalemfljphaaDoor
