/- Commit proofs: the contracts of the helpers of exact laws on them: szProof, toProof, eqProof, markProof, heldProof. -/
import Derived.Test.YtopbalemfljphaaHdSC
namespace Go.Proofs.Ytopbalemfljphaa
open Go.ChangeShapes Go.WideShapes Go.ChangeAt Go.RowKit

section
variable {W w : World} {ss : List (List Row)} {T : TypeId} {g : Nat}
theorem InvF.c6 {a b c d e f : Value} (H : InvF W w ss) (h : segX T g [a, b, c, d, e, f] ∈ ss) : w.cell? ⟨g, 0, none⟩ = some a ∧ w.cell? ⟨g, 1, none⟩ = some b ∧ w.cell? ⟨g, 2, none⟩ = some c ∧ w.cell? ⟨g, 3, none⟩ = some d ∧ w.cell? ⟨g, 4, none⟩ = some e ∧ w.cell? ⟨g, 5, none⟩ = some f := ⟨H.atX h 0 rfl, H.atX h 1 rfl, H.atX h 2 rfl, H.atX h 3 rfl, H.atX h 4 rfl, H.atX h 5 rfl⟩
theorem InvF.f6 {a b c d e f : Value} (H : InvF W w ss) (h : segX T g [a, b, c, d, e, f] ∈ ss) : w.frozen? ⟨g, 0, none⟩ = false ∧ w.frozen? ⟨g, 1, none⟩ = false ∧ w.frozen? ⟨g, 2, none⟩ = false ∧ w.frozen? ⟨g, 3, none⟩ = false ∧ w.frozen? ⟨g, 4, none⟩ = false ∧ w.frozen? ⟨g, 5, none⟩ = false := ⟨H.frX h 0, H.frX h 1, H.frX h 2, H.frX h 3, H.frX h 4, H.frX h 5⟩
theorem InvF.over6 {a b c d e f : Value} (H : InvF W w (segX T g [a, b, c, d, e, f] :: ss)) (a' b' c' d' e' f' : Value) :
    InvF W ((((((w.setCell ⟨g, 0, none⟩ a').setCell ⟨g, 1, none⟩ b').setCell ⟨g, 2, none⟩ c').setCell ⟨g, 3, none⟩ d').setCell ⟨g, 4, none⟩ e').setCell ⟨g, 5, none⟩ f') (segX T g [a', b', c', d', e', f'] :: ss) := (((((H.setX 0 a').setX 1 b').setX 2 c').setX 3 d').setX 4 e').setX 5 f'
theorem InvF.sets5x1 {a b c d e f : Value} (H : InvF W w (segX T g [a, b, c, d, e, f] :: ss)) (b' c' d' e' f' : Value) : InvF W (w.setCells g 1 [b', c', d', e', f']) (segX T g [a, b', c', d', e', f'] :: ss) := InvF.setsL [b', c', d', e', f'] 1 w [a, b, c, d, e, f] H
theorem InvF.sets6 {a b c d e f : Value} (H : InvF W w (segX T g [a, b, c, d, e, f] :: ss)) (a' b' c' d' e' f' : Value) : InvF W (w.setCells g 0 [a', b', c', d', e', f']) (segX T g [a', b', c', d', e', f'] :: ss) := InvF.setsL [a', b', c', d', e', f'] 0 w [a, b, c, d, e, f] H
theorem ten6 {p0 p1 p2 p3 p4 p5 u : Prop} (h : p0 ∧ p1 ∧ p2 ∧ p3 ∧ p4 ∧ p5) (k : u) : p0 ∧ p1 ∧ p2 ∧ p3 ∧ p4 ∧ p5 ∧ u := ⟨h.1, h.2.1, h.2.2.1, h.2.2.2.1, h.2.2.2.2.1, h.2.2.2.2.2, k⟩
end
/-- What szProof leaves of m. -/
def szPZ (M : List Ht) (ql qk : List UInt8) (L : List (List UInt8)) (m : Int) : Int := if m < (M.length : Int) + (volH M : Int) + (ql.length : Int) + (qk.length : Int) + (L.length : Int) + (sumL L : Int) then -1 else m - ((M.length : Int) + (volH M : Int) + (ql.length : Int) + (qk.length : Int) + (L.length : Int) + (sumL L : Int))
theorem szPZ_big {M : List Ht} {ql qk : List UInt8} {L : List (List UInt8)} {m : Int} (h : m < (M.length : Int) + (volH M : Int) + (ql.length : Int) + (qk.length : Int) + (L.length : Int) + (sumL L : Int)) : szPZ M ql qk L m = -1 := if_pos h
theorem szPZ_ok {M : List Ht} {ql qk : List UInt8} {L : List (List UInt8)} {m : Int} (h : ¬ m < (M.length : Int) + (volH M : Int) + (ql.length : Int) + (qk.length : Int) + (L.length : Int) + (sumL L : Int)) : szPZ M ql qk L m = m - ((M.length : Int) + (volH M : Int) + (ql.length : Int) + (qk.length : Int) + (L.length : Int) + (sumL L : Int)) := if_neg h
set_option maxHeartbeats 2000000 in
theorem szProof_any (qx qy : Int) (hs qa qb qs : Value) (M : List Ht) (ql qk : List UInt8) (L : List (List UInt8)) (m : Int) (w : World) (hm0 : SlH w w.heap.size hs M) (hqa : Sl w w.heap.size qa ql) (hqb : Sl w w.heap.size qb qk) (hqs : SlS w w.heap.size qs L) (h0 : 0 ≤ m) (hm : m ≤ 1073741824) :
    Calls Try.prog 9 #[.agg #[hs, .int .i64 qx, .int .i64 qy, qa, qb, qs], .int .i64 m] w (fun e w' => e = .returned (.int .i64 (szPZ M ql qk L m)) ∧ Below w.heap.size w w') := by
  obtain ⟨A, c, rfl, p1, p2, p0, p3⟩ := id hm0
  clear p1 p2 p0 p3
  obtain ⟨C, cc, rfl, p1, p2, p0, p3⟩ := id hqa
  clear p1 p2 p0 p3
  obtain ⟨D, dc, rfl, p1, p2, p0, p3⟩ := id hqb
  clear p1 p2 p0 p3
  obtain ⟨E, ec, rfl, p1, p2, p0, p3⟩ := id hqs
  clear p1 p2 p0 p3
  have hB : Below w.heap.size w (w.alloc (.cells #[.slice A M.length c, .int .i64 qx, .int .i64 qy, .slice C ql.length cc, .slice D qk.length dc, .slice E L.length ec] 30)) := (Below.refl _ w).alloc (Nat.le_refl _) _
  have HB := Lib.hid hB
  obtain ⟨R, hR⟩ : ∃ R, R = szPZ M ql qk L m := ⟨_, rfl⟩
  rw [← hR]
  unfold szPZ at hR
  have HR := Lib.hid hR
  clear hR
  by_cases hlt : m < (M.length : Int) + (volH M : Int)
  · have hz : Hid (szHSZ M m = -1) := Lib.hid (szHSZ_big hlt)
    obtain rfl : R = -1 := by rw [HR.out, if_pos (by omega)]
    clear hlt
    go_enter Try.func9, Try.ntmps9
    go_wp2_with fail
    refine (szHeadS_any _ M m _ (hm0.up hB) h0 hm).mono ?_
    rw [hz.out]
    rintro e w' ⟨rfl, hw⟩
    have HB2 := Lib.hid (HB.out.trans (hw.mono HB.out.size))
    go_wp2
    go_ret
    exact ⟨rfl, HB2.out⟩
  obtain ⟨u, hu⟩ : ∃ u : Int, u = m - ((M.length : Int) + (volH M : Int)) := ⟨_, rfl⟩
  have hz : Hid (szHSZ M m = u) := Lib.hid (by rw [szHSZ_ok hlt, hu])
  have hu0 : ¬ u < 0 := by omega
  have hu1 : u ≤ 1073741824 := by omega
  obtain ⟨x, hx⟩ : ∃ x : Int, x = szQZ ql qk L u := ⟨_, rfl⟩
  have HX := Lib.hid hx
  have hxr : R = x := by
    rw [HR.out, hx]
    by_cases h2 : u < (ql.length : Int) + (qk.length : Int) + (L.length : Int) + (sumL L : Int)
    · rw [szQZ_big h2, if_pos (by omega)]
    · rw [szQZ_ok h2, if_neg (by omega)]
      omega
  subst hxr
  have hneg : R < 0 → R = -1 := fun h => by
    rw [hx] at h ⊢
    by_cases h2 : u < (ql.length : Int) + (qk.length : Int) + (L.length : Int) + (sumL L : Int)
    · exact szQZ_big h2
    · rw [szQZ_ok h2] at h
      omega
  have HNEG := Lib.hid hneg
  clear hx hu hlt hneg
  have HS1 := Lib.hid hqa; have HS2 := Lib.hid hqb; have HS3 := Lib.hid hqs
  have HK := Lib.hid ((InvF.start w).newG 30 #[.slice A M.length c, .int .i64 qx, .int .i64 qy, .slice C ql.length cc, .slice D qk.length dc, .slice E L.length ec] w.heap.size)
  by_cases hRn : R < 0
  · obtain rfl := HNEG.out hRn
    go_enter Try.func9, Try.ntmps9
    go_wp2_with fail
    refine (szHeadS_any _ M m _ (hm0.up hB) h0 hm).mono ?_
    rw [hz.out]
    rintro e w2 ⟨rfl, hw⟩
    have HK2 := HK.out.up hw
    obtain ⟨o0, o1, o2, o3, o4, o5⟩ := HK2.c6 (.head _)
    have hb2 := HK2.bel
    go_wp2_with fail
    refine (szQc_any qx qy _ _ _ ql qk L u _ (HS1.out.up hb2) (HS2.out.up hb2) (HS3.out.up hb2) (by omega) hu1).mono ?_
    rw [← HX.out]
    rintro e w3 ⟨rfl, hw3⟩
    have HB3 := Lib.hid (hb2.trans (hw3.mono hb2.size))
    go_wp2
    go_ret
    exact ⟨rfl, HB3.out⟩
  · go_enter Try.func9, Try.ntmps9
    go_wp2_with fail
    refine (szHeadS_any _ M m _ (hm0.up hB) h0 hm).mono ?_
    rw [hz.out]
    rintro e w2 ⟨rfl, hw⟩
    have HK2 := HK.out.up hw
    obtain ⟨o0, o1, o2, o3, o4, o5⟩ := HK2.c6 (.head _)
    have hb2 := HK2.bel
    go_wp2_with fail
    refine (szQc_any qx qy _ _ _ ql qk L u _ (HS1.out.up hb2) (HS2.out.up hb2) (HS3.out.up hb2) (by omega) hu1).mono ?_
    rw [← HX.out]
    rintro e w3 ⟨rfl, hw3⟩
    have HB3 := Lib.hid (hb2.trans (hw3.mono hb2.size))
    go_wp2
    go_ret
    exact ⟨rfl, HB3.out⟩

/-- The call returns a proof of new rows; nothing that was there has turned. -/
def FreshP (w : World) (qx qy : Int) (M : List Ht) (ql qk : List UInt8) (L : List (List UInt8)) (e : Ending) (w' : World) : Prop :=
  ∃ hs qa qb qs ps vs, e = .returned (.agg #[hs, .int .i64 qx, .int .i64 qy, qa, qb, qs]) ∧ OkH M ps ∧ vs.length = L.length ∧ InvF w w' [segH hs ps M, segB 5 qa ql, segB 5 qb qk, segS 25 5 qs vs L]
set_option maxRecDepth 100000 in
set_option maxHeartbeats 4000000 in
theorem toProof_any (qx qy : Int) (hs qa qb qs : Value) (M : List Ht) (ql qk : List UInt8) (L : List (List UInt8)) (w : World) (hm0 : SlH w w.heap.size hs M) (hqa : Sl w w.heap.size qa ql) (hqb : Sl w w.heap.size qb qk) (hqs : SlS w w.heap.size qs L) (hl : M.length ≤ 1048576) (hvol : volH M ≤ 1048576) (hql : ql.length ≤ 1048576) (hqk : qk.length ≤ 1048576) (hL : L.length ≤ 1048576) (hN : sumL L ≤ 1048576) :
    Calls Try.prog 12 #[.agg #[hs, .int .i64 qx, .int .i64 qy, qa, qb, qs]] w (FreshP w qx qy M ql qk L) := by
  obtain ⟨A, c, rfl, p1, p2, p0, p3⟩ := id hm0
  clear p1 p2 p0 p3
  obtain ⟨C, cc, rfl, p1, p2, p0, p3⟩ := id hqa
  clear p1 p2 p0 p3
  obtain ⟨D, dc, rfl, p1, p2, p0, p3⟩ := id hqb
  clear p1 p2 p0 p3
  obtain ⟨E, ec, rfl, p1, p2, p0, p3⟩ := id hqs
  clear p1 p2 p0 p3
  have H0 := ((InvF.start w).newG 30 #[.slice A M.length c, .int .i64 qx, .int .i64 qy, .slice C ql.length cc, .slice D qk.length dc, .slice E L.length ec] w.heap.size).newG 38 #[.slice none 0 0, .int .i64 0, .int .i64 0, .slice none 0 0, .slice none 0 0, .slice none 0 0] (w.heap.size + 1)
  replace H0 := H0.newG 38 #[.slice none 0 0, .int .i64 0, .int .i64 0, .slice none 0 0, .slice none 0 0, .slice none 0 0] (w.heap.size + 1 + 1)
  go_enter Try.func12, Try.ntmps12
  go_wp2_with fail
  refine (toHeadS_any _ M _ (hm0.up H0.bel) hl hvol).mono ?_
  rintro e w4 ⟨u4, ps, rfl, hp, K4⟩
  have H4 : InvF w w4 [segH u4 ps M, segX 38 (w.heap.size + 1 + 1) [.slice none 0 0, .int .i64 0, .int .i64 0, .slice none 0 0, .slice none 0 0, .slice none 0 0], segX 38 (w.heap.size + 1) [.slice none 0 0, .int .i64 0, .int .i64 0, .slice none 0 0, .slice none 0 0, .slice none 0 0], segX 30 w.heap.size [.slice A M.length c, .int .i64 qx, .int .i64 qy, .slice C ql.length cc, .slice D qk.length dc, .slice E L.length ec]] := H0.moreF K4
  clear H0 K4
  obtain ⟨A4, c4, rfl⟩ := H4.openH hp (.head _)
  have HP := Lib.hid hp
  clear hp
  obtain ⟨o0, o1, o2, o3, o4, o5⟩ := H4.c6 (.tail _ (.head _))
  obtain ⟨f0, f1, f2, f3, f4, f5⟩ := H4.f6 (.tail _ (.head _))
  obtain ⟨a0, a1, a2, a3, a4, a5⟩ := H4.c6 (.tail _ (.tail _ (.tail _ (.head _))))
  have h4 := H4.ltX (.tail _ (.head _))
  go_wp2_with fail
  have H7 := (H4.front 1 rfl).setX 0 (.slice A4 M.length c4)
  clear o0 o1 o2 o3 o4 o5 f0 f1 f2 f3 f4 f5 a0 a1 a2 a3 a4 a5 H4 h4
  refine (toQc_any qx qy _ _ _ ql qk L _ (hqa.up H7.bel) (hqb.up H7.bel) (hqs.up H7.bel) hql hqk hL hN).mono ?_
  rintro e w8 ⟨u1, u2, u3, vs, rfl, hv, K8⟩
  have H8 : InvF w w8 [segB 5 u1 ql, segB 5 u2 qk, segS 25 5 u3 vs L, segX 38 (w.heap.size + 1 + 1) [.slice A4 M.length c4, .int .i64 0, .int .i64 0, .slice none 0 0, .slice none 0 0, .slice none 0 0], segH (.slice A4 M.length c4) ps M, segX 38 (w.heap.size + 1) [.slice none 0 0, .int .i64 0, .int .i64 0, .slice none 0 0, .slice none 0 0, .slice none 0 0], segX 30 w.heap.size [.slice A M.length c, .int .i64 qx, .int .i64 qy, .slice C ql.length cc, .slice D qk.length dc, .slice E L.length ec]] := H7.moreF K8
  clear H7 K8
  obtain ⟨A8, c8, rfl⟩ := H8.openB' (.head _)
  obtain ⟨A9, c9, rfl⟩ := H8.openB' (.tail _ (.head _))
  obtain ⟨B9, d9, rfl⟩ := H8.openS hv (.tail _ (.tail _ (.head _)))
  have HV := Lib.hid hv
  clear hv
  have h6 := H8.ltX (.tail _ (.tail _ (.tail _ (.head _))))
  have h7 := H8.ltX (.tail _ (.tail _ (.tail _ (.tail _ (.tail _ (.head _))))))
  have K6 := (H8.front 3 rfl).sets5x1 (.int .i64 qx) (.int .i64 qy) (.slice A8 ql.length c8) (.slice A9 qk.length c9) (.slice B9 L.length d9)
  have hT1 := H8.thereX (.tail _ (.tail _ (.tail _ (.head _)))) 1 5 (by simp)
  have hR1 := K6.rangeX (.head _)
  have hT2 := K6.thereX (.tail _ (.tail _ (.tail _ (.tail _ (.tail _ (.head _)))))) 0 6 (by simp)
  have K7 := (K6.front 5 rfl).sets6 (.slice A4 M.length c4) (.int .i64 qx) (.int .i64 qy) (.slice A8 ql.length c8) (.slice A9 qk.length c9) (.slice B9 L.length d9)
  have hR2 := K7.rangeX (.head _)
  have K9 := Lib.hid (K7.sub (qs := [segB 5 (.slice A8 ql.length c8) ql, segB 5 (.slice A9 qk.length c9) qk, segS 25 5 (.slice B9 L.length d9) vs L, segH (.slice A4 M.length c4) ps M]) (.cons _ (.cons _ (.cons_cons _ (.cons_cons _ (.cons_cons _ (.cons_cons _ (.cons _ .slnil))))))))
  clear H8 K6 K7
  go_simp
  go_step
  go_step
  go_step
  go_step
  refine wpList_store_mid rfl 36 (.tmp 11) (.tmp 10) rfl (w.heap.size + 1 + 1) 1 #[.int .i64 qx, .int .i64 qy, .slice A8 ql.length c8, .slice A9 qk.length c9, .slice B9 L.length d9] rfl rfl hT1 (by kernel_rfl) (by simp [Value.oneCell']) ?_
  go_step
  go_step
  go_step
  go_step
  go_step
  refine wpList_load_mid rfl 38 (.tmp 3) rfl (w.heap.size + 1 + 1) 0 rfl [.slice A4 M.length c4, .int .i64 qx, .int .i64 qy, .slice A8 ql.length c8, .slice A9 qk.length c9, .slice B9 L.length d9] _ hR1 Try.underlying38 rfl (by kernel_rfl) ?_
  refine wpList_store_mid rfl 38 (.tmp 2) (.tmp 12) rfl (w.heap.size + 1) 0 #[.slice A4 M.length c4, .int .i64 qx, .int .i64 qy, .slice A8 ql.length c8, .slice A9 qk.length c9, .slice B9 L.length d9] rfl rfl hT2 (by kernel_rfl) (by simp [Value.oneCell']) ?_
  go_step
  go_step
  go_step
  go_step
  refine bodyPost_ret (results_cell_mid Try.results12 _ _ (w.heap.size + 1) 0 [.slice A4 M.length c4, .int .i64 qx, .int .i64 qy, .slice A8 ql.length c8, .slice A9 qk.length c9, .slice B9 L.length d9] _ rfl hR2 Try.underlying38 rfl (by kernel_rfl)) rfl ⟨_, _, _, _, ps, vs, rfl, HP.out, HV.out, ?_⟩
  exact K9.out.front 3 rfl

set_option maxHeartbeats 2000000 in
theorem eqProof_any (qx qy : Int) (hs qa qb qs hs' qa' qb' qs' : Value) (M : List Ht) (ql qk : List UInt8) (L : List (List UInt8)) (w : World) (hm0 : SlH w w.heap.size hs M) (hqa : Sl w w.heap.size qa ql) (hqb : Sl w w.heap.size qb qk) (hqs : SlS w w.heap.size qs L) (hm0' : SlH w w.heap.size hs' M) (hqa' : Sl w w.heap.size qa' ql) (hqb' : Sl w w.heap.size qb' qk) (hqs' : SlS w w.heap.size qs' L) :
    Calls Try.prog 14 #[.agg #[hs, .int .i64 qx, .int .i64 qy, qa, qb, qs], .agg #[hs', .int .i64 qx, .int .i64 qy, qa', qb', qs']] w (Yes w) := by
  obtain ⟨A, c, rfl, p1, p2, p0, p3⟩ := id hm0
  clear p1 p2 p0 p3
  obtain ⟨C, cc, rfl, p1, p2, p0, p3⟩ := id hqa
  clear p1 p2 p0 p3
  obtain ⟨D, dc, rfl, p1, p2, p0, p3⟩ := id hqb
  clear p1 p2 p0 p3
  obtain ⟨E, ec, rfl, p1, p2, p0, p3⟩ := id hqs
  clear p1 p2 p0 p3
  obtain ⟨A', c', rfl, p1, p2, p0, p3⟩ := id hm0'
  clear p1 p2 p0 p3
  obtain ⟨C', cc', rfl, p1, p2, p0, p3⟩ := id hqa'
  clear p1 p2 p0 p3
  obtain ⟨D', dc', rfl, p1, p2, p0, p3⟩ := id hqb'
  clear p1 p2 p0 p3
  obtain ⟨E', ec', rfl, p1, p2, p0, p3⟩ := id hqs'
  clear p1 p2 p0 p3
  have HK := Lib.hid (((InvF.start w).newG 38 #[.slice A M.length c, .int .i64 qx, .int .i64 qy, .slice C ql.length cc, .slice D qk.length dc, .slice E L.length ec] w.heap.size).newG 38 #[.slice A' M.length c', .int .i64 qx, .int .i64 qy, .slice C' ql.length cc', .slice D' qk.length dc', .slice E' L.length ec'] (w.heap.size + 1))
  have hB := HK.out.bel
  have HS := Lib.hid (And.intro hqa (And.intro hqb (And.intro hqs (And.intro hqa' (And.intro hqb' hqs')))))
  go_enter Try.func14, Try.ntmps14
  go_wp2_with fail
  refine (eqHeadS_any _ _ M _ (hm0.up hB) (hm0'.up hB)).mono ?_
  rintro e w2 ⟨rfl, hw⟩
  have HK2 := HK.out.up hw
  obtain ⟨o0, o1, o2, o3, o4, o5⟩ := HK2.c6 (.head _)
  obtain ⟨q0, q1, q2, q3, q4, q5⟩ := HK2.c6 (.tail _ (.head _))
  have hb2 := HK2.bel
  go_wp2_with fail
  refine (eqQc_any qx qy _ _ _ _ _ _ ql qk L _ (HS.out.1.up hb2) (HS.out.2.1.up hb2) (HS.out.2.2.1.up hb2) (HS.out.2.2.2.1.up hb2) (HS.out.2.2.2.2.1.up hb2) (HS.out.2.2.2.2.2.up hb2)).mono ?_
  rintro e w3 ⟨rfl, hw3⟩
  have HB3 := Lib.hid (hb2.trans (hw3.mono hb2.size))
  go_wp2_with fail
  go_ret
  exact ⟨rfl, HB3.out⟩

set_option maxHeartbeats 4000000 in
theorem markProof_z (qx qy : Int) (W w : World) (hs qa qb qs : Value) (ps : List HP) (vs : List Value) (M : List Ht) (ql qk : List UInt8) (L : List (List UInt8)) (ss : List (List Row)) (m : Nat) (mz : Int) (hp : OkH M ps) (hv : vs.length = L.length) (K : InvF W w (segH hs ps M :: segB 5 qa ql :: segB 5 qb qk :: segS 25 5 qs vs L :: ss)) (hz : mz = (m : Int)) (hm : m ≤ 134217728) (hM : mkH M ≤ 8388608) (hql : ql.length ≤ 4194304) (hqk : qk.length ≤ 4194304) (hN : sumL L ≤ 4194304) :
    Calls Try.prog 22 #[.agg #[hs, .int .i64 qx, .int .i64 qy, qa, qb, qs], .int .i64 mz] w (fun e w' => e = .returned (.int .i64 (mz + (mkH M : Int) + (ql.length : Int) + (qk.length : Int) + (sumL L : Int))) ∧
      InvF W w' (segH hs ps (marksH m M) :: segB 5 qa (marks (m + mkH M) ql.length) :: segB 5 qb (marks (m + mkH M + ql.length) qk.length) :: segS 25 5 qs vs (marksS (m + mkH M + ql.length + qk.length) L) :: ss)) := by
  obtain ⟨A, c, rfl⟩ := K.openH hp (.head _)
  obtain ⟨C, cc, rfl⟩ := K.openB' (.tail _ (.head _))
  obtain ⟨D, dc, rfl⟩ := K.openB' (.tail _ (.tail _ (.head _)))
  obtain ⟨E, ec, rfl⟩ := K.openS hv (.tail _ (.tail _ (.tail _ (.head _))))
  have HP := Lib.hid hp
  have HV := Lib.hid hv
  have K1 := K.newG 38 #[.slice A M.length c, .int .i64 qx, .int .i64 qy, .slice C ql.length cc, .slice D qk.length dc, .slice E L.length ec] w.heap.size
  replace K1 := Lib.hid (K1.front 1 rfl)
  have HZ := Lib.hid hz
  have HM := Lib.hid hM
  have HQ := Lib.hid (And.intro hql (And.intro hqk hN))
  have hz2 : Hid (mz + (mkH M : Int) = ((m + mkH M : Nat) : Int)) := Lib.hid (by omega)
  have hb0 : 0 ≤ mz := by omega
  have hb1 : mz ≤ 134217728 := by omega
  clear K hz hp hv hM hql hqk hN
  go_enter Try.func22, Try.ntmps22
  go_wp2_with fail
  refine (markHeadS_z W _ _ ps M _ m _ HP.out K1.out HZ.out (by omega) HM.out).mono ?_
  rintro e w4 ⟨rfl, K4⟩
  obtain ⟨o0, o1, o2, o3, o4, o5⟩ := K4.c6 (.tail _ (.head _))
  have K5 := Lib.hid (((K4.front 2 rfl).front 3 rfl).front 4 rfl)
  go_wp2_with fail
  have K6 : InvF W w4 (segB 5 (.slice C ql.length cc) ql :: segB 5 (.slice D qk.length dc) qk :: segS 25 5 (.slice E L.length ec) vs L :: segH (.slice A M.length c) ps (marksH m M) :: ss) := by
    have h := K4
    refine (h.perm (qs := segX 38 w.heap.size [.slice A M.length c, .int .i64 qx, .int .i64 qy, .slice C ql.length cc, .slice D qk.length dc, .slice E L.length ec] :: segB 5 (.slice C ql.length cc) ql :: segB 5 (.slice D qk.length dc) qk :: segS 25 5 (.slice E L.length ec) vs L :: segH (.slice A M.length c) ps (marksH m M) :: ss) ?_).sub (.cons _ (List.Sublist.refl _))
    exact (List.perm_append_comm (l₁ := [segH (.slice A M.length c) ps (marksH m M)]) (l₂ := [segX 38 w.heap.size [.slice A M.length c, .int .i64 qx, .int .i64 qy, .slice C ql.length cc, .slice D qk.length dc, .slice E L.length ec], segB 5 (.slice C ql.length cc) ql, segB 5 (.slice D qk.length dc) qk, segS 25 5 (.slice E L.length ec) vs L])).append_right ss
  refine (markQc_z qx qy W _ _ _ _ vs ql qk L _ (m + mkH M) _ HV.out K6 hz2.out (by have := HM.out; omega) HQ.out.1 HQ.out.2.1 HQ.out.2.2).mono ?_
  rintro e w5 ⟨rfl, K7⟩
  have K8 := Lib.hid (K7.front 3 rfl)
  clear K7 K6 K5 K4 o0 o1 o2 o3 o4 o5
  go_wp2
  go_ret
  exact ⟨rfl, K8.out⟩

end Go.Proofs.Ytopbalemfljphaa
