/- QcFrom of the program. -/
import Derived.Test.YtdoaikanaodefaaFromE
import Derived.Test.YtdoaikanaodefaaFromO
namespace Go.Proofs.Ytdoaikanaodefaa
open Go.ChangeShapes Go.WideShapes Go.ChangeAt Go.RowKit

set_option maxRecDepth 100000 in
set_option maxHeartbeats 8000000 in
theorem implQcFrom_any (a b c d e : Int) (v : Value) (V : List Vt) (w : World) (h : SlV w w.heap.size v V) (hV : volV V + V.length ≤ 1048576) :
    Calls Try.prog 9 #[.agg #[.int .i64 a, .int .i64 b, .int .i64 c, .int .i64 d, .int .i64 e], v] w (GotFrom w (fromB a b c d e V) a V) := by
  have HV := Lib.hid h
  obtain ⟨A, n, rfl, h1, h2, h0, h3⟩ := h
  unfold maxLen at h2
  clear h0 h3
  have H0 := ((InvF.start w).newG 32 #[.int .i64 a, .int .i64 b, .int .i64 c, .int .i64 d, .int .i64 e] w.heap.size).newG 29 #[.int .i64 0, .int .i64 0, .slice none 0 0, .slice none 0 0, .slice none 0 0] (w.heap.size + 1)
  rcases hVV : V with _ | ⟨t, V'⟩
  · subst hVV
    have hlen : (([] : List Vt).length : Int) = 0 := rfl
    go_enter Try.func9, Try.ntmps9
    obtain ⟨r0, r1, r2, r3, r4⟩ := H0.c5 (.head _)
    obtain ⟨s0, s1, s2, s3, s4⟩ := H0.f5 (.head _)
    have h7 := H0.ltX (.head _)
    go_wp2
    refine bodyPost_ret (v := .tuple #[.agg #[.int .i64 0, .int .i64 0, .slice none 0 0, .slice none 0 0, .slice none 0 0], .bool false]) (by simp [results, Try.results9, go_sem, r0, r1, r2, r3, r4]) rfl (gotFrom_no rfl rfl H0.bel)
  rw [← hVV]
  have hpos : 0 < V.length := by rw [hVV]; simp
  have hd : (hdV V).x = t.x ∧ (hdV V).y = t.y ∧ (hdV V).l = t.l := by rw [hVV]; exact ⟨rfl, rfl, rfl⟩
  have hB1 : fromB a b c d e V = (qcB a b c d e t.x t.y t.l (bitsV V a) (ksV V) && eqVs (qcV t.x t.y t.l (bitsV V a) (ksV V)) V) := by rw [hVV]; exact fromB_impl a b c d e t V'
  have hlt : t.l.length ≤ 1048576 := by have := volV_mem (V := V) (t := t) (by rw [hVV]; exact .head _); omega
  clear hVV
  obtain ⟨B0, hB0⟩ : ∃ B, B = fromB a b c d e V := ⟨_, rfl⟩
  rw [← hB0]
  rw [← hB0] at hB1
  have hne : ((V.length : Int) == 0) = false := by rw [beq_eq_false_iff_ne]; omega
  have hmem : Hid (∀ r ∈ ksV V, r.length ≤ 4294967296) := Lib.hid (fun r hr => by
    obtain ⟨q, hq, rfl⟩ := List.mem_map.1 hr
    have := volV_mem hq
    omega)
  have hkl : (ksV V).length ≤ 1073741824 := by rw [ksV_len]; omega
  have hbl : (bitsV V a).length ≤ 2 := ofL_len _ _
  have HQO := Lib.hid (fun (w' : World) (hb : Below w.heap.size w w') => qcOf_any a b c d e _ V w' (HV.out.up hb) hV hpos)
  rw [hd.1, hd.2.1, hd.2.2] at HQO
  have HDV := Lib.hid hd
  have hkk : bitsV V a = bitsV V a := rfl
  generalize hkb : bitsV V a = kb at hB1 hbl HQO
  obtain ⟨x2, hx2⟩ : ∃ x, x = qcB a b c d e t.x t.y t.l kb (ksV V) := ⟨_, rfl⟩
  obtain ⟨W, hW⟩ : ∃ W, W = qcV t.x t.y t.l kb (ksV V) := ⟨_, rfl⟩
  obtain ⟨x3, hx3⟩ : ∃ x, x = eqVs W V := ⟨_, rfl⟩
  rw [← hx2, ← hW, ← hx3] at hB1
  have HKB := Lib.hid hkb
  have HX2 := Lib.hid hx2
  have HWE := Lib.hid hW
  have HX3 := Lib.hid hx3
  have HB := Lib.hid hB1
  clear hkb hx2 hW hx3 hB1 hd hkk hB0
  go_enter Try.func9, Try.ntmps9
  obtain ⟨l0, l1, l2, l3, l4⟩ := H0.c5 (.tail _ (.head _))
  go_wp2_with fail
  refine (HQO.out _ H0.bel).mono ?_
  rintro ev w3 ⟨u0, u1, u2, vs, rfl, hv3, K⟩
  obtain ⟨A3, c3, rfl⟩ := K.openB' (.head _)
  obtain ⟨B3, d3, rfl⟩ := K.openB' (.tail _ (.head _))
  obtain ⟨C3, f3, rfl⟩ := K.openS hv3 (.tail _ (.tail _ (.head _)))
  have HVS := Lib.hid hv3
  have H3 := Lib.hid ((H0.moreF K).newG 29 #[.int .i64 t.x, .int .i64 t.y, .slice A3 t.l.length c3, .slice B3 kb.length d3, .slice C3 (ksV V).length f3] w3.heap.size)
  clear K hv3 H0 l0 l1 l2 l3 l4
  obtain ⟨o0, o1, o2, o3, o4⟩ := H3.out.c5 (.head _)
  obtain ⟨l0, l1, l2, l3, l4⟩ := H3.out.c5 (.tail _ (.tail _ (.tail _ (.tail _ (.tail _ (.head _))))))
  go_wp2_with fail
  refine (implQcOk_any a b c d e t.x t.y _ _ _ t.l kb (ksV V) _ (H3.out.slB 5 (.tail _ (.head _))) (H3.out.slB 5 (.tail _ (.tail _ (.head _)))) (H3.out.slS 26 5 HVS.out (.tail _ (.tail _ (.tail _ (.head _))))) (by omega)).mono ?_
  rw [← HX2.out]
  rintro ev w4 ⟨rfl, hb4⟩
  have H4 := Lib.hid (H3.out.up hb4)
  clear H3 hb4 o0 o1 o2 o3 o4 l0 l1 l2 l3 l4
  rcases x2 with _ | _
  · have hBf : Hid (B0 = false) := Lib.hid (by rw [HB.out]; rfl)
    have HQ := Lib.hid (H4.out.front 4 rfl)
    obtain ⟨r0, r1, r2, r3, r4⟩ := HQ.out.c5 (.head _)
    obtain ⟨s0, s1, s2, s3, s4⟩ := HQ.out.f5 (.head _)
    have h7 := HQ.out.ltX (.head _)
    go_wp2
    have H2 := HQ.out.over5 (.int .i64 0) (.int .i64 0) (.slice none 0 0) (.slice none 0 0) (.slice none 0 0)
    obtain ⟨q0, q1, q2, q3, q4⟩ := H2.c5 (.head _)
    refine bodyPost_ret (v := .tuple #[.agg #[.int .i64 0, .int .i64 0, .slice none 0 0, .slice none 0 0, .slice none 0 0], .bool false]) (by simp [results, Try.results9, go_sem, q0, q1, q2, q3, q4]) rfl (gotFrom_no hBf.out rfl H2.bel)
  obtain ⟨o0, o1, o2, o3, o4⟩ := H4.out.c5 (.head _)
  go_wp2_with fail
  refine (implQcVotes_any t.x t.y _ _ _ t.l kb (ksV V) _ (H4.out.slB 5 (.tail _ (.head _))) (H4.out.slB 5 (.tail _ (.tail _ (.head _)))) (H4.out.slS 26 5 HVS.out (.tail _ (.tail _ (.tail _ (.head _))))) (by omega) (by omega) (by omega) hmem.out).mono ?_
  rw [← HWE.out]
  rintro ev w5 ⟨v5, ps5, rfl, hb5, ho5⟩
  have H5 := Lib.hid (H4.out.up hb5)
  have SW := Lib.hid ho5.sl
  obtain ⟨A5, c5, rfl, _⟩ := id ho5.sl
  clear H4 hb5 ho5 o0 o1 o2 o3 o4
  go_wp2_with fail
  refine (equalFuncV_any _ _ W V _ SW.out (HV.out.up H5.out.bel)).mono ?_
  rw [← HX3.out]
  rintro ev w6 ⟨rfl, hb6⟩
  have H6 := Lib.hid (H5.out.up hb6)
  clear H5 hb6 SW
  rcases x3 with _ | _
  · have hBf : Hid (B0 = false) := Lib.hid (by rw [HB.out]; rfl)
    have HQ := Lib.hid (H6.out.front 4 rfl)
    obtain ⟨r0, r1, r2, r3, r4⟩ := HQ.out.c5 (.head _)
    obtain ⟨s0, s1, s2, s3, s4⟩ := HQ.out.f5 (.head _)
    have h7 := HQ.out.ltX (.head _)
    go_wp2
    have H2 := HQ.out.over5 (.int .i64 0) (.int .i64 0) (.slice none 0 0) (.slice none 0 0) (.slice none 0 0)
    obtain ⟨q0, q1, q2, q3, q4⟩ := H2.c5 (.head _)
    refine bodyPost_ret (v := .tuple #[.agg #[.int .i64 0, .int .i64 0, .slice none 0 0, .slice none 0 0, .slice none 0 0], .bool false]) (by simp [results, Try.results9, go_sem, q0, q1, q2, q3, q4]) rfl (gotFrom_no hBf.out rfl H2.bel)
  have hBt : Hid (B0 = true) := Lib.hid (by rw [HB.out]; rfl)
  have H11 := Lib.hid (H6.out.front 4 rfl)
  obtain ⟨o0, o1, o2, o3, o4⟩ := H11.out.c5 (.tail _ (.head _))
  obtain ⟨r0, r1, r2, r3, r4⟩ := H11.out.c5 (.head _)
  obtain ⟨s0, s1, s2, s3, s4⟩ := H11.out.f5 (.head _)
  have h7 := H11.out.ltX (.head _)
  go_wp2
  have H2 := H11.out.over5 (.int .i64 t.x) (.int .i64 t.y) (.slice A3 t.l.length c3) (.slice B3 kb.length d3) (.slice C3 (ksV V).length f3)
  obtain ⟨q0, q1, q2, q3, q4⟩ := H2.c5 (.head _)
  have H3 := H2.sub (qs := [segB 5 (.slice A3 t.l.length c3) t.l, segB 5 (.slice B3 kb.length d3) kb, segS 26 5 (.slice C3 (ksV V).length f3) vs (ksV V)]) (.cons _ (.cons _ (.cons_cons _ (.cons_cons _ (.cons_cons _ (.cons _ .slnil))))))
  refine bodyPost_ret (v := .tuple #[.agg #[.int .i64 t.x, .int .i64 t.y, .slice A3 t.l.length c3, .slice B3 kb.length d3, .slice C3 (ksV V).length f3], .bool true]) (by simp [results, Try.results9, go_sem, q0, q1, q2, q3, q4]) rfl (gotFrom_yes hBt.out (by rw [HDV.out.1, HDV.out.2.1]) HVS.out ?_)
  rw [HDV.out.2.2, HKB.out]
  exact H3
end Go.Proofs.Ytdoaikanaodefaa
