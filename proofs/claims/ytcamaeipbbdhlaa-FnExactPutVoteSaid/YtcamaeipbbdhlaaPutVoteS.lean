/- PutVote of the model. -/
import Derived.Test.YtcamaeipbbdhlaaPutVote
namespace Go.Proofs.Ytcamaeipbbdhlaa
open Go.ChangeShapes Go.WideShapes Go.ChangeAt Go.RowKit

set_option maxRecDepth 100000 in
set_option maxHeartbeats 2000000 in
theorem specPutVote_any (a b c d e x y z : Int) (t u v : Value) (l m k : List UInt8) (w : World) (ht : Sl w w.heap.size t l) (hu : Sl w w.heap.size u m) (hv : Sl w w.heap.size v k) (hl : l.length ≤ 1073741824) :
    Calls Try.prog 14 #[.agg #[.int .i64 a, .int .i64 b, .int .i64 c, .int .i64 d, .int .i64 e], t, .agg #[.int .i64 x, .int .i64 y, u, .int .i64 z, v]] w (Fresh2 w (putVoteL a b c d e l x y z m k) (.bool (voteB a b c d e x y z m k))) := by
  obtain ⟨i0, hi, hz0, hz1, hz2⟩ := info_parts u8info
  have HT0 := Lib.hid ht
  have HU0 := Lib.hid hu
  have HV0 := Lib.hid hv
  obtain ⟨A, n, rfl, p1, p2, p0, p3⟩ := ht
  obtain ⟨B, n', rfl, q1, q2, q0, q3⟩ := hu
  obtain ⟨D, n'', rfl, r1, r2, r0, r3⟩ := hv
  clear p1 p2 p0 p3 q1 q2 q0 q3 r1 r2 r0 r3
  have c0 := fun W h h' => specVoteOk_any a b c d e x y z (.slice B m.length n') (.slice D k.length n'') m k W h h'
  have hP : voteB a b c d e x y z m k = true → m.length = 32 ∧ k.length = 32 ∧ putVoteL a b c d e l x y z m k = putVarL (putVarL (putVarL l x) y ++ m) z ++ k := fun h => ⟨(voteB_tag h).1, (voteB_tag h).2, if_pos h⟩
  have hN : voteB a b c d e x y z m k = false → putVoteL a b c d e l x y z m k = [] := fun h => if_neg (by simp [h])
  obtain ⟨R, hR⟩ : ∃ R, R = putVoteL a b c d e l x y z m k := ⟨_, rfl⟩
  obtain ⟨x0, g0⟩ : ∃ x0, x0 = voteB a b c d e x y z m k := ⟨_, rfl⟩
  rw [← hR] at hP hN ⊢
  rw [← g0] at hP hN ⊢
  simp only [← g0] at c0
  have C0 := Lib.hid c0
  have HP := Lib.hid hP
  have HN := Lib.hid hN
  clear c0 hP hN hR g0
  have H0 := ((InvF.start w).newG 29 #[.int .i64 a, .int .i64 b, .int .i64 c, .int .i64 d, .int .i64 e] w.heap.size).newG 31 #[.int .i64 x, .int .i64 y, .slice B m.length n', .int .i64 z, .slice D k.length n''] (w.heap.size + 1)
  go_enter Try.func14, Try.ntmps14
  go_wp2_with fail
  refine (C0.out _ (HU0.out.up H0.bel) (HV0.out.up H0.bel)).mono ?_
  rintro ev w1 ⟨rfl, hb1⟩
  have H := H0.up hb1
  clear H0 hb1
  rcases x0 with _ | _
  · go_wp2
    go_ret2
    exact ⟨_, rfl, by rw [HN.out (by first | trivial | rfl)]; exact World.ownsRow_nil _ _ _ _, H.bel⟩
  obtain ⟨hm32, hk32, hRe⟩ := HP.out rfl
  have HRE := Lib.hid hRe
  have hm2 : Hid (0 < m.length ∧ m.length ≤ 64) := Lib.hid (by omega)
  have hk2 : Hid (0 < k.length ∧ k.length ≤ 64) := Lib.hid (by omega)
  clear HP HN hm32 hk32 hRe
  have hlen : Hid ((putVarL l x).length ≤ 4294967296 ∧ (putVarL (putVarL l x) y).length + m.length ≤ 2147483648 ∧ (putVarL (putVarL (putVarL l x) y ++ m) z).length + k.length ≤ 4294967296) := Lib.hid (by
    have h1 := putVarL_len l x; have h2 := putVarL_len (putVarL l x) y; have h3 := putVarL_len (putVarL (putVarL l x) y ++ m) z
    rw [List.length_append] at h3
    have := hm2.out; have := hk2.out
    omega)
  replace H := H.drewN 1
  have HX := Lib.hid H
  clear H
  obtain ⟨o0, o1, o2, o3, o4⟩ := (show w1.cell? ⟨w.heap.size + 1, 0, none⟩ = _ ∧ w1.cell? ⟨w.heap.size + 1, 1, none⟩ = _ ∧ w1.cell? ⟨w.heap.size + 1, 2, none⟩ = _ ∧ w1.cell? ⟨w.heap.size + 1, 3, none⟩ = _ ∧ w1.cell? ⟨w.heap.size + 1, 4, none⟩ = _ from HX.out.c5 (.head _))
  go_wp2_with fail
  go_region_held3 (fun w' => w'.cell? ⟨w.heap.size + 1, 0, none⟩ = some (.int .i64 x) ∧ w'.cell? ⟨w.heap.size + 1, 1, none⟩ = some (.int .i64 y) ∧ w'.cell? ⟨w.heap.size + 1, 2, none⟩ = some (.slice B m.length n'))
    (first
      | go_keep
      | exact HK2.out
      | exact HK3.out
      | exact HK4.out)
    (first
      | (go_at_call_of 32 (Value.slice A l.length n); refine (l11Num_any (.slice A l.length n) l x _ (HT0.out.up HX.out.bel) (by omega)).mono ?_; rintro e w2 ⟨v2, rfl, ho2, hb2⟩; have H2 := Lib.hid (HX.out.moreB ho2 hb2); have HB2 := Lib.hid (H2.out.ltX (.tail _ (.head _))); have HK2 := Lib.hid (three (H2.out.c5 (.tail _ (.head _)))); clear ho2 hb2)
      | (go_at_call_of 32 v2; refine (l11Num_any v2 (putVarL l x) y _ (H2.out.slB 5 (.head _)) hlen.out.1).mono ?_; rintro e w3 ⟨v3, rfl, ho3, hb3⟩; have H3 := Lib.hid (H2.out.moreB ho3 hb3); have HL3 := Lib.hid (fun (e : v3.ownBlock = some (w.heap.size + 1)) => (Nat.not_le.2 HB2.out (ho3.lt _ e).1 : False)); have HK3 := Lib.hid (three (H3.out.c5 (.tail _ (.tail _ (.head _))))); clear ho3 hb3)
      | (refine step_appB (W := w) (w := w3) (by rfl) (.tmp 19) (.tmp 21) 24 rfl 5 i0 Try.underlying24 hi hz0 hz1 hz2 v3 (putVarL (putVarL l x) y) (by rfl) _ m (by rfl) (HU0.out.up H3.out.bel) hm2.out.1 (H3.out.ownB 5 (.head _)) H3.out.bel (by have := hlen.out.2.1; omega) ?_; intro v4 w4 ho4 hg4; have HO4 := Lib.hid ho4; have HG4 := Lib.hid (below_of_own (H3.out.ownB 5 (.head _)) H3.out.bel hg4); have HF4 := Lib.hid (five_kept hg4 (H3.out.ltX (.tail _ (.tail _ (.head _)))) HL3.out (H3.out.c5 (.tail _ (.tail _ (.head _))))); have HK4 := Lib.hid (three HF4.out); have HS4 := Lib.hid hg4.size; clear ho4 hg4))
  obtain ⟨o0, o1, o2, o3, o4⟩ := HF4.out
  have HL4 : Hid (w.heap.size + 1 < w4.heap.size) := Lib.hid (Nat.lt_of_lt_of_le (H3.out.ltX (.tail _ (.tail _ (.head _)))) HS4.out)
  have HF5 := Lib.hid (fun w' (hb : Below w4.heap.size w4 w') => five_kept (r := none) (grown_of_below hb none) HL4.out (by simp) HF4.out)
  clear HK2 HK3 HK4 HF4 HB2 HL3 H2 H3 HX HS4
  go_wp2_with fail
  go_region_held3 (fun w' => w'.cell? ⟨w.heap.size + 1, 3, none⟩ = some (.int .i64 z) ∧ w'.cell? ⟨w.heap.size + 1, 4, none⟩ = some (.slice D k.length n''))
    (first
      | go_keep
      | exact HK5.out
      | exact HK6.out)
    (first
      | (go_at_call 32; refine (l11Num_any v4 (putVarL (putVarL l x) y ++ m) z _ (HO4.out.drewN 1).sl (by have := hlen.out.2.1; rw [List.length_append]; omega)).mono ?_; rintro e w5 ⟨v5, rfl, ho5, hb5⟩; have HO5 := Lib.hid ho5; have HB5 := Lib.hid ((below_drewN (Below.refl _ w4) 1).trans hb5); have HK5 := Lib.hid (HF5.out w5 HB5.out).2.2.2; clear ho5 hb5)
      | (refine step_appB (W := w) (w := w5) (by rfl) (.tmp 26) (.tmp 28) 24 rfl 5 i0 Try.underlying24 hi hz0 hz1 hz2 v5 (putVarL (putVarL (putVarL l x) y ++ m) z) (by rfl) _ k (by rfl) (HV0.out.up (HG4.out.trans (HB5.out.mono HG4.out.size))) hk2.out.1 (HO5.out.mono HG4.out.size) (HG4.out.trans (HB5.out.mono HG4.out.size)) (by have := hlen.out.2.2; omega) ?_; intro v6 w6 ho6 hg6; have HO6 := Lib.hid ho6; have HG6 := Lib.hid (below_of_own (HO5.out.mono HG4.out.size) (HG4.out.trans (HB5.out.mono HG4.out.size)) hg6); have HK6 := Lib.hid (five_kept hg6 (Nat.lt_of_lt_of_le HL4.out HB5.out.size) (fun e => Nat.not_le.2 HL4.out (HO5.out.lt _ e).1) (HF5.out w5 HB5.out)).2.2.2; clear ho6 hg6))
  go_wp2
  go_ret2
  exact ⟨_, rfl, by rw [HRE.out]; exact HO6.out, HG6.out⟩
end Go.Proofs.Ytcamaeipbbdhlaa
