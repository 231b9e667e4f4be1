/- QcOk and QcSame, of the program and of its model. -/
import Derived.Test.YtopbalemfljphaaQc
import Derived.Test.YtopbalemfljphaaVoteOk
import Derived.Test.YtopbalemfljphaaAll32
import Derived.Test.YtopbalemfljphaaTreeSame
import Derived.Test.YtopbalemfljphaaOk
import Derived.Test.YtopbalemfljphaaWat
namespace Go.Proofs.Ytopbalemfljphaa
open Go.ChangeShapes Go.WideShapes Go.ChangeAt Go.RowKit
set_option linter.unusedSimpArgs false

/-- Whether a certificate is valid under limits. -/
def qcB (a b c d e x y : Int) (l k : List UInt8) (L : List (List UInt8)) : Bool := limB a b c d e && (isNumB x && (isNumB y && (hashLB l && (okB k a && hashesB L (cntB k)))))
theorem hashesB_and (L : List (List UInt8)) (z : Int) : hashesB L z = (((L.length : Int) == z) && all32 L) := by
  unfold hashesB
  by_cases h : (L.length : Int) = z
  · rw [beq_iff_eq.2 h]
    cases ha : all32 L <;> simp [h]
  · rw [beq_eq_false_iff_ne.2 h]
    simp [h]
theorem hashesB_tag {L : List (List UInt8)} {z : Int} (h : hashesB L z = true) : (L.length : Int) = z ∧ all32 L = true := of_decide_eq_true h

set_option maxHeartbeats 4000000 in
theorem specQcOk_any (a b c d e x y : Int) (u v s : Value) (l k : List UInt8) (L : List (List UInt8)) (w : World) (hu : Sl w w.heap.size u l) (hv : Sl w w.heap.size v k) (hs : SlS w w.heap.size s L) (hk : k.length ≤ 4294967296) :
    Calls Try.prog 39 #[.agg #[.int .i64 a, .int .i64 b, .int .i64 c, .int .i64 d, .int .i64 e], .agg #[.int .i64 x, .int .i64 y, u, v, s]] w (BoolB w (qcB a b c d e x y l k L)) := by
  obtain ⟨A, n, rfl, p1, p2, p0, p3⟩ := id hu
  obtain ⟨B, m, rfl, q1, q2, q0, q3⟩ := id hv
  obtain ⟨C, f, rfl, r1, r2, r0, r3⟩ := id hs
  clear p1 p2 p0 p3 q1 q2 q0 q3 r1 r2 r0 r3
  have hR : qcB a b c d e x y l k L = (limB a b c d e && (isNumB x && (isNumB y && (hashLB l && (okB k a && (((L.length : Int) == cntB k) && all32 L)))))) := by
    unfold qcB
    rw [hashesB_and]
  rw [hR]
  obtain ⟨ss, hss⟩ : ∃ ss, ss = [segX 36 (w.heap.size + 1) [.int .i64 x, .int .i64 y, .slice A l.length n, .slice B k.length m, .slice C L.length f], segX 33 w.heap.size [.int .i64 a, .int .i64 b, .int .i64 c, .int .i64 d, .int .i64 e]] := ⟨_, rfl⟩
  have H0 := ((InvF.start w).newG 33 #[.int .i64 a, .int .i64 b, .int .i64 c, .int .i64 d, .int .i64 e] w.heap.size).newG 36 #[.int .i64 x, .int .i64 y, .slice A l.length n, .slice B k.length m, .slice C L.length f] (w.heap.size + 1)
  have H1 : InvF w ((w.alloc (.cells #[.int .i64 a, .int .i64 b, .int .i64 c, .int .i64 d, .int .i64 e] 33)).alloc (.cells #[.int .i64 x, .int .i64 y, .slice A l.length n, .slice B k.length m, .slice C L.length f] 36)) ss := by rw [hss]; exact H0
  have o0 := fun z : WF w ss => z.h.atX (T := 36) (g := w.heap.size + 1) (xs := [.int .i64 x, .int .i64 y, .slice A l.length n, .slice B k.length m, .slice C L.length f]) (by rw [hss]; exact .head _) 0 rfl
  have t0 := fun z : WF w ss => z.h.atX (T := 33) (g := w.heap.size) (xs := [.int .i64 a, .int .i64 b, .int .i64 c, .int .i64 d, .int .i64 e]) (by rw [hss]; exact .tail _ (.head _)) 0 rfl
  have o1 := fun z : WF w ss => z.h.atX (T := 36) (g := w.heap.size + 1) (xs := [.int .i64 x, .int .i64 y, .slice A l.length n, .slice B k.length m, .slice C L.length f]) (by rw [hss]; exact .head _) 1 rfl
  have t1 := fun z : WF w ss => z.h.atX (T := 33) (g := w.heap.size) (xs := [.int .i64 a, .int .i64 b, .int .i64 c, .int .i64 d, .int .i64 e]) (by rw [hss]; exact .tail _ (.head _)) 1 rfl
  have o2 := fun z : WF w ss => z.h.atX (T := 36) (g := w.heap.size + 1) (xs := [.int .i64 x, .int .i64 y, .slice A l.length n, .slice B k.length m, .slice C L.length f]) (by rw [hss]; exact .head _) 2 rfl
  have t2 := fun z : WF w ss => z.h.atX (T := 33) (g := w.heap.size) (xs := [.int .i64 a, .int .i64 b, .int .i64 c, .int .i64 d, .int .i64 e]) (by rw [hss]; exact .tail _ (.head _)) 2 rfl
  have o3 := fun z : WF w ss => z.h.atX (T := 36) (g := w.heap.size + 1) (xs := [.int .i64 x, .int .i64 y, .slice A l.length n, .slice B k.length m, .slice C L.length f]) (by rw [hss]; exact .head _) 3 rfl
  have t3 := fun z : WF w ss => z.h.atX (T := 33) (g := w.heap.size) (xs := [.int .i64 a, .int .i64 b, .int .i64 c, .int .i64 d, .int .i64 e]) (by rw [hss]; exact .tail _ (.head _)) 3 rfl
  have o4 := fun z : WF w ss => z.h.atX (T := 36) (g := w.heap.size + 1) (xs := [.int .i64 x, .int .i64 y, .slice A l.length n, .slice B k.length m, .slice C L.length f]) (by rw [hss]; exact .head _) 4 rfl
  have t4 := fun z : WF w ss => z.h.atX (T := 33) (g := w.heap.size) (xs := [.int .i64 a, .int .i64 b, .int .i64 c, .int .i64 d, .int .i64 e]) (by rw [hss]; exact .tail _ (.head _)) 4 rfl
  have c0 := fun z : WF w ss => z.below (specLimitsOk_any a b c d e z.w)
  have c1 := fun z : WF w ss => z.same (l01Num_any x z.w)
  have c2 := fun z : WF w ss => z.same (l01Num_any y z.w)
  have c3 := fun z : WF w ss => z.same (l07Hash_any (.slice A l.length n) l z.w (hu.up z.h.bel))
  have c4 := fun z : WF w ss => z.below (specBitsOk_any (.slice B k.length m) k a z.w (hv.up z.h.bel) hk)
  have c5 := fun z : WF w ss => z.below (specBitsCount_any (.slice B k.length m) k z.w (hv.up z.h.bel) hk)
  have c6 := fun z : WF w ss => z.same (l08Hashes_any (.slice C L.length f) L z.w (hs.up z.h.bel))
  have hH : (((l.length : Int) == 32) : Bool) = hashLB l := rfl
  simp only [hH] at c3
  obtain ⟨x0, g0⟩ : ∃ x0, x0 = limB a b c d e := ⟨_, rfl⟩
  obtain ⟨x1, g1⟩ : ∃ x1, x1 = isNumB x := ⟨_, rfl⟩
  obtain ⟨x2, g2⟩ : ∃ x2, x2 = isNumB y := ⟨_, rfl⟩
  obtain ⟨x3, g3⟩ : ∃ x3, x3 = hashLB l := ⟨_, rfl⟩
  obtain ⟨x4, g4⟩ : ∃ x4, x4 = okB k a := ⟨_, rfl⟩
  obtain ⟨z5, g5⟩ : ∃ z5, z5 = cntB k := ⟨_, rfl⟩
  obtain ⟨x6, g6⟩ : ∃ x6, x6 = all32 L := ⟨_, rfl⟩
  rw [← g0, ← g1, ← g2, ← g3, ← g4, ← g5, ← g6]
  rw [← g0] at c0; rw [← g1] at c1; rw [← g2] at c2; rw [← g3] at c3; rw [← g4] at c4; rw [← g6] at c6; rw [← g5] at c5
  obtain ⟨x5, g7⟩ : ∃ x5, x5 = ((L.length : Int) == z5) := ⟨_, rfl⟩
  rw [← g7]
  replace g7 := g7.symm
  have C0 := Lib.hid c0; have C1 := Lib.hid c1; have C2 := Lib.hid c2; have C3 := Lib.hid c3; have C4 := Lib.hid c4; have C5 := Lib.hid c5; have C6 := Lib.hid c6
  have HH := Lib.hid H1
  have hne : Nonempty (WF w ss) := ⟨⟨_, H1⟩⟩
  clear c0 c1 c2 c3 c4 c5 c6 g0 g1 g2 g3 g4 g5 g6 hH hss H0 H1 hu hv hs hR
  rcases x0 with _ | _
  · simp only [Bool.false_and, Bool.true_and, Bool.and_false]
    go_enter Try.func39, Try.ntmps39
    go_wp2_with fail
    refine wp_region_wf (by kernel_rfl) (by kernel_rfl) HH.out ?_
    repeat (go_big_quiet_step (first
      | (go_at_call 36; exact C0.out _)
      | (go_at_call_of 68 (Value.int IntKind.i64 x); exact C1.out _)
      | (go_at_call_of 68 (Value.int IntKind.i64 y); exact C2.out _)
      | (go_at_call 89; exact C3.out _)
      | (go_at_call 91; exact C4.out _)
      | (go_at_call 92; exact C5.out _)
      | (go_at_call 70; exact C6.out _)))
    refine wpQuiet_nil ?_
    rintro _ ⟨z, rfl⟩
    have hb := z.h.bel
    go_wp2
    go_ret
    exact ⟨rfl, hb⟩
  rcases x1 with _ | _
  · simp only [Bool.false_and, Bool.true_and, Bool.and_false]
    go_enter Try.func39, Try.ntmps39
    go_wp2_with fail
    refine wp_region_wf (by kernel_rfl) (by kernel_rfl) HH.out ?_
    repeat (go_big_quiet_step (first
      | (go_at_call 36; exact C0.out _)
      | (go_at_call_of 68 (Value.int IntKind.i64 x); exact C1.out _)
      | (go_at_call_of 68 (Value.int IntKind.i64 y); exact C2.out _)
      | (go_at_call 89; exact C3.out _)
      | (go_at_call 91; exact C4.out _)
      | (go_at_call 92; exact C5.out _)
      | (go_at_call 70; exact C6.out _)))
    refine wpQuiet_nil ?_
    rintro _ ⟨z, rfl⟩
    have hb := z.h.bel
    go_wp2
    go_ret
    exact ⟨rfl, hb⟩
  rcases x2 with _ | _
  · simp only [Bool.false_and, Bool.true_and, Bool.and_false]
    go_enter Try.func39, Try.ntmps39
    go_wp2_with fail
    refine wp_region_wf (by kernel_rfl) (by kernel_rfl) HH.out ?_
    repeat (go_big_quiet_step (first
      | (go_at_call 36; exact C0.out _)
      | (go_at_call_of 68 (Value.int IntKind.i64 x); exact C1.out _)
      | (go_at_call_of 68 (Value.int IntKind.i64 y); exact C2.out _)
      | (go_at_call 89; exact C3.out _)
      | (go_at_call 91; exact C4.out _)
      | (go_at_call 92; exact C5.out _)
      | (go_at_call 70; exact C6.out _)))
    refine wpQuiet_nil ?_
    rintro _ ⟨z, rfl⟩
    have hb := z.h.bel
    go_wp2
    go_ret
    exact ⟨rfl, hb⟩
  rcases x3 with _ | _
  · simp only [Bool.false_and, Bool.true_and, Bool.and_false]
    go_enter Try.func39, Try.ntmps39
    go_wp2_with fail
    refine wp_region_wf (by kernel_rfl) (by kernel_rfl) HH.out ?_
    repeat (go_big_quiet_step (first
      | (go_at_call 36; exact C0.out _)
      | (go_at_call_of 68 (Value.int IntKind.i64 x); exact C1.out _)
      | (go_at_call_of 68 (Value.int IntKind.i64 y); exact C2.out _)
      | (go_at_call 89; exact C3.out _)
      | (go_at_call 91; exact C4.out _)
      | (go_at_call 92; exact C5.out _)
      | (go_at_call 70; exact C6.out _)))
    refine wpQuiet_nil ?_
    rintro _ ⟨z, rfl⟩
    have hb := z.h.bel
    go_wp2
    go_ret
    exact ⟨rfl, hb⟩
  rcases x4 with _ | _
  · simp only [Bool.false_and, Bool.true_and, Bool.and_false]
    go_enter Try.func39, Try.ntmps39
    go_wp2_with fail
    refine wp_region_wf (by kernel_rfl) (by kernel_rfl) HH.out ?_
    repeat (go_big_quiet_step (first
      | (go_at_call 36; exact C0.out _)
      | (go_at_call_of 68 (Value.int IntKind.i64 x); exact C1.out _)
      | (go_at_call_of 68 (Value.int IntKind.i64 y); exact C2.out _)
      | (go_at_call 89; exact C3.out _)
      | (go_at_call 91; exact C4.out _)
      | (go_at_call 92; exact C5.out _)
      | (go_at_call 70; exact C6.out _)))
    refine wpQuiet_nil ?_
    rintro _ ⟨z, rfl⟩
    have hb := z.h.bel
    go_wp2
    go_ret
    exact ⟨rfl, hb⟩
  rcases x5 with _ | _
  · simp only [Bool.false_and, Bool.true_and, Bool.and_false]
    go_enter Try.func39, Try.ntmps39
    go_wp2_with fail
    refine wp_region_wf (by kernel_rfl) (by kernel_rfl) HH.out ?_
    repeat (go_big_quiet_step (first
      | (go_at_call 36; exact C0.out _)
      | (go_at_call_of 68 (Value.int IntKind.i64 x); exact C1.out _)
      | (go_at_call_of 68 (Value.int IntKind.i64 y); exact C2.out _)
      | (go_at_call 89; exact C3.out _)
      | (go_at_call 91; exact C4.out _)
      | (go_at_call 92; exact C5.out _)
      | (go_at_call 70; exact C6.out _)))
    refine wpQuiet_nil ?_
    rintro _ ⟨z, rfl⟩
    have hb := z.h.bel
    go_wp2
    go_ret
    exact ⟨rfl, hb⟩
  rcases x6 with _ | _
  · simp only [Bool.false_and, Bool.true_and, Bool.and_false]
    go_enter Try.func39, Try.ntmps39
    go_wp2_with fail
    refine wp_region_wf (by kernel_rfl) (by kernel_rfl) HH.out ?_
    repeat (go_big_quiet_step (first
      | (go_at_call 36; exact C0.out _)
      | (go_at_call_of 68 (Value.int IntKind.i64 x); exact C1.out _)
      | (go_at_call_of 68 (Value.int IntKind.i64 y); exact C2.out _)
      | (go_at_call 89; exact C3.out _)
      | (go_at_call 91; exact C4.out _)
      | (go_at_call 92; exact C5.out _)
      | (go_at_call 70; exact C6.out _)))
    refine wpQuiet_nil ?_
    rintro _ ⟨z, rfl⟩
    have hb := z.h.bel
    go_wp2
    go_ret
    exact ⟨rfl, hb⟩
  simp only [Bool.true_and]
  go_enter Try.func39, Try.ntmps39
  go_wp2_with fail
  refine wp_region_wf (by kernel_rfl) (by kernel_rfl) HH.out ?_
  repeat (go_big_quiet_step (first
    | (go_at_call 36; exact C0.out _)
    | (go_at_call_of 68 (Value.int IntKind.i64 x); exact C1.out _)
    | (go_at_call_of 68 (Value.int IntKind.i64 y); exact C2.out _)
    | (go_at_call 89; exact C3.out _)
    | (go_at_call 91; exact C4.out _)
    | (go_at_call 92; exact C5.out _)
    | (go_at_call 70; exact C6.out _)))
  refine wpQuiet_nil ?_
  rintro _ ⟨z, rfl⟩
  have hb := z.h.bel
  go_wp2
  go_ret
  exact ⟨rfl, hb⟩

set_option maxHeartbeats 4000000 in
theorem implQcOk_any (a b c d e x y : Int) (u v s : Value) (l k : List UInt8) (L : List (List UInt8)) (w : World) (hu : Sl w w.heap.size u l) (hv : Sl w w.heap.size v k) (hs : SlS w w.heap.size s L) (hk : k.length ≤ 4294967296) :
    Calls Try.prog 47 #[.agg #[.int .i64 a, .int .i64 b, .int .i64 c, .int .i64 d, .int .i64 e], .agg #[.int .i64 x, .int .i64 y, u, v, s]] w (BoolB w (qcB a b c d e x y l k L)) := by
  obtain ⟨A, n, rfl, p1, p2, p0, p3⟩ := id hu
  obtain ⟨B, m, rfl, q1, q2, q0, q3⟩ := id hv
  obtain ⟨C, f, rfl, r1, r2, r0, r3⟩ := id hs
  clear p1 p2 p0 p3 q1 q2 q0 q3 r1 r2 r0 r3
  unfold qcB
  obtain ⟨ss, hss⟩ : ∃ ss, ss = [segX 36 (w.heap.size + 1) [.int .i64 x, .int .i64 y, .slice A l.length n, .slice B k.length m, .slice C L.length f], segX 33 w.heap.size [.int .i64 a, .int .i64 b, .int .i64 c, .int .i64 d, .int .i64 e]] := ⟨_, rfl⟩
  have H0 := ((InvF.start w).newG 33 #[.int .i64 a, .int .i64 b, .int .i64 c, .int .i64 d, .int .i64 e] w.heap.size).newG 36 #[.int .i64 x, .int .i64 y, .slice A l.length n, .slice B k.length m, .slice C L.length f] (w.heap.size + 1)
  have H1 : InvF w ((w.alloc (.cells #[.int .i64 a, .int .i64 b, .int .i64 c, .int .i64 d, .int .i64 e] 33)).alloc (.cells #[.int .i64 x, .int .i64 y, .slice A l.length n, .slice B k.length m, .slice C L.length f] 36)) ss := by rw [hss]; exact H0
  have o0 := fun z : WF w ss => z.h.atX (T := 36) (g := w.heap.size + 1) (xs := [.int .i64 x, .int .i64 y, .slice A l.length n, .slice B k.length m, .slice C L.length f]) (by rw [hss]; exact .head _) 0 rfl
  have t0 := fun z : WF w ss => z.h.atX (T := 33) (g := w.heap.size) (xs := [.int .i64 a, .int .i64 b, .int .i64 c, .int .i64 d, .int .i64 e]) (by rw [hss]; exact .tail _ (.head _)) 0 rfl
  have o1 := fun z : WF w ss => z.h.atX (T := 36) (g := w.heap.size + 1) (xs := [.int .i64 x, .int .i64 y, .slice A l.length n, .slice B k.length m, .slice C L.length f]) (by rw [hss]; exact .head _) 1 rfl
  have t1 := fun z : WF w ss => z.h.atX (T := 33) (g := w.heap.size) (xs := [.int .i64 a, .int .i64 b, .int .i64 c, .int .i64 d, .int .i64 e]) (by rw [hss]; exact .tail _ (.head _)) 1 rfl
  have o2 := fun z : WF w ss => z.h.atX (T := 36) (g := w.heap.size + 1) (xs := [.int .i64 x, .int .i64 y, .slice A l.length n, .slice B k.length m, .slice C L.length f]) (by rw [hss]; exact .head _) 2 rfl
  have t2 := fun z : WF w ss => z.h.atX (T := 33) (g := w.heap.size) (xs := [.int .i64 a, .int .i64 b, .int .i64 c, .int .i64 d, .int .i64 e]) (by rw [hss]; exact .tail _ (.head _)) 2 rfl
  have o3 := fun z : WF w ss => z.h.atX (T := 36) (g := w.heap.size + 1) (xs := [.int .i64 x, .int .i64 y, .slice A l.length n, .slice B k.length m, .slice C L.length f]) (by rw [hss]; exact .head _) 3 rfl
  have t3 := fun z : WF w ss => z.h.atX (T := 33) (g := w.heap.size) (xs := [.int .i64 a, .int .i64 b, .int .i64 c, .int .i64 d, .int .i64 e]) (by rw [hss]; exact .tail _ (.head _)) 3 rfl
  have o4 := fun z : WF w ss => z.h.atX (T := 36) (g := w.heap.size + 1) (xs := [.int .i64 x, .int .i64 y, .slice A l.length n, .slice B k.length m, .slice C L.length f]) (by rw [hss]; exact .head _) 4 rfl
  have t4 := fun z : WF w ss => z.h.atX (T := 33) (g := w.heap.size) (xs := [.int .i64 a, .int .i64 b, .int .i64 c, .int .i64 d, .int .i64 e]) (by rw [hss]; exact .tail _ (.head _)) 4 rfl
  have c0 := fun z : WF w ss => z.below (implLimitsOk_any a b c d e z.w)
  have c1 := fun z : WF w ss => z.same (isNum_any x z.w)
  have c2 := fun z : WF w ss => z.same (isNum_any y z.w)
  have c3 := fun z : WF w ss => z.same (isHash_any (.slice A l.length n) l z.w (hu.up z.h.bel))
  have c4 := fun z : WF w ss => z.below (implBitsOk_any (.slice B k.length m) k a z.w (hv.up z.h.bel) hk)
  have c5 := fun z : WF w ss => z.below (implBitsCount_any (.slice B k.length m) k z.w (hv.up z.h.bel) hk)
  have c6 := fun z : WF w ss => z.same (areHashes_any (.slice C L.length f) L (cntB k) z.w (hs.up z.h.bel))
  have hH : (((l.length : Int) == 32) : Bool) = hashLB l := rfl
  simp only [hH] at c3
  obtain ⟨x0, g0⟩ : ∃ x0, x0 = limB a b c d e := ⟨_, rfl⟩
  obtain ⟨x1, g1⟩ : ∃ x1, x1 = isNumB x := ⟨_, rfl⟩
  obtain ⟨x2, g2⟩ : ∃ x2, x2 = isNumB y := ⟨_, rfl⟩
  obtain ⟨x3, g3⟩ : ∃ x3, x3 = hashLB l := ⟨_, rfl⟩
  obtain ⟨x4, g4⟩ : ∃ x4, x4 = okB k a := ⟨_, rfl⟩
  obtain ⟨z5, g5⟩ : ∃ z5, z5 = cntB k := ⟨_, rfl⟩
  obtain ⟨x6, g6⟩ : ∃ x6, x6 = hashesB L (cntB k) := ⟨_, rfl⟩
  rw [← g0, ← g1, ← g2, ← g3, ← g4, ← g6]
  rw [← g0] at c0; rw [← g1] at c1; rw [← g2] at c2; rw [← g3] at c3; rw [← g4] at c4; rw [← g6] at c6; rw [← g5] at c5 c6
  have C0 := Lib.hid c0; have C1 := Lib.hid c1; have C2 := Lib.hid c2; have C3 := Lib.hid c3; have C4 := Lib.hid c4; have C5 := Lib.hid c5; have C6 := Lib.hid c6
  have HH := Lib.hid H1
  have hne : Nonempty (WF w ss) := ⟨⟨_, H1⟩⟩
  clear c0 c1 c2 c3 c4 c5 c6 g0 g1 g2 g3 g4 g5 g6 hH hss H0 H1 hu hv hs
  rcases x0 with _ | _
  · simp only [Bool.false_and, Bool.true_and, Bool.and_false]
    go_enter Try.func47, Try.ntmps47
    go_wp2_with fail
    refine wp_region_wf (by kernel_rfl) (by kernel_rfl) HH.out ?_
    repeat (go_big_quiet_step (first
      | (go_at_call 72; exact C0.out _)
      | (go_at_call_of 73 (Value.int IntKind.i64 x); exact C1.out _)
      | (go_at_call_of 73 (Value.int IntKind.i64 y); exact C2.out _)
      | (go_at_call 95; exact C3.out _)
      | (go_at_call 97; exact C4.out _)
      | (go_at_call 98; exact C5.out _)
      | (go_at_call 74; exact C6.out _)))
    refine wpQuiet_nil ?_
    rintro _ ⟨z, rfl⟩
    have hb := z.h.bel
    go_wp2
    go_ret
    exact ⟨rfl, hb⟩
  rcases x1 with _ | _
  · simp only [Bool.false_and, Bool.true_and, Bool.and_false]
    go_enter Try.func47, Try.ntmps47
    go_wp2_with fail
    refine wp_region_wf (by kernel_rfl) (by kernel_rfl) HH.out ?_
    repeat (go_big_quiet_step (first
      | (go_at_call 72; exact C0.out _)
      | (go_at_call_of 73 (Value.int IntKind.i64 x); exact C1.out _)
      | (go_at_call_of 73 (Value.int IntKind.i64 y); exact C2.out _)
      | (go_at_call 95; exact C3.out _)
      | (go_at_call 97; exact C4.out _)
      | (go_at_call 98; exact C5.out _)
      | (go_at_call 74; exact C6.out _)))
    refine wpQuiet_nil ?_
    rintro _ ⟨z, rfl⟩
    have hb := z.h.bel
    go_wp2
    go_ret
    exact ⟨rfl, hb⟩
  rcases x2 with _ | _
  · simp only [Bool.false_and, Bool.true_and, Bool.and_false]
    go_enter Try.func47, Try.ntmps47
    go_wp2_with fail
    refine wp_region_wf (by kernel_rfl) (by kernel_rfl) HH.out ?_
    repeat (go_big_quiet_step (first
      | (go_at_call 72; exact C0.out _)
      | (go_at_call_of 73 (Value.int IntKind.i64 x); exact C1.out _)
      | (go_at_call_of 73 (Value.int IntKind.i64 y); exact C2.out _)
      | (go_at_call 95; exact C3.out _)
      | (go_at_call 97; exact C4.out _)
      | (go_at_call 98; exact C5.out _)
      | (go_at_call 74; exact C6.out _)))
    refine wpQuiet_nil ?_
    rintro _ ⟨z, rfl⟩
    have hb := z.h.bel
    go_wp2
    go_ret
    exact ⟨rfl, hb⟩
  rcases x3 with _ | _
  · simp only [Bool.false_and, Bool.true_and, Bool.and_false]
    go_enter Try.func47, Try.ntmps47
    go_wp2_with fail
    refine wp_region_wf (by kernel_rfl) (by kernel_rfl) HH.out ?_
    repeat (go_big_quiet_step (first
      | (go_at_call 72; exact C0.out _)
      | (go_at_call_of 73 (Value.int IntKind.i64 x); exact C1.out _)
      | (go_at_call_of 73 (Value.int IntKind.i64 y); exact C2.out _)
      | (go_at_call 95; exact C3.out _)
      | (go_at_call 97; exact C4.out _)
      | (go_at_call 98; exact C5.out _)
      | (go_at_call 74; exact C6.out _)))
    refine wpQuiet_nil ?_
    rintro _ ⟨z, rfl⟩
    have hb := z.h.bel
    go_wp2
    go_ret
    exact ⟨rfl, hb⟩
  rcases x4 with _ | _
  · simp only [Bool.false_and, Bool.true_and, Bool.and_false]
    go_enter Try.func47, Try.ntmps47
    go_wp2_with fail
    refine wp_region_wf (by kernel_rfl) (by kernel_rfl) HH.out ?_
    repeat (go_big_quiet_step (first
      | (go_at_call 72; exact C0.out _)
      | (go_at_call_of 73 (Value.int IntKind.i64 x); exact C1.out _)
      | (go_at_call_of 73 (Value.int IntKind.i64 y); exact C2.out _)
      | (go_at_call 95; exact C3.out _)
      | (go_at_call 97; exact C4.out _)
      | (go_at_call 98; exact C5.out _)
      | (go_at_call 74; exact C6.out _)))
    refine wpQuiet_nil ?_
    rintro _ ⟨z, rfl⟩
    have hb := z.h.bel
    go_wp2
    go_ret
    exact ⟨rfl, hb⟩
  rcases x6 with _ | _
  · simp only [Bool.false_and, Bool.true_and, Bool.and_false]
    go_enter Try.func47, Try.ntmps47
    go_wp2_with fail
    refine wp_region_wf (by kernel_rfl) (by kernel_rfl) HH.out ?_
    repeat (go_big_quiet_step (first
      | (go_at_call 72; exact C0.out _)
      | (go_at_call_of 73 (Value.int IntKind.i64 x); exact C1.out _)
      | (go_at_call_of 73 (Value.int IntKind.i64 y); exact C2.out _)
      | (go_at_call 95; exact C3.out _)
      | (go_at_call 97; exact C4.out _)
      | (go_at_call 98; exact C5.out _)
      | (go_at_call 74; exact C6.out _)))
    refine wpQuiet_nil ?_
    rintro _ ⟨z, rfl⟩
    have hb := z.h.bel
    go_wp2
    go_ret
    exact ⟨rfl, hb⟩
  simp only [Bool.true_and]
  go_enter Try.func47, Try.ntmps47
  go_wp2_with fail
  refine wp_region_wf (by kernel_rfl) (by kernel_rfl) HH.out ?_
  repeat (go_big_quiet_step (first
    | (go_at_call 72; exact C0.out _)
    | (go_at_call_of 73 (Value.int IntKind.i64 x); exact C1.out _)
    | (go_at_call_of 73 (Value.int IntKind.i64 y); exact C2.out _)
    | (go_at_call 95; exact C3.out _)
    | (go_at_call 97; exact C4.out _)
    | (go_at_call 98; exact C5.out _)
    | (go_at_call 74; exact C6.out _)))
  refine wpQuiet_nil ?_
  rintro _ ⟨z, rfl⟩
  have hb := z.h.bel
  go_wp2
  go_ret
  exact ⟨rfl, hb⟩

/-- Whether two certificates are the same. -/
def sameQB (x y : Int) (l k : List UInt8) (L : List (List UInt8)) (x' y' : Int) (l' k' : List UInt8) (L' : List (List UInt8)) : Bool := (x == x') && ((y == y') && ((l == l') && ((k == k') && (L == L'))))

set_option maxHeartbeats 4000000 in
theorem specQcSame_any (x y x' y' : Int) (u v s u' v' s' : Value) (l k : List UInt8) (L : List (List UInt8)) (l' k' : List UInt8) (L' : List (List UInt8)) (w : World) (hu : Sl w w.heap.size u l) (hv : Sl w w.heap.size v k) (hs : SlS w w.heap.size s L) (hu' : Sl w w.heap.size u' l') (hv' : Sl w w.heap.size v' k') (hs' : SlS w w.heap.size s' L') :
    Calls Try.prog 52 #[.agg #[.int .i64 x, .int .i64 y, u, v, s], .agg #[.int .i64 x', .int .i64 y', u', v', s']] w (BoolB w (sameQB x y l k L x' y' l' k' L')) := by
  obtain ⟨A, n, rfl, p1, p2, p0, p3⟩ := id hu
  obtain ⟨B, m, rfl, q1, q2, q0, q3⟩ := id hv
  obtain ⟨C, f, rfl, r1, r2, r0, r3⟩ := id hs
  clear p1 p2 p0 p3 q1 q2 q0 q3 r1 r2 r0 r3
  obtain ⟨A', n', rfl, p1, p2, p0, p3⟩ := id hu'
  obtain ⟨B', m', rfl, q1, q2, q0, q3⟩ := id hv'
  obtain ⟨C', f', rfl, r1, r2, r0, r3⟩ := id hs'
  clear p1 p2 p0 p3 q1 q2 q0 q3 r1 r2 r0 r3
  unfold sameQB
  have H := ((InvF.start w).newG 36 #[.int .i64 x, .int .i64 y, .slice A l.length n, .slice B k.length m, .slice C L.length f] w.heap.size).newG 36 #[.int .i64 x', .int .i64 y', .slice A' l'.length n', .slice B' k'.length m', .slice C' L'.length f'] (w.heap.size + 1)
  have hb := Lib.hid H.bel
  have hU := Lib.hid (And.intro (hu.up H.bel) (hu'.up H.bel))
  have hV := Lib.hid (And.intro (hv.up H.bel) (hv'.up H.bel))
  have hS := Lib.hid (And.intro (hs.up H.bel) (hs'.up H.bel))
  clear hu hv hu' hv' hs hs' H
  obtain ⟨x0, g0⟩ : ∃ x0, x0 = (x == x') := ⟨_, rfl⟩
  obtain ⟨x1, g1⟩ : ∃ x1, x1 = (y == y') := ⟨_, rfl⟩
  obtain ⟨x2, g2⟩ : ∃ x2, x2 = (l == l') := ⟨_, rfl⟩
  obtain ⟨x3, g3⟩ : ∃ x3, x3 = (k == k') := ⟨_, rfl⟩
  obtain ⟨x4, g4⟩ : ∃ x4, x4 = (L == L') := ⟨_, rfl⟩
  rw [← g0, ← g1, ← g2, ← g3, ← g4]
  have C2 : Hid (∀ W, Sl W W.heap.size (.slice A l.length n) l → Sl W W.heap.size (.slice A' l'.length n') l' → Calls Try.prog 77 #[.slice A l.length n, .slice A' l'.length n'] W fun e w' => e = .returned (.bool x2) ∧ W = w') := Lib.hid (by rw [g2]; exact fun W h h' => specSameBytes_any _ _ l l' W h h')
  have C3 : Hid (∀ W, Sl W W.heap.size (.slice B k.length m) k → Sl W W.heap.size (.slice B' k'.length m') k' → Calls Try.prog 77 #[.slice B k.length m, .slice B' k'.length m'] W fun e w' => e = .returned (.bool x3) ∧ W = w') := Lib.hid (by rw [g3]; exact fun W h h' => specSameBytes_any _ _ k k' W h h')
  have C4 : Hid (∀ W, SlS W W.heap.size (.slice C L.length f) L → SlS W W.heap.size (.slice C' L'.length f') L' → Calls Try.prog 78 #[.slice C L.length f, .slice C' L'.length f'] W (Quiet (.bool x4) W)) := Lib.hid (by rw [g4]; exact fun W h h' => specTreeSame_any _ _ L L' W h h')
  clear g2 g3 g4
  replace g0 := g0.symm; replace g1 := g1.symm
  rcases x0 with _ | _
  · go_enter Try.func52, Try.ntmps52
    go_wp2
    go_ret
    exact ⟨rfl, hb.out⟩
  rcases x1 with _ | _
  · go_enter Try.func52, Try.ntmps52
    go_wp2
    go_ret
    exact ⟨rfl, hb.out⟩
  go_enter Try.func52, Try.ntmps52
  go_wp2_with fail
  refine (C2.out _ hU.out.1 hU.out.2).mono ?_
  rintro ev w' ⟨rfl, rfl⟩
  rcases x2 with _ | _
  · go_wp2
    go_ret
    exact ⟨rfl, hb.out⟩
  go_wp2_with fail
  refine (C3.out _ hV.out.1 hV.out.2).mono ?_
  rintro ev w' ⟨rfl, rfl⟩
  rcases x3 with _ | _
  · go_wp2
    go_ret
    exact ⟨rfl, hb.out⟩
  go_wp2_with fail
  refine (C4.out _ hS.out.1 hS.out.2).mono ?_
  rintro ev w' ⟨rfl, q, rfl⟩
  go_wp2
  go_ret
  exact ⟨rfl, below_drewN hb.out q⟩

set_option maxHeartbeats 4000000 in
theorem implQcSame_any (x y x' y' : Int) (u v s u' v' s' : Value) (l k : List UInt8) (L : List (List UInt8)) (l' k' : List UInt8) (L' : List (List UInt8)) (w : World) (hu : Sl w w.heap.size u l) (hv : Sl w w.heap.size v k) (hs : SlS w w.heap.size s L) (hu' : Sl w w.heap.size u' l') (hv' : Sl w w.heap.size v' k') (hs' : SlS w w.heap.size s' L') :
    Calls Try.prog 55 #[.agg #[.int .i64 x, .int .i64 y, u, v, s], .agg #[.int .i64 x', .int .i64 y', u', v', s']] w (BoolB w (sameQB x y l k L x' y' l' k' L')) := by
  obtain ⟨A, n, rfl, p1, p2, p0, p3⟩ := id hu
  obtain ⟨B, m, rfl, q1, q2, q0, q3⟩ := id hv
  obtain ⟨C, f, rfl, r1, r2, r0, r3⟩ := id hs
  clear p1 p2 p0 p3 q1 q2 q0 q3 r1 r2 r0 r3
  obtain ⟨A', n', rfl, p1, p2, p0, p3⟩ := id hu'
  obtain ⟨B', m', rfl, q1, q2, q0, q3⟩ := id hv'
  obtain ⟨C', f', rfl, r1, r2, r0, r3⟩ := id hs'
  clear p1 p2 p0 p3 q1 q2 q0 q3 r1 r2 r0 r3
  unfold sameQB
  have H := ((InvF.start w).newG 36 #[.int .i64 x, .int .i64 y, .slice A l.length n, .slice B k.length m, .slice C L.length f] w.heap.size).newG 36 #[.int .i64 x', .int .i64 y', .slice A' l'.length n', .slice B' k'.length m', .slice C' L'.length f'] (w.heap.size + 1)
  have hb := Lib.hid H.bel
  have hU := Lib.hid (And.intro (hu.up H.bel) (hu'.up H.bel))
  have hV := Lib.hid (And.intro (hv.up H.bel) (hv'.up H.bel))
  have hS := Lib.hid (And.intro (hs.up H.bel) (hs'.up H.bel))
  clear hu hv hu' hv' hs hs' H
  obtain ⟨x0, g0⟩ : ∃ x0, x0 = (x == x') := ⟨_, rfl⟩
  obtain ⟨x1, g1⟩ : ∃ x1, x1 = (y == y') := ⟨_, rfl⟩
  obtain ⟨x2, g2⟩ : ∃ x2, x2 = (l == l') := ⟨_, rfl⟩
  obtain ⟨x3, g3⟩ : ∃ x3, x3 = (k == k') := ⟨_, rfl⟩
  obtain ⟨x4, g4⟩ : ∃ x4, x4 = (L == L') := ⟨_, rfl⟩
  rw [← g0, ← g1, ← g2, ← g3, ← g4]
  have C2 : Hid (∀ W, Sl W W.heap.size (.slice A l.length n) l → Sl W W.heap.size (.slice A' l'.length n') l' → Calls Try.prog 79 #[.slice A l.length n, .slice A' l'.length n'] W fun e w' => e = .returned (.bool x2) ∧ W = w') := Lib.hid (by rw [g2]; exact fun W h h' => implSameBytes_any _ _ l l' W h h')
  have C3 : Hid (∀ W, Sl W W.heap.size (.slice B k.length m) k → Sl W W.heap.size (.slice B' k'.length m') k' → Calls Try.prog 79 #[.slice B k.length m, .slice B' k'.length m'] W fun e w' => e = .returned (.bool x3) ∧ W = w') := Lib.hid (by rw [g3]; exact fun W h h' => implSameBytes_any _ _ k k' W h h')
  have C4 : Hid (∀ W, SlS W W.heap.size (.slice C L.length f) L → SlS W W.heap.size (.slice C' L'.length f') L' → Calls Try.prog 80 #[.slice C L.length f, .slice C' L'.length f'] W (Quiet (.bool x4) W)) := Lib.hid (by rw [g4]; exact fun W h h' => implTreeSame_any _ _ L L' W h h')
  clear g2 g3 g4
  replace g0 := g0.symm; replace g1 := g1.symm
  rcases x0 with _ | _
  · go_enter Try.func55, Try.ntmps55
    go_wp2
    go_ret
    exact ⟨rfl, hb.out⟩
  rcases x1 with _ | _
  · go_enter Try.func55, Try.ntmps55
    go_wp2
    go_ret
    exact ⟨rfl, hb.out⟩
  go_enter Try.func55, Try.ntmps55
  go_wp2_with fail
  refine (C2.out _ hU.out.1 hU.out.2).mono ?_
  rintro ev w' ⟨rfl, rfl⟩
  rcases x2 with _ | _
  · go_wp2
    go_ret
    exact ⟨rfl, hb.out⟩
  go_wp2_with fail
  refine (C3.out _ hV.out.1 hV.out.2).mono ?_
  rintro ev w' ⟨rfl, rfl⟩
  rcases x3 with _ | _
  · go_wp2
    go_ret
    exact ⟨rfl, hb.out⟩
  go_wp2_with fail
  refine (C4.out _ hS.out.1 hS.out.2).mono ?_
  rintro ev w' ⟨rfl, q, rfl⟩
  go_wp2
  go_ret
  exact ⟨rfl, below_drewN hb.out q⟩

end Go.Proofs.Ytopbalemfljphaa
