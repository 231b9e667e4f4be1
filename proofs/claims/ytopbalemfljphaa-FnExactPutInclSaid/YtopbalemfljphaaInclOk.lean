/- InclOk and InclSame of the program. -/
import Derived.Test.YtopbalemfljphaaInclOkS
import Derived.Test.YtopbalemfljphaaQcOk
import Derived.Test.YtopbalemfljphaaPathLen
import Derived.Test.YtopbalemfljphaaTreeSame
import Derived.Test.YtopbalemfljphaaWat
namespace Go.Proofs.Ytopbalemfljphaa
open Go.ChangeShapes Go.WideShapes Go.ChangeAt Go.RowKit
set_option linter.unusedSimpArgs false

set_option maxHeartbeats 4000000 in
theorem implInclSame_any (x y z x' y' z' : Int) (u s u' s' : Value) (l : List UInt8) (L : List (List UInt8)) (l' : List UInt8) (L' : List (List UInt8)) (w : World) (hu : Sl w w.heap.size u l) (hs : SlS w w.heap.size s L) (hu' : Sl w w.heap.size u' l') (hs' : SlS w w.heap.size s' L') :
    Calls Try.prog 30 #[.agg #[.int .i64 x, .int .i64 y, .int .i64 z, u, s], .agg #[.int .i64 x', .int .i64 y', .int .i64 z', u', s']] w (BoolB w (sameIB x y z l L x' y' z' l' L')) := by
  obtain ⟨A, n, rfl, p1, p2, p0, p3⟩ := id hu
  obtain ⟨B, m, rfl, r1, r2, r0, r3⟩ := id hs
  clear p1 p2 p0 p3 r1 r2 r0 r3
  obtain ⟨A', n', rfl, p1, p2, p0, p3⟩ := id hu'
  obtain ⟨B', m', rfl, r1, r2, r0, r3⟩ := id hs'
  clear p1 p2 p0 p3 r1 r2 r0 r3
  unfold sameIB
  have H := ((InvF.start w).newG 54 #[.int .i64 x, .int .i64 y, .int .i64 z, .slice A l.length n, .slice B L.length m] w.heap.size).newG 54 #[.int .i64 x', .int .i64 y', .int .i64 z', .slice A' l'.length n', .slice B' L'.length m'] (w.heap.size + 1)
  have hb := Lib.hid H.bel
  have hU := Lib.hid (And.intro (hu.up H.bel) (hu'.up H.bel))
  have hS := Lib.hid (And.intro (hs.up H.bel) (hs'.up H.bel))
  clear hu hu' hs hs' H
  obtain ⟨x0, g0⟩ : ∃ x0, x0 = (x == x') := ⟨_, rfl⟩
  obtain ⟨x1, g1⟩ : ∃ x1, x1 = (y == y') := ⟨_, rfl⟩
  obtain ⟨x2, g2⟩ : ∃ x2, x2 = (z == z') := ⟨_, rfl⟩
  obtain ⟨x3, g3⟩ : ∃ x3, x3 = (l == l') := ⟨_, rfl⟩
  obtain ⟨x4, g4⟩ : ∃ x4, x4 = (L == L') := ⟨_, rfl⟩
  rw [← g0, ← g1, ← g2, ← g3, ← g4]
  have C3 : Hid (∀ W, Sl W W.heap.size (.slice A l.length n) l → Sl W W.heap.size (.slice A' l'.length n') l' → Calls Try.prog 79 #[.slice A l.length n, .slice A' l'.length n'] W fun e w' => e = .returned (.bool x3) ∧ W = w') := Lib.hid (by rw [g3]; exact fun W h h' => implSameBytes_any _ _ l l' W h h')
  have C4 : Hid (∀ W, SlS W W.heap.size (.slice B L.length m) L → SlS W W.heap.size (.slice B' L'.length m') L' → Calls Try.prog 80 #[.slice B L.length m, .slice B' L'.length m'] W (Quiet (.bool x4) W)) := Lib.hid (by rw [g4]; exact fun W h h' => implTreeSame_any _ _ L L' W h h')
  clear g3 g4
  replace g0 := g0.symm; replace g1 := g1.symm; replace g2 := g2.symm
  rcases x0 with _ | _
  · go_enter Try.func30, Try.ntmps30
    go_wp2
    go_ret
    exact ⟨rfl, hb.out⟩
  rcases x1 with _ | _
  · go_enter Try.func30, Try.ntmps30
    go_wp2
    go_ret
    exact ⟨rfl, hb.out⟩
  rcases x2 with _ | _
  · go_enter Try.func30, Try.ntmps30
    go_wp2
    go_ret
    exact ⟨rfl, hb.out⟩
  go_enter Try.func30, Try.ntmps30
  go_wp2_with fail
  refine (C3.out _ hU.out.1 hU.out.2).mono ?_
  rintro ev w' ⟨rfl, rfl⟩
  rcases x3 with _ | _
  · go_wp2
    go_ret
    exact ⟨rfl, hb.out⟩
  go_wp2_with fail
  refine (C4.out _ hS.out.1 hS.out.2).mono ?_
  rintro ev w' ⟨rfl, q, rfl⟩
  go_wp2
  go_ret
  exact ⟨rfl, below_drewN hb.out q⟩

set_option maxRecDepth 100000 in
set_option maxHeartbeats 16000000 in
theorem implInclOk_any (a b c d e x y z : Int) (u s : Value) (l : List UInt8) (L : List (List UInt8)) (w : World) (hu : Sl w w.heap.size u l) (hs : SlS w w.heap.size s L) :
    Calls Try.prog 27 #[.agg #[.int .i64 a, .int .i64 b, .int .i64 c, .int .i64 d, .int .i64 e], .agg #[.int .i64 x, .int .i64 y, .int .i64 z, u, s]] w (BoolB w (inclB a b c d e x y z l L)) := by
  obtain ⟨A, n, rfl, p1, p2, p0, p3⟩ := id hu
  obtain ⟨B, m, rfl, r1, r2, r0, r3⟩ := id hs
  clear p1 p2 p0 p3 r1 r2 r0 r3
  obtain ⟨R, hR⟩ : ∃ R, R = inclB a b c d e x y z l L := ⟨_, rfl⟩
  rw [← hR]
  unfold inclB at hR
  obtain ⟨ss, hss⟩ : ∃ ss, ss = [segX 54 (w.heap.size + 1) [.int .i64 x, .int .i64 y, .int .i64 z, .slice A l.length n, .slice B L.length m], segX 33 w.heap.size [.int .i64 a, .int .i64 b, .int .i64 c, .int .i64 d, .int .i64 e]] := ⟨_, rfl⟩
  have H0 := ((InvF.start w).newG 33 #[.int .i64 a, .int .i64 b, .int .i64 c, .int .i64 d, .int .i64 e] w.heap.size).newG 54 #[.int .i64 x, .int .i64 y, .int .i64 z, .slice A l.length n, .slice B L.length m] (w.heap.size + 1)
  have H1 : InvF w ((w.alloc (.cells #[.int .i64 a, .int .i64 b, .int .i64 c, .int .i64 d, .int .i64 e] 33)).alloc (.cells #[.int .i64 x, .int .i64 y, .int .i64 z, .slice A l.length n, .slice B L.length m] 54)) ss := by rw [hss]; exact H0
  have HM1 : segX 54 (w.heap.size + 1) [.int .i64 x, .int .i64 y, .int .i64 z, .slice A l.length n, .slice B L.length m] ∈ ss := by rw [hss]; exact .head _
  have HM2 : segX 33 w.heap.size [.int .i64 a, .int .i64 b, .int .i64 c, .int .i64 d, .int .i64 e] ∈ ss := by rw [hss]; exact .tail _ (.head _)
  have hSs := Lib.hid hs
  obtain ⟨pl, hpl⟩ : ∃ pl, pl = plenZ z y := ⟨_, rfl⟩
  have hlim : limB a b c d e = true → 0 ≤ c ∧ c ≤ 8 := fun h => by have h5 := limB_yes h; exact h5.2.2.1
  have hin : decide (1 ≤ y ∧ y ≤ c) = true → 1 ≤ y ∧ y ≤ c := of_decide_eq_true
  have c0 := fun v : WF w ss => v.below (implLimitsOk_any a b c d e v.w)
  have c1 := fun v : WF w ss => v.same (isNum_any x v.w)
  have c2 := fun v : WF w ss => v.same (isFrom_any y 1 c v.w)
  have c3 := fun v : WF w ss => v.same (isFrom_any z 0 (y - 1) v.w)
  have c5 := fun v : WF w ss => v.below (implPathLen_any z y v.w)
  have c6 := fun v : WF w ss => v.same (areHashes_any (.slice B L.length m) L pl v.w (hs.up v.h.bel))
  obtain ⟨x0, g0⟩ : ∃ r : Bool, r = limB a b c d e := ⟨_, rfl⟩
  obtain ⟨x1, g1⟩ : ∃ r : Bool, r = isNumB x := ⟨_, rfl⟩
  obtain ⟨x2, g2⟩ : ∃ r : Bool, r = decide (1 ≤ y ∧ y ≤ c) := ⟨_, rfl⟩
  obtain ⟨x3, g3⟩ : ∃ r : Bool, r = decide (0 ≤ z ∧ z ≤ y - 1) := ⟨_, rfl⟩
  obtain ⟨x4, g4⟩ : ∃ r : Bool, r = decide ((l.length : Int) ≤ b) := ⟨_, rfl⟩
  obtain ⟨x5, g5⟩ : ∃ r : Bool, r = hashesB L (plenZ z y) := ⟨_, rfl⟩
  rw [← hashesB_and, ← g0, ← g1, ← g2, ← g3, ← g4, ← g5] at hR
  simp only [← g0] at c0
  simp only [← g1] at c1
  simp only [← g2] at c2
  simp only [← g3] at c3
  simp only [← hpl] at c5
  rw [← hpl] at g5
  simp only [← g5] at c6
  rw [← g0] at hlim
  rw [← g2] at hin
  have C0 := Lib.hid c0; have C1 := Lib.hid c1; have C2 := Lib.hid c2; have C3 := Lib.hid c3; have C5 := Lib.hid c5; have C6 := Lib.hid c6
  replace g4 := g4.symm
  have HL := Lib.hid hlim
  have HI := Lib.hid hin
  have HR := Lib.hid hR
  clear c0 c1 c2 c3 c5 c6 g0 g1 g2 g3 g5 hu hs hpl H0 hss hR hlim hin
  have m0 := fun v : WF w ss => v.h.atX HM1 0 rfl
  have m1 := fun v : WF w ss => v.h.atX HM1 1 rfl
  have m2 := fun v : WF w ss => v.h.atX HM1 2 rfl
  have m3 := fun v : WF w ss => v.h.atX HM1 3 rfl
  have m4 := fun v : WF w ss => v.h.atX HM1 4 rfl
  have t0 := fun v : WF w ss => v.h.atX HM2 0 rfl
  have t1 := fun v : WF w ss => v.h.atX HM2 1 rfl
  have t2 := fun v : WF w ss => v.h.atX HM2 2 rfl
  have t3 := fun v : WF w ss => v.h.atX HM2 3 rfl
  have t4 := fun v : WF w ss => v.h.atX HM2 4 rfl
  have hne : Nonempty (WF w ss) := ⟨⟨_, H1⟩⟩
  have HH := Lib.hid H1
  clear H1 HM1 HM2
  rcases x0 with _ | _
  · obtain rfl : R = false := by rw [HR.out]; simp
    go_enter Try.func27, Try.ntmps27
    go_wp2_with fail
    refine wp_region_wf (by kernel_rfl) (by kernel_rfl) HH.out ?_
    repeat (go_big_quiet_step (first | (go_at_call 72; exact C0.out _) | (go_at_call 73; exact C1.out _) | (go_at_call_of 45 (Value.int IntKind.i64 y); exact C2.out _) | (go_at_call_of 45 (Value.int IntKind.i64 z); exact C3.out _) | (go_at_call 75; exact C5.out _) | (go_at_call 74; exact C6.out _)))
    refine wpQuiet_nil ?_
    rintro _ ⟨v, rfl⟩
    have hb := v.h.bel
    go_wp2
    go_ret
    exact ⟨rfl, hb⟩
  obtain ⟨hc0, hc1⟩ := HL.out (by first | trivial | rfl)
  rcases x1 with _ | _
  · obtain rfl : R = false := by rw [HR.out]; simp
    go_enter Try.func27, Try.ntmps27
    go_wp2_with fail
    refine wp_region_wf (by kernel_rfl) (by kernel_rfl) HH.out ?_
    repeat (go_big_quiet_step (first | (go_at_call 72; exact C0.out _) | (go_at_call 73; exact C1.out _) | (go_at_call_of 45 (Value.int IntKind.i64 y); exact C2.out _) | (go_at_call_of 45 (Value.int IntKind.i64 z); exact C3.out _) | (go_at_call 75; exact C5.out _) | (go_at_call 74; exact C6.out _)))
    refine wpQuiet_nil ?_
    rintro _ ⟨v, rfl⟩
    have hb := v.h.bel
    go_wp2
    go_ret
    exact ⟨rfl, hb⟩
  rcases x2 with _ | _
  · obtain rfl : R = false := by rw [HR.out]; simp
    go_enter Try.func27, Try.ntmps27
    go_wp2_with fail
    refine wp_region_wf (by kernel_rfl) (by kernel_rfl) HH.out ?_
    repeat (go_big_quiet_step (first | (go_at_call 72; exact C0.out _) | (go_at_call 73; exact C1.out _) | (go_at_call_of 45 (Value.int IntKind.i64 y); exact C2.out _) | (go_at_call_of 45 (Value.int IntKind.i64 z); exact C3.out _) | (go_at_call 75; exact C5.out _) | (go_at_call 74; exact C6.out _)))
    refine wpQuiet_nil ?_
    rintro _ ⟨v, rfl⟩
    have hb := v.h.bel
    go_wp2
    go_ret
    exact ⟨rfl, hb⟩
  obtain ⟨hy0, hy1⟩ := HI.out (by first | trivial | rfl)
  rcases x3 with _ | _
  · obtain rfl : R = false := by rw [HR.out]; simp
    go_enter Try.func27, Try.ntmps27
    go_wp2_with fail
    refine wp_region_wf (by kernel_rfl) (by kernel_rfl) HH.out ?_
    repeat (go_big_quiet_step (first | (go_at_call 72; exact C0.out _) | (go_at_call 73; exact C1.out _) | (go_at_call_of 45 (Value.int IntKind.i64 y); exact C2.out _) | (go_at_call_of 45 (Value.int IntKind.i64 z); exact C3.out _) | (go_at_call 75; exact C5.out _) | (go_at_call 74; exact C6.out _)))
    refine wpQuiet_nil ?_
    rintro _ ⟨v, rfl⟩
    have hb := v.h.bel
    go_wp2
    go_ret
    exact ⟨rfl, hb⟩
  rcases x4 with _ | _
  · obtain rfl : R = false := by rw [HR.out]; simp
    go_enter Try.func27, Try.ntmps27
    go_wp2_with fail
    refine wp_region_wf (by kernel_rfl) (by kernel_rfl) HH.out ?_
    repeat (go_big_quiet_step (first | (go_at_call 72; exact C0.out _) | (go_at_call 73; exact C1.out _) | (go_at_call_of 45 (Value.int IntKind.i64 y); exact C2.out _) | (go_at_call_of 45 (Value.int IntKind.i64 z); exact C3.out _) | (go_at_call 75; exact C5.out _) | (go_at_call 74; exact C6.out _)))
    refine wpQuiet_nil ?_
    rintro _ ⟨v, rfl⟩
    have hb := v.h.bel
    go_wp2
    go_ret
    exact ⟨rfl, hb⟩
  rcases x5 with _ | _
  · obtain rfl : R = false := by rw [HR.out]; simp
    go_enter Try.func27, Try.ntmps27
    go_wp2_with fail
    refine wp_region_wf (by kernel_rfl) (by kernel_rfl) HH.out ?_
    repeat (go_big_quiet_step (first | (go_at_call 72; exact C0.out _) | (go_at_call 73; exact C1.out _) | (go_at_call_of 45 (Value.int IntKind.i64 y); exact C2.out _) | (go_at_call_of 45 (Value.int IntKind.i64 z); exact C3.out _) | (go_at_call 75; exact C5.out _) | (go_at_call 74; exact C6.out _)))
    refine wpQuiet_nil ?_
    rintro _ ⟨v, rfl⟩
    have hb := v.h.bel
    go_wp2
    go_ret
    exact ⟨rfl, hb⟩
  obtain rfl : R = true := by rw [HR.out]; rfl
  go_enter Try.func27, Try.ntmps27
  go_wp2_with fail
  refine wp_region_wf (by kernel_rfl) (by kernel_rfl) HH.out ?_
  repeat (go_big_quiet_step (first | (go_at_call 72; exact C0.out _) | (go_at_call 73; exact C1.out _) | (go_at_call_of 45 (Value.int IntKind.i64 y); exact C2.out _) | (go_at_call_of 45 (Value.int IntKind.i64 z); exact C3.out _) | (go_at_call 75; exact C5.out _) | (go_at_call 74; exact C6.out _)))
  refine wpQuiet_nil ?_
  rintro _ ⟨v, rfl⟩
  have hb := v.h.bel
  go_wp2
  go_ret
  exact ⟨rfl, hb⟩
end Go.Proofs.Ytopbalemfljphaa
