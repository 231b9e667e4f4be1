/- VoteOk and VoteSame, of the program and of its model. -/
import Derived.Test.YtcamaeipbbdhlaaVote
import Derived.Test.YtcamaeipbbdhlaaLimits
namespace Go.Proofs.Ytcamaeipbbdhlaa
open Go.ChangeShapes Go.WideShapes Go.ChangeAt Go.RowKit
set_option linter.unusedSimpArgs false

theorem l01Num_any (n : Int) (w : World) :
    Calls Try.prog 23 #[.int .i64 n] w fun e w' => e = .returned (.bool (isNumB n)) ∧ w = w' := by
  by_cases h : 0 ≤ n ∧ n ≤ 1152921504606846975
  · rw [isNumB_yes h.1 h.2]; exact l01Num_yes n w h.1 h.2
  · rw [isNumB_no h]; exact l01Num_no n w h
theorem isNum_any (n : Int) (w : World) :
    Calls Try.prog 27 #[.int .i64 n] w fun e w' => e = .returned (.bool (isNumB n)) ∧ w = w' := by
  by_cases h : 0 ≤ n ∧ n ≤ 1152921504606846975
  · rw [isNumB_yes h.1 h.2]; exact isNum_yes n w h.1 h.2
  · rw [isNumB_no h]; exact isNum_no n w h

/-- Whether a row is a hash. -/
def hashLB (l : List UInt8) : Bool := ((l.length : Int) == 32)
theorem hashLB_len {l : List UInt8} (h : hashLB l = true) : l.length = 32 := by
  unfold hashLB at h
  have := eq_of_beq h
  omega
/-- Whether a vote is valid under limits. -/
def voteB (a b c d e x y z : Int) (l k : List UInt8) : Bool := limB a b c d e && (isNumB x && (isNumB y && (hashLB l && (isIn z a && hashLB k))))

set_option maxHeartbeats 1000000 in
theorem specVoteOk_any (a b c d e x y z : Int) (u v : Value) (l k : List UInt8) (w : World) (hu : Sl w w.heap.size u l) (hv : Sl w w.heap.size v k) :
    Calls Try.prog 7 #[.agg #[.int .i64 a, .int .i64 b, .int .i64 c, .int .i64 d, .int .i64 e], .agg #[.int .i64 x, .int .i64 y, u, .int .i64 z, v]] w (BoolB w (voteB a b c d e x y z l k)) := by
  obtain ⟨A, n, rfl, p1, p2, p0, p3⟩ := id hu
  obtain ⟨B, m, rfl, q1, q2, q0, q3⟩ := id hv
  clear p1 p2 p0 p3 q1 q2 q0 q3
  have hR : voteB a b c d e x y z l k = (limB a b c d e && (isNumB x && (isNumB y && (hashLB l && (hashLB k && isIn z a))))) := by
    unfold voteB
    rw [Bool.and_comm (isIn z a)]
  rw [hR]
  have c0 := fun W => specLimitsOk_any a b c d e W
  have c1 := fun W => l01Num_any x W
  have c2 := fun W => l01Num_any y W
  have c3 := fun W h => l07Hash_any (.slice A l.length n) l W h
  have c4 := fun W h => l07Hash_any (.slice B k.length m) k W h
  have c5 : limB a b c d e = true → Hid (∀ W, Calls Try.prog 25 #[.int .i64 z, .int .i64 0, .int .i64 (a - 1)] W fun ev w' => ev = .returned (.bool (isIn z a)) ∧ W = w') := fun h => Lib.hid fun W => by
    have he : isIn z a = decide (0 ≤ z ∧ z ≤ a - 1) := by unfold isIn; congr 1; apply propext; constructor <;> intro h <;> omega
    rw [he]
    exact l01In_any z 0 (a - 1) W
  have c6 : limB a b c d e = true → 1 ≤ a ∧ a ≤ 10 := fun h => (limB_yes h).1
  obtain ⟨x0, g0⟩ : ∃ x0, x0 = limB a b c d e := ⟨_, rfl⟩
  obtain ⟨x1, g1⟩ : ∃ x1, x1 = isNumB x := ⟨_, rfl⟩
  obtain ⟨x2, g2⟩ : ∃ x2, x2 = isNumB y := ⟨_, rfl⟩
  obtain ⟨x3, g3⟩ : ∃ x3, x3 = hashLB l := ⟨_, rfl⟩
  obtain ⟨x4, g4⟩ : ∃ x4, x4 = hashLB k := ⟨_, rfl⟩
  obtain ⟨x5, g5⟩ : ∃ x5, x5 = isIn z a := ⟨_, rfl⟩
  rw [← g0, ← g1, ← g2, ← g3, ← g4, ← g5]
  rw [← g0] at c0 c5 c6; rw [← g1] at c1; rw [← g2] at c2; rw [← g5] at c5
  have c3' : ∀ W, Sl W W.heap.size (.slice A l.length n) l → Calls Try.prog 24 #[.slice A l.length n] W (fun e w' => e = .returned (.bool x3) ∧ W = w') := by rw [g3]; exact c3
  have c4' : ∀ W, Sl W W.heap.size (.slice B k.length m) k → Calls Try.prog 24 #[.slice B k.length m] W (fun e w' => e = .returned (.bool x4) ∧ W = w') := by rw [g4]; exact c4
  have C0 := Lib.hid c0; have C1 := Lib.hid c1; have C2 := Lib.hid c2; have C3 := Lib.hid c3'; have C4 := Lib.hid c4'; have C5 := Lib.hid c5; have C6 := Lib.hid c6
  clear c0 c1 c2 c3 c4 c3' c4' c5 c6 g0 g1 g2 g3 g4 g5 hR
  have H0 := ((InvF.start w).newG 29 #[.int .i64 a, .int .i64 b, .int .i64 c, .int .i64 d, .int .i64 e] w.heap.size).newG 31 #[.int .i64 x, .int .i64 y, .slice A l.length n, .int .i64 z, .slice B k.length m] (w.heap.size + 1)
  go_enter Try.func7, Try.ntmps7
  go_wp2_with fail
  refine (C0.out _).mono ?_
  rintro ev w1 ⟨rfl, hb1⟩
  have H := H0.up hb1
  clear H0 hb1
  rcases x0 with _ | _
  · go_wp2
    go_ret
    exact ⟨rfl, H.bel⟩
  obtain ⟨o0, o1, o2, o3, o4⟩ := H.c5 (.head _)
  obtain ⟨t0, _, _, _, _⟩ := H.c5 (.tail _ (.head _))
  have hU := Lib.hid (hu.up H.bel)
  have hV := Lib.hid (hv.up H.bel)
  have ha := C6.out rfl
  have C7 := C5.out rfl
  have ha1 := ha.1
  have ha2 := ha.2
  clear hu hv ha C5 C6
  go_wp2_with fail
  refine (C1.out _).mono ?_
  rintro ev w' ⟨rfl, rfl⟩
  rcases x1 with _ | _
  · go_wp2
    go_ret
    exact ⟨rfl, H.bel⟩
  go_wp2_with fail
  refine (C2.out _).mono ?_
  rintro ev w' ⟨rfl, rfl⟩
  rcases x2 with _ | _
  · go_wp2
    go_ret
    exact ⟨rfl, H.bel⟩
  go_wp2_with fail
  refine (C3.out _ hU.out).mono ?_
  rintro ev w' ⟨rfl, rfl⟩
  rcases x3 with _ | _
  · go_wp2
    go_ret
    exact ⟨rfl, H.bel⟩
  go_wp2_with fail
  refine (C4.out _ hV.out).mono ?_
  rintro ev w' ⟨rfl, rfl⟩
  rcases x4 with _ | _
  · go_wp2
    go_ret
    exact ⟨rfl, H.bel⟩
  go_wp2_with fail
  refine (C7.out _).mono ?_
  rintro ev w' ⟨rfl, rfl⟩
  go_wp2
  go_ret
  exact ⟨rfl, H.bel⟩

set_option maxHeartbeats 1000000 in
theorem implVoteOk_any (a b c d e x y z : Int) (u v : Value) (l k : List UInt8) (w : World) (hu : Sl w w.heap.size u l) (hv : Sl w w.heap.size v k) :
    Calls Try.prog 10 #[.agg #[.int .i64 a, .int .i64 b, .int .i64 c, .int .i64 d, .int .i64 e], .agg #[.int .i64 x, .int .i64 y, u, .int .i64 z, v]] w (BoolB w (voteB a b c d e x y z l k)) := by
  obtain ⟨A, n, rfl, p1, p2, p0, p3⟩ := id hu
  obtain ⟨B, m, rfl, q1, q2, q0, q3⟩ := id hv
  clear p1 p2 p0 p3 q1 q2 q0 q3
  unfold voteB
  have c0 := fun W => implLimitsOk_any a b c d e W
  have c1 := fun W => isNum_any x W
  have c2 := fun W => isNum_any y W
  have c3 := fun W h => isHash_any (.slice A l.length n) l W h
  have c4 := fun W h => isHash_any (.slice B k.length m) k W h
  have c5 := fun W => isSigner_any z a W
  obtain ⟨x0, g0⟩ : ∃ x0, x0 = limB a b c d e := ⟨_, rfl⟩
  obtain ⟨x1, g1⟩ : ∃ x1, x1 = isNumB x := ⟨_, rfl⟩
  obtain ⟨x2, g2⟩ : ∃ x2, x2 = isNumB y := ⟨_, rfl⟩
  obtain ⟨x3, g3⟩ : ∃ x3, x3 = hashLB l := ⟨_, rfl⟩
  obtain ⟨x4, g4⟩ : ∃ x4, x4 = hashLB k := ⟨_, rfl⟩
  obtain ⟨x5, g5⟩ : ∃ x5, x5 = isIn z a := ⟨_, rfl⟩
  rw [← g0, ← g1, ← g2, ← g3, ← g4, ← g5]
  rw [← g0] at c0; rw [← g1] at c1; rw [← g2] at c2; rw [← g5] at c5
  have c3' : ∀ W, Sl W W.heap.size (.slice A l.length n) l → Calls Try.prog 28 #[.slice A l.length n] W (fun e w' => e = .returned (.bool x3) ∧ W = w') := by rw [g3]; exact c3
  have c4' : ∀ W, Sl W W.heap.size (.slice B k.length m) k → Calls Try.prog 28 #[.slice B k.length m] W (fun e w' => e = .returned (.bool x4) ∧ W = w') := by rw [g4]; exact c4
  have C0 := Lib.hid c0; have C1 := Lib.hid c1; have C2 := Lib.hid c2; have C3 := Lib.hid c3'; have C4 := Lib.hid c4'; have C5 := Lib.hid c5
  clear c0 c1 c2 c3 c4 c3' c4' c5 g0 g1 g2 g3 g4 g5
  have H0 := ((InvF.start w).newG 29 #[.int .i64 a, .int .i64 b, .int .i64 c, .int .i64 d, .int .i64 e] w.heap.size).newG 31 #[.int .i64 x, .int .i64 y, .slice A l.length n, .int .i64 z, .slice B k.length m] (w.heap.size + 1)
  go_enter Try.func10, Try.ntmps10
  go_wp2_with fail
  refine (C0.out _).mono ?_
  rintro ev w1 ⟨rfl, hb1⟩
  have H := H0.up hb1
  clear H0 hb1
  rcases x0 with _ | _
  · go_wp2
    go_ret
    exact ⟨rfl, H.bel⟩
  obtain ⟨o0, o1, o2, o3, o4⟩ := H.c5 (.head _)
  obtain ⟨t0, _, _, _, _⟩ := H.c5 (.tail _ (.head _))
  have hU := Lib.hid (hu.up H.bel)
  have hV := Lib.hid (hv.up H.bel)
  clear hu hv
  go_wp2_with fail
  refine (C1.out _).mono ?_
  rintro ev w' ⟨rfl, rfl⟩
  rcases x1 with _ | _
  · go_wp2
    go_ret
    exact ⟨rfl, H.bel⟩
  go_wp2_with fail
  refine (C2.out _).mono ?_
  rintro ev w' ⟨rfl, rfl⟩
  rcases x2 with _ | _
  · go_wp2
    go_ret
    exact ⟨rfl, H.bel⟩
  go_wp2_with fail
  refine (C3.out _ hU.out).mono ?_
  rintro ev w' ⟨rfl, rfl⟩
  rcases x3 with _ | _
  · go_wp2
    go_ret
    exact ⟨rfl, H.bel⟩
  go_wp2_with fail
  refine (C5.out _).mono ?_
  rintro ev w' ⟨rfl, rfl⟩
  rcases x5 with _ | _
  · go_wp2
    go_ret
    exact ⟨rfl, H.bel⟩
  go_wp2_with fail
  refine (C4.out _ hV.out).mono ?_
  rintro ev w' ⟨rfl, rfl⟩
  go_wp2
  go_ret
  exact ⟨rfl, H.bel⟩

/-- Whether two votes are the same. -/
def sameVB (x y z : Int) (l k : List UInt8) (x' y' z' : Int) (l' k' : List UInt8) : Bool := (x == x') && ((y == y') && ((l == l') && ((z == z') && (k == k'))))

set_option maxHeartbeats 1000000 in
theorem specVoteSame_any (x y z x' y' z' : Int) (u v u' v' : Value) (l k l' k' : List UInt8) (w : World) (hu : Sl w w.heap.size u l) (hv : Sl w w.heap.size v k) (hu' : Sl w w.heap.size u' l') (hv' : Sl w w.heap.size v' k') :
    Calls Try.prog 12 #[.agg #[.int .i64 x, .int .i64 y, u, .int .i64 z, v], .agg #[.int .i64 x', .int .i64 y', u', .int .i64 z', v']] w (BoolB w (sameVB x y z l k x' y' z' l' k')) := by
  obtain ⟨A, n, rfl, p1, p2, p0, p3⟩ := id hu
  obtain ⟨B, m, rfl, q1, q2, q0, q3⟩ := id hv
  clear p1 p2 p0 p3 q1 q2 q0 q3
  obtain ⟨A', n', rfl, p1, p2, p0, p3⟩ := id hu'
  obtain ⟨B', m', rfl, q1, q2, q0, q3⟩ := id hv'
  clear p1 p2 p0 p3 q1 q2 q0 q3
  unfold sameVB
  have H := ((InvF.start w).newG 31 #[.int .i64 x, .int .i64 y, .slice A l.length n, .int .i64 z, .slice B k.length m] w.heap.size).newG 31 #[.int .i64 x', .int .i64 y', .slice A' l'.length n', .int .i64 z', .slice B' k'.length m'] (w.heap.size + 1)
  have hb := Lib.hid H.bel
  have hU := Lib.hid (And.intro (hu.up H.bel) (hu'.up H.bel))
  have hV := Lib.hid (And.intro (hv.up H.bel) (hv'.up H.bel))
  clear hu hv hu' hv' H
  obtain ⟨x0, g0⟩ : ∃ x0, x0 = (x == x') := ⟨_, rfl⟩
  obtain ⟨x1, g1⟩ : ∃ x1, x1 = (y == y') := ⟨_, rfl⟩
  obtain ⟨x2, g2⟩ : ∃ x2, x2 = (l == l') := ⟨_, rfl⟩
  obtain ⟨x3, g3⟩ : ∃ x3, x3 = (z == z') := ⟨_, rfl⟩
  obtain ⟨x4, g4⟩ : ∃ x4, x4 = (k == k') := ⟨_, rfl⟩
  rw [← g0, ← g1, ← g2, ← g3, ← g4]
  have C2 : Hid (∀ W, Sl W W.heap.size (.slice A l.length n) l → Sl W W.heap.size (.slice A' l'.length n') l' → Calls Try.prog 30 #[.slice A l.length n, .slice A' l'.length n'] W fun e w' => e = .returned (.bool x2) ∧ W = w') := Lib.hid (by rw [g2]; exact fun W h h' => specSameBytes_any _ _ l l' W h h')
  have C4 : Hid (∀ W, Sl W W.heap.size (.slice B k.length m) k → Sl W W.heap.size (.slice B' k'.length m') k' → Calls Try.prog 30 #[.slice B k.length m, .slice B' k'.length m'] W fun e w' => e = .returned (.bool x4) ∧ W = w') := Lib.hid (by rw [g4]; exact fun W h h' => specSameBytes_any _ _ k k' W h h')
  clear g2 g4
  replace g0 := g0.symm; replace g1 := g1.symm; replace g3 := g3.symm
  rcases x0 with _ | _
  · go_enter Try.func12, Try.ntmps12
    go_wp2
    go_ret
    exact ⟨rfl, hb.out⟩
  rcases x1 with _ | _
  · go_enter Try.func12, Try.ntmps12
    go_wp2
    go_ret
    exact ⟨rfl, hb.out⟩
  go_enter Try.func12, Try.ntmps12
  go_wp2_with fail
  refine (C2.out _ hU.out.1 hU.out.2).mono ?_
  rintro ev w' ⟨rfl, rfl⟩
  rcases x2 with _ | _
  · go_wp2
    go_ret
    exact ⟨rfl, hb.out⟩
  rcases x3 with _ | _
  · go_wp2
    go_ret
    exact ⟨rfl, hb.out⟩
  go_wp2_with fail
  refine (C4.out _ hV.out.1 hV.out.2).mono ?_
  rintro ev w' ⟨rfl, rfl⟩
  go_wp2
  go_ret
  exact ⟨rfl, hb.out⟩

set_option maxHeartbeats 1000000 in
theorem implVoteSame_any (x y z x' y' z' : Int) (u v u' v' : Value) (l k l' k' : List UInt8) (w : World) (hu : Sl w w.heap.size u l) (hv : Sl w w.heap.size v k) (hu' : Sl w w.heap.size u' l') (hv' : Sl w w.heap.size v' k') :
    Calls Try.prog 13 #[.agg #[.int .i64 x, .int .i64 y, u, .int .i64 z, v], .agg #[.int .i64 x', .int .i64 y', u', .int .i64 z', v']] w (BoolB w (sameVB x y z l k x' y' z' l' k')) := by
  obtain ⟨A, n, rfl, p1, p2, p0, p3⟩ := id hu
  obtain ⟨B, m, rfl, q1, q2, q0, q3⟩ := id hv
  clear p1 p2 p0 p3 q1 q2 q0 q3
  obtain ⟨A', n', rfl, p1, p2, p0, p3⟩ := id hu'
  obtain ⟨B', m', rfl, q1, q2, q0, q3⟩ := id hv'
  clear p1 p2 p0 p3 q1 q2 q0 q3
  unfold sameVB
  have H := ((InvF.start w).newG 31 #[.int .i64 x, .int .i64 y, .slice A l.length n, .int .i64 z, .slice B k.length m] w.heap.size).newG 31 #[.int .i64 x', .int .i64 y', .slice A' l'.length n', .int .i64 z', .slice B' k'.length m'] (w.heap.size + 1)
  have hb := Lib.hid H.bel
  have hU := Lib.hid (And.intro (hu.up H.bel) (hu'.up H.bel))
  have hV := Lib.hid (And.intro (hv.up H.bel) (hv'.up H.bel))
  clear hu hv hu' hv' H
  obtain ⟨x0, g0⟩ : ∃ x0, x0 = (x == x') := ⟨_, rfl⟩
  obtain ⟨x1, g1⟩ : ∃ x1, x1 = (y == y') := ⟨_, rfl⟩
  obtain ⟨x2, g2⟩ : ∃ x2, x2 = (l == l') := ⟨_, rfl⟩
  obtain ⟨x3, g3⟩ : ∃ x3, x3 = (z == z') := ⟨_, rfl⟩
  obtain ⟨x4, g4⟩ : ∃ x4, x4 = (k == k') := ⟨_, rfl⟩
  rw [← g0, ← g1, ← g2, ← g3, ← g4]
  have C2 : Hid (∀ W, Sl W W.heap.size (.slice A l.length n) l → Sl W W.heap.size (.slice A' l'.length n') l' → Calls Try.prog 31 #[.slice A l.length n, .slice A' l'.length n'] W fun e w' => e = .returned (.bool x2) ∧ W = w') := Lib.hid (by rw [g2]; exact fun W h h' => implSameBytes_any _ _ l l' W h h')
  have C4 : Hid (∀ W, Sl W W.heap.size (.slice B k.length m) k → Sl W W.heap.size (.slice B' k'.length m') k' → Calls Try.prog 31 #[.slice B k.length m, .slice B' k'.length m'] W fun e w' => e = .returned (.bool x4) ∧ W = w') := Lib.hid (by rw [g4]; exact fun W h h' => implSameBytes_any _ _ k k' W h h')
  clear g2 g4
  replace g0 := g0.symm; replace g1 := g1.symm; replace g3 := g3.symm
  rcases x0 with _ | _
  · go_enter Try.func13, Try.ntmps13
    go_wp2
    go_ret
    exact ⟨rfl, hb.out⟩
  rcases x1 with _ | _
  · go_enter Try.func13, Try.ntmps13
    go_wp2
    go_ret
    exact ⟨rfl, hb.out⟩
  go_enter Try.func13, Try.ntmps13
  go_wp2_with fail
  refine (C2.out _ hU.out.1 hU.out.2).mono ?_
  rintro ev w' ⟨rfl, rfl⟩
  rcases x2 with _ | _
  · go_wp2
    go_ret
    exact ⟨rfl, hb.out⟩
  rcases x3 with _ | _
  · go_wp2
    go_ret
    exact ⟨rfl, hb.out⟩
  go_wp2_with fail
  refine (C4.out _ hV.out.1 hV.out.2).mono ?_
  rintro ev w' ⟨rfl, rfl⟩
  go_wp2
  go_ret
  exact ⟨rfl, hb.out⟩
end Go.Proofs.Ytcamaeipbbdhlaa
