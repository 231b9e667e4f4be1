/- VoteOk and VoteSame, of the program and of its model. -/
import Derived.Test.YtdoaikanaodefaaVote
import Derived.Test.YtdoaikanaodefaaLimits
namespace Go.Proofs.Ytdoaikanaodefaa
open Go.ChangeShapes Go.WideShapes Go.ChangeAt Go.RowKit
set_option linter.unusedSimpArgs false

theorem l01Num_any (n : Int) (w : World) :
    Calls Try.prog 55 #[.int .i64 n] w fun e w' => e = .returned (.bool (isNumB n)) ∧ w = w' := by
  by_cases h : 0 ≤ n ∧ n ≤ 1152921504606846975
  · rw [isNumB_yes h.1 h.2]; exact l01Num_yes n w h.1 h.2
  · rw [isNumB_no h]; exact l01Num_no n w h
theorem isNum_any (n : Int) (w : World) :
    Calls Try.prog 65 #[.int .i64 n] w fun e w' => e = .returned (.bool (isNumB n)) ∧ w = w' := by
  by_cases h : 0 ≤ n ∧ n ≤ 1152921504606846975
  · rw [isNumB_yes h.1 h.2]; exact isNum_yes n w h.1 h.2
  · rw [isNumB_no h]; exact isNum_no n w h

/-- Whether a row is a hash. -/
def hashLB (l : List UInt8) : Bool := ((l.length : Int) == 32)
theorem hashLB_len {l : List UInt8} (h : hashLB l = true) : l.length = 32 := by
  unfold hashLB at h
  have := eq_of_beq h
  omega
/-- Whether a vote is valid under limits. -/
def voteB (a b c d e x y z : Int) (l k : List UInt8) : Bool := limB a b c d e && (isNumB x && (isNumB y && (hashLB l && (isIn z a && hashLB k))))

/-- Whether two votes are the same. -/
def sameVB (x y z : Int) (l k : List UInt8) (x' y' z' : Int) (l' k' : List UInt8) : Bool := (x == x') && ((y == y') && ((l == l') && ((z == z') && (k == k'))))

set_option maxHeartbeats 1000000 in
theorem specVoteSame_any (x y z x' y' z' : Int) (u v u' v' : Value) (l k l' k' : List UInt8) (w : World) (hu : Sl w w.heap.size u l) (hv : Sl w w.heap.size v k) (hu' : Sl w w.heap.size u' l') (hv' : Sl w w.heap.size v' k') :
    Calls Try.prog 26 #[.agg #[.int .i64 x, .int .i64 y, u, .int .i64 z, v], .agg #[.int .i64 x', .int .i64 y', u', .int .i64 z', v']] w (BoolB w (sameVB x y z l k x' y' z' l' k')) := by
  obtain ⟨A, n, rfl, p1, p2, p0, p3⟩ := id hu
  obtain ⟨B, m, rfl, q1, q2, q0, q3⟩ := id hv
  clear p1 p2 p0 p3 q1 q2 q0 q3
  obtain ⟨A', n', rfl, p1, p2, p0, p3⟩ := id hu'
  obtain ⟨B', m', rfl, q1, q2, q0, q3⟩ := id hv'
  clear p1 p2 p0 p3 q1 q2 q0 q3
  unfold sameVB
  have H := ((InvF.start w).newG 59 #[.int .i64 x, .int .i64 y, .slice A l.length n, .int .i64 z, .slice B k.length m] w.heap.size).newG 59 #[.int .i64 x', .int .i64 y', .slice A' l'.length n', .int .i64 z', .slice B' k'.length m'] (w.heap.size + 1)
  have hb := Lib.hid H.bel
  have hU := Lib.hid (And.intro (hu.up H.bel) (hu'.up H.bel))
  have hV := Lib.hid (And.intro (hv.up H.bel) (hv'.up H.bel))
  clear hu hv hu' hv' H
  obtain ⟨x0, g0⟩ : ∃ x0, x0 = (x == x') := ⟨_, rfl⟩
  obtain ⟨x1, g1⟩ : ∃ x1, x1 = (y == y') := ⟨_, rfl⟩
  obtain ⟨x2, g2⟩ : ∃ x2, x2 = (l == l') := ⟨_, rfl⟩
  obtain ⟨x3, g3⟩ : ∃ x3, x3 = (z == z') := ⟨_, rfl⟩
  obtain ⟨x4, g4⟩ : ∃ x4, x4 = (k == k') := ⟨_, rfl⟩
  rw [← g0, ← g1, ← g2, ← g3, ← g4]
  have C2 : Hid (∀ W, Sl W W.heap.size (.slice A l.length n) l → Sl W W.heap.size (.slice A' l'.length n') l' → Calls Try.prog 60 #[.slice A l.length n, .slice A' l'.length n'] W fun e w' => e = .returned (.bool x2) ∧ W = w') := Lib.hid (by rw [g2]; exact fun W h h' => specSameBytes_any _ _ l l' W h h')
  have C4 : Hid (∀ W, Sl W W.heap.size (.slice B k.length m) k → Sl W W.heap.size (.slice B' k'.length m') k' → Calls Try.prog 60 #[.slice B k.length m, .slice B' k'.length m'] W fun e w' => e = .returned (.bool x4) ∧ W = w') := Lib.hid (by rw [g4]; exact fun W h h' => specSameBytes_any _ _ k k' W h h')
  clear g2 g4
  replace g0 := g0.symm; replace g1 := g1.symm; replace g3 := g3.symm
  rcases x0 with _ | _
  · go_enter Try.func26, Try.ntmps26
    go_wp2
    go_ret
    exact ⟨rfl, hb.out⟩
  rcases x1 with _ | _
  · go_enter Try.func26, Try.ntmps26
    go_wp2
    go_ret
    exact ⟨rfl, hb.out⟩
  go_enter Try.func26, Try.ntmps26
  go_wp2_with fail
  refine (C2.out _ hU.out.1 hU.out.2).mono ?_
  rintro ev w' ⟨rfl, rfl⟩
  rcases x2 with _ | _
  · go_wp2
    go_ret
    exact ⟨rfl, hb.out⟩
  rcases x3 with _ | _
  · go_wp2
    go_ret
    exact ⟨rfl, hb.out⟩
  go_wp2_with fail
  refine (C4.out _ hV.out.1 hV.out.2).mono ?_
  rintro ev w' ⟨rfl, rfl⟩
  go_wp2
  go_ret
  exact ⟨rfl, hb.out⟩

set_option maxHeartbeats 1000000 in
theorem implVoteSame_any (x y z x' y' z' : Int) (u v u' v' : Value) (l k l' k' : List UInt8) (w : World) (hu : Sl w w.heap.size u l) (hv : Sl w w.heap.size v k) (hu' : Sl w w.heap.size u' l') (hv' : Sl w w.heap.size v' k') :
    Calls Try.prog 32 #[.agg #[.int .i64 x, .int .i64 y, u, .int .i64 z, v], .agg #[.int .i64 x', .int .i64 y', u', .int .i64 z', v']] w (BoolB w (sameVB x y z l k x' y' z' l' k')) := by
  obtain ⟨A, n, rfl, p1, p2, p0, p3⟩ := id hu
  obtain ⟨B, m, rfl, q1, q2, q0, q3⟩ := id hv
  clear p1 p2 p0 p3 q1 q2 q0 q3
  obtain ⟨A', n', rfl, p1, p2, p0, p3⟩ := id hu'
  obtain ⟨B', m', rfl, q1, q2, q0, q3⟩ := id hv'
  clear p1 p2 p0 p3 q1 q2 q0 q3
  unfold sameVB
  have H := ((InvF.start w).newG 59 #[.int .i64 x, .int .i64 y, .slice A l.length n, .int .i64 z, .slice B k.length m] w.heap.size).newG 59 #[.int .i64 x', .int .i64 y', .slice A' l'.length n', .int .i64 z', .slice B' k'.length m'] (w.heap.size + 1)
  have hb := Lib.hid H.bel
  have hU := Lib.hid (And.intro (hu.up H.bel) (hu'.up H.bel))
  have hV := Lib.hid (And.intro (hv.up H.bel) (hv'.up H.bel))
  clear hu hv hu' hv' H
  obtain ⟨x0, g0⟩ : ∃ x0, x0 = (x == x') := ⟨_, rfl⟩
  obtain ⟨x1, g1⟩ : ∃ x1, x1 = (y == y') := ⟨_, rfl⟩
  obtain ⟨x2, g2⟩ : ∃ x2, x2 = (l == l') := ⟨_, rfl⟩
  obtain ⟨x3, g3⟩ : ∃ x3, x3 = (z == z') := ⟨_, rfl⟩
  obtain ⟨x4, g4⟩ : ∃ x4, x4 = (k == k') := ⟨_, rfl⟩
  rw [← g0, ← g1, ← g2, ← g3, ← g4]
  have C2 : Hid (∀ W, Sl W W.heap.size (.slice A l.length n) l → Sl W W.heap.size (.slice A' l'.length n') l' → Calls Try.prog 72 #[.slice A l.length n, .slice A' l'.length n'] W fun e w' => e = .returned (.bool x2) ∧ W = w') := Lib.hid (by rw [g2]; exact fun W h h' => implSameBytes_any _ _ l l' W h h')
  have C4 : Hid (∀ W, Sl W W.heap.size (.slice B k.length m) k → Sl W W.heap.size (.slice B' k'.length m') k' → Calls Try.prog 72 #[.slice B k.length m, .slice B' k'.length m'] W fun e w' => e = .returned (.bool x4) ∧ W = w') := Lib.hid (by rw [g4]; exact fun W h h' => implSameBytes_any _ _ k k' W h h')
  clear g2 g4
  replace g0 := g0.symm; replace g1 := g1.symm; replace g3 := g3.symm
  rcases x0 with _ | _
  · go_enter Try.func32, Try.ntmps32
    go_wp2
    go_ret
    exact ⟨rfl, hb.out⟩
  rcases x1 with _ | _
  · go_enter Try.func32, Try.ntmps32
    go_wp2
    go_ret
    exact ⟨rfl, hb.out⟩
  go_enter Try.func32, Try.ntmps32
  go_wp2_with fail
  refine (C2.out _ hU.out.1 hU.out.2).mono ?_
  rintro ev w' ⟨rfl, rfl⟩
  rcases x2 with _ | _
  · go_wp2
    go_ret
    exact ⟨rfl, hb.out⟩
  rcases x3 with _ | _
  · go_wp2
    go_ret
    exact ⟨rfl, hb.out⟩
  go_wp2_with fail
  refine (C4.out _ hV.out.1 hV.out.2).mono ?_
  rintro ev w' ⟨rfl, rfl⟩
  go_wp2
  go_ret
  exact ⟨rfl, hb.out⟩
end Go.Proofs.Ytdoaikanaodefaa
