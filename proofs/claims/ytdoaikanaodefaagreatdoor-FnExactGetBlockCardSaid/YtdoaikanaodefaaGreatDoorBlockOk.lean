import Derived.Test.YtdoaikanaodefaaGreatDoorPut
import Derived.Test.YtdoaikanaodefaaGreatDoorMem
import Derived.Deep.RegionWith
import Derived.Test.YtdoaikanaodefaaGreatDoorBox
import Derived.Test.YtdoaikanaodefaaGreatDoorStackBase
import Derived.Test.YtdoaikanaodefaaGreatDoorLimits
import Derived.Test.YtdoaikanaodefaaGreatDoorQc
import Derived.Test.YtdoaikanaodefaaGreatDoorOk
import Derived.Test.YtdoaikanaodefaaGreatDoorWat
import Derived.Test.YtdoaikanaodefaaGreatDoorFits
import Derived.Test.YtdoaikanaodefaaGreatDoorBox11
import Derived.Test.YtdoaikanaodefaaGreatDoorTree
import Derived.Deep.RegionHeld3
/- Rows that are all hashes: l08Hashes of the model, areHashes of the program. -/
namespace Go.Proofs.YtdoaikanaodefaaGreatDoor
open Go.ChangeShapes Go.WideShapes Go.ChangeAt Go.RowKit

/-- Are all rows hashes? -/
def all32 (P : List (List UInt8)) : Bool := P.all fun r => (r.length : Int) == 32
theorem all32_at {P : List (List UInt8)} (h : all32 P = true) : ∀ r ∈ P, r.length = 32 := by
  intro r hr
  have := List.all_eq_true.1 h r hr
  simp at this
  omega
theorem all32_of {P : List (List UInt8)} (h : ∀ r ∈ P, r.length = 32) : all32 P = true := List.all_eq_true.2 fun r hr => by rw [h r hr]; rfl
theorem all32_no {P : List (List UInt8)} {k : Nat} (hk : k < P.length) (h : (P.getD k []).length ≠ 32) : all32 P = false := by
  rcases hb : all32 P with _ | _
  · rfl
  · exact absurd (all32_at hb _ (by simp [List.getD_eq_getElem?_getD, List.getElem?_eq_getElem hk])) h
theorem all32_yes {P : List (List UInt8)} (h : ∀ k, k < P.length → (P.getD k []).length = 32) : all32 P = true := all32_of fun r hr => by
  obtain ⟨k, hk, rfl⟩ := List.mem_iff_getElem.1 hr
  have := h k hk
  simpa [List.getD_eq_getElem?_getD, List.getElem?_eq_getElem hk] using this

set_option maxHeartbeats 1000000 in
theorem l08Hashes_any (v : Value) (P : List (List UInt8)) (w : World) (h : SlS w w.heap.size v P) :
    Calls Tryz.prog 131 #[v] w (fun e w' => e = .returned (.bool (all32 P)) ∧ w = w') := by
  obtain ⟨A, c, rfl, h1, h2, h0, h3⟩ := h
  unfold maxLen at h2
  clear h0
  obtain ⟨R, hR⟩ : ∃ R, R = all32 P := ⟨_, rfl⟩
  rw [← hR]
  have HR := Lib.hid hR
  clear hR
  go_enter Tryz.func131, Tryz.ntmps131
  go_wp2
  go_loopw [7] (fun i wr => ∃ k : Nat, k ≤ P.length ∧ i = .int .i64 k ∧ Hid (∀ j, j < k → (P.getD j []).length = 32) ∧ w = wr)
    (fun i _ => P.length - (intOf i).toNat)
  case atStart => exact ⟨0, Nat.zero_le _, rfl, Lib.hid (fun j hj => by omega), rfl⟩
  case round =>
    obtain ⟨k, hk, rfl, hok, rfl⟩ := hrel
    by_cases hlt : k < P.length
    · obtain ⟨b, off, rfl, hbb, hcell⟩ := h3 (by omega)
      obtain ⟨u, hu, hsl⟩ := hcell k hlt
      have hklt : (k : Int) < (P.length : Int) := by omega
      have HBad : Hid ((P.getD k []).length ≠ 32 → R = false) := Lib.hid fun e => HR.out.trans (all32_no hlt e)
      have HGood : Hid ((P.getD k []).length = 32 → ∀ j, j < k + 1 → (P.getD j []).length = 32) := Lib.hid fun e j hj => by
        rcases Nat.lt_or_ge j k with h | h
        · exact hok.out j h
        · obtain rfl : j = k := by omega
          exact e
      generalize P.getD k [] = l at hsl HBad HGood
      clear hcell hok
      by_cases hlh : l.length = 32
      case neg =>
        obtain rfl := HBad.out hlh
        have hlh2 := hash_no hlh
        clear hlh
        go_wp2_with (go_at_call 99; refine (l07Hash_any u l _ hsl).mono ?_; rw [hlh2]; rintro e w' ⟨rfl, rfl⟩)
        go_ret
        exact ⟨rfl, rfl⟩
      case pos =>
        have hlh2 := hash_yes hlh
        have HG := Lib.hid (HGood.out hlh)
        clear hlh
        go_wp2_with (go_at_call 99; refine (l07Hash_any u l _ hsl).mono ?_; rw [hlh2]; rintro e w' ⟨rfl, rfl⟩)
        go_roundw
        case rel => exact ⟨k + 1, by omega, by go_num, HG, trivial⟩
        case measure => simp [intOf]; omega
    · obtain rfl : k = P.length := by omega
      obtain rfl : R = true := HR.out.trans (all32_yes hok.out)
      go_wp2
      go_ret
      exact ⟨rfl, rfl⟩

/-- Are they so many, and hashes all of them? -/
def hashesB (P : List (List UInt8)) (z : Int) : Bool := decide ((P.length : Int) = z ∧ all32 P = true)
theorem hashesB_yes {P : List (List UInt8)} {z : Int} (e : (P.length : Int) = z ∧ all32 P = true) : hashesB P z = true := decide_eq_true e
theorem hashesB_no {P : List (List UInt8)} {z : Int} (e : ¬ ((P.length : Int) = z ∧ all32 P = true)) : hashesB P z = false := decide_eq_false e

set_option maxHeartbeats 2000000 in
theorem areHashes_any (v : Value) (P : List (List UInt8)) (z : Int) (w : World) (h : SlS w w.heap.size v P) :
    Calls Tryz.prog 133 #[v, .int .i64 z] w (fun e w' => e = .returned (.bool (hashesB P z)) ∧ w = w') := by
  obtain ⟨A, c, rfl, h1, h2, h0, h3⟩ := h
  unfold maxLen at h2
  clear h0
  by_cases hl : (P.length : Int) = z
  case neg =>
    rw [hashesB_no (fun e => hl e.1)]
    have hne : ((P.length : Int) != z) = true := by rw [bne_iff_ne]; exact hl
    clear hl h3
    go_enter Tryz.func133, Tryz.ntmps133
    go_wp2
    go_ret
    exact ⟨rfl, rfl⟩
  case pos =>
    have hne : ((P.length : Int) != z) = false := by rw [hl]; simp
    obtain ⟨R, hR⟩ : ∃ R, R = all32 P := ⟨_, rfl⟩
    have hres : hashesB P z = R := by
      cases ha : all32 P with
      | false => rw [hR, ha]; exact hashesB_no (fun e => by rw [ha] at e; exact absurd e.2 (by decide))
      | true => rw [hR, ha]; exact hashesB_yes ⟨hl, ha⟩
    rw [hres]
    have HR := Lib.hid hR
    clear hl hres hR
    go_enter Tryz.func133, Tryz.ntmps133
    go_wp2
    go_loopw [13] (fun j wr => ∃ k : Nat, k ≤ P.length ∧ j = .int .i64 k ∧ Hid (∀ j, j < k → (P.getD j []).length = 32) ∧ w = wr)
      (fun i _ => P.length - (intOf i).toNat)
    case atStart => exact ⟨0, Nat.zero_le _, rfl, Lib.hid (fun j hj => by omega), rfl⟩
    case round =>
      obtain ⟨k, hk, rfl, hok, rfl⟩ := hrel
      by_cases hlt : k < P.length
      · obtain ⟨b, off, rfl, hbb, hcell⟩ := h3 (by omega)
        obtain ⟨u, hu, hsl⟩ := hcell k hlt
        have hklt : (k : Int) < (P.length : Int) := by omega
        have HBad : Hid ((P.getD k []).length ≠ 32 → R = false) := Lib.hid fun e => HR.out.trans (all32_no hlt e)
        have HGood : Hid ((P.getD k []).length = 32 → ∀ j, j < k + 1 → (P.getD j []).length = 32) := Lib.hid fun e j hj => by
          rcases Nat.lt_or_ge j k with h | h
          · exact hok.out j h
          · obtain rfl : j = k := by omega
            exact e
        generalize P.getD k [] = l at hsl HBad HGood
        clear hcell hok
        by_cases hlh : l.length = 32
        case neg =>
          obtain rfl := HBad.out hlh
          have hlh2 := hash_no hlh
          clear hlh
          go_wp2_with (go_at_call 104; refine (isHash_any u l _ hsl).mono ?_; rw [hlh2]; rintro e w' ⟨rfl, rfl⟩)
          go_ret
          exact ⟨rfl, rfl⟩
        case pos =>
          have hlh2 := hash_yes hlh
          have HG := Lib.hid (HGood.out hlh)
          clear hlh
          go_wp2_with (go_at_call 104; refine (isHash_any u l _ hsl).mono ?_; rw [hlh2]; rintro e w' ⟨rfl, rfl⟩)
          go_roundw
          case rel => exact ⟨k + 1, by omega, by go_num, HG, trivial⟩
          case measure => simp [intOf]; omega
      · obtain rfl : k = P.length := by omega
        obtain rfl : R = true := HR.out.trans (all32_yes hok.out)
        go_wp2
        go_ret
        exact ⟨rfl, rfl⟩

end Go.Proofs.YtdoaikanaodefaaGreatDoor
/- The contracts of TreeSame, as the program has it (slices.EqualFunc) and as its model has it. -/
namespace Go.Proofs.YtdoaikanaodefaaGreatDoor
open Go.ChangeShapes Go.WideShapes Go.ChangeAt Go.RowKit

theorem same_len {L M : List (List UInt8)} (h : L.length ≠ M.length) : (L == M) = false := by
  rw [beq_eq_false_iff_ne]
  exact fun e => h (by rw [e])
theorem same_mis {L M : List (List UInt8)} {k : Nat} (h : (L.getD k [] == M.getD k []) = false) : (L == M) = false := by
  rw [beq_eq_false_iff_ne] at h ⊢
  exact fun e => h (by rw [e])
theorem same_end {L M : List (List UInt8)} (hl : L.length = M.length) (h : ∀ j, j < L.length → L.getD j [] = M.getD j []) : (L == M) = true := by
  rw [beq_iff_eq]
  refine List.ext_getElem hl fun j h1 h2 => ?_
  have := h j h1
  rw [List.getD_eq_getElem?_getD, List.getD_eq_getElem?_getD, List.getElem?_eq_getElem h1, List.getElem?_eq_getElem h2] at this
  simpa using this

end Go.Proofs.YtdoaikanaodefaaGreatDoor
/- Votes: the contracts of the helpers of exact laws on votes: szVote, toVote, eqVote, markVote, heldVote. -/
namespace Go.Proofs.YtdoaikanaodefaaGreatDoor
open Go.ChangeShapes Go.WideShapes Go.ChangeAt Go.RowKit

/-- What szVote leaves of m. -/
def szVZ (l k : List UInt8) (m : Int) : Int := if m < (l.length : Int) + (k.length : Int) then -1 else m - ((l.length : Int) + (k.length : Int))
theorem szVZ_big {l k : List UInt8} {m : Int} (h : m < (l.length : Int) + (k.length : Int)) : szVZ l k m = -1 := if_pos h
theorem szVZ_ok {l k : List UInt8} {m : Int} (h : ¬ m < (l.length : Int) + (k.length : Int)) : szVZ l k m = m - ((l.length : Int) + (k.length : Int)) := if_neg h
/-- The call returns a vote of new rows; nothing that was there has turned. -/
def FreshV (w : World) (x y z : Int) (l k : List UInt8) (e : Ending) (w' : World) : Prop :=
  ∃ a b, e = .returned (.agg #[.int .i64 x, .int .i64 y, a, .int .i64 z, b]) ∧ InvF w w' [segB 5 a l, segB 5 b k]
theorem InvF.openB {W w : World} {ss : List (List Row)} {v : Value} {l : List UInt8} (H : InvF W w ss) (h : segB 5 v l ∈ ss) : ∃ A c, v = .slice A l.length c := by
  obtain ⟨A, c, rfl, _⟩ := H.slB 5 h
  exact ⟨A, c, rfl⟩

end Go.Proofs.YtdoaikanaodefaaGreatDoor
/- VoteOk and VoteSame, of the program and of its model. -/
namespace Go.Proofs.YtdoaikanaodefaaGreatDoor
open Go.ChangeShapes Go.WideShapes Go.ChangeAt Go.RowKit
set_option linter.unusedSimpArgs false

theorem l01Num_any (n : Int) (w : World) :
    Calls Tryz.prog 98 #[.int .i64 n] w fun e w' => e = .returned (.bool (isNumB n)) ∧ w = w' := by
  by_cases h : 0 ≤ n ∧ n ≤ 1152921504606846975
  · rw [isNumB_yes h.1 h.2]; exact l01Num_yes n w h.1 h.2
  · rw [isNumB_no h]; exact l01Num_no n w h
theorem isNum_any (n : Int) (w : World) :
    Calls Tryz.prog 102 #[.int .i64 n] w fun e w' => e = .returned (.bool (isNumB n)) ∧ w = w' := by
  by_cases h : 0 ≤ n ∧ n ≤ 1152921504606846975
  · rw [isNumB_yes h.1 h.2]; exact isNum_yes n w h.1 h.2
  · rw [isNumB_no h]; exact isNum_no n w h

/-- Whether a row is a hash. -/
def hashLB (l : List UInt8) : Bool := ((l.length : Int) == 32)
theorem hashLB_len {l : List UInt8} (h : hashLB l = true) : l.length = 32 := by
  unfold hashLB at h
  have := eq_of_beq h
  omega
/-- Whether a vote is valid under limits. -/
def voteB (a b c d e x y z : Int) (l k : List UInt8) : Bool := limB a b c d e && (isNumB x && (isNumB y && (hashLB l && (isIn z a && hashLB k))))

/-- Whether two votes are the same. -/
def sameVB (x y z : Int) (l k : List UInt8) (x' y' z' : Int) (l' k' : List UInt8) : Bool := (x == x') && ((y == y') && ((l == l') && ((z == z') && (k == k'))))

end Go.Proofs.YtdoaikanaodefaaGreatDoor
/- QcOk and QcSame, of the program and of its model. -/
namespace Go.Proofs.YtdoaikanaodefaaGreatDoor
open Go.ChangeShapes Go.WideShapes Go.ChangeAt Go.RowKit
set_option linter.unusedSimpArgs false

/-- Whether a certificate is valid under limits. -/
def qcB (a b c d e x y : Int) (l k : List UInt8) (L : List (List UInt8)) : Bool := limB a b c d e && (isNumB x && (isNumB y && (hashLB l && (okB k a && hashesB L (cntB k)))))
theorem hashesB_and (L : List (List UInt8)) (z : Int) : hashesB L z = (((L.length : Int) == z) && all32 L) := by
  unfold hashesB
  by_cases h : (L.length : Int) = z
  · rw [beq_iff_eq.2 h]
    cases ha : all32 L <;> simp [h]
  · rw [beq_eq_false_iff_ne.2 h]
    simp [h]
theorem hashesB_tag {L : List (List UInt8)} {z : Int} (h : hashesB L z = true) : (L.length : Int) = z ∧ all32 L = true := of_decide_eq_true h

set_option maxHeartbeats 4000000 in
theorem specQcOk_any (a b c d e x y : Int) (u v s : Value) (l k : List UInt8) (L : List (List UInt8)) (w : World) (hu : Sl w w.heap.size u l) (hv : Sl w w.heap.size v k) (hs : SlS w w.heap.size s L) (hk : k.length ≤ 4294967296) :
    Calls Tryz.prog 100 #[.agg #[.int .i64 a, .int .i64 b, .int .i64 c, .int .i64 d, .int .i64 e], .agg #[.int .i64 x, .int .i64 y, u, v, s]] w (BoolB w (qcB a b c d e x y l k L)) := by
  obtain ⟨A, n, rfl, p1, p2, p0, p3⟩ := id hu
  obtain ⟨B, m, rfl, q1, q2, q0, q3⟩ := id hv
  obtain ⟨C, f, rfl, r1, r2, r0, r3⟩ := id hs
  clear p1 p2 p0 p3 q1 q2 q0 q3 r1 r2 r0 r3
  have hR : qcB a b c d e x y l k L = (limB a b c d e && (isNumB x && (isNumB y && (hashLB l && (okB k a && (((L.length : Int) == cntB k) && all32 L)))))) := by
    unfold qcB
    rw [hashesB_and]
  rw [hR]
  obtain ⟨ss, hss⟩ : ∃ ss, ss = [segX 38 (w.heap.size + 1) [.int .i64 x, .int .i64 y, .slice A l.length n, .slice B k.length m, .slice C L.length f], segX 35 w.heap.size [.int .i64 a, .int .i64 b, .int .i64 c, .int .i64 d, .int .i64 e]] := ⟨_, rfl⟩
  have H0 := ((InvF.start w).newG 35 #[.int .i64 a, .int .i64 b, .int .i64 c, .int .i64 d, .int .i64 e] w.heap.size).newG 38 #[.int .i64 x, .int .i64 y, .slice A l.length n, .slice B k.length m, .slice C L.length f] (w.heap.size + 1)
  have H1 : InvF w ((w.alloc (.cells #[.int .i64 a, .int .i64 b, .int .i64 c, .int .i64 d, .int .i64 e] 35)).alloc (.cells #[.int .i64 x, .int .i64 y, .slice A l.length n, .slice B k.length m, .slice C L.length f] 38)) ss := by rw [hss]; exact H0
  have o0 := fun z : WF w ss => z.h.atX (T := 38) (g := w.heap.size + 1) (xs := [.int .i64 x, .int .i64 y, .slice A l.length n, .slice B k.length m, .slice C L.length f]) (by rw [hss]; exact .head _) 0 rfl
  have t0 := fun z : WF w ss => z.h.atX (T := 35) (g := w.heap.size) (xs := [.int .i64 a, .int .i64 b, .int .i64 c, .int .i64 d, .int .i64 e]) (by rw [hss]; exact .tail _ (.head _)) 0 rfl
  have o1 := fun z : WF w ss => z.h.atX (T := 38) (g := w.heap.size + 1) (xs := [.int .i64 x, .int .i64 y, .slice A l.length n, .slice B k.length m, .slice C L.length f]) (by rw [hss]; exact .head _) 1 rfl
  have t1 := fun z : WF w ss => z.h.atX (T := 35) (g := w.heap.size) (xs := [.int .i64 a, .int .i64 b, .int .i64 c, .int .i64 d, .int .i64 e]) (by rw [hss]; exact .tail _ (.head _)) 1 rfl
  have o2 := fun z : WF w ss => z.h.atX (T := 38) (g := w.heap.size + 1) (xs := [.int .i64 x, .int .i64 y, .slice A l.length n, .slice B k.length m, .slice C L.length f]) (by rw [hss]; exact .head _) 2 rfl
  have t2 := fun z : WF w ss => z.h.atX (T := 35) (g := w.heap.size) (xs := [.int .i64 a, .int .i64 b, .int .i64 c, .int .i64 d, .int .i64 e]) (by rw [hss]; exact .tail _ (.head _)) 2 rfl
  have o3 := fun z : WF w ss => z.h.atX (T := 38) (g := w.heap.size + 1) (xs := [.int .i64 x, .int .i64 y, .slice A l.length n, .slice B k.length m, .slice C L.length f]) (by rw [hss]; exact .head _) 3 rfl
  have t3 := fun z : WF w ss => z.h.atX (T := 35) (g := w.heap.size) (xs := [.int .i64 a, .int .i64 b, .int .i64 c, .int .i64 d, .int .i64 e]) (by rw [hss]; exact .tail _ (.head _)) 3 rfl
  have o4 := fun z : WF w ss => z.h.atX (T := 38) (g := w.heap.size + 1) (xs := [.int .i64 x, .int .i64 y, .slice A l.length n, .slice B k.length m, .slice C L.length f]) (by rw [hss]; exact .head _) 4 rfl
  have t4 := fun z : WF w ss => z.h.atX (T := 35) (g := w.heap.size) (xs := [.int .i64 a, .int .i64 b, .int .i64 c, .int .i64 d, .int .i64 e]) (by rw [hss]; exact .tail _ (.head _)) 4 rfl
  have c0 := fun z : WF w ss => z.below (specLimitsOk_any a b c d e z.w)
  have c1 := fun z : WF w ss => z.same (l01Num_any x z.w)
  have c2 := fun z : WF w ss => z.same (l01Num_any y z.w)
  have c3 := fun z : WF w ss => z.same (l07Hash_any (.slice A l.length n) l z.w (hu.up z.h.bel))
  have c4 := fun z : WF w ss => z.below (specBitsOk_any (.slice B k.length m) k a z.w (hv.up z.h.bel) hk)
  have c5 := fun z : WF w ss => z.below (specBitsCount_any (.slice B k.length m) k z.w (hv.up z.h.bel) hk)
  have c6 := fun z : WF w ss => z.same (l08Hashes_any (.slice C L.length f) L z.w (hs.up z.h.bel))
  have hH : (((l.length : Int) == 32) : Bool) = hashLB l := rfl
  simp only [hH] at c3
  obtain ⟨x0, g0⟩ : ∃ x0, x0 = limB a b c d e := ⟨_, rfl⟩
  obtain ⟨x1, g1⟩ : ∃ x1, x1 = isNumB x := ⟨_, rfl⟩
  obtain ⟨x2, g2⟩ : ∃ x2, x2 = isNumB y := ⟨_, rfl⟩
  obtain ⟨x3, g3⟩ : ∃ x3, x3 = hashLB l := ⟨_, rfl⟩
  obtain ⟨x4, g4⟩ : ∃ x4, x4 = okB k a := ⟨_, rfl⟩
  obtain ⟨z5, g5⟩ : ∃ z5, z5 = cntB k := ⟨_, rfl⟩
  obtain ⟨x6, g6⟩ : ∃ x6, x6 = all32 L := ⟨_, rfl⟩
  rw [← g0, ← g1, ← g2, ← g3, ← g4, ← g5, ← g6]
  rw [← g0] at c0; rw [← g1] at c1; rw [← g2] at c2; rw [← g3] at c3; rw [← g4] at c4; rw [← g6] at c6; rw [← g5] at c5
  obtain ⟨x5, g7⟩ : ∃ x5, x5 = ((L.length : Int) == z5) := ⟨_, rfl⟩
  rw [← g7]
  replace g7 := g7.symm
  have C0 := Lib.hid c0; have C1 := Lib.hid c1; have C2 := Lib.hid c2; have C3 := Lib.hid c3; have C4 := Lib.hid c4; have C5 := Lib.hid c5; have C6 := Lib.hid c6
  have HH := Lib.hid H1
  have hne : Nonempty (WF w ss) := ⟨⟨_, H1⟩⟩
  clear c0 c1 c2 c3 c4 c5 c6 g0 g1 g2 g3 g4 g5 g6 hH hss H0 H1 hu hv hs hR
  rcases x0 with _ | _
  · simp only [Bool.false_and, Bool.true_and, Bool.and_false]
    go_enter Tryz.func100, Tryz.ntmps100
    go_wp2_with fail
    refine wp_region_wf (by kernel_rfl) (by kernel_rfl) HH.out ?_
    repeat (go_big_quiet_step (first
      | (go_at_call 70; exact C0.out _)
      | (go_at_call_of 98 (Value.int IntKind.i64 x); exact C1.out _)
      | (go_at_call_of 98 (Value.int IntKind.i64 y); exact C2.out _)
      | (go_at_call 99; exact C3.out _)
      | (go_at_call 129; exact C4.out _)
      | (go_at_call 130; exact C5.out _)
      | (go_at_call 131; exact C6.out _)))
    refine wpQuiet_nil ?_
    rintro _ ⟨z, rfl⟩
    have hb := z.h.bel
    go_wp2
    go_ret
    exact ⟨rfl, hb⟩
  rcases x1 with _ | _
  · simp only [Bool.false_and, Bool.true_and, Bool.and_false]
    go_enter Tryz.func100, Tryz.ntmps100
    go_wp2_with fail
    refine wp_region_wf (by kernel_rfl) (by kernel_rfl) HH.out ?_
    repeat (go_big_quiet_step (first
      | (go_at_call 70; exact C0.out _)
      | (go_at_call_of 98 (Value.int IntKind.i64 x); exact C1.out _)
      | (go_at_call_of 98 (Value.int IntKind.i64 y); exact C2.out _)
      | (go_at_call 99; exact C3.out _)
      | (go_at_call 129; exact C4.out _)
      | (go_at_call 130; exact C5.out _)
      | (go_at_call 131; exact C6.out _)))
    refine wpQuiet_nil ?_
    rintro _ ⟨z, rfl⟩
    have hb := z.h.bel
    go_wp2
    go_ret
    exact ⟨rfl, hb⟩
  rcases x2 with _ | _
  · simp only [Bool.false_and, Bool.true_and, Bool.and_false]
    go_enter Tryz.func100, Tryz.ntmps100
    go_wp2_with fail
    refine wp_region_wf (by kernel_rfl) (by kernel_rfl) HH.out ?_
    repeat (go_big_quiet_step (first
      | (go_at_call 70; exact C0.out _)
      | (go_at_call_of 98 (Value.int IntKind.i64 x); exact C1.out _)
      | (go_at_call_of 98 (Value.int IntKind.i64 y); exact C2.out _)
      | (go_at_call 99; exact C3.out _)
      | (go_at_call 129; exact C4.out _)
      | (go_at_call 130; exact C5.out _)
      | (go_at_call 131; exact C6.out _)))
    refine wpQuiet_nil ?_
    rintro _ ⟨z, rfl⟩
    have hb := z.h.bel
    go_wp2
    go_ret
    exact ⟨rfl, hb⟩
  rcases x3 with _ | _
  · simp only [Bool.false_and, Bool.true_and, Bool.and_false]
    go_enter Tryz.func100, Tryz.ntmps100
    go_wp2_with fail
    refine wp_region_wf (by kernel_rfl) (by kernel_rfl) HH.out ?_
    repeat (go_big_quiet_step (first
      | (go_at_call 70; exact C0.out _)
      | (go_at_call_of 98 (Value.int IntKind.i64 x); exact C1.out _)
      | (go_at_call_of 98 (Value.int IntKind.i64 y); exact C2.out _)
      | (go_at_call 99; exact C3.out _)
      | (go_at_call 129; exact C4.out _)
      | (go_at_call 130; exact C5.out _)
      | (go_at_call 131; exact C6.out _)))
    refine wpQuiet_nil ?_
    rintro _ ⟨z, rfl⟩
    have hb := z.h.bel
    go_wp2
    go_ret
    exact ⟨rfl, hb⟩
  rcases x4 with _ | _
  · simp only [Bool.false_and, Bool.true_and, Bool.and_false]
    go_enter Tryz.func100, Tryz.ntmps100
    go_wp2_with fail
    refine wp_region_wf (by kernel_rfl) (by kernel_rfl) HH.out ?_
    repeat (go_big_quiet_step (first
      | (go_at_call 70; exact C0.out _)
      | (go_at_call_of 98 (Value.int IntKind.i64 x); exact C1.out _)
      | (go_at_call_of 98 (Value.int IntKind.i64 y); exact C2.out _)
      | (go_at_call 99; exact C3.out _)
      | (go_at_call 129; exact C4.out _)
      | (go_at_call 130; exact C5.out _)
      | (go_at_call 131; exact C6.out _)))
    refine wpQuiet_nil ?_
    rintro _ ⟨z, rfl⟩
    have hb := z.h.bel
    go_wp2
    go_ret
    exact ⟨rfl, hb⟩
  rcases x5 with _ | _
  · simp only [Bool.false_and, Bool.true_and, Bool.and_false]
    go_enter Tryz.func100, Tryz.ntmps100
    go_wp2_with fail
    refine wp_region_wf (by kernel_rfl) (by kernel_rfl) HH.out ?_
    repeat (go_big_quiet_step (first
      | (go_at_call 70; exact C0.out _)
      | (go_at_call_of 98 (Value.int IntKind.i64 x); exact C1.out _)
      | (go_at_call_of 98 (Value.int IntKind.i64 y); exact C2.out _)
      | (go_at_call 99; exact C3.out _)
      | (go_at_call 129; exact C4.out _)
      | (go_at_call 130; exact C5.out _)
      | (go_at_call 131; exact C6.out _)))
    refine wpQuiet_nil ?_
    rintro _ ⟨z, rfl⟩
    have hb := z.h.bel
    go_wp2
    go_ret
    exact ⟨rfl, hb⟩
  rcases x6 with _ | _
  · simp only [Bool.false_and, Bool.true_and, Bool.and_false]
    go_enter Tryz.func100, Tryz.ntmps100
    go_wp2_with fail
    refine wp_region_wf (by kernel_rfl) (by kernel_rfl) HH.out ?_
    repeat (go_big_quiet_step (first
      | (go_at_call 70; exact C0.out _)
      | (go_at_call_of 98 (Value.int IntKind.i64 x); exact C1.out _)
      | (go_at_call_of 98 (Value.int IntKind.i64 y); exact C2.out _)
      | (go_at_call 99; exact C3.out _)
      | (go_at_call 129; exact C4.out _)
      | (go_at_call 130; exact C5.out _)
      | (go_at_call 131; exact C6.out _)))
    refine wpQuiet_nil ?_
    rintro _ ⟨z, rfl⟩
    have hb := z.h.bel
    go_wp2
    go_ret
    exact ⟨rfl, hb⟩
  simp only [Bool.true_and]
  go_enter Tryz.func100, Tryz.ntmps100
  go_wp2_with fail
  refine wp_region_wf (by kernel_rfl) (by kernel_rfl) HH.out ?_
  repeat (go_big_quiet_step (first
    | (go_at_call 70; exact C0.out _)
    | (go_at_call_of 98 (Value.int IntKind.i64 x); exact C1.out _)
    | (go_at_call_of 98 (Value.int IntKind.i64 y); exact C2.out _)
    | (go_at_call 99; exact C3.out _)
    | (go_at_call 129; exact C4.out _)
    | (go_at_call 130; exact C5.out _)
    | (go_at_call 131; exact C6.out _)))
  refine wpQuiet_nil ?_
  rintro _ ⟨z, rfl⟩
  have hb := z.h.bel
  go_wp2
  go_ret
  exact ⟨rfl, hb⟩

set_option maxHeartbeats 4000000 in
theorem implQcOk_any (a b c d e x y : Int) (u v s : Value) (l k : List UInt8) (L : List (List UInt8)) (w : World) (hu : Sl w w.heap.size u l) (hv : Sl w w.heap.size v k) (hs : SlS w w.heap.size s L) (hk : k.length ≤ 4294967296) :
    Calls Tryz.prog 105 #[.agg #[.int .i64 a, .int .i64 b, .int .i64 c, .int .i64 d, .int .i64 e], .agg #[.int .i64 x, .int .i64 y, u, v, s]] w (BoolB w (qcB a b c d e x y l k L)) := by
  obtain ⟨A, n, rfl, p1, p2, p0, p3⟩ := id hu
  obtain ⟨B, m, rfl, q1, q2, q0, q3⟩ := id hv
  obtain ⟨C, f, rfl, r1, r2, r0, r3⟩ := id hs
  clear p1 p2 p0 p3 q1 q2 q0 q3 r1 r2 r0 r3
  unfold qcB
  obtain ⟨ss, hss⟩ : ∃ ss, ss = [segX 38 (w.heap.size + 1) [.int .i64 x, .int .i64 y, .slice A l.length n, .slice B k.length m, .slice C L.length f], segX 35 w.heap.size [.int .i64 a, .int .i64 b, .int .i64 c, .int .i64 d, .int .i64 e]] := ⟨_, rfl⟩
  have H0 := ((InvF.start w).newG 35 #[.int .i64 a, .int .i64 b, .int .i64 c, .int .i64 d, .int .i64 e] w.heap.size).newG 38 #[.int .i64 x, .int .i64 y, .slice A l.length n, .slice B k.length m, .slice C L.length f] (w.heap.size + 1)
  have H1 : InvF w ((w.alloc (.cells #[.int .i64 a, .int .i64 b, .int .i64 c, .int .i64 d, .int .i64 e] 35)).alloc (.cells #[.int .i64 x, .int .i64 y, .slice A l.length n, .slice B k.length m, .slice C L.length f] 38)) ss := by rw [hss]; exact H0
  have o0 := fun z : WF w ss => z.h.atX (T := 38) (g := w.heap.size + 1) (xs := [.int .i64 x, .int .i64 y, .slice A l.length n, .slice B k.length m, .slice C L.length f]) (by rw [hss]; exact .head _) 0 rfl
  have t0 := fun z : WF w ss => z.h.atX (T := 35) (g := w.heap.size) (xs := [.int .i64 a, .int .i64 b, .int .i64 c, .int .i64 d, .int .i64 e]) (by rw [hss]; exact .tail _ (.head _)) 0 rfl
  have o1 := fun z : WF w ss => z.h.atX (T := 38) (g := w.heap.size + 1) (xs := [.int .i64 x, .int .i64 y, .slice A l.length n, .slice B k.length m, .slice C L.length f]) (by rw [hss]; exact .head _) 1 rfl
  have t1 := fun z : WF w ss => z.h.atX (T := 35) (g := w.heap.size) (xs := [.int .i64 a, .int .i64 b, .int .i64 c, .int .i64 d, .int .i64 e]) (by rw [hss]; exact .tail _ (.head _)) 1 rfl
  have o2 := fun z : WF w ss => z.h.atX (T := 38) (g := w.heap.size + 1) (xs := [.int .i64 x, .int .i64 y, .slice A l.length n, .slice B k.length m, .slice C L.length f]) (by rw [hss]; exact .head _) 2 rfl
  have t2 := fun z : WF w ss => z.h.atX (T := 35) (g := w.heap.size) (xs := [.int .i64 a, .int .i64 b, .int .i64 c, .int .i64 d, .int .i64 e]) (by rw [hss]; exact .tail _ (.head _)) 2 rfl
  have o3 := fun z : WF w ss => z.h.atX (T := 38) (g := w.heap.size + 1) (xs := [.int .i64 x, .int .i64 y, .slice A l.length n, .slice B k.length m, .slice C L.length f]) (by rw [hss]; exact .head _) 3 rfl
  have t3 := fun z : WF w ss => z.h.atX (T := 35) (g := w.heap.size) (xs := [.int .i64 a, .int .i64 b, .int .i64 c, .int .i64 d, .int .i64 e]) (by rw [hss]; exact .tail _ (.head _)) 3 rfl
  have o4 := fun z : WF w ss => z.h.atX (T := 38) (g := w.heap.size + 1) (xs := [.int .i64 x, .int .i64 y, .slice A l.length n, .slice B k.length m, .slice C L.length f]) (by rw [hss]; exact .head _) 4 rfl
  have t4 := fun z : WF w ss => z.h.atX (T := 35) (g := w.heap.size) (xs := [.int .i64 a, .int .i64 b, .int .i64 c, .int .i64 d, .int .i64 e]) (by rw [hss]; exact .tail _ (.head _)) 4 rfl
  have c0 := fun z : WF w ss => z.below (implLimitsOk_any a b c d e z.w)
  have c1 := fun z : WF w ss => z.same (isNum_any x z.w)
  have c2 := fun z : WF w ss => z.same (isNum_any y z.w)
  have c3 := fun z : WF w ss => z.same (isHash_any (.slice A l.length n) l z.w (hu.up z.h.bel))
  have c4 := fun z : WF w ss => z.below (implBitsOk_any (.slice B k.length m) k a z.w (hv.up z.h.bel) hk)
  have c5 := fun z : WF w ss => z.below (implBitsCount_any (.slice B k.length m) k z.w (hv.up z.h.bel) hk)
  have c6 := fun z : WF w ss => z.same (areHashes_any (.slice C L.length f) L (cntB k) z.w (hs.up z.h.bel))
  have hH : (((l.length : Int) == 32) : Bool) = hashLB l := rfl
  simp only [hH] at c3
  obtain ⟨x0, g0⟩ : ∃ x0, x0 = limB a b c d e := ⟨_, rfl⟩
  obtain ⟨x1, g1⟩ : ∃ x1, x1 = isNumB x := ⟨_, rfl⟩
  obtain ⟨x2, g2⟩ : ∃ x2, x2 = isNumB y := ⟨_, rfl⟩
  obtain ⟨x3, g3⟩ : ∃ x3, x3 = hashLB l := ⟨_, rfl⟩
  obtain ⟨x4, g4⟩ : ∃ x4, x4 = okB k a := ⟨_, rfl⟩
  obtain ⟨z5, g5⟩ : ∃ z5, z5 = cntB k := ⟨_, rfl⟩
  obtain ⟨x6, g6⟩ : ∃ x6, x6 = hashesB L (cntB k) := ⟨_, rfl⟩
  rw [← g0, ← g1, ← g2, ← g3, ← g4, ← g6]
  rw [← g0] at c0; rw [← g1] at c1; rw [← g2] at c2; rw [← g3] at c3; rw [← g4] at c4; rw [← g6] at c6; rw [← g5] at c5 c6
  have C0 := Lib.hid c0; have C1 := Lib.hid c1; have C2 := Lib.hid c2; have C3 := Lib.hid c3; have C4 := Lib.hid c4; have C5 := Lib.hid c5; have C6 := Lib.hid c6
  have HH := Lib.hid H1
  have hne : Nonempty (WF w ss) := ⟨⟨_, H1⟩⟩
  clear c0 c1 c2 c3 c4 c5 c6 g0 g1 g2 g3 g4 g5 g6 hH hss H0 H1 hu hv hs
  rcases x0 with _ | _
  · simp only [Bool.false_and, Bool.true_and, Bool.and_false]
    go_enter Tryz.func105, Tryz.ntmps105
    go_wp2_with fail
    refine wp_region_wf (by kernel_rfl) (by kernel_rfl) HH.out ?_
    repeat (go_big_quiet_step (first
      | (go_at_call 75; exact C0.out _)
      | (go_at_call_of 102 (Value.int IntKind.i64 x); exact C1.out _)
      | (go_at_call_of 102 (Value.int IntKind.i64 y); exact C2.out _)
      | (go_at_call 104; exact C3.out _)
      | (go_at_call 132; exact C4.out _)
      | (go_at_call 134; exact C5.out _)
      | (go_at_call 133; exact C6.out _)))
    refine wpQuiet_nil ?_
    rintro _ ⟨z, rfl⟩
    have hb := z.h.bel
    go_wp2
    go_ret
    exact ⟨rfl, hb⟩
  rcases x1 with _ | _
  · simp only [Bool.false_and, Bool.true_and, Bool.and_false]
    go_enter Tryz.func105, Tryz.ntmps105
    go_wp2_with fail
    refine wp_region_wf (by kernel_rfl) (by kernel_rfl) HH.out ?_
    repeat (go_big_quiet_step (first
      | (go_at_call 75; exact C0.out _)
      | (go_at_call_of 102 (Value.int IntKind.i64 x); exact C1.out _)
      | (go_at_call_of 102 (Value.int IntKind.i64 y); exact C2.out _)
      | (go_at_call 104; exact C3.out _)
      | (go_at_call 132; exact C4.out _)
      | (go_at_call 134; exact C5.out _)
      | (go_at_call 133; exact C6.out _)))
    refine wpQuiet_nil ?_
    rintro _ ⟨z, rfl⟩
    have hb := z.h.bel
    go_wp2
    go_ret
    exact ⟨rfl, hb⟩
  rcases x2 with _ | _
  · simp only [Bool.false_and, Bool.true_and, Bool.and_false]
    go_enter Tryz.func105, Tryz.ntmps105
    go_wp2_with fail
    refine wp_region_wf (by kernel_rfl) (by kernel_rfl) HH.out ?_
    repeat (go_big_quiet_step (first
      | (go_at_call 75; exact C0.out _)
      | (go_at_call_of 102 (Value.int IntKind.i64 x); exact C1.out _)
      | (go_at_call_of 102 (Value.int IntKind.i64 y); exact C2.out _)
      | (go_at_call 104; exact C3.out _)
      | (go_at_call 132; exact C4.out _)
      | (go_at_call 134; exact C5.out _)
      | (go_at_call 133; exact C6.out _)))
    refine wpQuiet_nil ?_
    rintro _ ⟨z, rfl⟩
    have hb := z.h.bel
    go_wp2
    go_ret
    exact ⟨rfl, hb⟩
  rcases x3 with _ | _
  · simp only [Bool.false_and, Bool.true_and, Bool.and_false]
    go_enter Tryz.func105, Tryz.ntmps105
    go_wp2_with fail
    refine wp_region_wf (by kernel_rfl) (by kernel_rfl) HH.out ?_
    repeat (go_big_quiet_step (first
      | (go_at_call 75; exact C0.out _)
      | (go_at_call_of 102 (Value.int IntKind.i64 x); exact C1.out _)
      | (go_at_call_of 102 (Value.int IntKind.i64 y); exact C2.out _)
      | (go_at_call 104; exact C3.out _)
      | (go_at_call 132; exact C4.out _)
      | (go_at_call 134; exact C5.out _)
      | (go_at_call 133; exact C6.out _)))
    refine wpQuiet_nil ?_
    rintro _ ⟨z, rfl⟩
    have hb := z.h.bel
    go_wp2
    go_ret
    exact ⟨rfl, hb⟩
  rcases x4 with _ | _
  · simp only [Bool.false_and, Bool.true_and, Bool.and_false]
    go_enter Tryz.func105, Tryz.ntmps105
    go_wp2_with fail
    refine wp_region_wf (by kernel_rfl) (by kernel_rfl) HH.out ?_
    repeat (go_big_quiet_step (first
      | (go_at_call 75; exact C0.out _)
      | (go_at_call_of 102 (Value.int IntKind.i64 x); exact C1.out _)
      | (go_at_call_of 102 (Value.int IntKind.i64 y); exact C2.out _)
      | (go_at_call 104; exact C3.out _)
      | (go_at_call 132; exact C4.out _)
      | (go_at_call 134; exact C5.out _)
      | (go_at_call 133; exact C6.out _)))
    refine wpQuiet_nil ?_
    rintro _ ⟨z, rfl⟩
    have hb := z.h.bel
    go_wp2
    go_ret
    exact ⟨rfl, hb⟩
  rcases x6 with _ | _
  · simp only [Bool.false_and, Bool.true_and, Bool.and_false]
    go_enter Tryz.func105, Tryz.ntmps105
    go_wp2_with fail
    refine wp_region_wf (by kernel_rfl) (by kernel_rfl) HH.out ?_
    repeat (go_big_quiet_step (first
      | (go_at_call 75; exact C0.out _)
      | (go_at_call_of 102 (Value.int IntKind.i64 x); exact C1.out _)
      | (go_at_call_of 102 (Value.int IntKind.i64 y); exact C2.out _)
      | (go_at_call 104; exact C3.out _)
      | (go_at_call 132; exact C4.out _)
      | (go_at_call 134; exact C5.out _)
      | (go_at_call 133; exact C6.out _)))
    refine wpQuiet_nil ?_
    rintro _ ⟨z, rfl⟩
    have hb := z.h.bel
    go_wp2
    go_ret
    exact ⟨rfl, hb⟩
  simp only [Bool.true_and]
  go_enter Tryz.func105, Tryz.ntmps105
  go_wp2_with fail
  refine wp_region_wf (by kernel_rfl) (by kernel_rfl) HH.out ?_
  repeat (go_big_quiet_step (first
    | (go_at_call 75; exact C0.out _)
    | (go_at_call_of 102 (Value.int IntKind.i64 x); exact C1.out _)
    | (go_at_call_of 102 (Value.int IntKind.i64 y); exact C2.out _)
    | (go_at_call 104; exact C3.out _)
    | (go_at_call 132; exact C4.out _)
    | (go_at_call 134; exact C5.out _)
    | (go_at_call 133; exact C6.out _)))
  refine wpQuiet_nil ?_
  rintro _ ⟨z, rfl⟩
  have hb := z.h.bel
  go_wp2
  go_ret
  exact ⟨rfl, hb⟩

/-- Whether two certificates are the same. -/
def sameQB (x y : Int) (l k : List UInt8) (L : List (List UInt8)) (x' y' : Int) (l' k' : List UInt8) (L' : List (List UInt8)) : Bool := (x == x') && ((y == y') && ((l == l') && ((k == k') && (L == L'))))

end Go.Proofs.YtdoaikanaodefaaGreatDoor
/- HeadOk and HeadSame, of the program and of its model. -/
namespace Go.Proofs.YtdoaikanaodefaaGreatDoor
open Go.ChangeShapes Go.WideShapes Go.ChangeAt Go.RowKit
set_option linter.unusedSimpArgs false

/-- Whether a header is valid under limits. -/
def headB (a b c d e x y z qx qy : Int) (l k ql qk : List UInt8) (L : List (List UInt8)) : Bool := isNumB x && (isNumB y && (decide (y ≠ 0) && (isIn z a && (hashLB l && (hashLB k && (qcB a b c d e qx qy ql qk L && fitsB x y qx qy l ql))))))
/-- In the order of the model. -/
def headB' (a b c d e x y z qx qy : Int) (l k ql qk : List UInt8) (L : List (List UInt8)) : Bool := limB a b c d e && (isNumB x && (decide (1 ≤ y ∧ y ≤ 1152921504606846975) && (isIn z a && (hashLB l && (hashLB k && (qcB a b c d e qx qy ql qk L && fitsB x y qx qy l ql))))))
theorem headB_same (a b c d e x y z qx qy : Int) (l k ql qk : List UInt8) (L : List (List UInt8)) : headB' a b c d e x y z qx qy l k ql qk L = headB a b c d e x y z qx qy l k ql qk L := by
  have h1 : decide (1 ≤ y ∧ y ≤ 1152921504606846975) = (isNumB y && decide (y ≠ 0)) := by
    unfold isNumB
    by_cases h : 1 ≤ y ∧ y ≤ 1152921504606846975
    · rw [decide_eq_true h, decide_eq_true (show 0 ≤ y ∧ y ≤ 1152921504606846975 by omega), decide_eq_true (show y ≠ 0 by omega)]; rfl
    · rw [decide_eq_false h]
      by_cases h0 : y ≠ 0
      · rw [decide_eq_false (show ¬ (0 ≤ y ∧ y ≤ 1152921504606846975) by omega)]; rfl
      · rw [decide_eq_false h0, Bool.and_false]
  unfold headB' headB qcB
  rw [h1]
  cases limB a b c d e <;> simp only [Bool.true_and, Bool.and_assoc, Bool.false_and, Bool.and_false]

/-- Whether two headers are the same. -/
def sameHB (x y z qx qy : Int) (l k ql qk : List UInt8) (L : List (List UInt8)) (x' y' z' qx' qy' : Int) (l' k' ql' qk' : List UInt8) (L' : List (List UInt8)) : Bool := (x == x') && ((y == y') && ((z == z') && ((l == l') && ((k == k') && sameQB qx qy ql qk L qx' qy' ql' qk' L'))))
set_option maxRecDepth 100000 in
set_option maxHeartbeats 16000000 in
theorem specHeadOk_any (a b c d e x y z qx qy : Int) (u v qu qv qs : Value) (l k ql qk : List UInt8) (L : List (List UInt8)) (w : World) (hu : Sl w w.heap.size u l) (hv : Sl w w.heap.size v k) (hqu : Sl w w.heap.size qu ql) (hqv : Sl w w.heap.size qv qk) (hqs : SlS w w.heap.size qs L) (hqk : qk.length ≤ 4294967296) :
    Calls Tryz.prog 60 #[.agg #[.int .i64 a, .int .i64 b, .int .i64 c, .int .i64 d, .int .i64 e], .agg #[.int .i64 x, .int .i64 y, .int .i64 z, u, v, .int .i64 qx, .int .i64 qy, qu, qv, qs]] w (BoolB w (headB a b c d e x y z qx qy l k ql qk L)) := by
  obtain ⟨A, ac, rfl, p1, p2, p0, p3⟩ := id hu
  clear p1 p2 p0 p3
  obtain ⟨B, bc, rfl, p1, p2, p0, p3⟩ := id hv
  clear p1 p2 p0 p3
  obtain ⟨C, cc, rfl, p1, p2, p0, p3⟩ := id hqu
  clear p1 p2 p0 p3
  obtain ⟨D, dc, rfl, p1, p2, p0, p3⟩ := id hqv
  clear p1 p2 p0 p3
  obtain ⟨E, ec, rfl, p1, p2, p0, p3⟩ := id hqs
  clear p1 p2 p0 p3
  rw [← headB_same]
  unfold headB'
  have H0 := ((InvF.start w).newG 35 #[.int .i64 a, .int .i64 b, .int .i64 c, .int .i64 d, .int .i64 e] w.heap.size).newG 40 #[.int .i64 x, .int .i64 y, .int .i64 z, .slice A l.length ac, .slice B k.length bc, .int .i64 qx, .int .i64 qy, .slice C ql.length cc, .slice D qk.length dc, .slice E L.length ec] (w.heap.size + 1)
  have hU := Lib.hid hu
  have hV := Lib.hid hv
  have hQU := Lib.hid hqu
  have hQV := Lib.hid hqv
  have hQS := Lib.hid hqs
  have c0 := fun W => specLimitsOk_any a b c d e W
  have c1 := fun W => l01Num_any x W
  have c2 := fun W => l01In_any y 1 1152921504606846975 W
  have c3 := fun W => l01In_any z 0 (a - 1) W
  have he3 : decide (0 ≤ z ∧ z ≤ a - 1) = isIn z a := by unfold isIn; congr 1; apply propext; constructor <;> intro h <;> omega
  simp only [he3] at c3
  clear he3
  have c4 : ∀ W, Sl W W.heap.size (.slice A l.length ac) l → Calls Tryz.prog 99 #[.slice A l.length ac] W (fun e w' => e = .returned (.bool (hashLB l)) ∧ W = w') := fun W h => l07Hash_any (.slice A l.length ac) l W h
  have c5 : ∀ W, Sl W W.heap.size (.slice B k.length bc) k → Calls Tryz.prog 99 #[.slice B k.length bc] W (fun e w' => e = .returned (.bool (hashLB k)) ∧ W = w') := fun W h => l07Hash_any (.slice B k.length bc) k W h
  have c6 := fun W h1 h2 h3 => specQcOk_any a b c d e qx qy (.slice C ql.length cc) (.slice D qk.length dc) (.slice E L.length ec) ql qk L W h1 h2 h3 hqk
  have c7 := fun (h : decide (1 ≤ y ∧ y ≤ 1152921504606846975) = true) W h1 h2 h3 h4 h5 => l13Fits_any x y z qx qy (.slice A l.length ac) (.slice B k.length bc) (.slice C ql.length cc) (.slice D qk.length dc) (.slice E L.length ec) l k ql qk L W h1 h2 h3 h4 h5 (by have := of_decide_eq_true h; omega) (by have := of_decide_eq_true h; omega)
  have hlim : limB a b c d e = true → 1 ≤ a ∧ a ≤ 10 := fun h => (limB_yes h).1
  obtain ⟨x0, g0⟩ : ∃ r : Bool, r = limB a b c d e := ⟨_, rfl⟩
  obtain ⟨x1, g1⟩ : ∃ r : Bool, r = isNumB x := ⟨_, rfl⟩
  obtain ⟨x2, g2⟩ : ∃ r : Bool, r = decide (1 ≤ y ∧ y ≤ 1152921504606846975) := ⟨_, rfl⟩
  obtain ⟨x3, g3⟩ : ∃ r : Bool, r = isIn z a := ⟨_, rfl⟩
  obtain ⟨x4, g4⟩ : ∃ r : Bool, r = hashLB l := ⟨_, rfl⟩
  obtain ⟨x5, g5⟩ : ∃ r : Bool, r = hashLB k := ⟨_, rfl⟩
  obtain ⟨x6, g6⟩ : ∃ r : Bool, r = qcB a b c d e qx qy ql qk L := ⟨_, rfl⟩
  obtain ⟨x7, g7⟩ : ∃ r : Bool, r = fitsB x y qx qy l ql := ⟨_, rfl⟩
  rw [← g0, ← g1, ← g2, ← g3, ← g4, ← g5, ← g6, ← g7]
  simp only [← g0] at c0
  simp only [← g1] at c1
  simp only [← g2] at c2
  simp only [← g3] at c3
  simp only [← g4] at c4
  simp only [← g5] at c5
  simp only [← g6] at c6
  simp only [← g2, ← g7] at c7
  rw [← g0] at hlim
  have C0 := Lib.hid c0
  have C1 := Lib.hid c1
  have C2 := Lib.hid c2
  have C3 := Lib.hid c3
  have C4 := Lib.hid c4
  have C5 := Lib.hid c5
  have C6 := Lib.hid c6
  have C7 := Lib.hid c7
  clear c0 c1 c2 c3 c4 c5 c6 c7 g0 g1 g2 g3 g4 g5 g6 g7 hu hv hqu hqv hqs
  go_enter Tryz.func60, Tryz.ntmps60
  have H := H0
  clear H0
  go_wp2_with fail
  refine (C0.out _).mono ?_
  rintro ev w0 ⟨rfl, hb⟩
  replace H := H.up hb
  clear hb
  rcases x0 with _ | _
  · go_wp2
    go_ret
    exact ⟨rfl, H.bel⟩
  obtain ⟨o0, o1, o2, o3, o4, o5, o6, o7, o8, o9⟩ := H.c10 (.head _)
  obtain ⟨t0, t1, t2, t3, t4⟩ := H.c5 (.tail _ (.head _))
  obtain ⟨ha0, ha1⟩ := hlim (by first | trivial | rfl)
  clear hlim
  go_wp2_with fail
  refine (C1.out _).mono ?_
  rintro ev _ ⟨rfl, rfl⟩
  rcases x1 with _ | _
  · go_wp2
    go_ret
    exact ⟨rfl, H.bel⟩
  go_wp2_with fail
  refine (C2.out _).mono ?_
  rintro ev _ ⟨rfl, rfl⟩
  rcases x2 with _ | _
  · go_wp2
    go_ret
    exact ⟨rfl, H.bel⟩
  go_wp2_with fail
  refine (C3.out _).mono ?_
  rintro ev _ ⟨rfl, rfl⟩
  rcases x3 with _ | _
  · go_wp2
    go_ret
    exact ⟨rfl, H.bel⟩
  go_wp2_with fail
  refine (C4.out _ (hU.out.up H.bel)).mono ?_
  rintro ev _ ⟨rfl, rfl⟩
  rcases x4 with _ | _
  · go_wp2
    go_ret
    exact ⟨rfl, H.bel⟩
  go_wp2_with fail
  refine (C5.out _ (hV.out.up H.bel)).mono ?_
  rintro ev _ ⟨rfl, rfl⟩
  rcases x5 with _ | _
  · go_wp2
    go_ret
    exact ⟨rfl, H.bel⟩
  go_wp2_with fail
  refine (C6.out _ (hQU.out.up H.bel) (hQV.out.up H.bel) (hQS.out.up H.bel)).mono ?_
  rintro ev w6 ⟨rfl, hb⟩
  replace H := H.up hb
  clear hb o0 o1 o2 o3 o4 o5 o6 o7 o8 o9 t0 t1 t2 t3 t4
  rcases x6 with _ | _
  · go_wp2
    go_ret
    exact ⟨rfl, H.bel⟩
  obtain ⟨o0, o1, o2, o3, o4, o5, o6, o7, o8, o9⟩ := H.c10 (.head _)
  obtain ⟨t0, t1, t2, t3, t4⟩ := H.c5 (.tail _ (.head _))
  go_wp2_with fail
  refine (C7.out (by first | trivial | rfl) _ (hU.out.up H.bel) (hV.out.up H.bel) (hQU.out.up H.bel) (hQV.out.up H.bel) (hQS.out.up H.bel)).mono ?_
  rintro ev w7 ⟨rfl, hb⟩
  replace H := H.up hb
  clear hb o0 o1 o2 o3 o4 o5 o6 o7 o8 o9 t0 t1 t2 t3 t4
  rcases x7 with _ | _
  · go_wp2
    go_ret
    exact ⟨rfl, H.bel⟩
  · go_wp2
    go_ret
    exact ⟨rfl, H.bel⟩

set_option maxRecDepth 100000 in
set_option maxHeartbeats 16000000 in
theorem implHeadOk_any (a b c d e x y z qx qy : Int) (u v qu qv qs : Value) (l k ql qk : List UInt8) (L : List (List UInt8)) (w : World) (hu : Sl w w.heap.size u l) (hv : Sl w w.heap.size v k) (hqu : Sl w w.heap.size qu ql) (hqv : Sl w w.heap.size qv qk) (hqs : SlS w w.heap.size qs L) (hqk : qk.length ≤ 4294967296) :
    Calls Tryz.prog 64 #[.agg #[.int .i64 a, .int .i64 b, .int .i64 c, .int .i64 d, .int .i64 e], .agg #[.int .i64 x, .int .i64 y, .int .i64 z, u, v, .int .i64 qx, .int .i64 qy, qu, qv, qs]] w (BoolB w (headB a b c d e x y z qx qy l k ql qk L)) := by
  obtain ⟨A, ac, rfl, p1, p2, p0, p3⟩ := id hu
  clear p1 p2 p0 p3
  obtain ⟨B, bc, rfl, p1, p2, p0, p3⟩ := id hv
  clear p1 p2 p0 p3
  obtain ⟨C, cc, rfl, p1, p2, p0, p3⟩ := id hqu
  clear p1 p2 p0 p3
  obtain ⟨D, dc, rfl, p1, p2, p0, p3⟩ := id hqv
  clear p1 p2 p0 p3
  obtain ⟨E, ec, rfl, p1, p2, p0, p3⟩ := id hqs
  clear p1 p2 p0 p3
  unfold headB
  have H0 := ((InvF.start w).newG 35 #[.int .i64 a, .int .i64 b, .int .i64 c, .int .i64 d, .int .i64 e] w.heap.size).newG 40 #[.int .i64 x, .int .i64 y, .int .i64 z, .slice A l.length ac, .slice B k.length bc, .int .i64 qx, .int .i64 qy, .slice C ql.length cc, .slice D qk.length dc, .slice E L.length ec] (w.heap.size + 1)
  have hU := Lib.hid hu
  have hV := Lib.hid hv
  have hQU := Lib.hid hqu
  have hQV := Lib.hid hqv
  have hQS := Lib.hid hqs
  have c0 := fun W => isNum_any x W
  have c1 := fun W => isNum_any y W
  have c3 := fun W => isSigner_any z a W
  have c4 : ∀ W, Sl W W.heap.size (.slice A l.length ac) l → Calls Tryz.prog 104 #[.slice A l.length ac] W (fun e w' => e = .returned (.bool (hashLB l)) ∧ W = w') := fun W h => isHash_any (.slice A l.length ac) l W h
  have c5 : ∀ W, Sl W W.heap.size (.slice B k.length bc) k → Calls Tryz.prog 104 #[.slice B k.length bc] W (fun e w' => e = .returned (.bool (hashLB k)) ∧ W = w') := fun W h => isHash_any (.slice B k.length bc) k W h
  have c6 := fun W h1 h2 h3 => implQcOk_any a b c d e qx qy (.slice C ql.length cc) (.slice D qk.length dc) (.slice E L.length ec) ql qk L W h1 h2 h3 hqk
  have c7 := fun (h : isNumB y = true) W h1 h2 h3 h4 h5 => matchError_any x y z qx qy (.slice A l.length ac) (.slice B k.length bc) (.slice C ql.length cc) (.slice D qk.length dc) (.slice E L.length ec) l k ql qk L W h1 h2 h3 h4 h5 (by have := of_decide_eq_true h; omega) (by have := of_decide_eq_true h; omega)
  have hnum : isNumB y = true → 0 ≤ y ∧ y ≤ 1152921504606846975 := fun h => of_decide_eq_true h
  obtain ⟨x0, g0⟩ : ∃ r : Bool, r = isNumB x := ⟨_, rfl⟩
  obtain ⟨x1, g1⟩ : ∃ r : Bool, r = isNumB y := ⟨_, rfl⟩
  obtain ⟨x2, g2⟩ : ∃ r : Bool, r = decide (y ≠ 0) := ⟨_, rfl⟩
  obtain ⟨x3, g3⟩ : ∃ r : Bool, r = isIn z a := ⟨_, rfl⟩
  obtain ⟨x4, g4⟩ : ∃ r : Bool, r = hashLB l := ⟨_, rfl⟩
  obtain ⟨x5, g5⟩ : ∃ r : Bool, r = hashLB k := ⟨_, rfl⟩
  obtain ⟨x6, g6⟩ : ∃ r : Bool, r = qcB a b c d e qx qy ql qk L := ⟨_, rfl⟩
  obtain ⟨x7, g7⟩ : ∃ r : Bool, r = fitsB x y qx qy l ql := ⟨_, rfl⟩
  rw [← g0, ← g1, ← g2, ← g3, ← g4, ← g5, ← g6, ← g7]
  simp only [← g0] at c0
  simp only [← g1] at c1
  simp only [← g3] at c3
  simp only [← g4] at c4
  simp only [← g5] at c5
  simp only [← g6] at c6
  simp only [← g1, ← g7] at c7
  rw [← g1] at hnum
  have hy0 : (y != 0) = x2 := by rw [g2]; by_cases h : y = 0 <;> simp [h]
  have C0 := Lib.hid c0
  have C1 := Lib.hid c1
  have C3 := Lib.hid c3
  have C4 := Lib.hid c4
  have C5 := Lib.hid c5
  have C6 := Lib.hid c6
  have C7 := Lib.hid c7
  clear c0 c1 c3 c4 c5 c6 c7 g0 g1 g2 g3 g4 g5 g6 g7 hu hv hqu hqv hqs
  go_enter Tryz.func64, Tryz.ntmps64
  have H := H0
  clear H0
  obtain ⟨o0, o1, o2, o3, o4, o5, o6, o7, o8, o9⟩ := H.c10 (.head _)
  obtain ⟨t0, t1, t2, t3, t4⟩ := H.c5 (.tail _ (.head _))
  go_wp2_with fail
  refine (C0.out _).mono ?_
  rintro ev _ ⟨rfl, rfl⟩
  rcases x0 with _ | _
  · go_wp2
    go_ret
    exact ⟨rfl, H.bel⟩
  go_wp2_with fail
  refine (C1.out _).mono ?_
  rintro ev _ ⟨rfl, rfl⟩
  rcases x1 with _ | _
  · go_wp2
    go_ret
    exact ⟨rfl, H.bel⟩
  obtain ⟨hn0, hn1⟩ := hnum (by first | trivial | rfl)
  clear hnum
  rcases x2 with _ | _
  · go_wp2
    go_ret
    exact ⟨rfl, H.bel⟩
  go_wp2_with fail
  refine (C3.out _).mono ?_
  rintro ev _ ⟨rfl, rfl⟩
  rcases x3 with _ | _
  · go_wp2
    go_ret
    exact ⟨rfl, H.bel⟩
  go_wp2_with fail
  refine (C4.out _ (hU.out.up H.bel)).mono ?_
  rintro ev _ ⟨rfl, rfl⟩
  rcases x4 with _ | _
  · go_wp2
    go_ret
    exact ⟨rfl, H.bel⟩
  go_wp2_with fail
  refine (C5.out _ (hV.out.up H.bel)).mono ?_
  rintro ev _ ⟨rfl, rfl⟩
  rcases x5 with _ | _
  · go_wp2
    go_ret
    exact ⟨rfl, H.bel⟩
  go_wp2_with fail
  refine (C6.out _ (hQU.out.up H.bel) (hQV.out.up H.bel) (hQS.out.up H.bel)).mono ?_
  rintro ev w6 ⟨rfl, hb⟩
  replace H := H.up hb
  clear hb o0 o1 o2 o3 o4 o5 o6 o7 o8 o9 t0 t1 t2 t3 t4
  rcases x6 with _ | _
  · go_wp2
    go_ret
    exact ⟨rfl, H.bel⟩
  obtain ⟨o0, o1, o2, o3, o4, o5, o6, o7, o8, o9⟩ := H.c10 (.head _)
  obtain ⟨t0, t1, t2, t3, t4⟩ := H.c5 (.tail _ (.head _))
  go_wp2_with fail
  refine (C7.out (by first | trivial | rfl) _ (hU.out.up H.bel) (hV.out.up H.bel) (hQU.out.up H.bel) (hQV.out.up H.bel) (hQS.out.up H.bel)).mono ?_
  rintro ev w7 ⟨rfl, hb⟩
  replace H := H.up hb
  clear hb o0 o1 o2 o3 o4 o5 o6 o7 o8 o9 t0 t1 t2 t3 t4
  rcases x7 with _ | _
  · rw [matchV_no]
    go_wp2
    go_ret
    exact ⟨rfl, H.bel⟩
  · rw [matchV_yes]
    go_wp2
    go_ret
    exact ⟨rfl, H.bel⟩

end Go.Proofs.YtdoaikanaodefaaGreatDoor
/- The transactions of a block: are they so many at most, and each of so many bytes at most? areTxs of the program. -/
namespace Go.Proofs.YtdoaikanaodefaaGreatDoor
open Go.ChangeShapes Go.WideShapes Go.ChangeAt Go.RowKit

/-- Has none of the rows more than b bytes? -/
def allMost (T : List (List UInt8)) (b : Int) : Bool := T.all fun r => decide ((r.length : Int) ≤ b)
theorem allMost_no {T : List (List UInt8)} {b : Int} {k : Nat} (hk : k < T.length) (h : b < ((T.getD k []).length : Int)) : allMost T b = false := by
  rcases hb : allMost T b with _ | _
  · rfl
  · have := List.all_eq_true.1 hb (T.getD k []) (by simp [List.getD_eq_getElem?_getD, List.getElem?_eq_getElem hk])
    have := of_decide_eq_true this
    omega
theorem allMost_yes {T : List (List UInt8)} {b : Int} (h : ∀ k, k < T.length → ((T.getD k []).length : Int) ≤ b) : allMost T b = true := List.all_eq_true.2 fun r hr => by
  obtain ⟨k, hk, rfl⟩ := List.mem_iff_getElem.1 hr
  have := h k hk
  simpa [List.getD_eq_getElem?_getD, List.getElem?_eq_getElem hk] using this
/-- Are there so many rows at most, each of so many bytes at most? -/
def txsB (b c : Int) (T : List (List UInt8)) : Bool := decide ((T.length : Int) ≤ c) && allMost T b
theorem txsB_many {b c : Int} {T : List (List UInt8)} (h : c < (T.length : Int)) : txsB b c T = false := by
  unfold txsB
  rw [decide_eq_false (by omega)]
  rfl
theorem txsB_few {b c : Int} {T : List (List UInt8)} (h : ¬ c < (T.length : Int)) : txsB b c T = allMost T b := by
  unfold txsB
  rw [decide_eq_true (show (T.length : Int) ≤ c by omega)]
  rfl
theorem txsB_yes {b c : Int} {T : List (List UInt8)} (h : txsB b c T = true) : (T.length : Int) ≤ c ∧ ∀ r ∈ T, (r.length : Int) ≤ b := by
  unfold txsB at h
  rw [Bool.and_eq_true] at h
  exact ⟨of_decide_eq_true h.1, fun r hr => of_decide_eq_true (List.all_eq_true.1 h.2 r hr)⟩

set_option maxHeartbeats 2000000 in
theorem areTxs_any (a b c d e : Int) (v : Value) (T : List (List UInt8)) (w : World) (h : SlS w w.heap.size v T) :
    Calls Tryz.prog 65 #[.agg #[.int .i64 a, .int .i64 b, .int .i64 c, .int .i64 d, .int .i64 e], v] w (fun ev w' => ev = .returned (.bool (txsB b c T)) ∧ Below w.heap.size w w') := by
  obtain ⟨A, cv, rfl, h1, h2, h0, h3⟩ := h
  unfold maxLen at h2
  clear h0
  have hB : Below w.heap.size w (w.alloc (.cells #[.int .i64 a, .int .i64 b, .int .i64 c, .int .i64 d, .int .i64 e] 35)) := (Below.refl _ w).alloc (Nat.le_refl _) _
  by_cases hm : c < (T.length : Int)
  · rw [txsB_many hm]
    clear h3
    go_enter Tryz.func65, Tryz.ntmps65
    go_wp2
    go_ret
    exact ⟨rfl, hB⟩
  · rw [txsB_few hm]
    obtain ⟨R, hR⟩ : ∃ R, R = allMost T b := ⟨_, rfl⟩
    rw [← hR]
    have HR := Lib.hid hR
    clear hR
    go_enter Tryz.func65, Tryz.ntmps65
    go_wp2
    go_loopw [14] (fun j wr => ∃ k : Nat, k ≤ T.length ∧ j = .int .i64 k ∧ Hid (∀ j, j < k → ((T.getD j []).length : Int) ≤ b) ∧ w.alloc (.cells #[.int .i64 a, .int .i64 b, .int .i64 c, .int .i64 d, .int .i64 e] 35) = wr)
      (fun i _ => T.length - (intOf i).toNat)
    case atStart => exact ⟨0, Nat.zero_le _, rfl, Lib.hid (fun j hj => by omega), rfl⟩
    case round =>
      obtain ⟨k, hk, rfl, hok, rfl⟩ := hrel
      by_cases hlt : k < T.length
      · obtain ⟨b0, off, rfl, hbb, hcell⟩ := h3 (by omega)
        obtain ⟨u, hu, hsl⟩ := hcell k hlt
        have hklt : (k : Int) < (T.length : Int) := by omega
        replace hu := (hB.cell (p := ⟨b0, off + k, none⟩) hbb).trans hu
        have HBad : Hid (b < ((T.getD k []).length : Int) → R = false) := Lib.hid fun e => HR.out.trans (allMost_no hlt e)
        have HGood : Hid (¬ b < ((T.getD k []).length : Int) → ∀ j, j < k + 1 → ((T.getD j []).length : Int) ≤ b) := Lib.hid fun e j hj => by
          rcases Nat.lt_or_ge j k with h | h
          · exact hok.out j h
          · obtain rfl : j = k := by omega
            omega
        generalize T.getD k [] = l at hsl HBad HGood
        obtain ⟨Au, cu, rfl, _⟩ := id hsl
        clear hcell hok
        by_cases hlh : b < (l.length : Int)
        case pos =>
          obtain rfl := HBad.out hlh
          go_wp2
          go_ret
          exact ⟨rfl, hB⟩
        case neg =>
          have HG := Lib.hid (HGood.out hlh)
          go_wp2
          go_roundw
          case rel => exact ⟨k + 1, by omega, by go_num, HG, trivial⟩
          case measure => simp [intOf]; omega
      · obtain rfl : k = T.length := by omega
        obtain rfl : R = true := HR.out.trans (allMost_yes hok.out)
        go_wp2
        go_ret
        exact ⟨rfl, hB⟩
end Go.Proofs.YtdoaikanaodefaaGreatDoor
/- hasRoot of the program; BlockOk of the program and of its model. -/
namespace Go.Proofs.YtdoaikanaodefaaGreatDoor
open Go.ChangeShapes Go.WideShapes Go.ChangeAt Go.RowKit

set_option maxRecDepth 100000 in
set_option maxHeartbeats 8000000 in
theorem hasRoot_any (x y z qx qy : Int) (u v qu qv qs t : Value) (l k ql qk : List UInt8) (L T : List (List UInt8)) (w : World) (hu : Sl w w.heap.size u l) (hv : Sl w w.heap.size v k) (hqu : Sl w w.heap.size qu ql) (hqv : Sl w w.heap.size qv qk) (hqs : SlS w w.heap.size qs L) (ht : SlS w w.heap.size t T) (hs : sumL T ≤ 1073741000) (hTl : T.length ≤ 1073741824) (hI : Glob w 0 initW) (hG : Glob w 1 kk) :
    Calls Tryz.prog 66 #[.agg #[.int .i64 x, .int .i64 y, .int .i64 z, u, v, .int .i64 qx, .int .i64 qy, qu, qv, qs, t]] w (fun ev w' => ev = .returned (.bool (k == treeL T)) ∧ Below w.heap.size w w') := by
  obtain ⟨A, ac, rfl, p1, p2, p0, p3⟩ := id hu
  clear p1 p2 p0 p3
  obtain ⟨B, bc, rfl, p1, p2, p0, p3⟩ := id hv
  clear p1 p2 p0 p3
  obtain ⟨C, cc, rfl, p1, p2, p0, p3⟩ := id hqu
  clear p1 p2 p0 p3
  obtain ⟨D, dc, rfl, p1, p2, p0, p3⟩ := id hqv
  clear p1 p2 p0 p3
  obtain ⟨E, ec, rfl, p1, p2, p0, p3⟩ := id hqs
  clear p1 p2 p0 p3
  obtain ⟨F, fc, rfl, p1, p2, p0, p3⟩ := id ht
  clear p1 p2 p0 p3
  obtain ⟨r, hr⟩ : ∃ r, r = treeL T := ⟨_, rfl⟩
  have C0 := Lib.hid (fun W h1 h2 h3 => implTreeRoot_any (.slice F T.length fc) T W h1 hs hTl h2 h3)
  rw [← hr] at C0 ⊢
  have H := (InvF.start w).newG 42 #[.int .i64 x, .int .i64 y, .int .i64 z, .slice A l.length ac, .slice B k.length bc, .int .i64 qx, .int .i64 qy, .slice C ql.length cc, .slice D qk.length dc, .slice E L.length ec, .slice F T.length fc] w.heap.size
  have HV := Lib.hid hv
  have HT := Lib.hid ht
  have HI := Lib.hid hI
  have HG := Lib.hid hG
  have HE := Lib.hid H.drew1
  have L0 := Lib.hid (And.intro (HE.out.atX (.head _) 4 rfl) (HE.out.atX (.head _) 10 rfl))
  clear hv ht hI hG hr
  go_enter Tryz.func66, Tryz.ntmps66
  go_wp2_with fail
  clear H
  go_region_held3 (fun w' => w'.cell? ⟨w.heap.size, 4, none⟩ = some (.slice B k.length bc) ∧ w'.cell? ⟨w.heap.size, 10, none⟩ = some (.slice F T.length fc))
    (first
      | with_reducible exact L0.out
      | with_reducible exact L1.out)
    (first
      | (go_at_call 54; refine (C0.out _ (HT.out.up HE.out.bel) (HI.out.up HE.out.bel) (HG.out.up HE.out.bel)).mono ?_; rintro ev w2 ⟨u2, rfl, ho2, hb2⟩; have H2 := Lib.hid (HE.out.moreB ho2 hb2); have L1 := Lib.hid (And.intro (H2.out.atX (.tail _ (.head _)) 4 rfl) (H2.out.atX (.tail _ (.head _)) 10 rfl)); clear ho2 hb2)
      | (go_at_call 107; refine (implSameBytes_any _ _ k r _ (HV.out.up H2.out.bel) (H2.out.slB 5 (.head _))).mono ?_; rintro ev w' ⟨rfl, rfl⟩))
  go_wp2
  go_ret
  exact ⟨rfl, H2.out.bel⟩

/-- Whether a block is valid under limits. -/
def blockB (a b c d e x y z qx qy : Int) (l k ql qk : List UInt8) (L T : List (List UInt8)) : Bool := headB a b c d e x y z qx qy l k ql qk L && (txsB b c T && (k == treeL T))
set_option maxRecDepth 100000 in
set_option maxHeartbeats 8000000 in
theorem implBlockOk_any (a b c d e : Int) (x y z qx qy : Int) (u v qu qv qs t : Value) (l k ql qk : List UInt8) (L T : List (List UInt8)) (w : World) (hu : Sl w w.heap.size u l) (hv : Sl w w.heap.size v k) (hqu : Sl w w.heap.size qu ql) (hqv : Sl w w.heap.size qv qk) (hqs : SlS w w.heap.size qs L) (ht : SlS w w.heap.size t T) (hqk : qk.length ≤ 4294967296) (hs : sumL T ≤ 1073741000) (hTl : T.length ≤ 1073741824) (hI : Glob w 0 initW) (hG : Glob w 1 kk) :
    Calls Tryz.prog 38 #[.agg #[.int .i64 a, .int .i64 b, .int .i64 c, .int .i64 d, .int .i64 e], .agg #[.int .i64 x, .int .i64 y, .int .i64 z, u, v, .int .i64 qx, .int .i64 qy, qu, qv, qs, t]] w (BoolB w (blockB a b c d e x y z qx qy l k ql qk L T)) := by
  obtain ⟨A, ac, rfl, p1, p2, p0, p3⟩ := id hu
  clear p1 p2 p0 p3
  obtain ⟨B, bc, rfl, p1, p2, p0, p3⟩ := id hv
  clear p1 p2 p0 p3
  obtain ⟨C, cc, rfl, p1, p2, p0, p3⟩ := id hqu
  clear p1 p2 p0 p3
  obtain ⟨D, dc, rfl, p1, p2, p0, p3⟩ := id hqv
  clear p1 p2 p0 p3
  obtain ⟨E, ec, rfl, p1, p2, p0, p3⟩ := id hqs
  clear p1 p2 p0 p3
  obtain ⟨F, fc, rfl, p1, p2, p0, p3⟩ := id ht
  clear p1 p2 p0 p3
  unfold blockB
  have H0 : InvF w _ [segX 42 (w.heap.size + 1) [.int .i64 x, .int .i64 y, .int .i64 z, (.slice A l.length ac), (.slice B k.length bc), .int .i64 qx, .int .i64 qy, (.slice C ql.length cc), (.slice D qk.length dc), (.slice E L.length ec), (.slice F T.length fc)], segX 35 w.heap.size [.int .i64 a, .int .i64 b, .int .i64 c, .int .i64 d, .int .i64 e]] := ((InvF.start w).newG 35 #[.int .i64 a, .int .i64 b, .int .i64 c, .int .i64 d, .int .i64 e] w.heap.size).newG 42 #[.int .i64 x, .int .i64 y, .int .i64 z, .slice A l.length ac, .slice B k.length bc, .int .i64 qx, .int .i64 qy, .slice C ql.length cc, .slice D qk.length dc, .slice E L.length ec, .slice F T.length fc] (w.heap.size + 1)
  have HU := Lib.hid hu
  have HV := Lib.hid hv
  have HQU := Lib.hid hqu
  have HQV := Lib.hid hqv
  have HQS := Lib.hid hqs
  have HT := Lib.hid ht
  have c0 := fun W h1 h2 h3 h4 h5 => implHeadOk_any a b c d e x y z qx qy (.slice A l.length ac) (.slice B k.length bc) (.slice C ql.length cc) (.slice D qk.length dc) (.slice E L.length ec) l k ql qk L W h1 h2 h3 h4 h5 hqk
  obtain ⟨x0, g0⟩ : ∃ r : Bool, r = headB a b c d e x y z qx qy l k ql qk L := ⟨_, rfl⟩
  rw [← g0]
  simp only [← g0] at c0
  have C0 := Lib.hid c0
  clear c0 g0
  have HI := Lib.hid hI
  have HG := Lib.hid hG
  have c1 := fun W h => areTxs_any a b c d e (.slice F T.length fc) T W h
  have c2 := fun W h1 h2 h3 h4 h5 h6 h7 h8 => hasRoot_any x y z qx qy (.slice A l.length ac) (.slice B k.length bc) (.slice C ql.length cc) (.slice D qk.length dc) (.slice E L.length ec) (.slice F T.length fc) l k ql qk L T W h1 h2 h3 h4 h5 h6 hs hTl h7 h8
  obtain ⟨x1, g1⟩ : ∃ r : Bool, r = txsB b c T := ⟨_, rfl⟩
  obtain ⟨x2, g2⟩ : ∃ r : Bool, r = (k == treeL T) := ⟨_, rfl⟩
  rw [← g1, ← g2]
  simp only [← g1] at c1
  simp only [← g2] at c2
  have C1 := Lib.hid c1
  have C2 := Lib.hid c2
  clear c1 c2 g1 g2 hu hv hqu hqv hqs ht hI hG
  go_enter Tryz.func38, Tryz.ntmps38
  go_wp2_with fail
  refine (C0.out _ (HU.out.up H0.bel) (HV.out.up H0.bel) (HQU.out.up H0.bel) (HQV.out.up H0.bel) (HQS.out.up H0.bel)).mono ?_
  rintro ev w1 ⟨rfl, hb1⟩
  have H := H0.up hb1
  clear H0 hb1
  rcases x0 with _ | _
  · go_wp2
    go_ret
    exact ⟨rfl, H.bel⟩
  obtain ⟨o0, o1, o2, o3, o4, o5, o6, o7, o8, o9, o10⟩ := H.c11 (.head _)
  obtain ⟨t0, t1, t2, t3, t4⟩ := H.c5 (.tail _ (.head _))
  go_wp2_with fail
  refine (C1.out _ (HT.out.up H.bel)).mono ?_
  rintro ev w2 ⟨rfl, hb2⟩
  replace H := H.up hb2
  clear hb2 o0 o1 o2 o3 o4 o5 o6 o7 o8 o9 o10 t0 t1 t2 t3 t4
  rcases x1 with _ | _
  · go_wp2
    go_ret
    exact ⟨rfl, H.bel⟩
  obtain ⟨o0, o1, o2, o3, o4, o5, o6, o7, o8, o9, o10⟩ := H.c11 (.head _)
  obtain ⟨t0, t1, t2, t3, t4⟩ := H.c5 (.tail _ (.head _))
  go_wp2_with fail
  refine (C2.out _ (HU.out.up H.bel) (HV.out.up H.bel) (HQU.out.up H.bel) (HQV.out.up H.bel) (HQS.out.up H.bel) (HT.out.up H.bel) (HI.out.up H.bel) (HG.out.up H.bel)).mono ?_
  rintro ev w3 ⟨rfl, hb3⟩
  replace H := H.up hb3
  clear hb3 o0 o1 o2 o3 o4 o5 o6 o7 o8 o9 o10 t0 t1 t2 t3 t4
  rcases x2 with _ | _
  · go_wp2
    go_ret
    exact ⟨rfl, H.bel⟩
  · go_wp2
    go_ret
    exact ⟨rfl, H.bel⟩

set_option maxRecDepth 100000 in
set_option maxHeartbeats 8000000 in
theorem specBlockOk_any (a b c d e : Int) (x y z qx qy : Int) (u v qu qv qs t : Value) (l k ql qk : List UInt8) (L T : List (List UInt8)) (w : World) (hu : Sl w w.heap.size u l) (hv : Sl w w.heap.size v k) (hqu : Sl w w.heap.size qu ql) (hqv : Sl w w.heap.size qv qk) (hqs : SlS w w.heap.size qs L) (ht : SlS w w.heap.size t T) (hqk : qk.length ≤ 4294967296) (hs : sumL T ≤ 1073741000) (hTl : T.length ≤ 1073741824) :
    Calls Tryz.prog 34 #[.agg #[.int .i64 a, .int .i64 b, .int .i64 c, .int .i64 d, .int .i64 e], .agg #[.int .i64 x, .int .i64 y, .int .i64 z, u, v, .int .i64 qx, .int .i64 qy, qu, qv, qs, t]] w (BoolB w (blockB a b c d e x y z qx qy l k ql qk L T)) := by
  obtain ⟨A, ac, rfl, p1, p2, p0, p3⟩ := id hu
  clear p1 p2 p0 p3
  obtain ⟨B, bc, rfl, p1, p2, p0, p3⟩ := id hv
  clear p1 p2 p0 p3
  obtain ⟨C, cc, rfl, p1, p2, p0, p3⟩ := id hqu
  clear p1 p2 p0 p3
  obtain ⟨D, dc, rfl, p1, p2, p0, p3⟩ := id hqv
  clear p1 p2 p0 p3
  obtain ⟨E, ec, rfl, p1, p2, p0, p3⟩ := id hqs
  clear p1 p2 p0 p3
  obtain ⟨F, fc, rfl, p1, p2, p0, p3⟩ := id ht
  clear p1 p2 p0 p3
  unfold blockB
  have H0 : InvF w _ [segX 42 (w.heap.size + 1) [.int .i64 x, .int .i64 y, .int .i64 z, (.slice A l.length ac), (.slice B k.length bc), .int .i64 qx, .int .i64 qy, (.slice C ql.length cc), (.slice D qk.length dc), (.slice E L.length ec), (.slice F T.length fc)], segX 35 w.heap.size [.int .i64 a, .int .i64 b, .int .i64 c, .int .i64 d, .int .i64 e]] := ((InvF.start w).newG 35 #[.int .i64 a, .int .i64 b, .int .i64 c, .int .i64 d, .int .i64 e] w.heap.size).newG 42 #[.int .i64 x, .int .i64 y, .int .i64 z, .slice A l.length ac, .slice B k.length bc, .int .i64 qx, .int .i64 qy, .slice C ql.length cc, .slice D qk.length dc, .slice E L.length ec, .slice F T.length fc] (w.heap.size + 1)
  have HU := Lib.hid hu
  have HV := Lib.hid hv
  have HQU := Lib.hid hqu
  have HQV := Lib.hid hqv
  have HQS := Lib.hid hqs
  have HT := Lib.hid ht
  have c0 := fun W h1 h2 h3 h4 h5 => specHeadOk_any a b c d e x y z qx qy (.slice A l.length ac) (.slice B k.length bc) (.slice C ql.length cc) (.slice D qk.length dc) (.slice E L.length ec) l k ql qk L W h1 h2 h3 h4 h5 hqk
  obtain ⟨x0, g0⟩ : ∃ r : Bool, r = headB a b c d e x y z qx qy l k ql qk L := ⟨_, rfl⟩
  rw [← g0]
  simp only [← g0] at c0
  have C0 := Lib.hid c0
  clear c0 g0
  have C1 := Lib.hid (fun W h => specTreeRoot_any (.slice F T.length fc) T W h hs hTl)
  obtain ⟨r, hr⟩ : ∃ r, r = treeL T := ⟨_, rfl⟩
  rw [← hr] at C1 ⊢
  obtain ⟨Y, hY⟩ : ∃ Y : Bool, Y = (txsB b c T && (k == r)) := ⟨_, rfl⟩
  rw [← hY]
  have HY0 : Hid (c < (T.length : Int) → Y = false) := Lib.hid (fun h => by rw [hY, txsB_many h]; rfl)
  have HYb : Hid (¬ c < (T.length : Int) → ∀ i, i < T.length → b < ((T.getD i []).length : Int) → Y = false) := Lib.hid (fun h i hi e => by rw [hY, txsB_few h, allMost_no hi e]; rfl)
  have HYg : Hid (¬ c < (T.length : Int) → (∀ i, i < T.length → ((T.getD i []).length : Int) ≤ b) → Y = (k == r)) := Lib.hid (fun h e => by rw [hY, txsB_few h, allMost_yes e]; rfl)
  clear hY hr hu hv hqu hqv hqs
  obtain ⟨_, _, e1, h1, h2, _, h3⟩ := ht
  cases e1
  unfold maxLen at h2
  go_enter Tryz.func34, Tryz.ntmps34
  go_wp2_with fail
  refine (C0.out _ (HU.out.up H0.bel) (HV.out.up H0.bel) (HQU.out.up H0.bel) (HQV.out.up H0.bel) (HQS.out.up H0.bel)).mono ?_
  rintro ev w1 ⟨rfl, hb1⟩
  have H := H0.up hb1
  clear H0 hb1
  rcases x0 with _ | _
  · go_wp2
    go_ret
    exact ⟨rfl, H.bel⟩
  obtain ⟨o0, o1, o2, o3, o4, o5, o6, o7, o8, o9, o10⟩ := H.c11 (.head _)
  obtain ⟨t0, t1, t2, t3, t4⟩ := H.c5 (.tail _ (.head _))
  by_cases hm : c < (T.length : Int)
  · obtain rfl := HY0.out hm
    clear h3
    go_wp2
    go_ret
    exact ⟨rfl, H.bel⟩
  have HB := Lib.hid H.bel
  have HK := Lib.hid H
  clear H
  go_wp2
  go_loopw [23] (fun j wr => ∃ k : Nat, k ≤ T.length ∧ j = .int .i64 k ∧ Hid (∀ j, j < k → ((T.getD j []).length : Int) ≤ b) ∧ w1 = wr)
    (fun i _ => T.length - (intOf i).toNat)
  case atStart => exact ⟨0, Nat.zero_le _, rfl, Lib.hid (fun j hj => by omega), rfl⟩
  case round =>
    obtain ⟨k, hk, rfl, hok, rfl⟩ := hrel
    by_cases hlt : k < T.length
    · obtain ⟨b0, off, rfl, hbb, hcell⟩ := h3 (by omega)
      obtain ⟨u, hu, hsl⟩ := hcell k hlt
      have hklt : (k : Int) < (T.length : Int) := by omega
      replace hu := (HB.out.cell (p := ⟨b0, off + k, none⟩) hbb).trans hu
      have HBad : Hid (b < ((T.getD k []).length : Int) → Y = false) := Lib.hid fun e => HYb.out hm _ hlt e
      have HGood : Hid (¬ b < ((T.getD k []).length : Int) → ∀ j, j < k + 1 → ((T.getD j []).length : Int) ≤ b) := Lib.hid fun e j hj => by
        rcases Nat.lt_or_ge j k with h | h
        · exact hok.out j h
        · obtain rfl : j = k := by omega
          omega
      generalize T.getD k [] = l at hsl HBad HGood
      obtain ⟨Au, cu, rfl, _⟩ := id hsl
      clear hcell hok
      by_cases hlh : b < (l.length : Int)
      case pos =>
        obtain rfl := HBad.out hlh
        go_wp2
        go_ret
        exact ⟨rfl, HB.out⟩
      case neg =>
        have HG := Lib.hid (HGood.out hlh)
        go_wp2
        go_roundw
        case rel => exact ⟨k + 1, by omega, by go_num, HG, trivial⟩
        case measure => simp [intOf]; omega
    · obtain rfl : k = T.length := by omega
      obtain rfl := HYg.out hm hok.out
      have HE := Lib.hid HK.out.drew1
      have L0 := Lib.hid (And.intro (HE.out.atX (.head _) 4 rfl) (HE.out.atX (.head _) 10 rfl))
      go_wp2_with fail
      go_region_held3 (fun w' => w'.cell? ⟨w.heap.size + 1, 4, none⟩ = some (.slice B k.length bc) ∧ w'.cell? ⟨w.heap.size + 1, 10, none⟩ = some (.slice F T.length fc))
        (first
        | with_reducible exact L0.out
        | with_reducible exact L1.out)
        (first
          | (go_at_call 52; refine (C1.out _ (HT.out.up HE.out.bel)).mono ?_; rintro ev w2 ⟨u2, rfl, ho2, hb2⟩; have H2 := Lib.hid (HE.out.moreB ho2 hb2); have L1 := Lib.hid (And.intro (H2.out.atX (.tail _ (.head _)) 4 rfl) (H2.out.atX (.tail _ (.head _)) 10 rfl)); clear ho2 hb2)
          | (go_at_call 61; refine (specSameBytes_any _ _ k r _ (HV.out.up H2.out.bel) (H2.out.slB 5 (.head _))).mono ?_; rintro ev w' ⟨rfl, rfl⟩))
      go_wp2
      go_ret
      exact ⟨rfl, H2.out.bel⟩

end Go.Proofs.YtdoaikanaodefaaGreatDoor
