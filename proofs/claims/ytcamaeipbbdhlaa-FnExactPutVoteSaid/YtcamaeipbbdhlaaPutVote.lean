/- PutVote, of the program and of its model; putNumbers, l11Num. -/
import Derived.Test.YtcamaeipbbdhlaaVoteOk
import Derived.Deep.RegionHeld3
namespace Go.Proofs.Ytcamaeipbbdhlaa
open Go.ChangeShapes Go.WideShapes Go.ChangeAt Go.RowKit

/-- The numbers ns behind l. -/
def numsL (l : List UInt8) (ns : List Int) : List UInt8 := ns.foldl putVarL l
theorem numsL_take (l : List UInt8) (ns : List Int) (k : Nat) (h : k < ns.length) : numsL l (ns.take (k + 1)) = putVarL (numsL l (ns.take k)) (it ns k) := by
  unfold numsL
  rw [List.take_succ_eq_append_getElem h, List.foldl_append]
  simp [it, List.getD_eq_getElem?_getD, List.getElem?_eq_getElem h]
theorem numsL_len (l : List UInt8) (ns : List Int) : (numsL l ns).length ≤ l.length + 9 * ns.length := by
  induction ns generalizing l with
  | nil => simp [numsL]
  | cons n ns ih =>
    have h1 := ih (putVarL l n)
    have h2 := putVarL_len l n
    have e : numsL l (n :: ns) = numsL (putVarL l n) ns := rfl
    rw [e]
    simp only [List.length_cons]
    omega

theorem l11Num_any (v : Value) (l : List UInt8) (n : Int) (w : World) (h : Sl w w.heap.size v l) (hl : l.length ≤ 4294967296) :
    Calls Try.prog 32 #[v, .int .i64 n] w (Fresh w (putVarL l n)) := by
  go_enter Try.func32, Try.ntmps32
  go_wp2_with fail
  refine (specPutVar_any v l n _ h hl).mono ?_
  rintro e w1 ⟨v1, rfl, hown1, hb1⟩
  go_wp2
  go_ret
  exact ⟨v1, rfl, hown1, hb1⟩

set_option maxHeartbeats 1000000 in
theorem putNumbers_any (v u : Value) (l : List UInt8) (ns : List Int) (w : World) (h : Sl w w.heap.size v l) (h' : SlI w w.heap.size u ns) (hp : 0 < ns.length) (hn : ns.length ≤ 64) (hl : l.length ≤ 2147483648) :
    Calls Try.prog 33 #[v, u] w (Fresh w (numsL l ns)) := by
  obtain ⟨A, c, rfl, h1, h2, h0, h3⟩ := h'
  obtain ⟨b, off, rfl, hbb, hcell⟩ := h3 hp
  unfold maxLen at h2
  clear h0 h3
  have hz := fun k => numsL_len l (ns.take k)
  have HZ := Lib.hid hz
  clear hz
  go_enter Try.func33, Try.ntmps33
  go_wp2
  go_loopw [0, 6, 9, 13] (fun o _ i _ wr => ∃ (k : Nat), k ≤ ns.length ∧ i = .int .i64 k ∧ Below w.heap.size w wr ∧ Sl wr wr.heap.size o (numsL l (ns.take k)) ∧ (0 < k → Own 5 wr w.heap.size o (numsL l (ns.take k))))
    (fun _ _ i _ _ => ns.length - (intOf i).toNat)
  case atStart => exact ⟨0, Nat.zero_le _, rfl, Below.refl _ _, h, fun h => absurd h (by omega)⟩
  case round =>
    obtain ⟨k, hk, rfl, hbel, hsl, hown⟩ := hrel
    by_cases hlt : k < ns.length
    · have hc0 := (hbel.cell (p := ⟨b, off + k, none⟩) hbb).trans (hcell k hlt)
      have hlen : (numsL l (ns.take k)).length ≤ 4294967296 := by have := HZ.out k; rw [List.length_take] at this; omega
      have htk := numsL_take l ns k hlt
      obtain ⟨z, hz⟩ : ∃ z, z = it ns k := ⟨_, rfl⟩
      rw [← hz] at hc0 htk
      have HTK := Lib.hid htk
      have HSL := Lib.hid hsl
      have HLN := Lib.hid hlen
      have HBL := Lib.hid hbel
      clear htk hsl hlen hz hown
      go_wp2_with fail
      refine (implPutVar_any _ _ z _ HSL.out HLN.out).mono ?_
      rintro e w1 ⟨v1, rfl, hown1, hb1⟩
      rw [← HTK.out] at hown1
      have HO := Lib.hid hown1
      have HB := Lib.hid (HBL.out.trans (hb1.mono HBL.out.size))
      have HS := HBL.out.size
      clear hown1 hb1
      go_wp2
      go_roundw
      case rel => exact ⟨k + 1, by omega, by go_num, HB.out, HO.out.sl, fun _ => HO.out.mono HS⟩
      case measure => simp [intOf]; omega
    · obtain rfl : k = ns.length := by omega
      have HO := Lib.hid (hown hp)
      rw [List.take_length] at HO
      clear hown hsl
      go_wp2
      go_ret
      exact ⟨_, rfl, HO.out, hbel⟩

theorem three {p q r s t : Prop} (h : p ∧ q ∧ r ∧ s ∧ t) : p ∧ q ∧ r := ⟨h.1, h.2.1, h.2.2.1⟩
/-- What PutVote writes of a valid vote behind l. -/
def voteL (l : List UInt8) (x y z : Int) (m k : List UInt8) : List UInt8 := putVarL (putVarL (putVarL l x) y ++ m) z ++ k
def putVoteL (a b c d e : Int) (l : List UInt8) (x y z : Int) (m k : List UInt8) : List UInt8 := if voteB a b c d e x y z m k = true then voteL l x y z m k else []
theorem voteL_len (l : List UInt8) (x y z : Int) (m k : List UInt8) : (voteL l x y z m k).length ≤ l.length + m.length + k.length + 27 := by
  unfold voteL
  rw [List.length_append]
  have h1 := putVarL_len l x
  have h2 := putVarL_len (putVarL l x) y
  have h3 := putVarL_len (putVarL (putVarL l x) y ++ m) z
  rw [List.length_append] at h3
  omega
theorem putVoteL_len (a b c d e : Int) (l : List UInt8) (x y z : Int) (m k : List UInt8) : (putVoteL a b c d e l x y z m k).length ≤ l.length + m.length + k.length + 27 := by
  unfold putVoteL
  split
  · exact voteL_len l x y z m k
  · simp
theorem voteB_tag {a b c d e x y z : Int} {m k : List UInt8} (h : voteB a b c d e x y z m k = true) : m.length = 32 ∧ k.length = 32 := by
  unfold voteB at h
  simp only [Bool.and_eq_true] at h
  exact ⟨hashLB_len h.2.2.2.1, hashLB_len h.2.2.2.2.2⟩

set_option maxRecDepth 100000 in
set_option maxHeartbeats 2000000 in
theorem implPutVote_any (a b c d e x y z : Int) (t u v : Value) (l m k : List UInt8) (w : World) (ht : Sl w w.heap.size t l) (hu : Sl w w.heap.size u m) (hv : Sl w w.heap.size v k) (hl : l.length ≤ 1073741824) :
    Calls Try.prog 16 #[.agg #[.int .i64 a, .int .i64 b, .int .i64 c, .int .i64 d, .int .i64 e], t, .agg #[.int .i64 x, .int .i64 y, u, .int .i64 z, v]] w (Fresh2 w (putVoteL a b c d e l x y z m k) (.bool (voteB a b c d e x y z m k))) := by
  have HT0 := Lib.hid ht
  have HU0 := Lib.hid hu
  have HV0 := Lib.hid hv
  obtain ⟨A, n, rfl, p1, p2, p0, p3⟩ := ht
  obtain ⟨B, n', rfl, q1, q2, q0, q3⟩ := hu
  obtain ⟨D, n'', rfl, r1, r2, r0, r3⟩ := hv
  clear p1 p2 p0 p3 q1 q2 q0 q3 r1 r2 r0 r3
  have c0 := fun W h h' => implVoteOk_any a b c d e x y z (.slice B m.length n') (.slice D k.length n'') m k W h h'
  have hP : voteB a b c d e x y z m k = true → m.length = 32 ∧ k.length = 32 ∧ putVoteL a b c d e l x y z m k = putVarL (putVarL (putVarL l x) y ++ m) z ++ k := fun h => ⟨(voteB_tag h).1, (voteB_tag h).2, if_pos h⟩
  have hN : voteB a b c d e x y z m k = false → putVoteL a b c d e l x y z m k = [] := fun h => if_neg (by simp [h])
  obtain ⟨R, hR⟩ : ∃ R, R = putVoteL a b c d e l x y z m k := ⟨_, rfl⟩
  obtain ⟨x0, g0⟩ : ∃ x0, x0 = voteB a b c d e x y z m k := ⟨_, rfl⟩
  rw [← hR] at hP hN ⊢
  rw [← g0] at hP hN ⊢
  simp only [← g0] at c0
  have C0 := Lib.hid c0
  have HP := Lib.hid hP
  have HN := Lib.hid hN
  clear c0 hP hN hR g0
  have H0 := ((InvF.start w).newG 29 #[.int .i64 a, .int .i64 b, .int .i64 c, .int .i64 d, .int .i64 e] w.heap.size).newG 31 #[.int .i64 x, .int .i64 y, .slice B m.length n', .int .i64 z, .slice D k.length n''] (w.heap.size + 1)
  go_enter Try.func16, Try.ntmps16
  go_wp2_with fail
  refine (C0.out _ (HU0.out.up H0.bel) (HV0.out.up H0.bel)).mono ?_
  rintro ev w1 ⟨rfl, hb1⟩
  have H := H0.up hb1
  clear H0 hb1
  rcases x0 with _ | _
  · go_wp2
    go_ret2
    exact ⟨_, rfl, by rw [HN.out (by first | trivial | rfl)]; exact World.ownsRow_nil _ _ _ _, H.bel⟩
  obtain ⟨hm32, hk32, hRe⟩ := HP.out rfl
  have HRE := Lib.hid hRe
  have hm2 : Hid (m.length ≤ 64) := Lib.hid (by omega)
  have hk2 : Hid (k.length ≤ 64) := Lib.hid (by omega)
  clear HP HN hm32 hk32 hRe
  obtain ⟨o0, o1, o2, o3, o4⟩ := H.c5 (.head _)
  go_wp2_with fail
  have hI := Lib.hid (show OwnI 3 (w1.alloc (.cells #[.int .i64 x, .int .i64 y] 3)) w1.heap.size (.slice (some ⟨w1.heap.size, 0, none⟩) 2 2) [x, y] from World.ownsRow_lit w1 #[.int .i64 x, .int .i64 y] 2 (Nat.le_refl _) (by simp [maxLen]) rfl).sl
  have H1 := H.up ((Below.refl _ _).alloc (Nat.le_refl _) (.cells #[.int .i64 x, .int .i64 y] 3))
  clear H o0 o1 o2 o3 o4
  refine (putNumbers_any _ _ l [x, y] _ (HT0.out.up H1.bel) hI.out (by simp) (by simp) (by omega)).mono ?_
  rintro ev w2 ⟨v2, rfl, ho2, hb2⟩
  have H2 : InvF w w2 [segB 5 v2 (putVarL (putVarL l x) y), segX 31 (w.heap.size + 1) [.int .i64 x, .int .i64 y, .slice B m.length n', .int .i64 z, .slice D k.length n''], segX 29 w.heap.size [.int .i64 a, .int .i64 b, .int .i64 c, .int .i64 d, .int .i64 e]] := H1.moreB ho2 hb2
  have hl2 : Hid ((putVarL (putVarL l x) y).length ≤ 1073741900) := Lib.hid (by have h1 := putVarL_len l x; have h2 := putVarL_len (putVarL l x) y; omega)
  clear H1 hI ho2 hb2
  obtain ⟨o0, o1, o2, o3, o4⟩ := H2.c5 (.tail _ (.head _))
  go_wp2_with fail
  refine (joined_any _ _ _ m _ (H2.slB 5 (.head _)) (HU0.out.up H2.bel) (by have := hl2.out; omega) (by have := hm2.out; omega)).mono ?_
  rintro ev w3 ⟨v3, rfl, ho3, hb3⟩
  have H3 := H2.moreB ho3 hb3
  have hl3 : Hid ((putVarL (putVarL l x) y ++ m).length ≤ 1073742000) := Lib.hid (by rw [List.length_append]; have := hl2.out; have := hm2.out; omega)
  clear H2 ho3 hb3 o0 o1 o2 o3 o4
  obtain ⟨o0, o1, o2, o3, o4⟩ := H3.c5 (.tail _ (.tail _ (.head _)))
  go_wp2_with fail
  have hI := Lib.hid (show OwnI 3 (w3.alloc (.cells #[.int .i64 z] 3)) w3.heap.size (.slice (some ⟨w3.heap.size, 0, none⟩) 1 1) [z] from World.ownsRow_lit w3 #[.int .i64 z] 1 (Nat.le_refl _) (by simp [maxLen]) rfl).sl
  have H4 := H3.up ((Below.refl _ _).alloc (Nat.le_refl _) (.cells #[.int .i64 z] 3))
  clear H3 o0 o1 o2 o3 o4
  refine (putNumbers_any _ _ _ [z] _ (H4.slB 5 (.head _)) hI.out (by simp) (by simp) (by have := hl3.out; omega)).mono ?_
  rintro ev w5 ⟨v5, rfl, ho5, hb5⟩
  have H5 : InvF w w5 [segB 5 v5 (putVarL (putVarL (putVarL l x) y ++ m) z), segB 5 v3 (putVarL (putVarL l x) y ++ m), segB 5 v2 (putVarL (putVarL l x) y), segX 31 (w.heap.size + 1) [.int .i64 x, .int .i64 y, .slice B m.length n', .int .i64 z, .slice D k.length n''], segX 29 w.heap.size [.int .i64 a, .int .i64 b, .int .i64 c, .int .i64 d, .int .i64 e]] := H4.moreB ho5 hb5
  have hl5 : Hid ((putVarL (putVarL (putVarL l x) y ++ m) z).length ≤ 1073742100) := Lib.hid (by have h1 := putVarL_len (putVarL (putVarL l x) y ++ m) z; have := hl3.out; omega)
  clear H4 hI ho5 hb5
  obtain ⟨o0, o1, o2, o3, o4⟩ := H5.c5 (.tail _ (.tail _ (.tail _ (.head _))))
  go_wp2_with fail
  refine (joined_any _ _ _ k _ (H5.slB 5 (.head _)) (HV0.out.up H5.bel) (by have := hl5.out; omega) (by have := hk2.out; omega)).mono ?_
  rintro ev w6 ⟨v6, rfl, ho6, hb6⟩
  have H6 := Lib.hid (H5.moreB ho6 hb6)
  clear H5 ho6 hb6 o0 o1 o2 o3 o4
  go_wp2
  go_ret2
  exact ⟨_, rfl, by rw [HRE.out]; exact H6.out.ownB 5 (.head _), H6.out.bel⟩

end Go.Proofs.Ytcamaeipbbdhlaa
