/- Timeout certificates: the contracts of the helpers of exact laws on them: szTc, toTc, eqTc, markTc, heldTc. -/
import Derived.Test.YtickneafppbegaaEnt
namespace Go.Proofs.Ytickneafppbegaa
open Go.ChangeShapes Go.WideShapes Go.ChangeAt Go.RowKit

/-- What szTc leaves of m. -/
def szTZ (L : List Et) (m : Int) : Int := szESZ L m
theorem szTZ_big {L : List Et} {m : Int} (h : m < (L.length : Int) + (volE L : Int)) : szTZ L m = -1 := szESZ_big h
theorem szTZ_ok {L : List Et} {m : Int} (h : ¬ m < (L.length : Int) + (volE L : Int)) : szTZ L m = m - ((L.length : Int) + (volE L : Int)) := szESZ_ok h
set_option maxHeartbeats 1000000 in
theorem szTc_any (x : Int) (s : Value) (L : List Et) (m : Int) (w : World) (hs : SlE w w.heap.size s L) (h0 : 0 ≤ m) (hm : m ≤ 1073741824) :
    Calls Try.prog 8 #[.agg #[.int .i64 x, s], .int .i64 m] w (fun e w' => e = .returned (.int .i64 (szTZ L m)) ∧ Below w.heap.size w w') := by
  obtain ⟨A, c, rfl, p1, p2, p0, p3⟩ := id hs
  clear p1 p2 p0 p3
  have hB : Below w.heap.size w (w.alloc (.cells #[.int .i64 x, .slice A L.length c] 26)) := (Below.refl _ w).alloc (Nat.le_refl _) _
  have HB := Lib.hid hB
  by_cases hlt : m < (L.length : Int) + (volE L : Int)
  · have hz : Hid (szESZ L m = -1) := Lib.hid (szESZ_big hlt)
    have hz2 : Hid (szTZ L m = -1) := Lib.hid (szTZ_big hlt)
    rw [hz2.out]
    clear hlt
    go_enter Try.func8, Try.ntmps8
    go_wp2_with fail
    refine (szEntryS_any _ L m _ (hs.up hB) h0 hm).mono ?_
    rw [hz.out]
    rintro e w' ⟨rfl, hw⟩
    have HB2 := Lib.hid (HB.out.trans (hw.mono HB.out.size))
    go_wp2
    go_ret
    exact ⟨rfl, HB2.out⟩
  · obtain ⟨u, hu⟩ : ∃ u : Int, u = m - ((L.length : Int) + (volE L : Int)) := ⟨_, rfl⟩
    have hz : Hid (szESZ L m = u) := Lib.hid (by rw [szESZ_ok hlt, hu])
    have hz2 : Hid (szTZ L m = u) := Lib.hid (by rw [szTZ_ok hlt, hu])
    have hu0 : ¬ u < 0 := by omega
    rw [hz2.out]
    clear hlt hu
    go_enter Try.func8, Try.ntmps8
    go_wp2_with fail
    refine (szEntryS_any _ L m _ (hs.up hB) h0 hm).mono ?_
    rw [hz.out]
    rintro e w' ⟨rfl, hw⟩
    have HB2 := Lib.hid (HB.out.trans (hw.mono HB.out.size))
    go_wp2
    go_ret
    exact ⟨rfl, HB2.out⟩

/-- The call returns a timeout certificate of new rows; nothing that was there has turned. -/
def FreshTc (w : World) (x : Int) (L : List Et) (e : Ending) (w' : World) : Prop :=
  ∃ s ps, e = .returned (.agg #[.int .i64 x, s]) ∧ ps.length = L.length ∧ InvF w w' [segE s ps L]
set_option maxHeartbeats 2000000 in
theorem toTc_any (x : Int) (s : Value) (L : List Et) (w : World) (hs : SlE w w.heap.size s L) (hl : L.length ≤ 1048576) (hv : volE L ≤ 1048576) :
    Calls Try.prog 11 #[.agg #[.int .i64 x, s]] w (FreshTc w x L) := by
  obtain ⟨A, c, rfl, p1, p2, p0, p3⟩ := id hs
  clear p1 p2 p0 p3
  have H0 := (((InvF.start w).newG 26 #[.int .i64 x, .slice A L.length c] w.heap.size).newG 33 #[.int .i64 0, .slice none 0 0] (w.heap.size + 1)).newG 33 #[.int .i64 x, .slice none 0 0] (w.heap.size + 1 + 1)
  go_enter Try.func11, Try.ntmps11
  go_wp2_with fail
  refine (toEntryS_any _ L _ (hs.up H0.bel) hl hv).mono ?_
  rintro e w4 ⟨u4, ps, rfl, hp, K4⟩
  have H4 : InvF w w4 [segE u4 ps L, segX 33 (w.heap.size + 1 + 1) [.int .i64 x, .slice none 0 0], segX 33 (w.heap.size + 1) [.int .i64 0, .slice none 0 0], segX 26 w.heap.size [.int .i64 x, .slice A L.length c]] := H0.more (s := segE u4 ps L) (by have h := K4; unfold InvF at h; simpa using h)
  clear H0 K4
  obtain ⟨A4, c4, rfl⟩ := H4.openE hp (.head _)
  have HP := Lib.hid hp
  clear hp
  obtain ⟨o0, o1⟩ := H4.c2 (.tail _ (.head _))
  obtain ⟨_, f1⟩ := H4.f2 (.tail _ (.head _))
  obtain ⟨r0, r1⟩ := H4.c2 (.tail _ (.tail _ (.head _)))
  obtain ⟨q0, q1⟩ := H4.f2 (.tail _ (.tail _ (.head _)))
  have h4 := H4.ltX (.tail _ (.head _))
  have h5 := H4.ltX (.tail _ (.tail _ (.head _)))
  have K6 := Lib.hid H4
  clear H4
  go_wp2
  refine bodyPost_ret (v := .agg #[.int .i64 x, .slice A4 L.length c4]) (by simp [results, Try.results11, go_sem, r0, r1]) rfl ⟨_, ps, rfl, HP.out, ?_⟩
  exact ((((K6.out.front 1 rfl).setX 1 (.slice A4 L.length c4)).front 2 rfl).over2 (.int .i64 x) (.slice A4 L.length c4)).sub (.cons _ (.cons _ (.cons_cons _ (.cons _ .slnil))))

set_option maxHeartbeats 1000000 in
theorem eqTc_any (x : Int) (s s' : Value) (L : List Et) (w : World) (hs : SlE w w.heap.size s L) (hs' : SlE w w.heap.size s' L) :
    Calls Try.prog 13 #[.agg #[.int .i64 x, s], .agg #[.int .i64 x, s']] w (Yes w) := by
  obtain ⟨A, c, rfl, p1, p2, p0, p3⟩ := id hs
  clear p1 p2 p0 p3
  obtain ⟨A', c', rfl, p1, p2, p0, p3⟩ := id hs'
  clear p1 p2 p0 p3
  have n0 : (x != x) = false := by simp
  have hB : Below w.heap.size w ((w.alloc (.cells #[.int .i64 x, .slice A L.length c] 33)).alloc (.cells #[.int .i64 x, .slice A' L.length c'] 33)) := ((Below.refl _ w).alloc (Nat.le_refl _) _).alloc (by simp) _
  have HB := Lib.hid hB
  go_enter Try.func13, Try.ntmps13
  go_wp2_with fail
  refine (eqEntryS_any _ _ L _ (hs.up hB) (hs'.up hB)).mono ?_
  rintro e w' ⟨rfl, hw⟩
  have HB2 := Lib.hid (HB.out.trans (hw.mono HB.out.size))
  go_wp2_with fail
  go_ret
  exact ⟨rfl, HB2.out⟩

set_option maxHeartbeats 2000000 in
theorem markTc_z (x : Int) (W w : World) (s : Value) (ps : List Value) (L : List Et) (ss : List (List Row)) (m : Nat) (mz : Int) (hp : ps.length = L.length) (K : InvF W w (segE s ps L :: ss)) (hz : mz = (m : Int)) (hm : m ≤ 268435456) (hN : mkE L ≤ 8388608) :
    Calls Try.prog 21 #[.agg #[.int .i64 x, s], .int .i64 mz] w (fun e w' => e = .returned (.int .i64 (mz + (mkE L : Int))) ∧ InvF W w' (segE s ps (marksE m L) :: ss)) := by
  obtain ⟨A, c, rfl⟩ := K.openE hp (.head _)
  have HP := Lib.hid hp
  have K1 := K.newG 33 #[.int .i64 x, .slice A L.length c] w.heap.size
  replace K1 := Lib.hid (K1.front 1 rfl)
  have HZ := Lib.hid hz
  have HN := Lib.hid hN
  have hb0 : 0 ≤ mz := by omega
  have hb1 : mz ≤ 268435456 := by omega
  clear K hz hp hN
  go_enter Try.func21, Try.ntmps21
  go_wp2_with fail
  refine (markEntryS_z W _ _ ps L _ m _ HP.out K1.out HZ.out (by omega) (by have := HN.out; omega)).mono ?_
  rintro e w4 ⟨rfl, K4⟩
  have K5 := Lib.hid (K4.sub (qs := segE (.slice A L.length c) ps (marksE m L) :: ss) (.cons_cons _ (.cons _ (List.Sublist.refl _))))
  clear K4 K1
  go_wp2
  go_ret
  exact ⟨rfl, K5.out⟩

end Go.Proofs.Ytickneafppbegaa
