/- Timeout certificates: the contracts of the helpers of exact laws on them: szTc, toTc, eqTc, markTc, heldTc. -/
import Derived.Test.YtickneafppbegaaDoorEnt
namespace Go.Proofs.YtickneafppbegaaDoor
open Go.ChangeShapes Go.WideShapes Go.ChangeAt Go.RowKit

/-- What szTc leaves of m. -/
def szTZ (L : List Et) (m : Int) : Int := szESZ L m
theorem szTZ_big {L : List Et} {m : Int} (h : m < (L.length : Int) + (volE L : Int)) : szTZ L m = -1 := szESZ_big h
theorem szTZ_ok {L : List Et} {m : Int} (h : ¬ m < (L.length : Int) + (volE L : Int)) : szTZ L m = m - ((L.length : Int) + (volE L : Int)) := szESZ_ok h
/-- The call returns a timeout certificate of new rows; nothing that was there has turned. -/
def FreshTc (w : World) (x : Int) (L : List Et) (e : Ending) (w' : World) : Prop :=
  ∃ s ps, e = .returned (.agg #[.int .i64 x, s]) ∧ ps.length = L.length ∧ InvF w w' [segE s ps L]
set_option maxHeartbeats 1000000 in
theorem eqTc_any (x : Int) (s s' : Value) (L : List Et) (w : World) (hs : SlE w w.heap.size s L) (hs' : SlE w w.heap.size s' L) :
    Calls Tryd.prog 8 #[.agg #[.int .i64 x, s], .agg #[.int .i64 x, s']] w (Yes w) := by
  obtain ⟨A, c, rfl, p1, p2, p0, p3⟩ := id hs
  clear p1 p2 p0 p3
  obtain ⟨A', c', rfl, p1, p2, p0, p3⟩ := id hs'
  clear p1 p2 p0 p3
  have n0 : (x != x) = false := by simp
  have hB : Below w.heap.size w ((w.alloc (.cells #[.int .i64 x, .slice A L.length c] 27)).alloc (.cells #[.int .i64 x, .slice A' L.length c'] 27)) := ((Below.refl _ w).alloc (Nat.le_refl _) _).alloc (by simp) _
  have HB := Lib.hid hB
  go_enter Tryd.func8, Tryd.ntmps8
  go_wp2_with fail
  refine (eqEntryS_any _ _ L _ (hs.up hB) (hs'.up hB)).mono ?_
  rintro e w' ⟨rfl, hw⟩
  have HB2 := Lib.hid (HB.out.trans (hw.mono HB.out.size))
  go_wp2_with fail
  go_ret
  exact ⟨rfl, HB2.out⟩

set_option maxHeartbeats 2000000 in
theorem markTc_z (x : Int) (W w : World) (s : Value) (ps : List Value) (L : List Et) (ss : List (List Row)) (m : Nat) (mz : Int) (hp : ps.length = L.length) (K : InvF W w (segE s ps L :: ss)) (hz : mz = (m : Int)) (hm : m ≤ 268435456) (hN : mkE L ≤ 8388608) :
    Calls Tryd.prog 11 #[.agg #[.int .i64 x, s], .int .i64 mz] w (fun e w' => e = .returned (.int .i64 (mz + (mkE L : Int))) ∧ InvF W w' (segE s ps (marksE m L) :: ss)) := by
  obtain ⟨A, c, rfl⟩ := K.openE hp (.head _)
  have HP := Lib.hid hp
  have K1 := K.newG 27 #[.int .i64 x, .slice A L.length c] w.heap.size
  replace K1 := Lib.hid (K1.front 1 rfl)
  have HZ := Lib.hid hz
  have HN := Lib.hid hN
  have hb0 : 0 ≤ mz := by omega
  have hb1 : mz ≤ 268435456 := by omega
  clear K hz hp hN
  go_enter Tryd.func11, Tryd.ntmps11
  go_wp2_with fail
  refine (markEntryS_z W _ _ ps L _ m _ HP.out K1.out HZ.out (by omega) (by have := HN.out; omega)).mono ?_
  rintro e w4 ⟨rfl, K4⟩
  have K5 := Lib.hid (K4.sub (qs := segE (.slice A L.length c) ps (marksE m L) :: ss) (.cons_cons _ (.cons _ (List.Sublist.refl _))))
  clear K4 K1
  go_wp2
  go_ret
  exact ⟨rfl, K5.out⟩

set_option maxHeartbeats 2000000 in
theorem heldTc_z (x : Int) (s : Value) (m : Nat) (L : List Et) (mz : Int) (w : World) (hs : SlE w w.heap.size s (marksE m L)) (hz : mz = (m : Int)) (hm : m ≤ 268435456) (hN : mkE L ≤ 8388608) :
    Calls Tryd.prog 12 #[.agg #[.int .i64 x, s], .int .i64 mz] w (fun e w' => e = .returned (.int .i64 (mz + (mkE L : Int))) ∧ Below w.heap.size w w') := by
  obtain ⟨A, c, rfl, p1, p2, p0, p3⟩ := id hs
  clear p1 p2 p0 p3
  have hB : Below w.heap.size w (w.alloc (.cells #[.int .i64 x, .slice A (marksE m L).length c] 27)) := (Below.refl _ w).alloc (Nat.le_refl _) _
  have HZ := Lib.hid hz
  have HN := Lib.hid hN
  have hz1 : ¬ (mz + (mkE L : Int) < 0) := by omega
  have hb0 : 0 ≤ mz := by omega
  have hb1 : mz ≤ 268435456 := by omega
  have HS := Lib.hid (hs.up hB)
  clear hz hN hs
  generalize (marksE m L).length = n at *
  go_enter Tryd.func12, Tryd.ntmps12
  go_wp2_with fail
  refine (heldEntryS_z _ m _ L _ HS.out HZ.out (by omega) (by have := HN.out; omega)).mono ?_
  rintro e _ ⟨rfl, i, rfl⟩
  go_wp2_with fail
  go_ret
  exact ⟨rfl, below_drewN hB i⟩
end Go.Proofs.YtickneafppbegaaDoor
