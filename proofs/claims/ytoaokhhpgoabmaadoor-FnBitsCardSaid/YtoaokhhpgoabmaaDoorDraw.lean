/- A drawn bitmap: l01Once, l02Draw, MakeBits. -/
import Derived.Test.YtoaokhhpgoabmaaDoorCur
import Derived.Test.YtoaokhhpgoabmaaDoorOk
namespace Go.Proofs.YtoaokhhpgoabmaaDoor
open Go.ChangeShapes Go.WideShapes Go.ChangeAt Go.RowKit

theorem l01Once_any (B g : Nat) (l : List UInt8) (n : Int) (w : World) (h : Cur w B g l) (hl : l.length ≤ 4294967296) (hn : 0 < n) (hn' : n ≤ 1073741824) :
    Calls Tryd.prog 42 #[.pointer (some ⟨g, 0, none⟩), .int .i64 n] w fun e w' => ∃ x : Bool, e = .returned (.bool x) ∧ Cur w' B g l ∧ w.grownBy w' (some g) := by
  go_enter Tryd.func42, Tryd.ntmps42
  go_wp2_with fail
  refine (l01Below_any B g l n _ h hl hn hn').mono ?_
  rintro e w1 ⟨x, rfl, hx0, hx1, hC1, hg1⟩
  go_wp2
  go_ret
  exact ⟨_, rfl, hC1, hg1⟩

/-- A bitmap of n signers has been drawn. -/
def DrewBits (w : World) (B g : Nat) (l : List UInt8) (n : Int) (e : Ending) (w' : World) : Prop :=
  ∃ (u : Value) (t : List UInt8), e = .returned u ∧ okP t n ∧ Own 5 w' w.heap.size u t ∧ Cur w' B g l ∧ w.grownBy w' (some g)

set_option maxRecDepth 100000 in
set_option maxHeartbeats 1000000 in
theorem l02Draw_any (B g : Nat) (l : List UInt8) (n : Int) (w : World) (h : Cur w B g l) (hl : l.length ≤ 4294967296) (hn : cntOk n) :
    Calls Tryd.prog 27 #[.pointer (some ⟨g, 0, none⟩), .int .i64 n] w (DrewBits w B g l n) := by
  have hlt0 : g < w.heap.size := h.2.1
  have hBg : B ≤ g := h.1
  have hsz := sizeB_ok hn
  obtain ⟨N, rfl⟩ := Int.eq_ofNat_of_zero_le (show 0 ≤ n by have := hn.1; omega)
  have hN : N ≤ 10 := by have := hn.2; omega
  obtain ⟨m, hm⟩ := Int.eq_ofNat_of_zero_le (show 0 ≤ sizeB (N : Int) by omega)
  have e : newL (N : Int) = List.replicate m 0 := by rw [newL, if_pos hn, hm, Int.toNat_natCast]
  have hNm : N ≤ 8 * m := by omega
  have hm1 : 0 < m := by omega
  have hm2 : m ≤ 2 := by omega
  have E := Lib.hid e
  have HN := Lib.hid hn
  have HM := Lib.hid hm
  clear hsz hn e hm
  go_enter Tryd.func27, Tryd.ntmps27
  go_wp2_with fail
  refine (specBitsNew_any N _).mono ?_
  rw [E.out]
  rintro ev w1 ⟨u, rfl, hown, hb1⟩
  have hC1 : Cur w1 B g l := h.kept (grown_of_below hb1 none) (by simp) (by simp)
  have hgw : w.grownBy w1 (some g) := grown_of_below hb1 _
  rcases hown.2 with ⟨rfl, h0⟩ | ⟨gb, cap, cur, rfl, hgb, hg, hnc, hcm, hs, ht⟩
  · rw [List.length_replicate] at h0
    omega
  · rw [List.length_replicate] at hnc ⊢
    have hown2 : w1.ownsRow w.heap.size 5 1 (.slice (some ⟨gb, 0, none⟩) m cap) m (us (List.replicate m 0)) := by
      have := hown
      unfold Own at this
      rw [List.length_replicate] at this
      exact this
    clear hown hb1 hg hs ht E
    go_wp2
    go_loopw [6] (fun i wr => ∃ (k : Nat) (L : List UInt8), k ≤ N ∧ L.length = m ∧ (∀ j, k ≤ j → bitL L j = false) ∧ i = .int .i64 k ∧ wr.ownsRow w.heap.size 5 1 (.slice (some ⟨gb, 0, none⟩) m cap) m (us L) ∧ Cur wr B g l ∧ w.grownBy wr (some g))
      (fun i _ => N - (intOf i).toNat)
    case atStart => exact ⟨0, List.replicate m 0, Nat.zero_le _, by simp, fun j _ => replicate_bit m j, rfl, hown2, hC1, hgw⟩
    case round =>
      obtain ⟨k, L, hk, hL, hbits, rfl, hown, hC, hgr⟩ := hrel
      have HB := Lib.hid hbits
      clear hbits
      by_cases hlt : k < N
      · have hlt' : (k : Int) < (N : Int) := by omega
        go_wp2_with fail
        refine (l01Once_any B g l 3 _ hC hl (by omega) (by omega)).mono ?_
        rintro ev w2 ⟨x, rfl, hC2, hg2⟩
        have hown3 := World.ownsRow.kept hown hg2 (.inr (by simp [Value.ownBlock]; omega))
        have hgr2 := gtrans hgr hg2
        cases x
        · have hq : k / 8 < m := by omega
          have hc1 := (World.ownsRow.cellAt hown3 (k / 8) (by omega)).trans (us_get L (k / 8) (by omega))
          have hf1 := World.ownsRow.frozenAt hown3 (k / 8)
          have hq' : (k : Int) / 8 < (m : Int) := by omega
          have hst := World.ownsRow.stored hown3 (k / 8) (.int .u8 (bits .or .u8 (bt L (k / 8)) (2 ^ (k % 8) % 256)))
          rw [put1_us] at hst
          have hst1 := Lib.hid hst
          have hC3 := Lib.hid (hC2.kept (gset w2 gb (k / 8) (.int .u8 (bits .or .u8 (bt L (k / 8)) (2 ^ (k % 8) % 256)))) (by intro e; injection e with e; omega) (by intro q e; injection e with e; omega))
          have hgr3 := Lib.hid (gand hgr2 (gset w2 gb (k / 8) (.int .u8 (bits .or .u8 (bt L (k / 8)) (2 ^ (k % 8) % 256)))) (by intro q e; injection e with e; omega))
          clear hst
          go_wp2
          go_region
          all_goals
            go_wp2
            go_roundw
            case rel =>
              refine ⟨k + 1, put1 L k, by omega, by rw [put1_length]; exact hL, fun j hj => ?_, by go_num, hst1.out.1, hC3.out, by first | exact gdrewN hgr3.out 1 | exact hgr3.out⟩
              rw [put1_bit _ _ _ (by omega), if_neg (by omega)]
              exact HB.out j (by omega)
            case measure => simp [intOf]; omega
        · go_wp2
          go_roundw
          case rel => exact ⟨k + 1, L, by omega, hL, fun j hj => HB.out j (by omega), by go_num, hown3, hC2, hgr2⟩
          case measure => simp [intOf]; omega
      · obtain rfl : k = N := by omega
        go_wp2
        go_ret
        refine ⟨_, L, rfl, ⟨HN.out, by rw [HM.out, hL], fun i _ hi => HB.out i (by omega)⟩, ?_, hC, hgr⟩
        unfold Own
        rw [hL]
        exact hown

/-- The call returns a new bitmap of n signers; nothing that was there has turned. -/
def BitsOfN (w : World) (n : Int) (e : Ending) (w' : World) : Prop := ∃ (u : Value) (t : List UInt8), e = .returned u ∧ okP t n ∧ Own 5 w' w.heap.size u t ∧ Below w.heap.size w w'
set_option maxHeartbeats 1000000 in
theorem MakeBits_any (v : Value) (l : List UInt8) (n q : Int) (w : World) (h : Sl w w.heap.size v l) (hl : l.length ≤ 1073741824) (hn : cntOk n) (hq0 : 0 ≤ q) (hq : q ≤ 100) :
    Calls Tryd.prog 6 #[v, .int .i64 n, .int .i64 q] w (BitsOfN w n) := by
  have HN := Lib.hid hn
  clear hn
  go_enter Tryd.func6, Tryd.ntmps6
  go_wp2_with fail
  refine (l01New_any v l _ h hl).mono ?_
  rintro e w1 ⟨g, rfl, hC1, hb1⟩
  have hC := Lib.hid hC1
  obtain ⟨h1, h2, h3, h4, u, i, x, c0, c1, c2, hs, h5, h6⟩ := hC1
  go_wp2_with fail
  refine (l02Draw_any _ g l n _ (hC.out.setH _) (by omega) HN.out).mono ?_
  rintro e w2 ⟨y, t, rfl, ht, hown, hC2, hg2⟩
  have hsz : ∀ z : Int, w.heap.size ≤ (w1.setCell ⟨g, 2, none⟩ (.int .i64 z)).heap.size := fun z => Nat.le_trans hb1.size (gset w1 g 2 (.int .i64 z)).size
  have hb2 : Below w.heap.size w w2 := (hb1.setCell h1 _).grown hg2 (hsz _) (fun k e => by injection e with e; omega)
  go_wp2
  go_ret
  exact ⟨y, t, rfl, ht, hown.mono (hsz _), hb2⟩
end Go.Proofs.YtoaokhhpgoabmaaDoor
