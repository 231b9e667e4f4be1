/- PathIter: PathIter, PathAt. -/
import Derived.Test.YtopbalemfljphaaDoorPut
import Derived.Test.YtopbalemfljphaaDoorMem
import Derived.RangeFuncNested
import Derived.RangeFuncBound
import Derived.RangeFuncCalls
import Derived.RangeFuncLeaves
import Derived.RangeFuncBox
import Derived.Shelf.Abstract
import Derived.Shelf.RegionOpen
import Derived.WalkKit
import Derived.OwnWalkIn
import Derived.TacticsInMore
import Derived.LoopNIn
import Derived.LoopIn
import Derived.Sort.QuietIn

/- The contract of pathParts: its closure hands the parts beside a leaf over, level by level, to any loop body that keeps the two variables of the closure. -/
namespace Go.Proofs.YtopbalemfljphaaDoor
open Go.ChangeShapes Go.WideShapes Go.ChangeAt Go.RowKit Go.Shelf

attribute [local go_sem] Oper.semAt_some

/-- What a round keeps: memory below n₀, and the two variables of the closure. -/
def KpP (n₀ Bi Bn : Nat) (W W' : World) : Prop := Below n₀ W W' ∧ W'.heap[Bi]? = W.heap[Bi]? ∧ W'.heap[Bn]? = W.heap[Bn]?
theorem KpP.refl (n₀ Bi Bn : Nat) (W : World) : KpP n₀ Bi Bn W W := ⟨Below.refl _ _, rfl, rfl⟩
theorem KpP.trans {n₀ Bi Bn : Nat} {A B C : World} (h : KpP n₀ Bi Bn A B) (k : KpP n₀ Bi Bn B C) : KpP n₀ Bi Bn A C := ⟨h.1.trans k.1, k.2.1.trans h.2.1, k.2.2.trans h.2.2⟩

theorem lt_of_nat {a b : Nat} (h : a < b) : (intOf (.int .i64 (a : Int))).toNat < (intOf (.int .i64 (b : Int))).toNat := by
  change (a : Int).toNat < (b : Int).toNat
  omega
theorem half_pow (a s : Nat) : a / 2 ^ s / 2 = a / 2 ^ (s + 1) := by
  rw [Nat.div_div_eq_div_mul, Nat.pow_succ]

set_option maxRecDepth 100000 in
set_option maxHeartbeats 4000000 in
/-- The closure of pathParts, for every loop body that keeps what lay below n₀ and the closure's own variables. -/
theorem parts1_in {n : Nat} (i : Nat) (zs : List (PA n)) (hzs : zs.map (fun x => x.1) = prt i n) (hi : i < n) (hn : n ≤ 1073741824) (m : Nat) (hm : 1 ≤ m) (l Bi Bn n₀ : Nat)
    (J Jx : List (PA n) → World → Prop)
    (hY : ∀ pre x W, J pre W → pre.length < zs.length → YieldAt Fence.wide (m - 1) Tryd.prog l #[.agg #[.int .i64 (x.1.1 : Int), .int .i64 (x.1.2 : Int)]] W fun e W' =>
      (e = .returned (.bool true) ∧ J (pre ++ [x]) W' ∧ KpP n₀ Bi Bn W W') ∨ (e = .returned (.bool false) ∧ Jx (pre ++ [x]) W'))
    (W : World) (hBi : W.cell? ⟨Bi, 0, none⟩ = some (.int .i64 (i : Int))) (hBn : W.cell? ⟨Bn, 0, none⟩ = some (.int .i64 (n : Int))) (h0 : J [] W.drew) :
    CallsIn Fence.wide m Tryd.prog 98 #[.func (.yield l) #[] #[], .pointer (some ⟨Bi, 0, none⟩), .pointer (some ⟨Bn, 0, none⟩)] W fun e W' => (∃ v, e = .returned v) ∧
      ((∃ ys, ys = zs ∧ J ys W') ∨ (∃ pre, True ∧ Jx pre W')) := by
  refine callsIn_of_wp Tryd.func98 rfl trivial ?_ rfl
  simp only [Tryd.ntmps98, List.size_toArray, List.length_cons, List.length_nil, Nat.reduceAdd, Nat.reduceSub, Array.replicate_succ, Array.replicate_zero, List.push_toArray, List.append_toArray, List.nil_append, List.cons_append]
  have HZ := Lib.hid hzs
  have HY := Lib.hid hY
  have HBN := Lib.hid hBn
  have HW : ((n : Int) - 1) = ((n - 1 : Nat) : Int) := by omega
  have HI := Lib.hid hi
  have hb0 : n - 1 < 1073741824 := by omega
  have hi1 : i < 1073741824 := by omega
  obtain ⟨L, hL⟩ : ∃ L, L = n - 1 := ⟨_, rfl⟩
  rw [← hL] at HW hb0
  have HL := Lib.hid hL
  clear hzs hY hi hL
  gi_wp2
  gi_region
  gi_wp2
  gi_loopw [4, 5, 6] (fun a b z wr => ∃ (s a' b' z' : Nat), a = .int .i64 (a' : Int) ∧ b = .int .i64 (b' : Int) ∧ z = .int .i64 (z' : Int) ∧ Hid (a' = i / 2 ^ s ∧ b' = L / 2 ^ s ∧ z' = 2 ^ s) ∧ J (zs.take (cN i n s)) wr ∧ KpP n₀ Bi Bn W wr)
    (fun _ b _ _ => (intOf b).toNat)
  case atStart => exact ⟨0, i, L, 1, rfl, rfl, rfl, Lib.hid ⟨by simp, by simp, rfl⟩, by rw [cN_zero]; exact h0, ⟨(Below.refl _ W).drew, rfl, rfl⟩⟩
  case round =>
    obtain ⟨s, a, b, z, rfl, rfl, rfl, hs, hJs, hkp⟩ := hrel
    have HKP := Lib.hid hkp
    have hbn : wr.cell? ⟨Bn, 0, none⟩ = some (.int .i64 (n : Int)) := (World.cell?_of_block (a := ⟨Bn, 0, none⟩) (w := W) hkp.2.2).trans HBN.out
    clear hkp
    by_cases hb : b = 0
    · have hall := cN_all HI.out HZ.out (s := s) (by rw [← HL.out, ← hb]; exact hs.out.2.1.symm)
      rw [hall] at hJs
      have hb1 : ¬ (0 : Int) < (b : Int) := by omega
      clear hs hall hb
      gi_wp2
      go_end0
      exact ⟨⟨_, rfl⟩, .inl hJs⟩
    · have hzm : z ≤ 536870912 := by
        have h1 := lev_small (s := s) hn (by rw [← HL.out, ← hs.out.2.1]; omega)
        rw [← hs.out.2.2] at h1
        exact h1
      have hz0 : 0 < z := by rw [hs.out.2.2]; exact Nat.two_pow_pos s
      have hba : b < 1073741824 := by
        have := Nat.div_le_self L (2 ^ s)
        rw [← hs.out.2.1] at this
        omega
      have hbz : b * z ≤ L := by
        rw [hs.out.2.1, hs.out.2.2]
        exact Nat.div_mul_le_self _ _
      have haa : a < 1073741824 := by
        have := Nat.div_le_self i (2 ^ s)
        rw [← hs.out.1] at this
        omega
      have hx : bits .xor .i64 (a : Int) 1 = ((x1 a : Nat) : Int) := by
        have := i64_xor a 1 (by omega) (by omega)
        rw [xor_one] at this
        exact this
      have hxa : x1 a ≤ a + 1 := by unfold x1; split <;> omega
      have hd1 : (a : Int) / 2 = ((a / 2 : Nat) : Int) := by omega
      have hd2 : (b : Int) / 2 = ((b / 2 : Nat) : Int) := by omega
      have hz2 : (z : Int) * 2 = ((2 * z : Nat) : Int) := by omega
      have hs' : Hid (a / 2 = i / 2 ^ (s + 1) ∧ b / 2 = L / 2 ^ (s + 1) ∧ 2 * z = 2 ^ (s + 1)) := Lib.hid ⟨by rw [hs.out.1, half_pow], by rw [hs.out.2.1, half_pow], by rw [hs.out.2.2, Nat.pow_succ, Nat.mul_comm]⟩
      have hlt : Hid (b / 2 < b) := Lib.hid (by omega)
      have ha2 : a / 2 < 1073741824 := by omega
      have hb2 : b / 2 < 1073741824 := by omega
      have hz2l : 2 * z ≤ 1073741824 := by omega
      have hb1 : (0 : Int) < (b : Int) := by omega
      generalize a / 2 = a2 at hd1 hs' ha2
      generalize b / 2 = b2 at hd2 hs' hb2 hlt
      generalize 2 * z = z2 at hz2 hs' hz2l
      by_cases hc : x1 a ≤ b
      case neg =>
        have hno := cN_no (i := i) (n := n) (s := s) (by rw [← hs.out.1, ← HL.out, ← hs.out.2.1]; exact hc)
        rw [← hno] at hJs
        have hci : (b : Int) < ((x1 a : Nat) : Int) := by omega
        generalize x1 a = c at hx hxa hci
        clear hs hno hc hb hbz
        have hcc : c < 1073741825 := by omega
        gi_wp2
        refine ⟨fun _ _ => trivial, ?_⟩
        gi_wp2
        go_roundw
        case rel => exact ⟨s + 1, a2, b2, z2, rfl, rfl, rfl, hs', hJs, HKP.out⟩
        case measure => exact lt_of_nat hlt.out
      case pos =>
        obtain ⟨hcl, hcv, htk⟩ := cN_yes (i := i) (n := n) (s := s) HI.out HZ.out (by rw [← hs.out.1, ← HL.out, ← hs.out.2.1]; exact hc)
        have hy1 := HY.out _ (zs[cN i n s]) wr hJs (by rw [List.length_take]; omega)
        rw [← htk, hcv] at hy1
        simp only at hy1
        rw [← hs.out.1, ← hs.out.2.2] at hy1
        generalize x1 a = c at hx hxa hc hy1
        have hp1 : c * z ≤ 1073741824 := Nat.le_trans (Nat.mul_le_mul_right z hc) (by omega)
        have hp2 : (c + 1) * z ≤ 2147483648 := by rw [Nat.add_mul, Nat.one_mul]; omega
        have hq1 : (c : Int) * (z : Int) = ((c * z : Nat) : Int) := (Int.natCast_mul c z).symm
        have hq2 : ((c : Int) + 1) * (z : Int) = (((c + 1) * z : Nat) : Int) := by rw [Int.natCast_mul, Int.natCast_add]; rfl
        have hci : (c : Int) ≤ (b : Int) := by omega
        have hcc : c < 1073741825 := by omega
        generalize c * z = P at hp1 hq1 hy1
        generalize (c + 1) * z = Q at hp2 hq2 hy1
        obtain ⟨E, hE⟩ : ∃ E, min Q n = E := ⟨_, rfl⟩
        rw [hE] at hy1
        clear hs hc hb hbz hcv htk hcl hJs
        by_cases hQ : Q ≤ n
        · obtain rfl : Q = E := by omega
          have hQi : (Q : Int) ≤ (n : Int) := by omega
          clear hE hQ
          obtain ⟨fn, tmps, assign, body, hy, hR⟩ := hy1
          gi_wp2
          refine hR.mono ?_
          rintro e W3 (⟨rfl, hJ3, hk3⟩ | ⟨rfl, hJx3⟩)
          · have HK3 := Lib.hid (HKP.out.trans hk3)
            clear hk3 hR hy
            gi_wp2
            go_roundw
            case rel => exact ⟨s + 1, a2, b2, z2, rfl, rfl, rfl, hs', hJ3, HK3.out⟩
            case measure => exact lt_of_nat hlt.out
          · gi_wp2
            refine bodyPost_ret (results_none rfl _ _ _) rfl ?_
            exact ⟨⟨_, rfl⟩, .inr ⟨_, trivial, hJx3⟩⟩
        · obtain rfl : n = E := by omega
          have hQi : (n : Int) < (Q : Int) := by omega
          clear hE hQ
          obtain ⟨fn, tmps, assign, body, hy, hR⟩ := hy1
          gi_wp2
          refine hR.mono ?_
          rintro e W3 (⟨rfl, hJ3, hk3⟩ | ⟨rfl, hJx3⟩)
          · have HK3 := Lib.hid (HKP.out.trans hk3)
            clear hk3 hR hy
            gi_wp2
            go_roundw
            case rel => exact ⟨s + 1, a2, b2, z2, rfl, rfl, rfl, hs', hJ3, HK3.out⟩
            case measure => exact lt_of_nat hlt.out
          · gi_wp2
            refine bodyPost_ret (results_none rfl _ _ _) rfl ?_
            exact ⟨⟨_, rfl⟩, .inr ⟨_, trivial, hJx3⟩⟩

set_option maxHeartbeats 1000000 in
/-- pathParts(i, n): i and n are boxed; the function value captures the boxes. -/
theorem parts_in (m : Nat) (i n : Int) (w : World) :
    CallsIn Fence.wide m Tryd.prog 83 #[.int .i64 i, .int .i64 n] w fun e w' => e = .returned (.func (.func 98) #[] #[.pointer (some ⟨w.heap.size, 0, none⟩), .pointer (some ⟨w.heap.size + 1, 0, none⟩)]) ∧
      w' = (w.alloc (.cells #[.int .i64 i] 3)).alloc (.cells #[.int .i64 n] 3) := by
  refine callsIn_of_wp Tryd.func83 rfl trivial ?_ rfl
  simp only [Tryd.ntmps83, List.size_toArray, List.length_cons, List.length_nil, Nat.reduceAdd, Nat.reduceSub, Array.replicate_succ, Array.replicate_zero, List.push_toArray, List.append_toArray, List.nil_append, List.cons_append]
  gi_wp2
  go_ret
  exact ⟨rfl, rfl⟩
end Go.Proofs.YtopbalemfljphaaDoor

/- The contract of pathParts' closure by the number of rounds, for a loop body that always goes on: the body is told which part it is handed. -/
namespace Go.Proofs.YtopbalemfljphaaDoor
open Go.ChangeShapes Go.WideShapes Go.ChangeAt Go.RowKit Go.Shelf

attribute [local go_sem] Oper.semAt_some

theorem cN_succ {i n s : Nat} (h : x1 (i / 2 ^ s) ≤ (n - 1) / 2 ^ s) : cN i n (s + 1) = cN i n s + 1 := by
  unfold cN
  simp only [upN, lev]
  rw [if_pos h, List.length_append]
  rfl
theorem cN_end {i n s : Nat} (hi : i < n) {zs : List (PA n)} (hz : zs.map (fun x => x.1) = prt i n) (h : (n - 1) / 2 ^ s = 0) : cN i n s = zs.length := by
  have hn : n ≤ 2 ^ s := by
    have hp := Nat.two_pow_pos s
    rcases Nat.div_eq_zero_iff.1 h with h | h
    · omega
    · omega
  rw [zs_len hz]
  unfold cN plenN
  rw [prt_of hi hn]

set_option maxRecDepth 100000 in
set_option maxHeartbeats 4000000 in
/-- The closure of pathParts, for every loop body that goes on and keeps what lay below n₀ and the closure's own variables; J k: k rounds are over. -/
theorem parts1_at {n : Nat} (i : Nat) (zs : List (PA n)) (hzs : zs.map (fun x => x.1) = prt i n) (hi : i < n) (hn : n ≤ 1073741824) (m : Nat) (hm : 1 ≤ m) (l Bi Bn n₀ : Nat)
    (J : Nat → World → Prop)
    (hY : ∀ k x W, zs[k]? = some x → J k W → YieldAt Fence.wide (m - 1) Tryd.prog l #[.agg #[.int .i64 (x.1.1 : Int), .int .i64 (x.1.2 : Int)]] W fun e W' =>
      e = .returned (.bool true) ∧ J (k + 1) W' ∧ KpP n₀ Bi Bn W W')
    (W : World) (hBi : W.cell? ⟨Bi, 0, none⟩ = some (.int .i64 (i : Int))) (hBn : W.cell? ⟨Bn, 0, none⟩ = some (.int .i64 (n : Int))) (h0 : J 0 W.drew) :
    CallsIn Fence.wide m Tryd.prog 98 #[.func (.yield l) #[] #[], .pointer (some ⟨Bi, 0, none⟩), .pointer (some ⟨Bn, 0, none⟩)] W fun e W' => (∃ v, e = .returned v) ∧ J zs.length W' := by
  refine callsIn_of_wp Tryd.func98 rfl trivial ?_ rfl
  simp only [Tryd.ntmps98, List.size_toArray, List.length_cons, List.length_nil, Nat.reduceAdd, Nat.reduceSub, Array.replicate_succ, Array.replicate_zero, List.push_toArray, List.append_toArray, List.nil_append, List.cons_append]
  have HZ := Lib.hid hzs
  have HY := Lib.hid hY
  have HBN := Lib.hid hBn
  have HW : ((n : Int) - 1) = ((n - 1 : Nat) : Int) := by omega
  have HI := Lib.hid hi
  have hb0 : n - 1 < 1073741824 := by omega
  have hi1 : i < 1073741824 := by omega
  obtain ⟨L, hL⟩ : ∃ L, L = n - 1 := ⟨_, rfl⟩
  rw [← hL] at HW hb0
  have HL := Lib.hid hL
  clear hzs hY hi hL
  gi_wp2
  gi_region
  gi_wp2
  gi_loopw [4, 5, 6] (fun a b z wr => ∃ (s a' b' z' : Nat), a = .int .i64 (a' : Int) ∧ b = .int .i64 (b' : Int) ∧ z = .int .i64 (z' : Int) ∧ Hid (a' = i / 2 ^ s ∧ b' = L / 2 ^ s ∧ z' = 2 ^ s) ∧ J (cN i n s) wr ∧ KpP n₀ Bi Bn W wr)
    (fun _ b _ _ => (intOf b).toNat)
  case atStart => exact ⟨0, i, L, 1, rfl, rfl, rfl, Lib.hid ⟨by simp, by simp, rfl⟩, h0, ⟨(Below.refl _ W).drew, rfl, rfl⟩⟩
  case round =>
    obtain ⟨s, a, b, z, rfl, rfl, rfl, hs, hJs, hkp⟩ := hrel
    have HKP := Lib.hid hkp
    have hbn : wr.cell? ⟨Bn, 0, none⟩ = some (.int .i64 (n : Int)) := (World.cell?_of_block (a := ⟨Bn, 0, none⟩) (w := W) hkp.2.2).trans HBN.out
    clear hkp
    by_cases hb : b = 0
    · have hall := cN_end HI.out HZ.out (s := s) (by rw [← HL.out, ← hb]; exact hs.out.2.1.symm)
      rw [hall] at hJs
      have hb1 : ¬ (0 : Int) < (b : Int) := by omega
      clear hs hall hb
      gi_wp2
      go_end0
      exact ⟨⟨_, rfl⟩, hJs⟩
    · have hzm : z ≤ 536870912 := by
        have h1 := lev_small (s := s) hn (by rw [← HL.out, ← hs.out.2.1]; omega)
        rw [← hs.out.2.2] at h1
        exact h1
      have hz0 : 0 < z := by rw [hs.out.2.2]; exact Nat.two_pow_pos s
      have hba : b < 1073741824 := by
        have := Nat.div_le_self L (2 ^ s)
        rw [← hs.out.2.1] at this
        omega
      have hbz : b * z ≤ L := by
        rw [hs.out.2.1, hs.out.2.2]
        exact Nat.div_mul_le_self _ _
      have haa : a < 1073741824 := by
        have := Nat.div_le_self i (2 ^ s)
        rw [← hs.out.1] at this
        omega
      have hx : bits .xor .i64 (a : Int) 1 = ((x1 a : Nat) : Int) := by
        have := i64_xor a 1 (by omega) (by omega)
        rw [xor_one] at this
        exact this
      have hxa : x1 a ≤ a + 1 := by unfold x1; split <;> omega
      have hd1 : (a : Int) / 2 = ((a / 2 : Nat) : Int) := by omega
      have hd2 : (b : Int) / 2 = ((b / 2 : Nat) : Int) := by omega
      have hz2 : (z : Int) * 2 = ((2 * z : Nat) : Int) := by omega
      have hs' : Hid (a / 2 = i / 2 ^ (s + 1) ∧ b / 2 = L / 2 ^ (s + 1) ∧ 2 * z = 2 ^ (s + 1)) := Lib.hid ⟨by rw [hs.out.1, half_pow], by rw [hs.out.2.1, half_pow], by rw [hs.out.2.2, Nat.pow_succ, Nat.mul_comm]⟩
      have hlt : Hid (b / 2 < b) := Lib.hid (by omega)
      have ha2 : a / 2 < 1073741824 := by omega
      have hb2 : b / 2 < 1073741824 := by omega
      have hz2l : 2 * z ≤ 1073741824 := by omega
      have hb1 : (0 : Int) < (b : Int) := by omega
      generalize a / 2 = a2 at hd1 hs' ha2
      generalize b / 2 = b2 at hd2 hs' hb2 hlt
      generalize 2 * z = z2 at hz2 hs' hz2l
      by_cases hc : x1 a ≤ b
      case neg =>
        have hno := cN_no (i := i) (n := n) (s := s) (by rw [← hs.out.1, ← HL.out, ← hs.out.2.1]; exact hc)
        rw [← hno] at hJs
        have hci : (b : Int) < ((x1 a : Nat) : Int) := by omega
        generalize x1 a = c at hx hxa hci
        clear hs hno hc hb hbz
        have hcc : c < 1073741825 := by omega
        gi_wp2
        refine ⟨fun _ _ => trivial, ?_⟩
        gi_wp2
        go_roundw
        case rel => exact ⟨s + 1, a2, b2, z2, rfl, rfl, rfl, hs', hJs, HKP.out⟩
        case measure => exact lt_of_nat hlt.out
      case pos =>
        obtain ⟨hcl, hcv, hcz⟩ := cN_yes (i := i) (n := n) (s := s) HI.out HZ.out (by rw [← hs.out.1, ← HL.out, ← hs.out.2.1]; exact hc)
        have htk := cN_succ (i := i) (n := n) (s := s) (by rw [← hs.out.1, ← HL.out, ← hs.out.2.1]; exact hc)
        have hy1 := HY.out _ (zs[cN i n s]) wr (List.getElem?_eq_getElem hcl) hJs
        rw [← htk, hcv] at hy1
        simp only at hy1
        rw [← hs.out.1, ← hs.out.2.2] at hy1
        generalize x1 a = c at hx hxa hc hy1
        have hp1 : c * z ≤ 1073741824 := Nat.le_trans (Nat.mul_le_mul_right z hc) (by omega)
        have hp2 : (c + 1) * z ≤ 2147483648 := by rw [Nat.add_mul, Nat.one_mul]; omega
        have hq1 : (c : Int) * (z : Int) = ((c * z : Nat) : Int) := (Int.natCast_mul c z).symm
        have hq2 : ((c : Int) + 1) * (z : Int) = (((c + 1) * z : Nat) : Int) := by rw [Int.natCast_mul, Int.natCast_add]; rfl
        have hci : (c : Int) ≤ (b : Int) := by omega
        have hcc : c < 1073741825 := by omega
        generalize c * z = P at hp1 hq1 hy1
        generalize (c + 1) * z = Q at hp2 hq2 hy1
        obtain ⟨E, hE⟩ : ∃ E, min Q n = E := ⟨_, rfl⟩
        rw [hE] at hy1
        clear hs hc hb hbz hcv htk hcz hcl hJs
        by_cases hQ : Q ≤ n
        · obtain rfl : Q = E := by omega
          have hQi : (Q : Int) ≤ (n : Int) := by omega
          clear hE hQ
          obtain ⟨fn, tmps, assign, body, hy, hR⟩ := hy1
          gi_wp2
          refine hR.mono ?_
          rintro e W3 ⟨rfl, hJ3, hk3⟩
          have HK3 := Lib.hid (HKP.out.trans hk3)
          clear hk3 hR hy
          gi_wp2
          go_roundw
          case rel => exact ⟨s + 1, a2, b2, z2, rfl, rfl, rfl, hs', hJ3, HK3.out⟩
          case measure => exact lt_of_nat hlt.out
        · obtain rfl : n = E := by omega
          have hQi : (n : Int) < (Q : Int) := by omega
          clear hE hQ
          obtain ⟨fn, tmps, assign, body, hy, hR⟩ := hy1
          gi_wp2
          refine hR.mono ?_
          rintro e W3 ⟨rfl, hJ3, hk3⟩
          have HK3 := Lib.hid (HKP.out.trans hk3)
          clear hk3 hR hy
          gi_wp2
          go_roundw
          case rel => exact ⟨s + 1, a2, b2, z2, rfl, rfl, rfl, hs', hJ3, HK3.out⟩
          case measure => exact lt_of_nat hlt.out

end Go.Proofs.YtopbalemfljphaaDoor
