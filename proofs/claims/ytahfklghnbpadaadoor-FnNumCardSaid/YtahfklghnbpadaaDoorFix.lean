/- The contracts of PutFix: as the program has it and as its model has it. -/
import Derived.Test.YtahfklghnbpadaaDoorPut
namespace Go.Proofs.YtahfklghnbpadaaDoor
open Go.ChangeShapes Go.WideShapes Go.ChangeAt Go.RowKit

theorem wrapTop (k : Int) (h0 : 1 ≤ k) (h1 : k ≤ 7) : wrap64 (2 ^ (8 * k).toNat) = 2 ^ (8 * k).toNat := by
  have := pow56 k h0 h1
  exact IntWalk.wrap64_in _ ⟨by omega, by omega⟩

theorem isFixWidth_yes (n : Int) (w : World) (h0 : 1 ≤ n) (h1 : n ≤ 7) :
    Calls Tryd.prog 41 #[.int .i64 n] w fun e w' => e = .returned (.bool true) ∧ w = w' := by
  go_enter Tryd.func41, Tryd.ntmps41
  go_wp2
  go_ret
  exact ⟨rfl, rfl⟩
theorem isFixWidth_no (n : Int) (w : World) (h : ¬ (1 ≤ n ∧ n ≤ 7)) :
    Calls Tryd.prog 41 #[.int .i64 n] w fun e w' => e = .returned (.bool false) ∧ w = w' := by
  by_cases h0 : 1 ≤ n
  · have h1 : 7 < n := by omega
    clear h
    go_enter Tryd.func41, Tryd.ntmps41
    go_wp2
    go_ret
    exact ⟨by first | (simp; done) | (simp; omega), rfl⟩
  · have h1 : n < 1 := by omega
    clear h h0
    go_enter Tryd.func41, Tryd.ntmps41
    go_wp2
    go_ret
    exact ⟨by first | (simp; done) | (simp; omega), rfl⟩

set_option maxRecDepth 100000 in
set_option maxHeartbeats 400000 in
theorem implPutFix_no (v : Value) (n k : Int) (w : World) (h : ¬ fixOk n k) :
    Calls Tryd.prog 13 #[v, .int .i64 n, .int .i64 k] w (Fresh2 w [] (.bool false)) := by
  by_cases hk : 1 ≤ k ∧ k ≤ 7
  · by_cases hn : n < 0
    · clear h
      obtain ⟨k0, k1⟩ := hk
      go_enter Tryd.func13, Tryd.ntmps13
      go_wp2_with (go_at_call 41; refine (isFixWidth_yes _ _ k0 k1).mono ?_; rintro e w' ⟨rfl, rfl⟩)
      go_ret2
      exact ⟨_, rfl, World.ownsRow_nil _ _ _ _, Below.refl _ _⟩
    · obtain ⟨k0, k1⟩ := hk
      have hge : wrap64 (2 ^ (8 * k).toNat) ≤ n := by
        rw [wrapTop k k0 k1]
        unfold fixOk at h
        omega
      clear h
      go_enter Tryd.func13, Tryd.ntmps13
      go_wp2_with (go_at_call 41; refine (isFixWidth_yes _ _ k0 k1).mono ?_; rintro e w' ⟨rfl, rfl⟩)
      go_ret2
      exact ⟨_, rfl, World.ownsRow_nil _ _ _ _, Below.refl _ _⟩
  · have H := Lib.hid hk
    clear hk h
    go_enter Tryd.func13, Tryd.ntmps13
    go_wp2_with (go_at_call 41; refine (isFixWidth_no _ _ H.out).mono ?_; rintro e w' ⟨rfl, rfl⟩)
    go_ret2
    exact ⟨_, rfl, World.ownsRow_nil _ _ _ _, Below.refl _ _⟩

set_option maxRecDepth 100000 in
set_option maxHeartbeats 400000 in
theorem implPutFix_yes (v : Value) (l : List UInt8) (n : Nat) (k : Int) (w : World) (h : Sl w w.heap.size v l) (hl : l.length ≤ 4294967296) (hok : fixOk n k) :
    Calls Tryd.prog 13 #[v, .int .i64 (n : Int), .int .i64 k] w (Fresh2 w (l ++ fixL n k.toNat) (.bool true)) := by
  obtain ⟨i0, hi, hz0, hz1, hz2⟩ := info_parts u8info
  obtain ⟨k0, k1, n0, n1⟩ := hok
  have hp := pow56 k k0 k1
  have hge : ¬ (wrap64 (2 ^ (8 * k).toNat) ≤ (n : Int)) := by
    rw [wrapTop k k0 k1]
    omega
  have hn : n ≤ 72057594037927936 := by omega
  clear n1 hp n0
  go_enter Tryd.func13, Tryd.ntmps13
  go_wp2_with (go_at_call 41; refine (isFixWidth_yes _ _ k0 k1).mono ?_; rintro e w' ⟨rfl, rfl⟩)
  go_loopw [1, 8, 24] (fun q s i wr => ∃ (m j : Nat), q = .int .i64 m ∧ i = .int .i64 j ∧ (j : Int) ≤ k ∧ m ≤ n ∧ m = n / 256 ^ j ∧ Own 5 wr w.heap.size s (fixL n j) ∧ Below w.heap.size w wr)
    (fun _ _ i _ => (k - intOf i).toNat)
  case atStart => exact ⟨n, 0, rfl, rfl, by simp; omega, Nat.le_refl _, by simp, World.ownsRow_nil _ _ _ _, Below.refl _ _⟩
  case round =>
    obtain ⟨m, j, rfl, rfl, hj, hm, hmq, hown, hbel⟩ := hrel
    have Hm := Lib.hid hmq
    clear hmq
    have hlen : (fixL n j).length ≤ 7 := by simp [fixL_length]; omega
    by_cases hlt : (j : Int) < k
    · have hc : ((UInt8.ofNat (m % 256)).toNat : Int) = ((m : Int) % 256) := by simp
      have Hc := Lib.hid hc
      clear hc
      go_wp2_with (at_builtin; refine wpList_app1 (W := w) rfl _ _ 22 rfl 5 i0 Tryd.underlying22 hi hz0 hz1 hz2 _ (fixL n j) (by rfl) _ (UInt8.ofNat (m % 256)) (Lib.hid Hc.out.symm) rfl hown hbel (by omega) ?_; intro v2 w2 hown2 hb2)
      go_roundw
      case rel => exact ⟨m / 256, j + 1, by go_num, by go_num, by omega, by omega, by rw [Hm.out]; exact div_pow_succ n j, by rw [fixL_succ, ← Hm.out]; exact hown2, hb2⟩
      case measure => simp [intOf]; omega
    · have hjk : k.toNat = j := by omega
      have Hj := Lib.hid hjk
      clear hjk
      go_wp2_with (go_at_call 38; refine (joined_any _ _ l (fixL n j) _ (h.up hbel) hown.sl hl (by omega)).mono ?_; rintro e w3 ⟨v3, rfl, hown3, hb3⟩)
      go_ret2
      exact ⟨v3, rfl, by rw [Hj.out]; exact hown3.mono hbel.size, hbel.trans (hb3.mono hbel.size)⟩

theorem implPutFix_any (v : Value) (l : List UInt8) (n k : Int) (w : World) (h : Sl w w.heap.size v l) (hl : l.length ≤ 4294967296) :
    Calls Tryd.prog 13 #[v, .int .i64 n, .int .i64 k] w (Fresh2 w (putFixL l n k) (.bool (fixB n k))) := by
  by_cases hn : fixOk n k
  · obtain ⟨m, rfl⟩ := Int.eq_ofNat_of_zero_le hn.2.2.1
    rw [putFixL_yes l hn, fixB_yes hn]
    exact implPutFix_yes v l m k w h hl hn
  · rw [putFixL_no l hn, fixB_no hn]
    exact implPutFix_no v n k w hn
end Go.Proofs.YtahfklghnbpadaaDoor
