/- The contracts of GetVar: as the program has it (readVar, codeOf) and as its model has it. -/
import Derived.Test.YtopbalemfljphaaDoorRaw
import Derived.Test.YtopbalemfljphaaDoorVarMath
namespace Go.Proofs.YtopbalemfljphaaDoor
open Go.ChangeShapes Go.WideShapes Go.ChangeAt Go.RowKit

/-- Three numbers; nothing that was there has turned. -/
def V3 (w : World) (r : Int × Int × Int) (e : Ending) (w' : World) : Prop := e = .returned (.tuple #[.int .i64 r.1, .int .i64 r.2.1, .int .i64 r.2.2]) ∧ Below w.heap.size w w'
/-- Two numbers and the error that has the code of the third. -/
def V3e (w : World) (r : Int × Int × Int) (e : Ending) (w' : World) : Prop := e = .returned (.tuple #[.int .i64 r.1, .int .i64 r.2.1, errV r.2.2]) ∧ w = w'

set_option maxRecDepth 100000 in
set_option maxHeartbeats 4000000 in
theorem specGetVar_at (v : Value) (l : List UInt8) (a : Nat) (w : World) (h : Sl w w.heap.size v l) (hl : l.length ≤ 4294967296) (ha : a ≤ l.length) :
    Calls Tryd.prog 61 #[v, .int .i64 (a : Int)] w (V3 w (gvF l a 9 0 0)) := by
  obtain ⟨A, c, rfl, h1, h2, h0, h3⟩ := h
  unfold maxLen at h2
  clear h0
  obtain ⟨R, hR⟩ : ∃ R, R = gvF l a 9 0 0 := ⟨_, rfl⟩
  rw [← hR]
  have HR := Lib.hid hR
  clear hR
  have hb1 : decide ((a : Int) < 0) = false := by simp
  have hb2 : decide (l.length < a) = false := by simp; omega
  go_enter Tryd.func61, Tryd.ntmps61
  go_wp2
  go_loop [7, 8, 9] (fun n f i => ∃ (nn ff k : Nat), n = .int .i64 nn ∧ f = .int .i64 ff ∧ i = .int .i64 k ∧ k ≤ 9 ∧ nn < 128 ^ k ∧ ff = 128 ^ k ∧ gvF l a (9 - k) k nn = R) (fun _ _ i => (9 - intOf i).toNat)
  case atStart => exact ⟨0, 1, 0, rfl, rfl, rfl, by omega, by simp, by simp, HR.out.symm⟩
  case round =>
    obtain ⟨nn, ff, k, rfl, rfl, rfl, hk, hnn, hff, hg⟩ := hrel
    by_cases hk9 : k < 9
    · obtain ⟨d, hd⟩ : ∃ d, 9 - k = d + 1 := ⟨8 - k, by omega⟩
      have hf1 : ff ≤ 72057594037927936 := by rw [hff]; exact pow128 k (by omega)
      have hf0 : 0 < ff := by rw [hff]; exact pow128_pos k
      rw [hd] at hg
      by_cases hsh : l.length ≤ a + k
      · have hs : (l.length : Int) ≤ (a : Int) + (k : Int) := by omega
        rw [gv_short hsh] at hg
        have Hg := Lib.hid hg
        clear hg hff hd hnn
        go_wp2
        go_ret3
        exact ⟨by rw [← Hg.out]; rfl, Below.refl _ _⟩
      · have hs : (a : Int) + (k : Int) < (l.length : Int) := by omega
        obtain ⟨b, off, rfl, hbb, hcell⟩ := h3 (by omega)
        have hc0 := hcell (a + k) (by omega)
        clear hcell h3
        have hlo := bt_lo l (a + k)
        have hhi := bt_hi l (a + k)
        obtain ⟨q, hq⟩ := Int.eq_ofNat_of_zero_le hlo
        rw [hq] at hc0 hhi
        have hq1 : q ≤ 255 := by omega
        obtain ⟨M, hMd⟩ : ∃ M, M = q % 128 * ff := ⟨_, rfl⟩
        have hM : M ≤ 9151314442816847872 := by rw [hMd]; exact mul_fits q ff hf1
        obtain ⟨N, hNd⟩ : ∃ N, N = nn + M := ⟨_, rfl⟩
        have hnn1 : nn < 72057594037927936 := Nat.lt_of_lt_of_le hnn (pow128 k (by omega))
        have hN2 : N ≤ 9223372036854775807 := by
          rw [hNd]
          exact sum_fits _ _ hnn1 hM
        have hN : wrap64 ((nn : Int) + wrap64 ((q : Int) % 128 * (ff : Int))) = (N : Int) := by
          have e : (q : Int) % 128 * (ff : Int) = (M : Int) := by rw [hMd]; simp
          rw [e, IntWalk.wrap64_in (M : Int) ⟨by omega, by omega⟩, IntWalk.wrap64_in _ ⟨by omega, by omega⟩, hNd]
          simp
        rw [hMd, hff] at hNd
        have hN1 : N < 128 ^ (k + 1) := by rw [hNd]; exact gv_step hnn
        obtain ⟨Z, hZ⟩ : ∃ Z : Int, Z = (N : Int) := ⟨_, rfl⟩
        rw [← hZ] at hN
        have hZ0 : 0 ≤ Z := by omega
        have hZ1 : Z ≤ 9223372036854775807 := by omega
        have HZ := Lib.hid hZ
        have HN := Lib.hid hN
        clear hM hMd hk9
        by_cases hk8 : k < 8
        · have hkb : ((k : Int) == 8) = false := by simp; omega
          by_cases hk0 : 0 < k
          · by_cases hq0 : q = 0
            · obtain rfl := hq0
              rw [gv_bad (by omega) hq (by omega)] at hg
              have Hg := Lib.hid hg
              clear hg hff hd hq hlo hN1 hNd hnn hZ hN2
              go_wp2
              go_ret3
              exact ⟨by rw [← Hg.out]; first | rfl | simp, Below.refl _ _⟩
            · have hqb : ((q : Int) == 0) = false := by simp; omega
              by_cases hsm : q < 128
              · by_cases hbg : 1152921504606846975 < N
                · have hbz : 1152921504606846975 < Z := by omega
                  rw [gv_big (by omega) hq (by omega) hsm (by rw [← hNd]; exact hbg)] at hg
                  have Hg := Lib.hid hg
                  clear hg hff hd hq hlo hN1 hNd hnn hZ hN2 hbg
                  go_wp2
                  go_ret3
                  exact ⟨by rw [← Hg.out]; first | rfl | simp, Below.refl _ _⟩
                · have hbz : Z ≤ 1152921504606846975 := by omega
                  rw [gv_end (by omega) hq (by omega) hsm (by rw [← hNd]; exact hbg), ← hNd, ← hZ] at hg
                  have Hg := Lib.hid hg
                  clear hg hff hd hq hlo hN1 hNd hnn hZ hN2 hbg
                  go_wp2
                  go_ret3
                  exact ⟨by rw [← Hg.out]; first | rfl | simp, Below.refl _ _⟩
              · have hf2 : ff ≤ 562949953421312 := by
                  rw [hff]
                  have := Nat.pow_le_pow_right (n := 128) (by omega) (show k ≤ 7 by omega)
                  omega
                rw [gv_more (by omega) hq (by omega) hsm, ← hNd] at hg
                have Hg := Lib.hid hg
                have Hff := Lib.hid hff
                have Hd := Lib.hid hd
                have HN1 := Lib.hid hN1
                clear hg hff hd hq hlo hN1 hNd hnn hZ hN2
                go_wp2
                go_round
                case rel => exact ⟨N, ff * 128, k + 1, by rw [HN.out, HZ.out], by go_num, by go_num, by omega, HN1.out, by rw [Hff.out, Nat.pow_succ], by have e : 9 - (k + 1) = d := (by have := Hd.out; omega); rw [e]; exact Hg.out⟩
                case measure => simp [intOf]; omega
          · by_cases hsm : q < 128
            · by_cases hbg : 1152921504606846975 < N
              · have hbz : 1152921504606846975 < Z := by omega
                rw [gv_big (by omega) hq (by omega) hsm (by rw [← hNd]; exact hbg)] at hg
                have Hg := Lib.hid hg
                clear hg hff hd hq hlo hN1 hNd hnn hZ hN2 hbg
                go_wp2
                go_ret3
                exact ⟨by rw [← Hg.out]; first | rfl | simp, Below.refl _ _⟩
              · have hbz : Z ≤ 1152921504606846975 := by omega
                rw [gv_end (by omega) hq (by omega) hsm (by rw [← hNd]; exact hbg), ← hNd, ← hZ] at hg
                have Hg := Lib.hid hg
                clear hg hff hd hq hlo hN1 hNd hnn hZ hN2 hbg
                go_wp2
                go_ret3
                exact ⟨by rw [← Hg.out]; first | rfl | simp, Below.refl _ _⟩
            · have hf2 : ff ≤ 562949953421312 := by
                rw [hff]
                have := Nat.pow_le_pow_right (n := 128) (by omega) (show k ≤ 7 by omega)
                omega
              rw [gv_more (by omega) hq (by omega) hsm, ← hNd] at hg
              have Hg := Lib.hid hg
              have Hff := Lib.hid hff
              have Hd := Lib.hid hd
              have HN1 := Lib.hid hN1
              clear hg hff hd hq hlo hN1 hNd hnn hZ hN2
              go_wp2
              go_round
              case rel => exact ⟨N, ff * 128, k + 1, by rw [HN.out, HZ.out], by go_num, by go_num, by omega, HN1.out, by rw [Hff.out, Nat.pow_succ], by have e : 9 - (k + 1) = d := (by have := Hd.out; omega); rw [e]; exact Hg.out⟩
              case measure => simp [intOf]; omega
        · obtain rfl : k = 8 := by omega
          by_cases hq0 : q = 0
          · obtain rfl := hq0
            rw [gv_bad (by omega) hq (by omega)] at hg
            have Hg := Lib.hid hg
            clear hg hff hd hq hlo hN1 hNd hnn hZ hN2
            go_wp2
            go_ret3
            exact ⟨by rw [← Hg.out]; first | rfl | simp, Below.refl _ _⟩
          · have hqb : ((q : Int) == 0) = false := by simp; omega
            by_cases hsm : q < 128
            · by_cases hbg : 1152921504606846975 < N
              · have hbz : 1152921504606846975 < Z := by omega
                rw [gv_big (by omega) hq (by omega) hsm (by rw [← hNd]; exact hbg)] at hg
                have Hg := Lib.hid hg
                clear hg hff hd hq hlo hN1 hNd hnn hZ hN2 hbg
                go_wp2
                go_ret3
                exact ⟨by rw [← Hg.out]; first | rfl | simp, Below.refl _ _⟩
              · have hbz : Z ≤ 1152921504606846975 := by omega
                rw [gv_end (by omega) hq (by omega) hsm (by rw [← hNd]; exact hbg), ← hNd, ← hZ] at hg
                have Hg := Lib.hid hg
                clear hg hff hd hq hlo hN1 hNd hnn hZ hN2 hbg
                go_wp2
                go_ret3
                exact ⟨by rw [← Hg.out]; first | rfl | simp, Below.refl _ _⟩
            · rw [gv_bad (by omega) hq (by omega)] at hg
              have Hg := Lib.hid hg
              clear hg hff hd hq hlo hN1 hNd hnn hZ hN2
              go_wp2
              go_ret3
              exact ⟨by rw [← Hg.out]; first | rfl | simp, Below.refl _ _⟩
    · obtain rfl : k = 9 := by omega
      have Hg := Lib.hid hg
      clear hg hff hnn
      go_wp2
      go_ret3
      exact ⟨by rw [← Hg.out]; rfl, Below.refl _ _⟩

set_option maxRecDepth 100000 in
set_option maxHeartbeats 4000000 in
theorem readVar_at (v : Value) (l : List UInt8) (a : Nat) (w : World) (h : Sl w w.heap.size v l) (hl : l.length ≤ 4294967296) (ha : a ≤ l.length) :
    Calls Tryd.prog 80 #[v, .int .i64 (a : Int)] w (V3e w (gvF l a 9 0 0)) := by
  obtain ⟨A, c, rfl, h1, h2, h0, h3⟩ := h
  unfold maxLen at h2
  clear h0
  obtain ⟨R, hR⟩ : ∃ R, R = gvF l a 9 0 0 := ⟨_, rfl⟩
  rw [← hR]
  have HR := Lib.hid hR
  clear hR
  have hb1 : decide ((a : Int) < 0) = false := by simp
  go_enter Tryd.func80, Tryd.ntmps80
  go_wp2
  go_loop [7, 8] (fun n i => ∃ (nn k : Nat), n = .int .i64 nn ∧ i = .int .i64 ((a : Int) + (k : Int)) ∧ k ≤ 8 ∧ a + k ≤ l.length ∧ nn < 128 ^ k ∧ gvF l a (9 - k) k nn = R) (fun _ i => ((l.length : Int) - intOf i).toNat)
  case atStart => exact ⟨0, 0, rfl, by simp, by omega, by omega, by simp, HR.out.symm⟩
  case round =>
    obtain ⟨nn, k, rfl, rfl, hk, hakl, hnn, hg⟩ := hrel
    obtain ⟨d, hd⟩ : ∃ d, 9 - k = d + 1 := ⟨8 - k, by omega⟩
    obtain ⟨ff, hff⟩ : ∃ ff, ff = 128 ^ k := ⟨_, rfl⟩
    have hf1 : ff ≤ 72057594037927936 := by rw [hff]; exact pow128 k hk
    rw [hd] at hg
    by_cases hsh : l.length ≤ a + k
    · have hs : (l.length : Int) ≤ (a : Int) + (k : Int) := by omega
      rw [gv_short hsh] at hg
      have Hg := Lib.hid hg
      clear hg hff hd hnn
      go_wp2
      go_ret3
      exact ⟨by rw [← Hg.out]; rfl, rfl⟩
    · have hs : (a : Int) + (k : Int) < (l.length : Int) := by omega
      obtain ⟨b, off, rfl, hbb, hcell⟩ := h3 (by omega)
      have hc0 := hcell (a + k) (by omega)
      clear hcell h3
      have hlo := bt_lo l (a + k)
      have hhi := bt_hi l (a + k)
      obtain ⟨q, hq⟩ := Int.eq_ofNat_of_zero_le hlo
      rw [hq] at hc0 hhi
      have hq1 : q ≤ 255 := by omega
      obtain ⟨M, hMd⟩ : ∃ M, M = q % 128 * ff := ⟨_, rfl⟩
      have hM : M ≤ 9151314442816847872 := by rw [hMd]; exact mul_fits q ff hf1
      obtain ⟨N, hNd⟩ : ∃ N, N = nn + M := ⟨_, rfl⟩
      have hnn1 : nn < 72057594037927936 := Nat.lt_of_lt_of_le hnn (pow128 k hk)
      have hN2 : N ≤ 9223372036854775807 := by
        rw [hNd]
        exact sum_fits _ _ hnn1 hM
      have hN : wrap64 ((nn : Int) + wrap64 ((q : Int) % 128 * 2 ^ (7 * k))) = (N : Int) := by
        have e2 : (2 : Int) ^ (7 * k) = ((128 ^ k : Nat) : Int) := by
          rw [show (128 : Nat) = 2 ^ 7 from rfl, ← Nat.pow_mul]
          simp
        have e : (q : Int) % 128 * 2 ^ (7 * k) = (M : Int) := by rw [e2, hMd, hff]; simp
        rw [e, IntWalk.wrap64_in (M : Int) ⟨by omega, by omega⟩, IntWalk.wrap64_in _ ⟨by omega, by omega⟩, hNd]
        simp
      rw [hMd, hff] at hNd
      have hN1 : N < 128 ^ (k + 1) := by rw [hNd]; exact gv_step hnn
      obtain ⟨Z, hZ⟩ : ∃ Z : Int, Z = (N : Int) := ⟨_, rfl⟩
      rw [← hZ] at hN
      have hZ0 : 0 ≤ Z := by omega
      have hZ1 : Z ≤ 9223372036854775807 := by omega
      have HZ := Lib.hid hZ
      have HN := Lib.hid hN
      clear hM hMd
      by_cases hk8 : k < 8
      · have hkb : ((k : Int) == 8) = false := by simp; omega
        by_cases hk0 : 0 < k
        · by_cases hq0 : q = 0
          · obtain rfl := hq0
            rw [gv_bad (by omega) hq (by omega)] at hg
            have Hg := Lib.hid hg
            clear hg hd hq hlo hN1 hNd hnn hff hZ hN2
            go_wp2
            go_ret3
            exact ⟨by rw [← Hg.out]; first | rfl | simp, rfl⟩
          · have hqb : ((q : Int) == 0) = false := by simp; omega
            by_cases hsm : q < 128
            · by_cases hbg : 1152921504606846975 < N
              · have hbz : 1152921504606846975 < Z := by omega
                rw [gv_big (by omega) hq (by omega) hsm (by rw [← hNd]; exact hbg)] at hg
                have Hg := Lib.hid hg
                clear hg hd hq hlo hN1 hNd hnn hff hZ hN2 hbg
                go_wp2
                go_ret3
                exact ⟨by rw [← Hg.out]; first | rfl | simp, rfl⟩
              · have hbz : Z ≤ 1152921504606846975 := by omega
                rw [gv_end (by omega) hq (by omega) hsm (by rw [← hNd]; exact hbg), ← hNd, ← hZ] at hg
                have Hg := Lib.hid hg
                clear hg hd hq hlo hN1 hNd hnn hff hZ hN2 hbg
                go_wp2
                go_ret3
                exact ⟨by rw [← Hg.out]; first | rfl | simp, rfl⟩
            · rw [gv_more (by omega) hq (by omega) hsm, ← hNd] at hg
              have Hg := Lib.hid hg
              have Hd := Lib.hid hd
              have HN1 := Lib.hid hN1
              clear hg hd hq hlo hN1 hNd hnn hff hZ hN2
              go_wp2
              go_round
              case rel => exact ⟨N, k + 1, by rw [HN.out, HZ.out], by go_num, by omega, by omega, HN1.out, by have e : 9 - (k + 1) = d := (by have := Hd.out; omega); rw [e]; exact Hg.out⟩
              case measure => first | (simp [intOf]; done) | (simp [intOf]; omega)
        · by_cases hsm : q < 128
          · by_cases hbg : 1152921504606846975 < N
            · have hbz : 1152921504606846975 < Z := by omega
              rw [gv_big (by omega) hq (by omega) hsm (by rw [← hNd]; exact hbg)] at hg
              have Hg := Lib.hid hg
              clear hg hd hq hlo hN1 hNd hnn hff hZ hN2 hbg
              go_wp2
              go_ret3
              exact ⟨by rw [← Hg.out]; first | rfl | simp, rfl⟩
            · have hbz : Z ≤ 1152921504606846975 := by omega
              rw [gv_end (by omega) hq (by omega) hsm (by rw [← hNd]; exact hbg), ← hNd, ← hZ] at hg
              have Hg := Lib.hid hg
              clear hg hd hq hlo hN1 hNd hnn hff hZ hN2 hbg
              go_wp2
              go_ret3
              exact ⟨by rw [← Hg.out]; first | rfl | simp, rfl⟩
          · rw [gv_more (by omega) hq (by omega) hsm, ← hNd] at hg
            have Hg := Lib.hid hg
            have Hd := Lib.hid hd
            have HN1 := Lib.hid hN1
            clear hg hd hq hlo hN1 hNd hnn hff hZ hN2
            go_wp2
            go_round
            case rel => exact ⟨N, k + 1, by rw [HN.out, HZ.out], by go_num, by omega, by omega, HN1.out, by have e : 9 - (k + 1) = d := (by have := Hd.out; omega); rw [e]; exact Hg.out⟩
            case measure => first | (simp [intOf]; done) | (simp [intOf]; omega)
      · obtain rfl : k = 8 := by omega
        have hNz : (N : Int) = (nn : Int) + (q : Int) % 128 * 72057594037927936 := by rw [hNd]; simp
        have HNz := Lib.hid hNz
        clear hN
        by_cases hq0 : q = 0
        · obtain rfl := hq0
          rw [gv_bad (by omega) hq (by omega)] at hg
          have Hg := Lib.hid hg
          clear hg hd hq hlo hN1 hNd hnn hff hZ hN2
          go_wp2
          go_ret3
          exact ⟨by rw [← Hg.out]; first | rfl | simp, rfl⟩
        · have hqb : ((q : Int) == 0) = false := by simp; omega
          by_cases hsm : q < 128
          · by_cases hbg : 1152921504606846975 < N
            · have hbz : (1152921504606846975 : Int) < (nn : Int) + (q : Int) % 128 * 72057594037927936 := by omega
              rw [gv_big (by omega) hq (by omega) hsm (by rw [← hNd]; exact hbg)] at hg
              have Hg := Lib.hid hg
              clear hg hd hq hlo hN1 hNd hnn hff hZ hN2
              go_wp2
              go_ret3
              exact ⟨by rw [← Hg.out]; first | rfl | simp, rfl⟩
            · have hbz : (nn : Int) + (q : Int) % 128 * 72057594037927936 ≤ 1152921504606846975 := by omega
              rw [gv_end (by omega) hq (by omega) hsm (by rw [← hNd]; exact hbg), ← hNd] at hg
              have Hg := Lib.hid hg
              clear hg hd hq hlo hN1 hNd hnn hff hZ hN2
              go_wp2
              go_ret3
              exact ⟨by rw [← Hg.out]; rw [HNz.out]; rfl, rfl⟩
          · rw [gv_bad (by omega) hq (by omega)] at hg
            have Hg := Lib.hid hg
            clear hg hd hq hlo hN1 hNd hnn hff hZ hN2
            go_wp2
            go_ret3
            exact ⟨by rw [← Hg.out]; first | rfl | simp, rfl⟩

theorem specGetVar_any (v : Value) (l : List UInt8) (a : Int) (w : World) (h : Sp w w.heap.size v l) (hl : l.length ≤ 4294967296) :
    Calls Tryd.prog 61 #[v, .int .i64 a] w (V3 w (getV l a)) := by
  by_cases ha : 0 ≤ a ∧ a ≤ (l.length : Int)
  · obtain ⟨a, rfl⟩ := Int.eq_ofNat_of_zero_le ha.1
    rw [getV_at]
    exact specGetVar_at v l a w h.sl hl (by omega)
  · have e : getV l a = (0, 0, 1) := by
      by_cases hn : a < 0
      · exact getV_neg hn
      · obtain ⟨a, rfl⟩ := Int.eq_ofNat_of_zero_le (show 0 ≤ a by omega)
        rw [getV_at]
        exact gv_short (by omega)
    rw [e]
    obtain ⟨A, c, rfl, h1, h2, h0, h3⟩ := h.sl
    unfold maxLen at h2
    clear h0 h3 h e
    have hcase : a < 0 ∨ (0 ≤ a ∧ (l.length : Int) < a) := by omega
    clear ha
    rcases hcase with e1 | ⟨e1, e2⟩
    all_goals
      go_enter Tryd.func61, Tryd.ntmps61
      go_wp2
      go_ret3
      exact ⟨rfl, Below.refl _ _⟩
set_option maxRecDepth 100000 in
theorem readVar_any (v : Value) (l : List UInt8) (a : Int) (w : World) (h : Sp w w.heap.size v l) (hl : l.length ≤ 4294967296) :
    Calls Tryd.prog 80 #[v, .int .i64 a] w (V3e w (getV l a)) := by
  by_cases ha : 0 ≤ a ∧ a ≤ (l.length : Int)
  · obtain ⟨a, rfl⟩ := Int.eq_ofNat_of_zero_le ha.1
    rw [getV_at]
    exact readVar_at v l a w h.sl hl (by omega)
  · have e : getV l a = (0, 0, 1) := by
      by_cases hn : a < 0
      · exact getV_neg hn
      · obtain ⟨a, rfl⟩ := Int.eq_ofNat_of_zero_le (show 0 ≤ a by omega)
        rw [getV_at]
        exact gv_short (by omega)
    rw [e]
    obtain ⟨A, c, rfl, h1, h2, h0, h3⟩ := h.sl
    unfold maxLen at h2
    clear h0 h3 h e
    have hcase : a < 0 ∨ (0 ≤ a ∧ (l.length : Int) < a) := by omega
    clear ha
    rcases hcase with e1 | ⟨e1, e2⟩
    · go_enter Tryd.func80, Tryd.ntmps80
      go_wp2
      go_ret3
      exact ⟨rfl, rfl⟩
    · go_enter Tryd.func80, Tryd.ntmps80
      go_wp2
      refine wp_loop_rounds 1 ?_
      rw [rounds_succ]
      go_wp2
      go_ret3
      exact ⟨rfl, rfl⟩

end Go.Proofs.YtopbalemfljphaaDoor
