/- The contracts of GetFix: as the program has it (readFix, codeOf) and as its model has it. -/
import Derived.Test.YtahfklghnbpadaaDoorRaw
import Derived.Test.YtahfklghnbpadaaDoorFix
namespace Go.Proofs.YtahfklghnbpadaaDoor
open Go.ChangeShapes Go.WideShapes Go.ChangeAt Go.RowKit

/-- Three numbers; nothing that was there has turned. -/
def F3 (w : World) (r : Int × Int × Int) (e : Ending) (w' : World) : Prop := e = .returned (.tuple #[.int .i64 r.1, .int .i64 r.2.1, .int .i64 r.2.2]) ∧ Below w.heap.size w w'
/-- The number in m bytes from place a + i on, the lowest first. -/
def fv (l : List UInt8) (a : Nat) : Nat → Nat → Nat
  | _, 0 => 0
  | i, m + 1 => (bt l (a + i)).toNat + 256 * fv l a (i + 1) m
theorem fv_lt (l : List UInt8) (a : Nat) : ∀ m i, fv l a i m < 256 ^ m := by
  intro m
  induction m with
  | zero => intro i; simp [fv]
  | succ m ih =>
    intro i
    have h1 := ih (i + 1)
    have h2 := bt_hi l (a + i)
    rw [fv, Nat.pow_succ]
    omega
theorem pow256 (m : Nat) (h : m ≤ 6) : 256 ^ m ≤ 281474976710656 := by
  have := Nat.pow_le_pow_right (n := 256) (by omega) h
  omega
/-- What GetFix answers. -/
def getF (l : List UInt8) (a k : Int) : Int × Int × Int :=
  if ¬ (1 ≤ k ∧ k ≤ 7) then (0, 0, 5) else if ¬ rawOk l a k then (0, 0, 1) else ((fv l a.toNat 0 k.toNat : Int), a + k, 0)
theorem getF_width {l : List UInt8} {a k : Int} (h : ¬ (1 ≤ k ∧ k ≤ 7)) : getF l a k = (0, 0, 5) := if_pos h
theorem getF_short {l : List UInt8} {a k : Int} (h : 1 ≤ k ∧ k ≤ 7) (h' : ¬ rawOk l a k) : getF l a k = (0, 0, 1) := by rw [getF, if_neg (by simpa using h), if_pos h']
theorem getF_ok {l : List UInt8} {a k : Nat} (h : 1 ≤ (k : Int) ∧ (k : Int) ≤ 7) (h' : rawOk l a k) : getF l a k = ((fv l a 0 k : Int), (a : Int) + (k : Int), 0) := by
  rw [getF, if_neg (by simpa using h), if_neg (by simpa using h'), Int.toNat_natCast, Int.toNat_natCast]

set_option maxRecDepth 100000 in
set_option maxHeartbeats 1000000 in
theorem specGetFix_ok (v : Value) (l : List UInt8) (a k : Nat) (w : World) (h : Sl w w.heap.size v l) (hl : l.length ≤ 4294967296) (hk0 : 1 ≤ k) (hk1 : k ≤ 7) (hak : a + k ≤ l.length) :
    Calls Tryd.prog 27 #[v, .int .i64 (a : Int), .int .i64 (k : Int)] w (F3 w ((fv l a 0 k : Int), (a : Int) + (k : Int), 0)) := by
  obtain ⟨A, c, rfl, h1, h2, h0, h3⟩ := h
  unfold maxLen at h2
  clear h0
  obtain ⟨b, off, rfl, hbb, hcell⟩ := h3 (by omega)
  clear h3
  obtain ⟨R, hR⟩ : ∃ R, R = fv l a 0 k := ⟨_, rfl⟩
  rw [← hR]
  have HR := Lib.hid hR
  clear hR
  have hb1 : decide ((a : Int) < 0) = false := by simp
  have hb2 : ¬ ((l.length : Int) - (k : Int) < (a : Int)) := by omega
  have Hcell := Lib.hid hcell
  clear hcell
  go_enter Tryd.func27, Tryd.ntmps27
  go_wp2_with (go_at_call 49; refine (l01In_yes _ _ _ _ (by omega) (by omega)).mono ?_; rintro e w' ⟨rfl, rfl⟩)
  go_loop [9, 10] (fun n i => ∃ (nn j : Nat), n = .int .i64 nn ∧ i = .int .i64 ((j : Int) - 1) ∧ j ≤ k ∧ nn = fv l a j (k - j)) (fun _ i => (intOf i + 1).toNat)
  case atStart => exact ⟨0, k, rfl, rfl, Nat.le_refl _, by simp [fv]⟩
  case round =>
    obtain ⟨nn, j, rfl, rfl, hj, hnn⟩ := hrel
    by_cases hj0 : 1 ≤ j
    · obtain ⟨m, hm⟩ : ∃ m, j = m + 1 := ⟨j - 1, by omega⟩
      have hc0 := Hcell.out (a + m) (by omega)
      have hlo := bt_lo l (a + m)
      have hhi := bt_hi l (a + m)
      obtain ⟨q, hq⟩ := Int.eq_ofNat_of_zero_le hlo
      have hstep : fv l a m (k - m) = q + 256 * nn := by
        rw [show k - m = (k - (m + 1)) + 1 by omega, fv, hq, Int.toNat_natCast, hnn, hm]
      have hn2 : nn ≤ 281474976710656 := by
        have h1 := fv_lt l a (k - j) j
        have h2 := pow256 (k - j) (by omega)
        omega
      rw [hq] at hc0 hhi
      have Hs := Lib.hid hstep
      subst hm
      clear hnn hq hlo hstep
      have hcm : w.cell? ⟨b, off + (a + m), none⟩ = some (.int .u8 (q : Int)) := hc0
      have e1 : ((((m + 1 : Nat) : Int)) - 1) = (m : Int) := by omega
      simp only [e1] at *
      clear e1
      go_wp2
      go_round
      case rel => exact ⟨q + 256 * nn, m, by go_num, by go_num, by omega, Hs.out.symm⟩
      case measure => first | (simp [intOf]; done) | (simp [intOf]; omega)
    · obtain rfl : j = 0 := by omega
      have Hn := Lib.hid hnn
      clear hnn
      go_wp2
      go_ret3
      exact ⟨by rw [HR.out, Hn.out]; rfl, Below.refl _ _⟩

theorem specGetFix_any (v : Value) (l : List UInt8) (a k : Int) (w : World) (h : Sp w w.heap.size v l) (hl : l.length ≤ 4294967296) :
    Calls Tryd.prog 27 #[v, .int .i64 a, .int .i64 k] w (F3 w (getF l a k)) := by
  by_cases hk : 1 ≤ k ∧ k ≤ 7
  · by_cases hok : rawOk l a k
    · obtain ⟨a, rfl⟩ := Int.eq_ofNat_of_zero_le hok.1
      obtain ⟨k, rfl⟩ := Int.eq_ofNat_of_zero_le hok.2.1
      rw [getF_ok hk hok]
      exact specGetFix_ok v l a k w h.sl hl (by omega) (by omega) (by have := hok.2.2; omega)
    · rw [getF_short hk hok]
      obtain ⟨A, c, rfl, h1, h2, h0, h3⟩ := h.sl
      unfold maxLen at h2
      clear h0 h3 h
      obtain ⟨hk0, hk1⟩ := hk
      have hcase : a < 0 ∨ (0 ≤ a ∧ (l.length : Int) - k < a) := by unfold rawOk at hok; omega
      clear hok
      rcases hcase with e1 | ⟨e1, e2⟩
      all_goals
        go_enter Tryd.func27, Tryd.ntmps27
        go_wp2_with (go_at_call 49; refine (l01In_yes _ _ _ _ hk0 hk1).mono ?_; rintro e w' ⟨rfl, rfl⟩)
        go_ret3
        exact ⟨rfl, Below.refl _ _⟩
  · rw [getF_width hk]
    have Hk := Lib.hid hk
    clear hk h
    go_enter Tryd.func27, Tryd.ntmps27
    go_wp2_with (go_at_call 49; refine (l01In_no _ _ _ _ Hk.out).mono ?_; rintro e w' ⟨rfl, rfl⟩)
    go_ret3
    exact ⟨rfl, Below.refl _ _⟩

/-- Two numbers and the error that has the code of the third. -/
def F3e (w : World) (r : Int × Int × Int) (e : Ending) (w' : World) : Prop := e = .returned (.tuple #[.int .i64 r.1, .int .i64 r.2.1, errV r.2.2]) ∧ Below w.heap.size w w'

set_option maxRecDepth 100000 in
set_option maxHeartbeats 1000000 in
theorem readFix_ok (v : Value) (l : List UInt8) (a k : Nat) (w : World) (h : Sp w w.heap.size v l) (hl : l.length ≤ 4294967296) (hk0 : 1 ≤ k) (hk1 : k ≤ 7) (hak : a + k ≤ l.length) :
    Calls Tryd.prog 42 #[v, .int .i64 (a : Int), .int .i64 (k : Int)] w (F3e w ((fv l a 0 k : Int), (a : Int) + (k : Int), 0)) := by
  obtain ⟨R, hR⟩ : ∃ R, R = fv l a 0 k := ⟨_, rfl⟩
  rw [← hR]
  have HR := Lib.hid hR
  clear hR
  have hRlt : R ≤ 72057594037927936 := by
    rw [HR.out]
    have h1 := fv_lt l a k 0
    have h2 := Nat.pow_le_pow_right (n := 256) (by omega) hk1
    omega
  obtain ⟨L, hL⟩ : ∃ L, L = (l.drop a).take k := ⟨_, rfl⟩
  have hLl : L.length = k := by rw [hL]; simp; omega
  have hLb : ∀ j, j < k → bt L j = bt l (a + j) := fun j hj => by rw [hL, bt_take _ _ _ hj, bt_drop]
  have HLl := Lib.hid hLl
  have HLb := Lib.hid hLb
  have HL := Lib.hid hL
  clear hL hLl hLb
  go_enter Tryd.func42, Tryd.ntmps42
  go_wp2_with fail
  refine (isFixWidth_yes _ _ (by omega) (by omega)).mono ?_
  rintro e w' ⟨rfl, rfl⟩
  go_wp2_with fail
  refine (readRaw_yes _ l a k _ h hl hak).mono ?_
  rw [← HL.out]
  rintro e w1 ⟨v1, rfl, hown1, hb1⟩
  obtain ⟨A, c, rfl, h1, h2, h0, h3⟩ := hown1.sl
  clear hown1 h0
  rw [HLl.out] at h1 h3 ⊢
  unfold maxLen at h2
  obtain ⟨b, off, rfl, hbb, hcell⟩ := h3 (by omega)
  have Hcell := Lib.hid hcell
  clear h3 hcell
  go_wp2
  go_loop [12, 33] (fun n i => ∃ (nn j : Nat), n = .int .i64 nn ∧ i = .int .i64 j ∧ j ≤ k ∧ nn + 256 ^ j * fv l a j (k - j) = R) (fun _ i => (k - (intOf i).toNat))
  case atStart => exact ⟨0, 0, rfl, rfl, Nat.zero_le _, by rw [HR.out]; simp⟩
  case round =>
    obtain ⟨nn, j, rfl, rfl, hj, hnn⟩ := hrel
    have hn2 : nn ≤ R := by omega
    by_cases hjk : j < k
    · have hc0 := Hcell.out j hjk
      rw [HLb.out j hjk] at hc0
      have hlo := bt_lo l (a + j)
      have hhi := bt_hi l (a + j)
      obtain ⟨q, hq⟩ := Int.eq_ofNat_of_zero_le hlo
      rw [hq] at hc0 hhi
      obtain ⟨M, hM⟩ : ∃ M, M = q * 256 ^ j := ⟨_, rfl⟩
      have hstep : nn + M + 256 ^ (j + 1) * fv l a (j + 1) (k - (j + 1)) = R := by
        rw [← hnn, show k - j = (k - (j + 1)) + 1 by omega, fv, hq, Int.toNat_natCast, hM, Nat.pow_succ, Nat.mul_add, Nat.mul_comm q, Nat.mul_assoc, Nat.add_assoc]
      have hM2 : nn + M ≤ R := by omega
      have Hs := Lib.hid hstep
      have Hq := Lib.hid hq
      have HM := Lib.hid hM
      clear hstep hq hM hnn hlo
      have hsh : wrap64 ((nn : Int) + wrap64 ((q : Int) * 2 ^ (8 * j))) = ((nn + M : Nat) : Int) := by
        have e2 : (2 : Int) ^ (8 * j) = ((256 ^ j : Nat) : Int) := by
          rw [show (256 : Nat) = 2 ^ 8 from rfl, ← Nat.pow_mul]
          simp
        have e : (q : Int) * 2 ^ (8 * j) = (M : Int) := by rw [e2, HM.out]; simp
        rw [e, IntWalk.wrap64_in (M : Int) ⟨by omega, by omega⟩, IntWalk.wrap64_in _ ⟨by omega, by omega⟩]
        simp
      have Hsh := Lib.hid hsh
      clear hsh
      go_wp2
      go_round
      case rel => exact ⟨nn + M, j + 1, congrArg _ Hsh.out, by go_num, by omega, Hs.out⟩
      case measure => first | (simp [intOf]; done) | (simp [intOf]; omega)
    · obtain rfl : j = k := by omega
      have Hn := Lib.hid hnn
      clear hnn
      go_wp2
      go_ret3
      have e : nn = R := by have := Hn.out; simp [fv] at this; exact this
      exact ⟨by rw [e]; rfl, hb1⟩

set_option maxRecDepth 100000 in
set_option maxHeartbeats 1000000 in
theorem readFix_any (v : Value) (l : List UInt8) (a k : Int) (w : World) (h : Sp w w.heap.size v l) (hl : l.length ≤ 4294967296) (hwa : a ≤ 9223372036854775807) :
    Calls Tryd.prog 42 #[v, .int .i64 a, .int .i64 k] w (F3e w (getF l a k)) := by
  by_cases hk : 1 ≤ k ∧ k ≤ 7
  · by_cases hok : rawOk l a k
    · obtain ⟨a, rfl⟩ := Int.eq_ofNat_of_zero_le hok.1
      obtain ⟨k, rfl⟩ := Int.eq_ofNat_of_zero_le hok.2.1
      rw [getF_ok hk hok]
      exact readFix_ok v l a k w h hl (by omega) (by omega) (by have := hok.2.2; omega)
    · rw [getF_short hk hok]
      obtain ⟨hk0, hk1⟩ := hk
      have Hok := Lib.hid hok
      clear hok
      have hs := h.sl
      clear h
      go_enter Tryd.func42, Tryd.ntmps42
      go_wp2_with fail
      refine (isFixWidth_yes _ _ hk0 hk1).mono ?_
      rintro e w' ⟨rfl, rfl⟩
      go_wp2_with fail
      refine (readRaw_no _ l a k _ hs hwa Hok.out).mono ?_
      rw [errV_one]
      rintro e w' ⟨rfl, rfl⟩
      go_wp2
      go_ret3
      exact ⟨rfl, Below.refl _ _⟩
  · rw [getF_width hk]
    have Hk := Lib.hid hk
    clear hk h
    go_enter Tryd.func42, Tryd.ntmps42
    go_wp2_with (go_at_call 41; refine (isFixWidth_no _ _ Hk.out).mono ?_; rintro e w' ⟨rfl, rfl⟩)
    go_ret3
    exact ⟨rfl, Below.refl _ _⟩

set_option maxRecDepth 100000 in
theorem implGetFix_any (v : Value) (l : List UInt8) (a k : Int) (w : World) (h : Sp w w.heap.size v l) (hl : l.length ≤ 4294967296) (hwa : a ≤ 9223372036854775807) (hg : ErrT w) :
    Calls Tryd.prog 14 #[v, .int .i64 a, .int .i64 k] w (F3 w (getF l a k)) := by
  go_enter Tryd.func14, Tryd.ntmps14
  go_wp2_with fail
  refine (readFix_any _ l a k _ h hl hwa).mono ?_
  rintro e w1 ⟨rfl, hb1⟩
  go_wp2_with fail
  refine (codeOf_any _ _ (hg.up hb1)).mono ?_
  rintro e w2 ⟨rfl, hb2⟩
  go_wp2
  go_ret3
  exact ⟨rfl, hb1.trans (hb2.mono hb1.size)⟩
end Go.Proofs.YtahfklghnbpadaaDoor
