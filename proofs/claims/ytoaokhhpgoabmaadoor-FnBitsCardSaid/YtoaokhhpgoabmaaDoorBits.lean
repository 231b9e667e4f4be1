/- The contracts of the small functions on bitmaps: BitsSize, BitsNew, BitsHas and what they call, as the program has them and as their model has them. -/
import Derived.Test.YtoaokhhpgoabmaaDoorPut
import Derived.Test.YtoaokhhpgoabmaaDoorBitMath
namespace Go.Proofs.YtoaokhhpgoabmaaDoor
open Go.ChangeShapes Go.WideShapes Go.ChangeAt Go.RowKit

theorem wfHi {n : Int} (h : (Lit.int .i64 n).wf = true) : n ≤ 9223372036854775807 := by
  simp [Lit.wf, IntKind.min, IntKind.max, IntKind.signed, IntKind.bits] at h
  omega
theorem specBitsSize_any (n : Int) (w : World) (hn : n ≤ 9223372036854775807) :
    Calls Tryd.prog 38 #[.int .i64 n] w fun e w' => e = .returned (.int .i64 (sizeB n)) ∧ w = w' := by
  unfold sizeB
  by_cases h : n < 1
  · rw [if_pos h]
    go_enter Tryd.func38, Tryd.ntmps38
    go_wp2
    go_ret
    exact ⟨rfl, rfl⟩
  · rw [if_neg h]
    go_enter Tryd.func38, Tryd.ntmps38
    go_wp2
    go_ret
    exact ⟨rfl, rfl⟩
theorem implBitsSize_any (n : Int) (w : World) (hn : n ≤ 9223372036854775807) :
    Calls Tryd.prog 18 #[.int .i64 n] w fun e w' => e = .returned (.int .i64 (sizeB n)) ∧ w = w' := by
  unfold sizeB
  by_cases h : n < 1
  · rw [if_pos h]
    go_enter Tryd.func18, Tryd.ntmps18
    go_wp2
    go_ret
    exact ⟨rfl, rfl⟩
  · rw [if_neg h]
    go_enter Tryd.func18, Tryd.ntmps18
    go_wp2
    go_ret
    exact ⟨rfl, rfl⟩
theorem l02Signers_any (n : Int) (w : World) :
    Calls Tryd.prog 36 #[.int .i64 n] w fun e w' => e = .returned (.bool (decide (cntOk n))) ∧ w = w' := by
  by_cases h : cntOk n
  · rw [decide_eq_true h]
    have h1 := h.1
    have h2 := h.2
    clear h
    go_enter Tryd.func36, Tryd.ntmps36
    go_wp2_with fail
    refine (l01In_yes _ _ _ _ h1 h2).mono ?_
    rintro e w' ⟨rfl, rfl⟩
    go_wp2
    go_ret
    exact ⟨rfl, rfl⟩
  · rw [decide_eq_false h]
    have H := Lib.hid h
    clear h
    go_enter Tryd.func36, Tryd.ntmps36
    go_wp2_with fail
    refine (l01In_no _ _ _ _ H.out).mono ?_
    rintro e w' ⟨rfl, rfl⟩
    go_wp2
    go_ret
    exact ⟨rfl, rfl⟩
theorem isSignerCount_any (n : Int) (w : World) :
    Calls Tryd.prog 28 #[.int .i64 n] w fun e w' => e = .returned (.bool (decide (cntOk n))) ∧ w = w' := by
  by_cases h : cntOk n
  · rw [decide_eq_true h]
    have h1 := h.1
    have h2 := h.2
    clear h
    go_enter Tryd.func28, Tryd.ntmps28
    go_wp2
    go_ret
    exact ⟨rfl, rfl⟩
  · rw [decide_eq_false h]
    by_cases h0 : 1 ≤ n
    · have h1 : 10 < n := by unfold cntOk at h; omega
      clear h
      go_enter Tryd.func28, Tryd.ntmps28
      go_wp2
      go_ret
      exact ⟨by simp; omega, rfl⟩
    · have h1 : n < 1 := by omega
      clear h h0
      go_enter Tryd.func28, Tryd.ntmps28
      go_wp2
      go_ret
      exact ⟨rfl, rfl⟩
def isIn (i n : Int) : Bool := decide (0 ≤ i ∧ i < n)
theorem isSigner_any (i n : Int) (w : World) :
    Calls Tryd.prog 29 #[.int .i64 i, .int .i64 n] w fun e w' => e = .returned (.bool (isIn i n)) ∧ w = w' := by
  unfold isIn
  by_cases h0 : 0 ≤ i
  · by_cases h1 : i < n
    · rw [decide_eq_true ⟨h0, h1⟩]
      go_enter Tryd.func29, Tryd.ntmps29
      go_wp2
      go_ret
      exact ⟨rfl, rfl⟩
    · rw [decide_eq_false (fun h => h1 h.2)]
      go_enter Tryd.func29, Tryd.ntmps29
      go_wp2
      go_ret
      exact ⟨rfl, rfl⟩
  · rw [decide_eq_false (fun h => h0 h.1)]
    have h1 : i < 0 := by omega
    go_enter Tryd.func29, Tryd.ntmps29
    go_wp2
    go_ret
    exact ⟨rfl, rfl⟩

theorem us_zeros (m : Nat) : us (List.replicate m 0) = List.replicate m (.int .u8 0) := by simp [us]
set_option maxHeartbeats 400000 in
theorem specBitsNew_any (n : Int) (w : World) :
    Calls Tryd.prog 41 #[.int .i64 n] w (Fresh w (newL n)) := by
  obtain ⟨i0, hi, hz0, hz1, hz2⟩ := info_parts u8info
  by_cases h : cntOk n
  · have hs := sizeB_ok h
    have hd := decide_eq_true h
    have hn : n ≤ 9223372036854775807 := by have := h.2; omega
    obtain ⟨m, hm⟩ := Int.eq_ofNat_of_zero_le (show 0 ≤ sizeB n by omega)
    have e : newL n = List.replicate m 0 := by rw [newL, if_pos h, hm, Int.toNat_natCast]
    rw [e]
    have hm2 : m ≤ 2 := by omega
    have hby : i0.bytes * m ≤ 281474976710656 := by rw [hz2]; omega
    have hml : m ≤ maxLen := by unfold maxLen; omega
    clear h e hs
    go_enter Tryd.func41, Tryd.ntmps41
    go_wp2_with fail
    refine (l02Signers_any n _).mono ?_
    rw [hd]
    rintro e w' ⟨rfl, rfl⟩
    go_wp2_with fail
    refine (specBitsSize_any n _ hn).mono ?_
    rw [hm]
    rintro e w' ⟨rfl, rfl⟩
    go_wp2_with (at_make; refine wpList_make_full _ rfl _ _ _ rfl w.heap.size 5 i0 (.int .u8 0) 1 Tryd.underlying22 hi hz0 hz1 .i64 .i64 _ _ m rfl rfl rfl rfl hby hml (Nat.le_refl _) ?_; intro w1 hown1 hg1)
    go_ret
    refine ⟨_, rfl, ?_, (Below.refl _ _).grown hg1 (Nat.le_refl _) (by simp)⟩
    have e : (madeCells (Value.int .u8 0).cells (m * 1)).toList = List.replicate m (.int .u8 0) := by
      rw [Nat.mul_one]
      exact toList_madeCells_one _ _
    unfold Own
    rw [us_zeros, List.length_replicate, ← e]
    exact hown1
  · have e : newL n = [] := if_neg h
    rw [e]
    have hd := decide_eq_false h
    clear h e
    go_enter Tryd.func41, Tryd.ntmps41
    go_wp2_with fail
    refine (l02Signers_any n _).mono ?_
    rw [hd]
    rintro e w' ⟨rfl, rfl⟩
    go_wp2
    go_ret
    exact ⟨_, rfl, World.ownsRow_nil _ _ _ _, Below.refl _ _⟩
set_option maxHeartbeats 400000 in
theorem implBitsNew_any (n : Int) (w : World) :
    Calls Tryd.prog 19 #[.int .i64 n] w (Fresh w (newL n)) := by
  obtain ⟨i0, hi, hz0, hz1, hz2⟩ := info_parts u8info
  by_cases h : cntOk n
  · have hs := sizeB_ok h
    have hd := decide_eq_true h
    have hn : n ≤ 9223372036854775807 := by have := h.2; omega
    obtain ⟨m, hm⟩ := Int.eq_ofNat_of_zero_le (show 0 ≤ sizeB n by omega)
    have e : newL n = List.replicate m 0 := by rw [newL, if_pos h, hm, Int.toNat_natCast]
    rw [e]
    have hm2 : m ≤ 2 := by omega
    have hby : i0.bytes * m ≤ 281474976710656 := by rw [hz2]; omega
    have hml : m ≤ maxLen := by unfold maxLen; omega
    clear h e hs
    go_enter Tryd.func19, Tryd.ntmps19
    go_wp2_with fail
    refine (isSignerCount_any n _).mono ?_
    rw [hd]
    rintro e w' ⟨rfl, rfl⟩
    go_wp2_with fail
    refine (implBitsSize_any n _ hn).mono ?_
    rw [hm]
    rintro e w' ⟨rfl, rfl⟩
    go_wp2_with (at_make; refine wpList_make_full _ rfl _ _ _ rfl w.heap.size 5 i0 (.int .u8 0) 1 Tryd.underlying22 hi hz0 hz1 .i64 .i64 _ _ m rfl rfl rfl rfl hby hml (Nat.le_refl _) ?_; intro w1 hown1 hg1)
    go_ret
    refine ⟨_, rfl, ?_, (Below.refl _ _).grown hg1 (Nat.le_refl _) (by simp)⟩
    have e : (madeCells (Value.int .u8 0).cells (m * 1)).toList = List.replicate m (.int .u8 0) := by
      rw [Nat.mul_one]
      exact toList_madeCells_one _ _
    unfold Own
    rw [us_zeros, List.length_replicate, ← e]
    exact hown1
  · have e : newL n = [] := if_neg h
    rw [e]
    have hd := decide_eq_false h
    clear h e
    go_enter Tryd.func19, Tryd.ntmps19
    go_wp2_with fail
    refine (isSignerCount_any n _).mono ?_
    rw [hd]
    rintro e w' ⟨rfl, rfl⟩
    go_wp2
    go_ret
    exact ⟨_, rfl, World.ownsRow_nil _ _ _ _, Below.refl _ _⟩
end Go.Proofs.YtoaokhhpgoabmaaDoor
