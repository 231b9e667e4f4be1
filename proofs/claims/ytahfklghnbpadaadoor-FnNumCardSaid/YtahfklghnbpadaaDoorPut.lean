/- The contracts of the functions that write numbers: PutVar, VarSize and what they call, as the program has them and as their model has them. -/
import Derived.Test.YtahfklghnbpadaaDoorBase
import Derived.Test.YtahfklghnbpadaaDoorMath
namespace Go.Proofs.YtahfklghnbpadaaDoor
open Go.ChangeShapes Go.WideShapes Go.ChangeAt Go.RowKit

/-- The call returns a new row that reads as l, and x beside it; nothing that was there has turned. -/
def Fresh2 (w : World) (l : List UInt8) (x : Value) (e : Ending) (w' : World) : Prop :=
  ∃ u, e = .returned (.tuple #[u, x]) ∧ Own 5 w' w.heap.size u l ∧ Below w.heap.size w w'

/-- spec.l01In. -/
theorem l01In_yes (n a b : Int) (w : World) (h0 : a ≤ n) (h1 : n ≤ b) :
    Calls Tryd.prog 49 #[.int .i64 n, .int .i64 a, .int .i64 b] w fun e w' => e = .returned (.bool true) ∧ w = w' := by
  go_enter Tryd.func49, Tryd.ntmps49
  go_wp2
  go_ret
  exact ⟨rfl, rfl⟩
theorem l01In_no (n a b : Int) (w : World) (h : ¬ (a ≤ n ∧ n ≤ b)) :
    Calls Tryd.prog 49 #[.int .i64 n, .int .i64 a, .int .i64 b] w fun e w' => e = .returned (.bool false) ∧ w = w' := by
  by_cases h0 : a ≤ n
  · have h1 : b < n := by omega
    clear h
    go_enter Tryd.func49, Tryd.ntmps49
    go_wp2
    go_ret
    exact ⟨by simp; omega, rfl⟩
  · have h1 : n < a := by omega
    clear h h0
    go_enter Tryd.func49, Tryd.ntmps49
    go_wp2
    go_ret
    exact ⟨rfl, rfl⟩
theorem l01Num_yes (n : Int) (w : World) (h0 : 0 ≤ n) (h1 : n ≤ 1152921504606846975) :
    Calls Tryd.prog 52 #[.int .i64 n] w fun e w' => e = .returned (.bool true) ∧ w = w' := by
  go_enter Tryd.func52, Tryd.ntmps52
  go_wp2_with (go_at_call 49; refine (l01In_yes _ _ _ _ h0 h1).mono ?_; rintro e w' ⟨rfl, rfl⟩)
  go_ret
  exact ⟨rfl, rfl⟩
theorem l01Num_no (n : Int) (w : World) (h : ¬ (0 ≤ n ∧ n ≤ 1152921504606846975)) :
    Calls Tryd.prog 52 #[.int .i64 n] w fun e w' => e = .returned (.bool false) ∧ w = w' := by
  have H := Lib.hid h
  clear h
  go_enter Tryd.func52, Tryd.ntmps52
  go_wp2_with (go_at_call 49; refine (l01In_no _ _ _ _ H.out).mono ?_; rintro e w' ⟨rfl, rfl⟩)
  go_ret
  exact ⟨rfl, rfl⟩
theorem isNum_yes (n : Int) (w : World) (h0 : 0 ≤ n) (h1 : n ≤ 1152921504606846975) :
    Calls Tryd.prog 37 #[.int .i64 n] w fun e w' => e = .returned (.bool true) ∧ w = w' := by
  go_enter Tryd.func37, Tryd.ntmps37
  go_wp2
  go_ret
  exact ⟨rfl, rfl⟩
theorem isNum_no (n : Int) (w : World) (h : ¬ (0 ≤ n ∧ n ≤ 1152921504606846975)) :
    Calls Tryd.prog 37 #[.int .i64 n] w fun e w' => e = .returned (.bool false) ∧ w = w' := by
  by_cases h0 : 0 ≤ n
  · have h1 : 1152921504606846975 < n := by omega
    clear h
    go_enter Tryd.func37, Tryd.ntmps37
    go_wp2
    go_ret
    exact ⟨by simp; omega, rfl⟩
  · have h1 : n < 0 := by omega
    clear h h0
    go_enter Tryd.func37, Tryd.ntmps37
    go_wp2
    go_ret
    exact ⟨rfl, rfl⟩

set_option maxHeartbeats 400000 in
theorem l01Copy_any (v : Value) (l : List UInt8) (w : World) (h : Sl w w.heap.size v l) (hl : l.length ≤ 4294967296) :
    Calls Tryd.prog 50 #[v] w (Fresh w l) := by
  obtain ⟨i0, hi, hz0, hz1, hz2⟩ := info_parts u8info
  have hown : Own 5 (w.alloc (.cells #[] 5)) w.heap.size (.slice (some ⟨w.heap.size, 0, none⟩) 0 0) [] :=
    World.ownsRow_lit w #[] 0 (Nat.le_refl _) (by simp [maxLen]) rfl
  have hb : Below w.heap.size w (w.alloc (.cells #[] 5)) := (Below.refl _ _).alloc (Nat.le_refl _) _
  have hs := h.up hb
  go_enter Tryd.func50, Tryd.ntmps50
  go_wp2_with (at_builtin; refine wpList_appS (W := w) rfl _ _ 22 rfl 5 i0 Tryd.underlying22 hi hz0 hz1 hz2 _ [] rfl _ l rfl hs hown hb (by simp; omega) ?_; intro v1 w1 hown1 hb1)
  go_ret
  exact ⟨v1, rfl, by simpa using hown1, hb1⟩

set_option maxHeartbeats 400000 in
theorem joined_any (v u : Value) (l m : List UInt8) (w : World) (h : Sl w w.heap.size v l) (h' : Sl w w.heap.size u m) (hl : l.length ≤ 4294967296) (hm : m.length ≤ 4294967296) :
    Calls Tryd.prog 38 #[v, u] w (Fresh w (l ++ m)) := by
  obtain ⟨i0, hi, hz0, hz1, hz2⟩ := info_parts u8info
  have k := h
  have k' := h'
  obtain ⟨A, c, rfl, h1, h2, h0, h3⟩ := h
  obtain ⟨A', c', rfl, h1', h2', h0', h3'⟩ := h'
  have hby : i0.bytes * (l.length + m.length) ≤ 281474976710656 := by rw [hz2]; omega
  have hml : l.length + m.length ≤ maxLen := by unfold maxLen; omega
  unfold maxLen at h2 h2'
  clear h0 h0' h3 h3'
  go_enter Tryd.func38, Tryd.ntmps38
  go_wp2_with (first
    | (at_make
       refine wpList_make_own _ rfl _ _ _ rfl w.heap.size 5 i0 (.int .u8 0) 1 Tryd.underlying22 hi hz0 hz1 .i64 .i64 _ (l.length + m.length) rfl rfl (by simp) hby hml (Nat.le_refl _) ?_
       intro w1 hown1 hg1
       have hb1 : Below w.heap.size w w1 := (Below.refl _ _).grown hg1 (Nat.le_refl _) (by simp)
       have ks := k.up hb1
       have tok1 : True := trivial)
    | (at_builtin
       have _t := tok1
       refine wpList_appS (W := w) rfl _ _ 22 rfl 5 i0 Tryd.underlying22 hi hz0 hz1 hz2 _ [] rfl _ l rfl ks hown1 hb1 (by simp; omega) ?_
       intro v2 w2 hown2 hb2
       clear tok1
       have ks' := k'.up hb2)
    | (at_builtin
       refine wpList_appS (W := w) rfl _ _ 22 rfl 5 i0 Tryd.underlying22 hi hz0 hz1 hz2 _ ([] ++ l) rfl _ m rfl ks' hown2 hb2 (by simp; omega) ?_
       intro v3 w3 hown3 hb3))
  go_ret
  exact ⟨v3, rfl, by simpa using hown3, hb3⟩

set_option maxHeartbeats 400000 in
theorem implPutVar_no (v : Value) (n : Int) (w : World) (h : ¬ (0 ≤ n ∧ n ≤ 1152921504606846975)) :
    Calls Tryd.prog 11 #[v, .int .i64 n] w (Fresh2 w [] (.bool false)) := by
  have H := Lib.hid h
  clear h
  go_enter Tryd.func11, Tryd.ntmps11
  go_wp2_with (go_at_call 37; refine (isNum_no _ _ H.out).mono ?_; rintro e w' ⟨rfl, rfl⟩)
  go_ret2
  exact ⟨_, rfl, World.ownsRow_nil _ _ _ _, Below.refl _ _⟩

set_option maxHeartbeats 400000 in
theorem implPutVar_yes (v : Value) (l : List UInt8) (n : Nat) (w : World) (h : Sl w w.heap.size v l) (hl : l.length ≤ 4294967296) (hn : n ≤ 1152921504606846975) :
    Calls Tryd.prog 11 #[v, .int .i64 (n : Int)] w (Fresh2 w (l ++ varL n) (.bool true)) := by
  obtain ⟨i0, hi, hz0, hz1, hz2⟩ := info_parts u8info
  have hn9 := varL_nine n hn
  go_enter Tryd.func11, Tryd.ntmps11
  go_wp2_with (go_at_call 37; refine (isNum_yes _ _ (by omega) (by omega)).mono ?_; rintro e w' ⟨rfl, rfl⟩)
  go_loopw [1, 6] (fun q s wr => ∃ (m : Nat) (pre : List UInt8), q = .int .i64 m ∧ m ≤ n ∧ pre ++ varL m = varL n ∧ Own 5 wr w.heap.size s pre ∧ Below w.heap.size w wr)
    (fun q _ _ => (intOf q).toNat)
  case atStart => exact ⟨n, [], rfl, Nat.le_refl _, rfl, World.ownsRow_nil _ _ _ _, Below.refl _ _⟩
  case round =>
    obtain ⟨m, pre, rfl, hm, hpre, hown, hbel⟩ := hrel
    have hlen : pre.length + (varL m).length ≤ 9 := by
      have := congrArg List.length hpre
      rw [List.length_append] at this
      omega
    have Hpre := Lib.hid hpre
    clear hpre
    by_cases hlt : m < 128
    · have hc : ((UInt8.ofNat m).toNat : Int) = (m : Int) := by simp; omega
      have Hc := Lib.hid hc
      clear hc
      have h127 : ¬ ((128 : Int) ≤ (m : Int)) := by omega
      go_wp2_with (first
        | (at_builtin
           refine wpList_app1 (W := w) rfl _ _ 22 rfl 5 i0 Tryd.underlying22 hi hz0 hz1 hz2 _ pre (by rfl) _ (UInt8.ofNat m) (Lib.hid Hc.out.symm) rfl hown hbel (by omega) ?_
           intro v2 w2 hown2 hb2)
        | (go_at_call 38
           refine (joined_any _ _ l (pre ++ [UInt8.ofNat m]) _ (h.up hb2) hown2.sl hl (by simp; omega)).mono ?_
           rintro e w3 ⟨v3, rfl, hown3, hb3⟩))
      go_ret2
      refine ⟨v3, rfl, ?_, hb2.trans (hb3.mono hb2.size)⟩
      rw [← Hpre.out, varL_small hlt]
      exact hown3.mono hb2.size
    · have hc : ((UInt8.ofNat (m % 128 + 128)).toNat : Int) = ((m : Int) % 128 + 128) := by simp; omega
      have Hc := Lib.hid hc
      clear hc
      have h127 : (128 : Int) ≤ (m : Int) := by omega
      go_wp2_with (at_builtin; refine wpList_app1 (W := w) rfl _ _ 22 rfl 5 i0 Tryd.underlying22 hi hz0 hz1 hz2 _ pre (by rfl) _ (UInt8.ofNat (m % 128 + 128)) (Lib.hid Hc.out.symm) rfl hown hbel (by omega) ?_; intro v2 w2 hown2 hb2)
      go_roundw
      case rel => exact ⟨m / 128, pre ++ [UInt8.ofNat (m % 128 + 128)], by go_num, by omega, by rw [List.append_assoc, List.singleton_append, ← varL_big (by omega)]; exact Hpre.out, hown2, hb2⟩
      case measure => simp [intOf]; omega

theorem implPutVar_any (v : Value) (l : List UInt8) (n : Int) (w : World) (h : Sl w w.heap.size v l) (hl : l.length ≤ 4294967296) :
    Calls Tryd.prog 11 #[v, .int .i64 n] w (Fresh2 w (putVarL l n) (.bool (isNumB n))) := by
  by_cases hn : 0 ≤ n ∧ n ≤ 1152921504606846975
  · obtain ⟨m, rfl⟩ := Int.eq_ofNat_of_zero_le hn.1
    rw [putVarL_yes l (by omega), isNumB_yes hn.1 hn.2]
    exact implPutVar_yes v l m w h hl (by omega)
  · rw [putVarL_no l hn, isNumB_no hn]
    exact implPutVar_no v n w hn

/-- How many bytes PutVar writes. -/
def sizeV (n : Int) : Nat := (putVarL [] n).length
theorem implVarSize_any (n : Int) (w : World) :
    Calls Tryd.prog 17 #[.int .i64 n] w fun e w' => e = .returned (.int .i64 (sizeV n)) ∧ w = w' := by
  by_cases hn : 0 ≤ n ∧ n ≤ 1152921504606846975
  · obtain ⟨m, rfl⟩ := Int.eq_ofNat_of_zero_le hn.1
    have e : sizeV (m : Int) = (varL m).length := by rw [sizeV, putVarL_yes [] (by omega)]; rfl
    rw [e]
    obtain ⟨h0, h1⟩ := hn
    have h9 := varL_nine m (by omega)
    clear e
    go_enter Tryd.func17, Tryd.ntmps17
    go_wp2_with (go_at_call 37; refine (isNum_yes _ _ h0 h1).mono ?_; rintro e w' ⟨rfl, rfl⟩)
    go_loop [0, 3] (fun q s => ∃ (j k : Nat), q = .int .i64 j ∧ s = .int .i64 k ∧ j ≤ m ∧ k + (varL j).length = (varL m).length + 1) (fun q _ => (intOf q).toNat)
    case atStart => exact ⟨m, 1, rfl, rfl, Nat.le_refl _, by omega⟩
    case round =>
      obtain ⟨j, k, rfl, rfl, hj, hk⟩ := hrel
      have hp := varL_pos j
      have hk9 : k ≤ 9 := by omega
      have Hk := Lib.hid hk
      clear hk
      by_cases hlt : j < 128
      · have h127 : ¬ ((128 : Int) ≤ (j : Int)) := by omega
        go_wp2
        go_ret
        refine ⟨?_, rfl⟩
        have := Hk.out
        rw [varL_small hlt] at this
        simp at this
        simp [this]
      · have h127 : (128 : Int) ≤ (j : Int) := by omega
        go_wp2
        go_round
        case rel => exact ⟨j / 128, k + 1, by go_num, by go_num, by omega, by have := Hk.out; rw [varL_big (by omega)] at this; simp at this; omega⟩
        case measure => simp [intOf]; omega
  · have e : sizeV n = 0 := by rw [sizeV, putVarL_no [] hn]; rfl
    rw [e]
    have H := Lib.hid hn
    clear e hn
    go_enter Tryd.func17, Tryd.ntmps17
    go_wp2_with (go_at_call 37; refine (isNum_no _ _ H.out).mono ?_; rintro e w' ⟨rfl, rfl⟩)
    go_ret
    exact ⟨rfl, rfl⟩
end Go.Proofs.YtahfklghnbpadaaDoor
