/- The contracts of MacKey, as the program has it and as its model has it. -/
import Derived.Test.YtnlpmhofikoaaaaDoorShaBoth
import Derived.Test.YtnlpmhofikoaaaaDoorMacMath
import Derived.Test.YtnlpmhofikoaaaaDoorMoved
namespace Go.Proofs.YtnlpmhofikoaaaaDoor
open Go.ChangeShapes Go.WideShapes Go.ChangeAt Go.RowKit

theorem copied64 {w : World} {g : Nat} {Z k : List UInt8} (hZ : Z = List.replicate 64 0) (hg : w.heap[g]? = some (.cells (splice (us Z) 0 (us k)).toArray 5 (0, 0))) (h : k.length ≤ 64) :
    Own 5 w g (.slice (some ⟨g, 0, none⟩) 64 64) (fillL k) := by
  subst hZ
  rw [splice_us] at hg
  have := row_is (T := 64) hg (Nat.le_refl _) (by rw [us_length, List.length_append, List.length_replicate]; omega) (by unfold maxLen; omega)
  unfold Own
  rw [fillL_length h]
  exact this

set_option maxRecDepth 100000 in
set_option maxHeartbeats 2000000 in
theorem implMacKey_any (v : Value) (l : List UInt8) (w : World) (h : Sl w w.heap.size v l) (hl : l.length ≤ 1073741824)
    (hI : Glob w 0 initW) (hG : Glob w 1 kk) :
    Calls Tryd.prog 15 #[v] w (Fresh w (keyL l)) := by
  obtain ⟨i0, hi, hz0, hz1, hz2⟩ := info_parts u8info
  have hs := h
  obtain ⟨A, c, rfl, h1, h2, h0, h3⟩ := h
  unfold maxLen at h2
  clear h0 h3
  have hby : i0.bytes * 64 ≤ 281474976710656 := by rw [hz2]; decide
  have hml : 64 ≤ maxLen := by unfold maxLen; omega
  have hsz : (Tryd.prog.info? 5).map (·.size) = some 1 := by rw [hi]; simp [hz1]
  obtain ⟨Z, hZ⟩ : ∃ Z : List UInt8, Z = List.replicate 64 0 := ⟨_, rfl⟩
  have HZ := Lib.hid hZ
  have hZl : (us Z).length = 64 := by rw [us_length, hZ]; simp
  have HZL := Lib.hid hZl
  clear hZ hZl
  by_cases hlt : 64 < l.length
  · have hlti : (64 : Int) < (l.length : Int) := by omega
    have hk : keyL l = fillL (shaL l) := by unfold keyL; rw [shortL_long hlt]
    have hkl := shaL_length l
    rw [hk]
    generalize hKL : shaL l = K at hkl
    have HKL := Lib.hid hKL
    have Hmn : Hid ((us K).length = Nat.min K.length 64) := Lib.hid (by rw [us_length]; exact (Nat.min_eq_left (by omega)).symm)
    have Hft : Hid (0 + (us K).length ≤ (us Z).length) := Lib.hid (by rw [HZL.out, us_length]; omega)
    have Hle : Hid (K.length ≤ 64) := Lib.hid (by omega)
    have Hkl := Lib.hid hkl
    clear hKL hk hkl hlt
    go_enter Tryd.func15, Tryd.ntmps15
    go_wp2_with (first
      | (at_make; refine wpList_make_full _ rfl _ _ _ rfl w.heap.size 5 i0 (.int .u8 0) 1 Tryd.underlying22 hi hz0 hz1 .i64 .i64 _ _ 64 rfl rfl rfl rfl hby hml (Nat.le_refl _) ?_; intro w1 hown1 hg1; have hb1 := (Below.refl w.heap.size w).grown hg1 (Nat.le_refl _) (by simp); have hrow := row_full (row_zero hown1); have hsz1 := (World.ownsRow.lt hown1 w.heap.size (by simp [Value.ownBlock])).2; rw [← HZ.out] at hrow; clear hown1 hg1)
      | (go_at_call 12; refine (implSha_any _ l w1 (hs.up hb1) hl (hI.up hb1) (hG.up hb1)).mono ?_; rw [HKL.out]; rintro e w2 ⟨u2, rfl, hown2, hb2⟩; have hs2 := hown2.sl; have hb2' := hb1.trans (hb2.mono hb1.size); have hrow2 := (hb2.block w.heap.size hsz1).trans hrow; obtain ⟨A2, c2, rfl, k1, k2, k0, k3⟩ := hs2; unfold maxLen at k2; clear k0 k3)
      | (refine wpList_copy_splice rfl _ _ _ _ rfl 5 Tryd.underlying22 hsz _ _ _ _ _ _ (by rfl) (by rfl) w.heap.size 0 (us Z) 5 hrow2 (us K) Hmn.out (src_pos hown2.sl) Hft.out (us_cell K) w.heap.size w hb2' (Nat.le_refl _) ?_; intro w3 hg3 hb3; have ho3 := copied64 HZ.out hg3.out Hle.out; clear hg3))
    go_ret
    exact ⟨_, rfl, ho3, hb3⟩
  · have hlti : ¬ (64 : Int) < (l.length : Int) := by omega
    have hk : keyL l = fillL l := by unfold keyL; rw [shortL_short hlt]
    rw [hk]
    have Hmn : Hid ((us l).length = Nat.min l.length 64) := Lib.hid (by rw [us_length]; exact (Nat.min_eq_left (by omega)).symm)
    have Hft : Hid (0 + (us l).length ≤ (us Z).length) := Lib.hid (by rw [HZL.out, us_length]; omega)
    have Hle : Hid (l.length ≤ 64) := Lib.hid (by omega)
    clear hk hlt
    go_enter Tryd.func15, Tryd.ntmps15
    go_wp2_with (first
      | (at_make; refine wpList_make_full _ rfl _ _ _ rfl w.heap.size 5 i0 (.int .u8 0) 1 Tryd.underlying22 hi hz0 hz1 .i64 .i64 _ _ 64 rfl rfl rfl rfl hby hml (Nat.le_refl _) ?_; intro w1 hown1 hg1; have hb1 := (Below.refl w.heap.size w).grown hg1 (Nat.le_refl _) (by simp); have hrow := row_full (row_zero hown1); rw [← HZ.out] at hrow; have hs1 := Lib.hid (hs.up hb1); clear hown1 hg1)
      | (refine wpList_copy_splice rfl _ _ _ _ rfl 5 Tryd.underlying22 hsz _ _ _ _ _ _ (by rfl) (by rfl) w.heap.size 0 (us Z) 5 hrow (us l) Hmn.out (src_pos hs1.out) Hft.out (us_cell l) w.heap.size w hb1 (Nat.le_refl _) ?_; intro w3 hg3 hb3; have ho3 := copied64 HZ.out hg3.out Hle.out; clear hg3))
    go_ret
    exact ⟨_, rfl, ho3, hb3⟩

theorem fill_more (k : List UInt8) (j : Nat) : k ++ List.replicate j 0 ++ [0] = k ++ List.replicate (j + 1) 0 := by
  rw [List.append_assoc, List.replicate_succ']
set_option maxRecDepth 100000 in
set_option maxHeartbeats 2000000 in
theorem specMacKey_any (v : Value) (l : List UInt8) (w : World) (h : Sl w w.heap.size v l) (hl : l.length ≤ 1073741824) :
    Calls Tryd.prog 16 #[v] w (Fresh w (keyL l)) := by
  obtain ⟨i0, hi, hz0, hz1, hz2⟩ := info_parts u8info
  have hl4 : l.length ≤ 4294967296 := by omega
  by_cases hlt : 64 < l.length
  · have hlti : (64 : Int) < (l.length : Int) := by omega
    have hk : keyL l = fillL (shaL l) := by unfold keyL; rw [shortL_long hlt]
    have hkl := shaL_length l
    rw [hk]
    generalize hKL : shaL l = K at hkl
    have HKL := Lib.hid hKL
    have Hkl := Lib.hid hkl
    clear hKL hk hkl hlt
    go_enter Tryd.func16, Tryd.ntmps16
    go_wp2_with (first
      | (go_at_call 32; refine (l01Copy_any _ l _ h hl4).mono ?_; rintro e w1 ⟨v1, rfl, hown1, hb1⟩; have hs1 := hown1.sl; obtain ⟨A1, c1, rfl, m1, m2, m0, m3⟩ := hs1; unfold maxLen at m2; clear m0 m3)
      | (go_at_call 33; refine (specSha_any _ l _ hown1.sl hl).mono ?_; rw [HKL.out]; rintro e w2 ⟨v2, rfl, hown2, hb2⟩; have hb2' := hb1.trans (hb2.mono hb1.size); have ho2 := hown2.mono hb1.size))
    go_loopw [3] (fun s wr => ∃ j : Nat, j ≤ 32 ∧ slLen s = 32 + j ∧ Own 5 wr w.heap.size s (K ++ List.replicate j 0) ∧ Below w.heap.size w wr)
      (fun s _ => 64 - slLen s)
    case atStart => exact ⟨0, Nat.zero_le _, by rw [slLen_own ho2, Hkl.out], by simpa using ho2, hb2'⟩
    case round =>
      obtain ⟨j, hj, hsl, hown, hbel⟩ := hrel
      have hs4 := hown.sl
      obtain ⟨A3, c3, rfl, k1, k2, k0, k3⟩ := hs4
      unfold maxLen at k2
      have hpl : (K ++ List.replicate j 0).length = 32 + j := by rw [List.length_append, List.length_replicate, Hkl.out]
      rw [hpl] at k1 hsl hown ⊢
      clear k0 k3 hsl
      have hfm := fill_more K j
      generalize hB : K ++ List.replicate j 0 = B at hown hpl hfm
      have HB := Lib.hid hB
      clear hB
      by_cases hlt : j < 32
      · go_wp2_with (at_builtin; refine wpList_app1 (W := w) rfl _ _ 22 rfl 5 i0 Tryd.underlying22 hi hz0 hz1 hz2 _ B (by rfl) _ 0 (Lib.hid rfl) rfl hown hbel (by omega) ?_; intro v4 w4 hown4 hb4)
        have hs4 := slLen_own hown4
        have hpl4 : (B ++ [(0 : UInt8)]).length = 32 + (j + 1) := by rw [List.length_append, hpl]; rfl
        rw [hpl4] at hs4
        rw [hfm] at hown4
        go_roundw
        case rel => exact ⟨j + 1, by omega, hs4, hown4, hb4⟩
        case measure => rw [hs4]; simp [slLen]; omega
      · obtain rfl : j = 32 := by omega
        go_wp2
        go_ret
        exact ⟨_, rfl, by unfold fillL; rw [Hkl.out]; rw [HB.out]; exact hown, hbel⟩
  · have hlti : ¬ (64 : Int) < (l.length : Int) := by omega
    have hk : keyL l = fillL l := by unfold keyL; rw [shortL_short hlt]
    rw [hk]
    have hl64 : l.length ≤ 64 := by omega
    clear hk hlt
    go_enter Tryd.func16, Tryd.ntmps16
    go_wp2_with (go_at_call 32; refine (l01Copy_any _ l _ h hl4).mono ?_; rintro e w1 ⟨v1, rfl, hown1, hb1⟩; have hs1 := hown1.sl; obtain ⟨A1, c1, rfl, m1, m2, m0, m3⟩ := hs1; unfold maxLen at m2; clear m0 m3)
    go_loopw [3] (fun s wr => ∃ j : Nat, l.length + j ≤ 64 ∧ slLen s = l.length + j ∧ Own 5 wr w.heap.size s (l ++ List.replicate j 0) ∧ Below w.heap.size w wr)
      (fun s _ => 64 - slLen s)
    case atStart => exact ⟨0, by omega, rfl, by simpa using hown1, hb1⟩
    case round =>
      clear m1 m2
      obtain ⟨j, hj, hsl, hown, hbel⟩ := hrel
      have hs4 := hown.sl
      obtain ⟨A3, c3, rfl, k1, k2, k0, k3⟩ := hs4
      unfold maxLen at k2
      have hpl : (l ++ List.replicate j 0).length = l.length + j := by rw [List.length_append, List.length_replicate]
      rw [hpl] at k1 hsl hown ⊢
      clear k0 k3 hsl
      have hfm := fill_more l j
      generalize hB : l ++ List.replicate j 0 = B at hown hpl hfm
      have HB := Lib.hid hB
      obtain ⟨T, hT⟩ : ∃ T, T = l.length + j := ⟨_, rfl⟩
      rw [← hT] at hpl k1 hown hj ⊢
      have HT := Lib.hid hT
      clear hB hT
      by_cases hlt : T < 64
      · go_wp2_with (at_builtin; refine wpList_app1 (W := w) rfl _ _ 22 rfl 5 i0 Tryd.underlying22 hi hz0 hz1 hz2 _ B (by rfl) _ 0 (Lib.hid rfl) rfl hown hbel (by omega) ?_; intro v4 w4 hown4 hb4)
        have hs4 := slLen_own hown4
        have hpl4 : (B ++ [(0 : UInt8)]).length = T + 1 := by rw [List.length_append, hpl]; rfl
        rw [hpl4] at hs4
        rw [hfm] at hown4
        go_roundw
        case rel => exact ⟨j + 1, by have := HT.out; omega, by have := HT.out; omega, hown4, hb4⟩
        case measure => rw [hs4]; simp [slLen]; omega
      · obtain rfl : T = 64 := by omega
        go_wp2
        go_ret
        exact ⟨_, rfl, by unfold fillL; rw [show 64 - l.length = j from by have := HT.out; omega, HB.out]; exact hown, hbel⟩
end Go.Proofs.YtnlpmhofikoaaaaDoor
