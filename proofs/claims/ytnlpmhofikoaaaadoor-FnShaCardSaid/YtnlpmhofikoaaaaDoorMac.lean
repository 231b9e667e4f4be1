/- The contracts of Mac and MacOk, as the program has them and as their model has them. -/
import Derived.Test.YtnlpmhofikoaaaaDoorMacHash
import Derived.Test.YtnlpmhofikoaaaaDoorStr
namespace Go.Proofs.YtnlpmhofikoaaaaDoor
open Go.ChangeShapes Go.WideShapes Go.ChangeAt Go.RowKit

set_option maxRecDepth 100000 in
set_option maxHeartbeats 2000000 in
theorem implMac_any (v u : Value) (l m : List UInt8) (w : World) (h : Sl w w.heap.size v l) (h' : Sl w w.heap.size u m) (hl : l.length ≤ 1073741000) (hm : m.length ≤ 1073741000)
    (hI : Glob w 0 initW) (hG : Glob w 1 kk) :
    Calls Tryd.prog 13 #[v, u] w (Fresh w (macL l m)) := by
  have hk := keyL_length l
  have hh := hashL_length 54 (keyL l) m
  have hmac : macL l m = hashL 92 (keyL l) (hashL 54 (keyL l) m) := rfl
  rw [hmac]
  generalize hK : keyL l = K at hk hh
  have HK := Lib.hid hK
  generalize hM : hashL 54 K m = M at hh
  have HM := Lib.hid hM
  have Hk := Lib.hid hk
  have Hh := Lib.hid hh
  clear hmac hK hM hk hh
  go_enter Tryd.func13, Tryd.ntmps13
  go_wp2_with fail
  refine (keyedHash_any v l w h (by omega) hI hG).mono ?_
  rw [HK.out]
  rintro e w1 ⟨fv, rfl, ⟨g, b, rfl, hg, hc, hb⟩, hb1⟩
  go_wp2_with fail
  refine (hasher_any g b u 54 K m w1 hg hc hb Hk.out (h'.up hb1) hm (hI.up hb1) (hG.up hb1)).mono ?_
  rw [HM.out]
  rintro e w2 ⟨v2, rfl, hown2, hb2⟩
  have hg2 := Nat.lt_of_lt_of_le hg hb2.size
  have hc2 := (hb2.cell (p := ⟨g, 0, none⟩) hg).trans hc
  have hbb2 := hb.up hb2
  have hI2 := (hI.up hb1).up hb2
  have hG2 := (hG.up hb1).up hb2
  have hbw2 := hb1.trans (hb2.mono hb1.size)
  have hs2 := hown2.sl
  go_wp2_with fail
  refine (hasher_any g b v2 92 K M w2 hg2 hc2 hbb2 Hk.out hs2 (by rw [Hh.out]; decide) hI2 hG2).mono ?_
  rintro e w3 ⟨v3, rfl, hown3, hb3⟩
  go_wp2
  go_ret
  exact ⟨_, rfl, hown3.mono hbw2.size, hbw2.trans (hb3.mono hbw2.size)⟩

theorem own_empty (w : World) : Own 5 (w.alloc (.cells #[] 5)) w.heap.size (.slice (some ⟨w.heap.size, 0, none⟩) 0 0) [] :=
  World.ownsRow_lit w #[] 0 (Nat.le_refl _) (by simp [maxLen]) rfl
set_option maxRecDepth 100000 in
set_option maxHeartbeats 4000000 in
theorem specMac_any (v u : Value) (l m : List UInt8) (w : World) (h : Sl w w.heap.size v l) (h' : Sl w w.heap.size u m) (hl : l.length ≤ 1073741000) (hm : m.length ≤ 1073741000) :
    Calls Tryd.prog 21 #[v, u] w (Fresh w (macL l m)) := by
  obtain ⟨i0, hi, hz0, hz1, hz2⟩ := info_parts u8info
  have hk := keyL_length l
  have hmac : macL l m = shaL (xorL 92 (keyL l) ++ shaL (xorL 54 (keyL l) ++ m)) := rfl
  rw [hmac]
  generalize hK : keyL l = K at hk
  have HK := Lib.hid hK
  have Hk := Lib.hid hk
  clear hmac hK hk
  have H1 : Inv 5 w (w.alloc (.cells #[] 5)) [(.slice (some ⟨w.heap.size, 0, none⟩) 0 0, [])] :=
    (Inv.start w).more (own_empty w) ((Below.refl _ _).alloc (Nat.le_refl _) _)
  have H2 := H1.more (own_empty (w.alloc (.cells #[] 5))) ((Below.refl _ _).alloc (Nat.le_refl _) (.cells #[] 5))
  rw [show (w.alloc (.cells #[] 5)).heap.size = w.heap.size + 1 by simp] at H2
  clear H1
  go_enter Tryd.func21, Tryd.ntmps21
  go_wp2_with fail
  generalize (w.alloc (.cells #[] 5)).alloc (.cells #[] 5) = w1 at H2 ⊢
  refine (specMacKey_any v l w1 (H2.old h) (by omega)).mono ?_
  rw [HK.out]
  rintro e w2 ⟨vk, rfl, hownk, hb2⟩
  obtain ⟨gk, ck, rfl, hk1, hk2, hk3, hk4⟩ := own_form hownk (by rw [Hk.out]; decide)
  rw [Hk.out] at hk1 hownk ⊢
  unfold maxLen at hk2
  have hk5 : Own 5 w2 w1.heap.size (.slice (some ⟨gk, 0, none⟩) 64 ck) K := hownk
  have H3 := (H2.more hk5 hb2).perm (qs := [(.slice (some ⟨w.heap.size, 0, none⟩) 0 0, xorL 54 (K.take 0)), (.slice (some ⟨w.heap.size + 1, 0, none⟩) 0 0, xorL 92 (K.take 0)), (.slice (some ⟨gk, 0, none⟩) 64 ck, K)]) (by
    rw [List.take_zero]
    exact (List.Perm.swap _ _ _).trans ((List.Perm.cons _ (List.Perm.swap _ _ _)).trans (List.Perm.swap _ _ _)))
  clear H2 hownk hk5
  go_wp2
  go_loopw [5, 6, 14] (fun s5 s6 i wr => ∃ j : Nat, j ≤ 64 ∧ i = .int .i64 j ∧ Inv 5 w wr [(s5, xorL 54 (K.take j)), (s6, xorL 92 (K.take j)), (.slice (some ⟨gk, 0, none⟩) 64 ck, K)])
    (fun _ _ i _ => 64 - (intOf i).toNat)
  case atStart => exact ⟨0, Nat.zero_le _, rfl, H3⟩
  case round =>
    clear H3
    obtain ⟨j, hj, rfl, H⟩ := hrel
    by_cases hlt : j < 64
    · have hji : (j : Int) < 64 := by omega
      have hlk : j < K.length := by rw [Hk.out]; exact hlt
      have hok : wr.ownsRow w.heap.size 5 1 (.slice (some ⟨gk, 0, none⟩) 64 ck) 64 (us K) := by
        have := H.own (v := .slice (some ⟨gk, 0, none⟩) 64 ck) (l := K) (by simp)
        unfold Own at this
        rw [Hk.out] at this
        exact this
      have hcj := (World.ownsRow.cellAt hok j (by omega)).trans (us_get K j hlk)
      have hb0 := bt_lo K j
      have hb1 := bt_hi K j
      have hx1 : bits .xor .u8 (bt K j) 54 = (((K.getD j 0) ^^^ 54).toNat : Int) := xor_byte K j 54
      have hx2 : bits .xor .u8 (bt K j) 92 = (((K.getD j 0) ^^^ 92).toNat : Int) := xor_byte K j 92
      have hs1 := xorL_snoc 54 K hlk
      have hs2 := xorL_snoc 92 K hlk
      generalize (K.getD j 0) ^^^ 54 = x1 at hx1 hs1
      generalize (K.getD j 0) ^^^ 92 = x2 at hx2 hs2
      have HS1 := Lib.hid hs1
      have HS2 := Lib.hid hs2
      have hn1 : Hid ((xorL 54 (K.take j)).length ≤ 70368744177664) := Lib.hid (by rw [xorL_length, List.length_take]; omega)
      have hn2 : Hid ((xorL 92 (K.take j)).length ≤ 70368744177664) := Lib.hid (by rw [xorL_length, List.length_take]; omega)
      clear hs1 hs2 hok hlk
      go_wp2_with (first
        | (at_builtin; refine wpList_app1I (W := w) rfl _ _ 22 rfl 5 i0 Tryd.underlying22 hi hz0 hz1 hz2 _ (xorL 54 (K.take j)) (by rfl) _ x1 (Lib.hid rfl) rfl H hn1.out ?_; intro v5 w5 H5; have H5' := H5.swap; clear H5)
        | (at_builtin; refine wpList_app1I (W := w) rfl _ _ 22 rfl 5 i0 Tryd.underlying22 hi hz0 hz1 hz2 _ (xorL 92 (K.take j)) (by rfl) _ x2 (Lib.hid rfl) rfl H5' hn2.out ?_; intro v6 w6 H6; have H6' := H6.swap; clear H6))
      rw [HS1.out, HS2.out] at H6'
      go_roundw
      case rel => exact ⟨j + 1, by omega, by go_num, H6'⟩
      case measure => simp [intOf]; omega
    · obtain rfl : j = 64 := by omega
      rw [List.take_of_length_le (Nat.le_of_eq Hk.out)] at H
      have hn1 : Hid ((xorL 54 K).length + m.length ≤ 70368744177664) := Lib.hid (by rw [xorL_length, Hk.out]; omega)
      have hn2 : Hid ((xorL 54 K ++ m).length ≤ 1073741824) := Lib.hid (by rw [List.length_append, xorL_length, Hk.out]; omega)
      have hh := shaL_length (xorL 54 K ++ m)
      generalize hM : shaL (xorL 54 K ++ m) = M at hh ⊢
      have HM := Lib.hid hM
      have hn3 : Hid ((xorL 92 K).length + M.length ≤ 70368744177664) := Lib.hid (by rw [xorL_length, Hk.out, hh]; decide)
      have hn4 : Hid ((xorL 92 K ++ M).length ≤ 1073741824) := Lib.hid (by rw [List.length_append, xorL_length, Hk.out, hh]; decide)
      clear hM hh
      go_wp2_with (first
        | (at_builtin; refine wpList_appSI (W := w) rfl _ _ 22 rfl 5 i0 Tryd.underlying22 hi hz0 hz1 hz2 _ (xorL 54 K) (by rfl) _ m (by rfl) (H.old h') H hn1.out ?_; intro v7 w7 H7; clear H)
        | (go_at_call 33; refine (specSha_any _ (xorL 54 K ++ m) _ (H7.sl (by simp)) hn2.out).mono ?_; rw [HM.out]; rintro e w8 ⟨v8, rfl, hown8, hb8⟩; have H8 := (H7.more hown8 hb8).sl (v := v8) (l := M) (by simp); have H9 := ((H7.swap).up hb8); clear H7 hown8 hb8)
        | (at_builtin; refine wpList_appSI (W := w) rfl _ _ 22 rfl 5 i0 Tryd.underlying22 hi hz0 hz1 hz2 _ (xorL 92 K) (by rfl) _ M (by rfl) H8 H9 hn3.out ?_; intro v10 w10 H10; clear H8 H9)
        | (go_at_call 33; refine (specSha_any _ (xorL 92 K ++ M) _ (H10.sl (by simp)) hn4.out).mono ?_; rintro e w11 ⟨v11, rfl, hown11, hb11⟩))
      go_ret
      exact ⟨_, rfl, by rw [HM.out]; exact hown11.mono H10.le, H10.bel.trans (hb11.mono H10.le)⟩

theorem specMacOk_any (v u t : Value) (l m r : List UInt8) (w : World) (h : Sl w w.heap.size v l) (h' : Sl w w.heap.size u m) (h'' : Sl w w.heap.size t r) (hl : l.length ≤ 1073741000) (hm : m.length ≤ 1073741000) (_hr : r.length ≤ 1073741000) :
    Calls Tryd.prog 22 #[v, u, t] w (fun e w' => e = .returned (.bool (macL l m == r)) ∧ Below w.heap.size w w') := by
  go_enter Tryd.func22, Tryd.ntmps22
  go_wp2_with fail
  refine (specMac_any v u l m w h h' hl hm).mono ?_
  rintro e w1 ⟨v1, rfl, hown1, hb1⟩
  have hs := hown1.sl
  have ht := h''.up hb1
  go_wp2_with fail
  refine (specSameBytes_any v1 t (macL l m) r w1 hs ht).mono ?_
  rintro e _ ⟨rfl, rfl⟩
  go_wp2
  go_ret
  exact ⟨rfl, hb1⟩
theorem implMacOk_any (v u t : Value) (l m r : List UInt8) (w : World) (h : Sl w w.heap.size v l) (h' : Sl w w.heap.size u m) (h'' : Sl w w.heap.size t r) (hl : l.length ≤ 1073741000) (hm : m.length ≤ 1073741000) (_hr : r.length ≤ 1073741000)
    (hI : Glob w 0 initW) (hG : Glob w 1 kk) :
    Calls Tryd.prog 14 #[v, u, t] w (fun e w' => e = .returned (.bool (macL l m == r)) ∧ Below w.heap.size w w') := by
  go_enter Tryd.func14, Tryd.ntmps14
  go_wp2_with fail
  refine (implMac_any v u l m w h h' hl hm hI hG).mono ?_
  rintro e w1 ⟨v1, rfl, hown1, hb1⟩
  have hs := hown1.sl
  have ht := h''.up hb1
  go_wp2_with fail
  refine (implSameBytes_any v1 t (macL l m) r w1 hs ht).mono ?_
  rintro e _ ⟨rfl, rfl⟩
  go_wp2
  go_ret
  exact ⟨rfl, hb1⟩
end Go.Proofs.YtnlpmhofikoaaaaDoor
