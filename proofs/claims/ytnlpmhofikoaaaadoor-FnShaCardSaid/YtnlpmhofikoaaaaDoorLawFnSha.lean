/- The walk of the law FnSha: for every argument the law answers true and leaves all memory that was there as it was. -/
import Derived.Test.YtnlpmhofikoaaaaDoorMac
import Derived.Test.YtnlpmhofikoaaaaDoorCur
namespace Go.Proofs.YtnlpmhofikoaaaaDoor
open Go.ChangeShapes Go.WideShapes Go.ChangeAt Go.RowKit

theorem padL_front (a : List UInt8) : (padL a).take a.length = a := by simp [padL]
theorem sha_facts (a P : List UInt8) (hP : P = padL a) (ha : a.length ≤ 73) : ∃ N : Nat, P.length = 64 * N ∧ N ≤ 4 ∧ fours (blocksW P N) = shaL a ∧ a.length + 9 ≤ P.length ∧ P.take a.length = a := by
  have hmod := padL_mod a
  have hpl := padL_most a
  have hle := padL_length a
  rw [← hP] at hmod hpl hle
  obtain ⟨N, hN⟩ : ∃ N, P.length = 64 * N := ⟨P.length / 64, by omega⟩
  exact ⟨N, hN, by omega, shaL_is hP hN, by omega, by rw [hP]; exact padL_front a⟩

set_option maxRecDepth 100000 in
set_option maxHeartbeats 8000000 in
theorem FnSha_walk (v0 : Value) (l0 : List UInt8) (W : World) (h0 : Sl W W.heap.size v0 l0)
    (hgI : Glob W 0 initW) (hg : Glob W 1 kk) :
    Calls Tryd.prog 3 #[v0] W (Yes W) := by
  obtain ⟨i0, hi, hz0, hz1, hz2⟩ := info_parts u8info
  have hs0 := h0
  obtain ⟨A0, c0, rfl, p0, q0, r0, z0⟩ := h0
  unfold maxLen at q0
  clear r0 z0
  by_cases hbig0 : 1048576 < l0.length
  · have hb : (1048576 : Int) < (l0.length : Int) := by omega
    go_enter Tryd.func3, Tryd.ntmps3
    go_wp2
    go_ret
    exact ⟨rfl, Below.refl _ _⟩
  have hb0 : ¬ ((1048576 : Int) < (l0.length : Int)) := by omega
  have H : Inv 5 W W [] := Inv.start W
  go_enter Tryd.func3, Tryd.ntmps3
  go_wp2_with fail
  refine (MakeBytes_any _ l0 60 _ (H.old hs0) (by omega) (by omega) (by omega)).mono ?_
  rintro e w1 ⟨ua, a0, rfl, ha, ho, hb⟩
  replace H := H.more ho hb
  clear ho hb
  go_wp2_with fail
  refine (MakeBytes_any _ l0 13 _ (H.old hs0) (by omega) (by omega) (by omega)).mono ?_
  rintro e w2 ⟨ub, b0, rfl, hb', ho, hb⟩
  replace H := H.more ho hb
  have H' := H.swap
  have hsb := ho.sl
  clear ho hb H
  go_wp2_with (first
    | (at_builtin
       refine wpList_appSI (W := W) rfl _ _ 22 rfl 5 i0 Tryd.underlying22 hi hz0 hz1 hz2 _ a0 (by rfl) _ b0 (by rfl) hsb H' (by omega) ?_
       intro va w3 H3
       clear H' hsb)
    | fail)
  replace H3 := H3.sub (qs := [(va, a0 ++ b0)]) (by simp)
  have la : (a0 ++ b0).length ≤ 73 := by simp; omega
  generalize a0 ++ b0 = a at H3 la
  obtain ⟨Aa, ca, rfl, qa1, qa2, qa0, qa3⟩ := (H3.own (.head _)).sl
  unfold maxLen at qa2
  clear qa0 qa3 ha hb' p0 q0 hb0
  refine (implShaPad_any _ a w3 (H3.sl (by simp)) (by omega)).mono ?_
  obtain ⟨P, hP⟩ : ∃ P, P = padL a := ⟨_, rfl⟩
  obtain ⟨N, hN, hN4, hfin, haP, hfront⟩ := sha_facts a P hP la
  rw [← hP]
  rintro e w4 ⟨vp, rfl, hop, hb4⟩
  obtain ⟨gp, cp, rfl, hcp1, hcp2, hgp1, hgp2⟩ := own_form hop (by omega)
  have H4 := H3.more hop hb4
  obtain ⟨T, hT⟩ : ∃ T, T = P.length := ⟨_, rfl⟩
  rw [← hT] at hN haP hcp1 H4 ⊢
  have hcm0 := hcp2
  unfold maxLen at hcp2
  have HT := Lib.hid hT
  have HN := Lib.hid hN
  have HF := Lib.hid hfin
  have HFR := Lib.hid hfront
  have hT256 : T ≤ 256 := by omega
  clear hop hb4 H3 hP hT hN hfin hfront
  go_wp2_with fail
  refine (implShaInit_any w4 (hgI.up H4.bel)).mono ?_
  rintro e w5 ⟨vh, rfl, hoh, hb5⟩
  have hsh : SlI w5 w5.heap.size vh (wi (blocksW P 0)) := hoh.sl
  have H5 := H4.up hb5
  clear hoh hb5 H4
  go_wp2
  go_loopw [5, 6] (fun s i wr => ∃ n m : Nat, n ≤ N ∧ m = 64 * n ∧ i = .int .i64 (m : Int) ∧ SlI wr wr.heap.size s (wi (blocksW P n)) ∧ Inv 5 W wr [(.slice (some ⟨gp, 0, none⟩) T cp, P), (.slice Aa a.length ca, a)])
    (fun _ i _ => T - (intOf i).toNat)
  case atStart => exact ⟨0, 0, Nat.zero_le _, rfl, rfl, hsh, H5⟩
  case round =>
    clear hsh H5
    obtain ⟨n, m, hn, hm, rfl, hsh, H⟩ := hrel
    have HM := Lib.hid hm
    by_cases hlt : n < N
    · have hmT : m + 64 ≤ T := by have := HN.out; omega
      have hmTi : (m : Int) + 64 ≤ (T : Int) := by omega
      have hcut : Sl wr wr.heap.size (.slice (some ⟨gp, m, none⟩) 64 (cp - m)) ((P.drop (64 * n)).take 64) := by
        rcases (H.own (.head _)).sl with ⟨A', c', e, k1, k2, k0, k3⟩
        simp only [Value.slice.injEq] at e
        obtain ⟨e1, e2, e3⟩ := e
        obtain ⟨b', off', e4, k4, k5⟩ := k3 (by rw [← HT.out]; omega)
        rw [← e1] at e4
        simp only [Option.some.injEq, Addr.mk.injEq, and_true] at e4
        obtain ⟨rfl, rfl⟩ := e4
        exact sl_cut (64 * n) 64 (c := cp) hcm0 k4 k5 (by rw [← HT.out]; omega) m (cp - m) (fun _ => by omega) (by omega) (by omega)
      have hbl : ((P.drop (64 * n)).take 64).length = 64 := by
        rw [List.length_take, List.length_drop, ← HT.out]
        omega
      have hnx := blocksW_step P n hbl
      generalize (P.drop (64 * n)).take 64 = B at hcut hbl hnx
      have HB := Lib.hid hbl
      have HNX := Lib.hid hnx
      clear hm hbl hnx
      have hwl : (wi (blocksW P n)).length ≤ 4294967296 := by rw [wi_length, blocksW_length]; decide
      go_wp2_with fail
      refine (implShaBlock_any _ _ (wi (blocksW P n)) B wr hsh hcut hwl (by rw [HB.out]; decide) (hg.up H.bel)).mono ?_
      rw [HNX.out]
      rintro ev w6 ⟨v6, rfl, hown6, hb6⟩
      have hsh6 := hown6.sl
      have H6 := H.up hb6
      go_wp2
      go_roundw
      case rel => exact ⟨n + 1, m + 64, by omega, by have := HM.out; omega, by go_num, hsh6, H6⟩
      case measure => simp [intOf]; omega
    · have hnN : n = N := by omega
      have hmT : m = T := by have := HN.out; omega
      rw [hnN] at hsh
      rw [hmT]
      have hno : ¬ ((T : Int) + 64 ≤ (T : Int)) := by omega
      have hzw := blocksW_words P N
      have hzl := blocksW_length P N
      obtain ⟨Z, hZ⟩ : ∃ Z, Z = blocksW P N := ⟨_, rfl⟩
      rw [← hZ] at hsh hzw hzl
      have HZ := Lib.hid hZ
      have HZL := Lib.hid hzl
      have hlz : (wi Z).length = 8 := by rw [wi_length, hzl]
      obtain ⟨Av, cv, rfl, v1, v2, v0, v3⟩ := hsh
      rw [hlz] at v1 v3 ⊢
      obtain ⟨bv, ov, rfl, hbv, hcv⟩ := v3 (by omega)
      unfold maxLen at v2
      have HCV := Lib.hid hcv
      clear v0 v3 hlz hcv hn hlt hm hnN hmT HM hZ hzl
      have hstart4 : Own 5 (wr.alloc (.cells #[] 5)) wr.heap.size (.slice (some ⟨wr.heap.size, 0, none⟩) 0 0) (fours (Z.take 0)) := own_empty wr
      have hbstart4 : Below wr.heap.size wr (wr.alloc (.cells #[] 5)) := (Below.refl _ _).alloc (Nat.le_refl _) _
      go_wp2
      generalize hwx : wr = wx at *
      clear hwx
      generalize wx.alloc (.cells #[] 5) = w7 at hstart4 hbstart4 ⊢
      go_loopw [7, 39] (fun s i wq => ∃ j : Nat, j ≤ 8 ∧ i = .int .i64 j ∧ Own 5 wq wx.heap.size s (fours (Z.take j)) ∧ Below wx.heap.size wx wq)
        (fun _ i _ => 8 - (intOf i).toNat)
      case atStart => exact ⟨0, Nat.zero_le _, rfl, hstart4, hbstart4⟩
      case round =>
        clear hstart4 hbstart4
        obtain ⟨j, hj, rfl, hown, hbelx⟩ := hrel
        by_cases hlt8 : j < 8
        · have hji : (j : Int) < 8 := by omega
          have cx0 : wx.cell? ⟨bv, ov + j, none⟩ = some (.int .i64 (Z.getD j 0 : Int)) := by
            have := HCV.out j hlt8
            rw [it_wi] at this
            exact this
          have hx := hzw.at_ j
          have hft := fours_take (z := Z) (k := j) (by rw [HZL.out]; exact hlt8)
          have hlen : (fours (Z.take j)).length ≤ 32 := by rw [fours_length, List.length_take]; omega
          generalize Z.getD j 0 = x at cx0 hx hft
          have hcx := (hbelx.cell (p := ⟨bv, ov + j, none⟩) hbv).trans cx0
          have HFT := Lib.hid hft
          have hlit : Own 5 (wr.alloc (.cells #[.int .u8 ((x : Int) / 16777216), .int .u8 ((x : Int) / 65536 % 256), .int .u8 ((x : Int) / 256 % 256), .int .u8 ((x : Int) % 256)] 5)) wr.heap.size (.slice (some ⟨wr.heap.size, 0, none⟩) 4 4) (four x) := by
            have := World.ownsRow_lit (base := wr.heap.size) (size := 1) (e := 5) wr #[.int .u8 ((x : Int) / 16777216), .int .u8 ((x : Int) / 65536 % 256), .int .u8 ((x : Int) / 256 % 256), .int .u8 ((x : Int) % 256)] 4 (Nat.le_refl _) (by simp [maxLen]) rfl
            unfold Own
            rw [four_us hx]
            exact this
          have HLIT := Lib.hid hlit.sl
          have hba := (Below.refl wr.heap.size wr).alloc (Nat.le_refl _) (.cells #[.int .u8 ((x : Int) / 16777216), .int .u8 ((x : Int) / 65536 % 256), .int .u8 ((x : Int) / 256 % 256), .int .u8 ((x : Int) % 256)] 5)
          have HUP := Lib.hid (hown.up hba)
          have HBA := Lib.hid (hbelx.alloc hbelx.size (.cells #[.int .u8 ((x : Int) / 16777216), .int .u8 ((x : Int) / 65536 % 256), .int .u8 ((x : Int) / 256 % 256), .int .u8 ((x : Int) % 256)] 5))
          clear hft cx0 hlit hba
          go_wp2_with (at_builtin; refine wpList_appS (W := wx) rfl _ _ 22 rfl 5 i0 Tryd.underlying22 hi hz0 hz1 hz2 _ (fours (Z.take j)) (by rfl) _ (four x) (by rfl) HLIT.out HUP.out HBA.out (by simp [four]; omega) ?_; intro v8 w8 hown8 hb8)
          rw [HFT.out] at hown8
          go_roundw
          case rel => exact ⟨j + 1, by omega, by go_num, hown8, hb8⟩
          case measure => simp [intOf]; omega
        · have hj8 : j = 8 := by omega
          have hji : (j : Int) = 8 := by omega
          rw [hji]
          rw [hj8, List.take_of_length_le (Nat.le_of_eq HZL.out), HZ.out, HF.out] at hown
          have H9 := H.more hown hbelx
          clear hj hlt8 hj8 hji hown hbelx H
          have hby : i0.bytes * 65 ≤ 281474976710656 := by rw [hz2]; decide
          have hml : 65 ≤ maxLen := by unfold maxLen; omega
          obtain ⟨R, hR⟩ : ∃ R : List UInt8, R = List.replicate 65 0 := ⟨_, rfl⟩
          have hRl : R.length = 65 := by rw [hR]; simp
          have HR := Lib.hid hR
          have HRL := Lib.hid hRl
          have hkl : 64 < (R ++ a).length ∧ (R ++ a).length ≤ 1073741000 := by rw [List.length_append, hRl]; omega
          have HKL := Lib.hid hkl
          have hrl : Hid (R.length + a.length ≤ 70368744177664) := Lib.hid (by omega)
          clear hR hRl hkl
          have hsa := H9.sl (v := .slice Aa a.length ca) (l := a) (by simp)
          have hmodT : ((T : Int) % 64 == 0) = true := by have := HN.out; simp; omega
          have hgtT : (a.length : Int) + 8 < (T : Int) := by omega
          go_wp2_with (first
            | (at_make
               refine wpList_make_full _ rfl _ _ _ rfl wr.heap.size 5 i0 (.int .u8 0) 1 Tryd.underlying22 hi hz0 hz1 .i64 .i64 _ _ 65 rfl rfl rfl rfl hby hml (Nat.le_refl _) ?_
               intro w10 hown10 hg10
               have hb10 := (Below.refl wr.heap.size wr).grown hg10 (Nat.le_refl _) (by simp)
               have ho10 : Own 5 w10 wr.heap.size (.slice (some ⟨wr.heap.size, 0, none⟩) 65 65) R := by
                 have := row_zero hown10
                 rw [← HR.out] at this
                 unfold Own
                 rw [HRL.out]
                 exact this
               have hsa10 := hsa.up hb10
               clear hown10 hg10)
            | (at_builtin
               refine wpList_appS (W := wr) rfl _ _ 22 rfl 5 i0 Tryd.underlying22 hi hz0 hz1 hz2 _ R (by rfl) _ a (by rfl) hsa10 ho10 hb10 hrl.out ?_
               intro vk w11 ho11 hb11
               have H11 := H9.more ho11 hb11
               clear ho10 hb10 hsa10 ho11 hb11 hsa H9)
            | fail)
          have hcut : Sl w11 w11.heap.size (.slice (some ⟨gp, 0, none⟩) a.length cp) a := by
            rcases (H11.own (v := .slice (some ⟨gp, 0, none⟩) T cp) (l := P) (by simp)).sl with ⟨A', c', e, k1, k2, k0, k3⟩
            simp only [Value.slice.injEq] at e
            obtain ⟨e1, e2, e3⟩ := e
            obtain ⟨b', off', e4, k4, k5⟩ := k3 (by rw [← HT.out]; omega)
            rw [← e1] at e4
            simp only [Option.some.injEq, Addr.mk.injEq, and_true] at e4
            obtain ⟨rfl, rfl⟩ := e4
            have := sl_cut 0 a.length (c := cp) hcm0 k4 k5 (by rw [← HT.out]; omega) 0 cp (fun _ => rfl) (by omega) (by omega)
            rw [List.drop_zero, HFR.out] at this
            exact this
          refine (implSameBytes_any _ _ a a w11 hcut (H11.sl (by simp))).mono ?_
          rintro e _ ⟨rfl, rfl⟩
          clear hcut hmodT hgtT
          go_wp2_with fail
          refine (implSha_any _ a _ (H11.sl (by simp)) (by omega) (hgI.up H11.bel) (hg.up H11.bel)).mono ?_
          rintro e w12 ⟨v12, rfl, ho, hb⟩
          have H12 := H11.more ho hb
          clear ho hb H11
          have hS := shaL_length a
          generalize shaL a = S at H12 hS
          go_wp2_with fail
          refine (implSameBytes_any _ _ S S _ (H12.sl (by simp)) (H12.sl (by simp))).mono ?_
          rintro e _ ⟨rfl, rfl⟩
          replace H12 := H12.sub (qs := [(vk, R ++ a), (.slice Aa a.length ca, a)]) (by simp)
          generalize R ++ a = K at H12 HKL
          have hm1 := macL_hash HKL.out.1 a
          have hl1 := macL_length K a
          have hl2 := shaL_length K
          generalize hX : macL K a = X at hm1 hl1
          generalize hY : shaL K = Y at hm1 hl2
          have HX := Lib.hid hX
          have HY := Lib.hid hY
          have HM1 := Lib.hid hm1
          have HK2 := Lib.hid HKL.out.2
          have hlk := keyL_length K
          generalize hE : keyL K = E at hlk
          have HE := Lib.hid hE
          have hl3 := macL_length a K
          generalize hV : macL a K = V at hl3
          have HV := Lib.hid hV
          have la2 : a.length ≤ 1073741000 := by omega
          clear hX hY hm1 hE hV
          go_wp2_with fail
          refine (implMac_any _ _ K a _ (H12.sl (by simp)) (H12.sl (by simp)) HK2.out la2 (hgI.up H12.bel) (hg.up H12.bel)).mono ?_
          rw [HX.out]
          rintro e w13 ⟨v13, rfl, ho, hb⟩
          replace H12 := H12.more ho hb
          clear ho hb
          go_wp2_with fail
          refine (implSha_any _ K _ (H12.sl (by simp)) (by have := HK2.out; omega) (hgI.up H12.bel) (hg.up H12.bel)).mono ?_
          rw [HY.out]
          rintro e w14 ⟨v14, rfl, ho, hb⟩
          replace H12 := H12.more ho hb
          clear ho hb
          go_wp2_with fail
          refine (implMac_any _ _ Y a _ (H12.sl (by simp)) (H12.sl (by simp)) (by omega) la2 (hgI.up H12.bel) (hg.up H12.bel)).mono ?_
          rw [HM1.out]
          rintro e w15 ⟨v15, rfl, ho, hb⟩
          replace H12 := H12.more ho hb
          clear ho hb
          go_wp2_with fail
          refine (implSameBytes_any _ _ X X _ (H12.sl (by simp)) (H12.sl (by simp))).mono ?_
          rintro e _ ⟨rfl, rfl⟩
          replace H12 := H12.sub (qs := [(vk, K), (.slice Aa a.length ca, a)]) (List.sublist_append_right [(v15, X), (v14, Y), (v13, X)] _)
          go_wp2_with fail
          refine (implMac_any _ _ a K _ (H12.sl (by simp)) (H12.sl (by simp)) la2 HK2.out (hgI.up H12.bel) (hg.up H12.bel)).mono ?_
          rw [HV.out]
          rintro e w16 ⟨v16, rfl, ho, hb⟩
          replace H12 := H12.more ho hb
          clear ho hb
          go_wp2_with fail
          refine (implMacOk_any _ _ _ a K V _ (H12.sl (by simp)) (H12.sl (by simp)) (H12.sl (by simp)) la2 HK2.out (by omega) (hgI.up H12.bel) (hg.up H12.bel)).mono ?_
          rw [HV.out]
          rintro e w17 ⟨rfl, hb⟩
          replace H12 := H12.up hb
          clear hb
          go_wp2_with fail
          refine (implMacKey_any _ K _ (H12.sl (by simp)) (by have := HK2.out; omega) (hgI.up H12.bel) (hg.up H12.bel)).mono ?_
          rw [HE.out]
          rintro e w18 ⟨v18, rfl, ho, hb⟩
          obtain ⟨g18, c18, rfl, qc1, qc2, _, _⟩ := own_form ho (by omega)
          rw [hlk] at qc1 ⊢
          replace H12 := H12.up hb
          clear ho hb
          go_wp2_with fail
          go_ret
          exact ⟨rfl, H12.bel⟩
end Go.Proofs.YtnlpmhofikoaaaaDoor
