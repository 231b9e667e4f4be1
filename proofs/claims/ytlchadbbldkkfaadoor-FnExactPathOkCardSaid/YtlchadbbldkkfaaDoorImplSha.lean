/- The contracts of hash and of Sha, as the program has them. -/
import Derived.Test.YtlchadbbldkkfaaDoorShaOf
import Derived.Test.YtlchadbbldkkfaaDoorPutBig
namespace Go.Proofs.YtlchadbbldkkfaaDoor
open Go.ChangeShapes Go.WideShapes Go.ChangeAt Go.RowKit

/-- What hash has after k rounds. -/
def hs32 (ws : List Nat) (k : Nat) : List UInt8 := fours (ws.take k) ++ List.replicate (32 - 4 * k) 0
theorem hs32_length {ws : List Nat} (hl : ws.length = 8) {k : Nat} (hk : k ≤ 8) : (hs32 ws k).length = 32 := by
  simp [hs32, fours_length, hl]
  omega
theorem hs32_zero (ws : List Nat) : hs32 ws 0 = List.replicate 32 0 := by simp [hs32, fours]
theorem hs32_full {ws : List Nat} (hl : ws.length = 8) : hs32 ws 8 = fours ws := by simp [hs32, List.take_of_length_le (Nat.le_of_eq hl)]
theorem hs32_put {ws : List Nat} (hl : ws.length = 8) {k : Nat} (hk : k < 8) : PB (hs32 ws k) (4 * k) 4 (ws.getD k 0) 4 = hs32 ws (k + 1) := by
  have e1 : (fours (ws.take k)).length = 4 * k := by rw [fours_length]; simp [hl]; omega
  have e2 : 32 - 4 * k = 4 + (32 - 4 * (k + 1)) := by omega
  have e3 : ws.take (k + 1) = ws.take k ++ [ws.getD k 0] := by
    rw [List.take_add_one, List.getElem?_eq_getElem (by omega)]
    simp [List.getD_eq_getElem?_getD, List.getElem?_eq_getElem (show k < ws.length by omega)]
  unfold hs32
  rw [e2, ← List.replicate_append_replicate, ← List.append_assoc]
  have := PB_4 (fours (ws.take k)) (List.replicate 4 0) (List.replicate (32 - 4 * (k + 1)) 0) (ws.getD k 0) (by simp)
  rw [e1] at this
  rw [this, e3]
  simp [fours]
set_option maxRecDepth 100000 in
set_option maxHeartbeats 1000000 in
theorem hash_any (ws : List Nat) (hl : ws.length = 8) (hw : Words ws) (w : World) :
    Calls Tryd.prog 72 #[.agg (cw ws)] w (Fresh w (fours ws)) := by
  obtain ⟨i0, hi, hz0, hz1, hz2⟩ := info_parts u8info
  have hby : i0.bytes * 32 ≤ 281474976710656 := by rw [hz2]; decide
  have hml : 32 ≤ maxLen := by unfold maxLen; omega
  have HL := Lib.hid hl
  have hA := arr_new 73 w ws
  have hsz := wSize hl
  clear hl
  go_enter Tryd.func72, Tryd.ntmps72
  go_wp2_with (first
    | (at_make; refine wpList_make_full _ rfl _ _ _ rfl w.heap.size 5 i0 (.int .u8 0) 1 Tryd.underlying22 hi hz0 hz1 .i64 .i64 _ _ 32 rfl rfl rfl rfl hby hml (by simp) ?_; intro w1 hown1 hg1; have hA1 := hA.grown hg1 (by simp); have hb1 := ((Below.refl w.heap.size w).alloc (Nat.le_refl _) (.cells (cw ws) 73)).grown hg1 (by simp) (by simp); have ho1 := row_zero hown1; clear hown1 hg1)
    | (refine wpList_load_row rfl _ _ rfl w.heap.size rfl _ _ _ _ hA1 wDesc rfl hsz ?_))
  have e8 : (w.alloc (.cells (cw ws) 73)).heap.size = w.heap.size + 1 := by simp
  rw [e8, ← hs32_zero ws] at ho1
  go_loopw [8] (fun i wr => ∃ k : Nat, k ≤ 8 ∧ i = .int .i64 k ∧ wr.ownsRow w.heap.size 5 1 (.slice (some ⟨w.heap.size + 1, 0, none⟩) 32 32) 32 (us (hs32 ws k)) ∧ Below w.heap.size w wr)
    (fun i _ => 8 - (intOf i).toNat)
  case atStart => exact ⟨0, Nat.zero_le _, rfl, ho1, hb1⟩
  case round =>
    obtain ⟨k, hk, rfl, hown, hbel⟩ := hrel
    clear hA hA1 hb1 ho1 e8
    by_cases hlt : k < 8
    · have hlt8 : (k : Int) < 8 := by omega
      have hx := cw_get ws k (by rw [HL.out]; exact hlt)
      have hput := hs32_put HL.out hlt
      have hxb := hw.at_ k
      generalize ws.getD k 0 = x at hx hput hxb
      have hX := fun w => run_idx wDesc ws k x (by omega) hx w
      have HP := Lib.hid hput
      have h4 : (4 : Int) * (k : Int) = ((4 * k : Nat) : Int) := by omega
      obtain ⟨m, hm⟩ : ∃ m, m = 4 * k := ⟨_, rfl⟩
      rw [← hm] at h4 HP
      have hm28 : m ≤ 28 := by omega
      have Hm := Lib.hid hm
      clear hm hput hx
      go_wp2_with fail
      refine (putBig_any (w.heap.size + 1) 32 32 m 4 (32 - m) (hs32 ws k) x w.heap.size wr hown (hs32_length HL.out hk) (by omega) (by decide) (by omega) (by decide)).mono ?_
      rw [HP.out]
      rintro ev w4 ⟨rfl, hown4, hg4⟩
      have hb4 := hbel.grown hg4 hbel.size (by simp)
      go_wp2
      go_roundw
      case rel => exact ⟨k + 1, by omega, by go_num, hown4, hb4⟩
      case measure => simp [intOf]; omega
    · obtain rfl : k = 8 := by omega
      rw [hs32_full HL.out] at hown
      go_wp2
      go_ret
      exact ⟨_, rfl, by unfold Own; rw [fours_length, HL.out]; exact hown, hbel⟩
theorem blocksW_next (p : List UInt8) (n : Nat) : blockW (blocksW p n) ((p.drop (64 * n)).take 64) = blocksW p (n + 1) := rfl
theorem shaL_eq {p : List UInt8} {l : List UInt8} {N : Nat} (hp : p = padL l) (hN : p.length = 64 * N) : fours (blocksW p N) = shaL l := by
  unfold shaL
  rw [← hp, hN, Nat.mul_div_cancel_left _ (by decide)]
set_option maxRecDepth 100000 in
set_option maxHeartbeats 4000000 in
theorem implSha_any (v : Value) (l : List UInt8) (w : World) (h : Sl w w.heap.size v l) (hl : l.length ≤ 1073741824)
    (hI : Glob w 0 initW) (hG : Glob w 1 kk) :
    Calls Tryd.prog 38 #[v] w (Fresh w (shaL l)) := by
  obtain ⟨t, fr, hg⟩ := hI
  have hsz := wSize (ws := initW) rfl
  have hZ : Arr 73 (w.alloc (.cells (cw (List.replicate 8 0)) 73)) w.heap.size (List.replicate 8 0) := arr_new _ w _
  have hs2 : (cw (List.replicate 8 0)).size = (cw initW).size := by rw [cw_size, cw_size]; rfl
  obtain ⟨P, hP⟩ : ∃ P, P = padL l := ⟨_, rfl⟩
  have hmod := padL_mod l
  have hpl := padL_len l
  rw [← hP] at hmod hpl
  obtain ⟨N, hN⟩ : ∃ N, P.length = 64 * N := ⟨P.length / 64, by omega⟩
  have hN2 : N ≤ 16777218 := by omega
  have hfin := shaL_eq hP hN
  rw [← hfin]
  have HP := Lib.hid hP
  have HN := Lib.hid hN
  clear hP hmod hpl hfin hN
  go_enter Tryd.func38, Tryd.ntmps38
  go_wp2_with (first
    | (refine wpList_load_row rfl _ _ rfl 0 rfl _ _ _ _ hg wDesc rfl hsz ?_)
    | (refine wpList_store_row rfl _ _ _ rfl w.heap.size (cw initW) rfl rfl _ _ hZ hsz hs2 (cw_cell _) ?_))
  change Calls _ _ _ ((w.alloc (.cells (cw (List.replicate 8 0)) 73)).setRow w.heap.size (cw initW)) _
  have hW2 : Arr 73 ((w.alloc (.cells (cw (List.replicate 8 0)) 73)).setRow w.heap.size (cw initW)) w.heap.size (blocksW P 0) := setRow_heap _ _ _ _ _ _ hZ
  have hb2 : Below w.heap.size w ((w.alloc (.cells (cw (List.replicate 8 0)) 73)).setRow w.heap.size (cw initW)) := ((Below.refl _ _).alloc (Nat.le_refl _) _).trans (setRow_below (Nat.le_refl _))
  have hz2 : ((w.alloc (.cells (cw (List.replicate 8 0)) 73)).setRow w.heap.size (cw initW)).heap.size = w.heap.size + 1 := by simp [World.setRow]
  generalize (w.alloc (.cells (cw (List.replicate 8 0)) 73)).setRow w.heap.size (cw initW) = w2 at hW2 hb2 hz2 ⊢
  refine (implShaPad_any v l w2 (h.up hb2) hl).mono ?_
  rw [← HP.out]
  rintro ev w3 ⟨pv, rfl, hown, hb3⟩
  have hW3 := hW2.up hb3
  have hb3' : Below w.heap.size w w3 := hb2.trans (hb3.mono hb2.size)
  have hown3 : Own 5 w3 (w.heap.size + 1) pv P := by rw [← hz2]; exact hown
  clear hW2 hb2 hb3 hown hz2 hZ hs2 hsz hg
  rcases hown3.2 with ⟨rfl, h0⟩ | ⟨g, cap, cur, rfl, hgb, hgc, hnc, hcm, hcs, hct⟩
  · have := padL_length l
    rw [← HP.out] at this
    omega
  · obtain ⟨T, hT⟩ : ∃ T, T = P.length := ⟨_, rfl⟩
    rw [← hT] at hnc ⊢
    have hT64 : T = 64 * N := by rw [hT, HN.out]
    have HT := Lib.hid hT
    have HT64 := Lib.hid hT64
    have hTb : T ≤ 1073741952 := by omega
    have hown3' : Own 5 w3 (w.heap.size + 1) (.slice (some ⟨g, 0, none⟩) T cap) P := by rw [hT]; exact hown3
    have hcm0 := hcm
    unfold maxLen at hcm
    clear hgc hcs hct hown3 hT hT64
    go_wp2
    go_loopw [5] (fun i wr => ∃ n m : Nat, n ≤ N ∧ m = 64 * n ∧ i = .int .i64 (m : Int) ∧ Arr 73 wr w.heap.size (blocksW P n) ∧ Own 5 wr (w.heap.size + 1) (.slice (some ⟨g, 0, none⟩) T cap) P ∧ Below w.heap.size w wr)
      (fun i _ => T - (intOf i).toNat)
    case atStart => exact ⟨0, 0, Nat.zero_le _, rfl, rfl, hW3, hown3', hb3'⟩
    case round =>
      clear hW3 hown3' hb3'
      obtain ⟨n, m, hn, hm, rfl, hW, hown, hbel⟩ := hrel
      have HM := Lib.hid hm
      by_cases hlt : n < N
      · have hmT : m + 64 ≤ T := by have := HT64.out; omega
        have hcut : Sl wr wr.heap.size (.slice (some ⟨g, m, none⟩) 64 (cap - m)) ((P.drop (64 * n)).take 64) := by
          rcases hown.sl with ⟨A', c', e, k1, k2, k0, k3⟩
          simp only [Value.slice.injEq] at e
          obtain ⟨e1, e2, e3⟩ := e
          obtain ⟨b', off', e4, k4, k5⟩ := k3 (by rw [← HT.out]; omega)
          rw [← e1] at e4
          simp only [Option.some.injEq, Addr.mk.injEq, and_true] at e4
          obtain ⟨rfl, rfl⟩ := e4
          exact sl_cut (64 * n) 64 (c := cap) hcm0 k4 k5 (by rw [← HT.out]; omega) m (cap - m) (fun _ => by omega) (by omega) (by omega)
        have hbl : ((P.drop (64 * n)).take 64).length = 64 := by
          rw [List.length_take, List.length_drop, ← HT.out]
          omega
        have hnx := blocksW_next P n
        generalize (P.drop (64 * n)).take 64 = B at hcut hbl hnx
        have HB := Lib.hid hbl
        have HNX := Lib.hid hnx
        clear hm hbl hnx
        go_wp2_with fail
        refine (compress_any w.heap.size (blocksW P n) _ B wr hW (blocksW_length P n) (blocksW_words P n) hcut HB.out (hG.below hG.lt hbel)).mono ?_
        rw [HNX.out]
        rintro ev w4 ⟨rfl, hW4, hg4⟩
        have hb4 := hbel.grown hg4 hbel.size (by simp)
        have hown4 := hown.kept hg4 (.inr (by simp [Value.ownBlock]; omega))
        go_wp2
        go_roundw
        case rel => exact ⟨n + 1, m + 64, by omega, by have := HM.out; omega, by go_num, hW4, hown4, hb4⟩
        case measure => simp [intOf]; omega
      · have hnN : n = N := by omega
        have hmT : m = T := by have := HT64.out; omega
        rw [hnN] at hW
        rw [hmT]
        have hzl := blocksW_length P N
        have hzw := blocksW_words P N
        have hszz := wSize hzl
        obtain ⟨Z, hZ⟩ : ∃ Z, Z = blocksW P N := ⟨_, rfl⟩
        rw [← hZ] at hW hzl hzw hszz
        have HZ := Lib.hid hZ
        have HZL := Lib.hid hzl
        clear hn hlt hm hnN hmT HM hZ hzl
        go_wp2_with (refine wpList_load_row rfl _ _ rfl w.heap.size rfl _ _ _ _ hW wDesc rfl hszz ?_)
        refine (hash_any Z HZL.out hzw wr).mono ?_
        rw [HZ.out]
        rintro ev w5 ⟨v5, rfl, hown5, hb5⟩
        go_wp2
        go_ret
        exact ⟨_, rfl, hown5.mono hbel.size, hbel.trans (hb5.mono hbel.size)⟩
end Go.Proofs.YtlchadbbldkkfaaDoor
