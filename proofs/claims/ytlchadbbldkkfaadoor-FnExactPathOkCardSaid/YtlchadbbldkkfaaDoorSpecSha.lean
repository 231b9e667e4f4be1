/- The contracts of ShaBlock and Sha, as their model has them. -/
import Derived.Test.YtlchadbbldkkfaaDoorShaBlock
import Derived.Test.YtlchadbbldkkfaaDoorShaPad
namespace Go.Proofs.YtlchadbbldkkfaaDoor
open Go.ChangeShapes Go.WideShapes Go.ChangeAt Go.RowKit

theorem ownI_none (E : TypeId) (w : World) (B : Nat) : OwnI E w B (.slice none 0 0) [] := World.ownsRow_nil _ _ _ _
set_option maxRecDepth 100000 in
set_option maxHeartbeats 4000000 in
theorem specShaBlock_no (v u : Value) (h : List Int) (b : List UInt8) (w : World) (hs : SlI w w.heap.size v h) (hs' : Sl w w.heap.size u b) (hno : ¬ (hOk h ∧ b.length = 64)) :
    Calls Tryd.prog 90 #[v, u] w (FreshI w []) := by
  obtain ⟨A, c, rfl, h1, h2, h0, h3⟩ := hs
  obtain ⟨A', c', rfl, h1', h2', h0', h3'⟩ := hs'
  unfold maxLen at h2 h2'
  clear h0 h0' h3'
  by_cases hl : h.length = 8
  · by_cases hb : b.length = 64
    · obtain ⟨p, off, rfl, hpb, hcell⟩ := h3 (by omega)
      have HC := Lib.hid hcell
      have HL := Lib.hid hl
      have HN : Hid (¬ hOk h) := Lib.hid fun e => hno ⟨e, hb⟩
      rw [hl] at h1 ⊢
      rw [hb] at h1' ⊢
      clear h3 hcell hl hb hno
      go_enter Tryd.func90, Tryd.ntmps90
      go_wp2
      go_loopw [33] (fun i wr => ∃ k : Nat, k ≤ 8 ∧ i = .int .i64 k ∧ (∀ j, j < k → 0 ≤ it h j ∧ it h j ≤ 4294967295) ∧ w = wr)
        (fun i _ => 8 - (intOf i).toNat)
      case atStart => exact ⟨0, Nat.zero_le _, rfl, fun j hj => absurd hj (Nat.not_lt_zero _), rfl⟩
      case round =>
        obtain ⟨k, hk, rfl, hall, rfl⟩ := hrel
        have HALL := Lib.hid hall
        clear hall
        by_cases hlt : k < 8
        · have hlt8 : (k : Int) < 8 := by omega
          have hc0 := HC.out k (by rw [HL.out]; exact hlt)
          obtain ⟨x, hx⟩ : ∃ x, x = it h k := ⟨_, rfl⟩
          rw [← hx] at hc0
          have HX := Lib.hid hx
          clear hx
          by_cases hwd : 0 ≤ x ∧ x ≤ 4294967295
          · have HALL' : Hid (∀ j, j < k + 1 → 0 ≤ it h j ∧ it h j ≤ 4294967295) := Lib.hid fun j hj => by
              by_cases e : j < k
              · exact HALL.out j e
              · obtain rfl : j = k := by omega
                rw [← HX.out]
                exact hwd
            have HW := Lib.hid hwd
            clear hwd
            go_wp2_with fail
            refine (l04Word_yes _ _ HW.out.1 HW.out.2).mono ?_
            rintro e w' ⟨rfl, rfl⟩
            go_wp2
            go_roundw
            case rel => exact ⟨k + 1, by omega, by go_num, HALL'.out, trivial⟩
            case measure => simp [intOf]; omega
          · have HW := Lib.hid hwd
            clear hwd
            go_wp2_with fail
            refine (l04Word_no _ _ HW.out).mono ?_
            rintro e w' ⟨rfl, rfl⟩
            go_wp2
            go_ret
            exact ⟨_, rfl, ownI_none _ _ _, Below.refl _ _⟩
        · exact absurd (⟨HL.out, fun x hx => by
            obtain ⟨j, hj, rfl⟩ := List.mem_iff_getElem.1 hx
            have := HALL.out j (by rw [HL.out] at hj; omega)
            simpa [it, List.getD_eq_getElem?_getD, List.getElem?_eq_getElem hj] using this⟩ : hOk h) HN.out
    · have hne : ((b.length : Int) != 64) = true := by simp; omega
      rw [hl]
      clear hb hno h3 hl
      go_enter Tryd.func90, Tryd.ntmps90
      go_wp2
      go_ret
      exact ⟨_, rfl, ownI_none _ _ _, Below.refl _ _⟩
  · have hne : ((h.length : Int) != 8) = true := by simp; omega
    clear hl hno h3
    go_enter Tryd.func90, Tryd.ntmps90
    go_wp2
    go_ret
    exact ⟨_, rfl, ownI_none _ _ _, Below.refl _ _⟩
theorem specShaBlock_any (v u : Value) (h : List Int) (b : List UInt8) (w : World) (hs : SlI w w.heap.size v h) (hs' : Sl w w.heap.size u b) (_hbig : h.length ≤ 4294967296) (_hbig' : b.length ≤ 4294967296) :
    Calls Tryd.prog 90 #[v, u] w (FreshI w (shaBlockL h b)) := by
  by_cases ho : hOk h ∧ b.length = 64
  · have e : shaBlockL h b = wi (blockW (h.map Int.toNat) b) := if_pos ho
    obtain ⟨e1, e2⟩ := wi_toNat ho.1
    rw [e]
    refine specShaBlock_yes v u (h.map Int.toNat) b w (by rw [e1]; exact hs) hs' (by rw [List.length_map, ho.1.1]) ho.2 e2
  · have e : shaBlockL h b = [] := if_neg ho
    rw [e]
    exact specShaBlock_no v u h b w hs hs' ho

theorem blocksW_step (p : List UInt8) (n : Nat) (hn : ((p.drop (64 * n)).take 64).length = 64) : shaBlockL (wi (blocksW p n)) ((p.drop (64 * n)).take 64) = wi (blocksW p (n + 1)) := by
  have hw := blocksW_words p n
  have ho : hOk (wi (blocksW p n)) := ⟨by rw [wi_length, blocksW_length], fun x hx => by
    obtain ⟨y, hy, rfl⟩ := List.mem_map.1 hx
    have := hw y hy
    constructor <;> omega⟩
  have e : (wi (blocksW p n)).map Int.toNat = blocksW p n := by
    rw [wi, List.map_map]
    conv => rhs; rw [← List.map_id (blocksW p n)]
    apply List.map_congr_left
    intro y _
    simp
  unfold shaBlockL
  rw [if_pos ⟨ho, hn⟩, e]
  rfl
theorem four_us {x : Nat} (hx : x < 4294967296) : us (four x) = [.int .u8 ((x : Int) / 16777216), .int .u8 ((x : Int) / 65536 % 256), .int .u8 ((x : Int) / 256 % 256), .int .u8 ((x : Int) % 256)] := by
  simp [us, four]
  omega
theorem fours_take {z : List Nat} {k : Nat} (hk : k < z.length) : fours (z.take k) ++ four (z.getD k 0) = fours (z.take (k + 1)) := by
  have e : z.getD k 0 = z[k] := by simp [List.getD_eq_getElem?_getD, List.getElem?_eq_getElem hk]
  rw [List.take_add_one, List.getElem?_eq_getElem hk, e]
  unfold fours
  rw [List.flatMap_append]
  rfl
theorem shaL_is {p : List UInt8} {l : List UInt8} {N : Nat} (hp : p = padL l) (hN : p.length = 64 * N) : fours (blocksW p N) = shaL l := by
  unfold shaL
  rw [← hp, hN, Nat.mul_div_cancel_left _ (by decide)]
theorem padL_most (l : List UInt8) : (padL l).length ≤ l.length + 72 := by
  rw [padL_length]
  unfold zerosOf
  omega
set_option maxRecDepth 100000 in
set_option maxHeartbeats 4000000 in
theorem specSha_any (v : Value) (l : List UInt8) (w : World) (h : Sl w w.heap.size v l) (hl : l.length ≤ 1073741824) :
    Calls Tryd.prog 79 #[v] w (Fresh w (shaL l)) := by
  obtain ⟨i0, hi, hz0, hz1, hz2⟩ := info_parts u8info
  obtain ⟨P, hP⟩ : ∃ P, P = padL l := ⟨_, rfl⟩
  have hmod := padL_mod l
  have hpl := padL_most l
  rw [← hP] at hmod hpl
  obtain ⟨N, hN⟩ : ∃ N, P.length = 64 * N := ⟨P.length / 64, by omega⟩
  have hN2 : N ≤ 16777218 := by omega
  have hfin := shaL_is hP hN
  rw [← hfin]
  have HP := Lib.hid hP
  have HN := Lib.hid hN
  clear hP hmod hpl hfin hN
  go_enter Tryd.func79, Tryd.ntmps79
  go_wp2_with fail
  refine (specShaInit_any w).mono ?_
  rintro ev w1 ⟨hv, rfl, hownh, hb1⟩
  have hsl : SlI w1 w1.heap.size hv (wi (blocksW P 0)) := hownh.sl
  go_wp2_with fail
  refine (specShaPad_any v l w1 (h.up hb1) (by omega)).mono ?_
  rw [← HP.out]
  rintro ev w3 ⟨pv, rfl, hown, hb3⟩
  have hslh := hsl.up hb3
  have hb3' : Below w.heap.size w w3 := hb1.trans (hb3.mono hb1.size)
  clear hsl hownh
  rcases hown.2 with ⟨rfl, h0⟩ | ⟨g, cap, cur, rfl, hgb, hgc, hnc, hcm, hcs, hct⟩
  · have := padL_length l
    rw [← HP.out] at this
    omega
  · obtain ⟨T, hT⟩ : ∃ T, T = P.length := ⟨_, rfl⟩
    rw [← hT] at hnc ⊢
    have hT64 : T = 64 * N := by rw [hT, HN.out]
    have HT := Lib.hid hT
    have HT64 := Lib.hid hT64
    have hTb : T ≤ 1073741952 := by omega
    have hown3' : Sl w3 w3.heap.size (.slice (some ⟨g, 0, none⟩) T cap) P := by rw [hT]; exact hown.sl
    have hcm0 := hcm
    unfold maxLen at hcm
    clear hgc hcs hct hown hT hT64 hb1 hb3
    go_wp2
    go_loopw [3, 5] (fun s i wr => ∃ n m : Nat, n ≤ N ∧ m = 64 * n ∧ i = .int .i64 (m : Int) ∧ SlI wr wr.heap.size s (wi (blocksW P n)) ∧ Sl wr wr.heap.size (.slice (some ⟨g, 0, none⟩) T cap) P ∧ Below w.heap.size w wr)
      (fun _ i _ => T - (intOf i).toNat)
    case atStart => exact ⟨0, 0, Nat.zero_le _, rfl, rfl, hslh, hown3', hb3'⟩
    case round =>
      clear hslh hown3' hb3'
      obtain ⟨n, m, hn, hm, rfl, hsh, hsp, hbel⟩ := hrel
      have HM := Lib.hid hm
      by_cases hlt : n < N
      · have hmT : m + 64 ≤ T := by have := HT64.out; omega
        have hcut : Sl wr wr.heap.size (.slice (some ⟨g, m, none⟩) 64 (cap - m)) ((P.drop (64 * n)).take 64) := by
          rcases hsp with ⟨A', c', e, k1, k2, k0, k3⟩
          simp only [Value.slice.injEq] at e
          obtain ⟨e1, e2, e3⟩ := e
          obtain ⟨b', off', e4, k4, k5⟩ := k3 (by rw [← HT.out]; omega)
          rw [← e1] at e4
          simp only [Option.some.injEq, Addr.mk.injEq, and_true] at e4
          obtain ⟨rfl, rfl⟩ := e4
          exact sl_cut (64 * n) 64 (c := cap) hcm0 k4 k5 (by rw [← HT.out]; omega) m (cap - m) (fun _ => by omega) (by omega) (by omega)
        have hbl : ((P.drop (64 * n)).take 64).length = 64 := by
          rw [List.length_take, List.length_drop, ← HT.out]
          omega
        have hnx := blocksW_step P n hbl
        generalize (P.drop (64 * n)).take 64 = B at hcut hbl hnx
        have HB := Lib.hid hbl
        have HNX := Lib.hid hnx
        clear hm hbl hnx
        have hwl : (wi (blocksW P n)).length ≤ 4294967296 := by rw [wi_length, blocksW_length]; decide
        go_wp2_with fail
        refine (specShaBlock_any _ _ (wi (blocksW P n)) B wr hsh hcut hwl (by rw [HB.out]; decide)).mono ?_
        rw [HNX.out]
        rintro ev w4 ⟨v4, rfl, hown4, hb4⟩
        have hsh4 := hown4.sl
        have hsp4 := hsp.up hb4
        have hb4' := hbel.trans (hb4.mono hbel.size)
        go_wp2
        go_roundw
        case rel => exact ⟨n + 1, m + 64, by omega, by have := HM.out; omega, by go_num, hsh4, hsp4, hb4'⟩
        case measure => simp [intOf]; omega
      · have hnN : n = N := by omega
        have hmT : m = T := by have := HT64.out; omega
        rw [hnN] at hsh
        rw [hmT]
        have hzw := blocksW_words P N
        have hzl := blocksW_length P N
        obtain ⟨Z, hZ⟩ : ∃ Z, Z = blocksW P N := ⟨_, rfl⟩
        rw [← hZ] at hsh hzw hzl
        have HZ := Lib.hid hZ
        have HZL := Lib.hid hzl
        have hlz : (wi Z).length = 8 := by rw [wi_length, hzl]
        obtain ⟨Av, cv, rfl, v1, v2, v0, v3⟩ := hsh
        rw [hlz] at v1 v3 ⊢
        obtain ⟨bv, ov, rfl, hbv, hcv⟩ := v3 (by omega)
        unfold maxLen at v2
        have HCV := Lib.hid hcv
        clear v0 v3 hlz hcv hn hlt hm hnN hmT HM hsp hZ hzl
        have hstart4 : Own 5 (wr.alloc (.cells #[] 5)) wr.heap.size (.slice (some ⟨wr.heap.size, 0, none⟩) 0 0) (fours (Z.take 0)) :=
          World.ownsRow_lit wr #[] 0 (Nat.le_refl _) (by simp [maxLen]) rfl
        have hbstart4 : Below wr.heap.size wr (wr.alloc (.cells #[] 5)) := (Below.refl _ _).alloc (Nat.le_refl _) _
        go_wp2
        generalize hwx : wr = wx at *
        clear hwx
        generalize wx.alloc (.cells #[] 5) = w5 at hstart4 hbstart4 ⊢
        go_loopw [6, 28] (fun s i wq => ∃ j : Nat, j ≤ 8 ∧ i = .int .i64 j ∧ Own 5 wq wx.heap.size s (fours (Z.take j)) ∧ Below wx.heap.size wx wq)
          (fun _ i _ => 8 - (intOf i).toNat)
        case atStart => exact ⟨0, Nat.zero_le _, rfl, hstart4, hbstart4⟩
        case round =>
          clear hstart4 hbstart4
          obtain ⟨j, hj, rfl, hown, hbelx⟩ := hrel
          by_cases hlt8 : j < 8
          · have hji : (j : Int) < 8 := by omega
            have cx0 : wx.cell? ⟨bv, ov + j, none⟩ = some (.int .i64 (Z.getD j 0 : Int)) := by
              have := HCV.out j hlt8
              rw [it_wi] at this
              exact this
            have hx := hzw.at_ j
            have hft := fours_take (z := Z) (k := j) (by rw [HZL.out]; exact hlt8)
            have hlen : (fours (Z.take j)).length ≤ 32 := by rw [fours_length, List.length_take]; omega
            generalize Z.getD j 0 = x at cx0 hx hft
            have hcx := (hbelx.cell (p := ⟨bv, ov + j, none⟩) hbv).trans cx0
            have HFT := Lib.hid hft
            have hlit : Own 5 (wr.alloc (.cells #[.int .u8 ((x : Int) / 16777216), .int .u8 ((x : Int) / 65536 % 256), .int .u8 ((x : Int) / 256 % 256), .int .u8 ((x : Int) % 256)] 5)) wr.heap.size (.slice (some ⟨wr.heap.size, 0, none⟩) 4 4) (four x) := by
              have := World.ownsRow_lit (base := wr.heap.size) (size := 1) (e := 5) wr #[.int .u8 ((x : Int) / 16777216), .int .u8 ((x : Int) / 65536 % 256), .int .u8 ((x : Int) / 256 % 256), .int .u8 ((x : Int) % 256)] 4 (Nat.le_refl _) (by simp [maxLen]) rfl
              unfold Own
              rw [four_us hx]
              exact this
            have HLIT := Lib.hid hlit.sl
            have hba := (Below.refl wr.heap.size wr).alloc (Nat.le_refl _) (.cells #[.int .u8 ((x : Int) / 16777216), .int .u8 ((x : Int) / 65536 % 256), .int .u8 ((x : Int) / 256 % 256), .int .u8 ((x : Int) % 256)] 5)
            have HUP := Lib.hid (hown.up hba)
            have HBA := Lib.hid (hbelx.alloc hbelx.size (.cells #[.int .u8 ((x : Int) / 16777216), .int .u8 ((x : Int) / 65536 % 256), .int .u8 ((x : Int) / 256 % 256), .int .u8 ((x : Int) % 256)] 5))
            clear hft cx0 hlit hba
            go_wp2_with (at_builtin; refine wpList_appS (W := wx) rfl _ _ 22 rfl 5 i0 Tryd.underlying22 hi hz0 hz1 hz2 _ (fours (Z.take j)) (by rfl) _ (four x) (by rfl) HLIT.out HUP.out HBA.out (by simp [four]; omega) ?_; intro v6 w6 hown6 hb6)
            rw [HFT.out] at hown6
            go_roundw
            case rel => exact ⟨j + 1, by omega, by go_num, hown6, hb6⟩
            case measure => simp [intOf]; omega
          · have hj8 : j = 8 := by omega
            have hji : (j : Int) = 8 := by omega
            rw [hji]
            rw [hj8, List.take_of_length_le (Nat.le_of_eq HZL.out)] at hown
            clear hj hlt8 hj8 hji
            go_wp2
            go_ret
            exact ⟨_, rfl, by rw [← HZ.out]; exact hown.mono hbel.size, hbel.trans (hbelx.mono hbel.size)⟩
end Go.Proofs.YtlchadbbldkkfaaDoor
