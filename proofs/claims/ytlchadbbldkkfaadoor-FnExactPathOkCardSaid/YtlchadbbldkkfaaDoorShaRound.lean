/- The contracts of round and compress. -/
import Derived.Test.YtlchadbbldkkfaaDoorShaSch
namespace Go.Proofs.YtlchadbbldkkfaaDoor
open Go.ChangeShapes Go.WideShapes Go.ChangeAt Go.RowKit

theorem grown_setRow (w : World) (g : Nat) (cs : Array Value) : w.grownBy (w.setRow g cs) (some g) := by
  refine ⟨rfl, rfl, rfl, by simp, fun i hi hne => ?_⟩
  rw [setRow_other]
  intro e
  exact hne (by rw [e])
theorem gsetW (w : World) (g k : Nat) (v : Value) : w.grownBy (w.setCell ⟨g, k, none⟩ v) (some g) :=
  ⟨rfl, rfl, rfl, by simp [World.setCell], fun _ _ hk => Below.heap_setCell _ _ _ _ (fun e => hk (by simp [e]))⟩
/-- The sums of a round, behind names. -/
theorem round_sums {sa sb sc sd se sf sg sh kn wn : Nat} (_ : sh < 4294967296) (_ : sd < 4294967296) (_ : kn < 4294967296) (_ : wn < 4294967296) (_ : sa < 4294967296) (_ : sb < 4294967296) (_ : se < 4294967296) :
    ∃ B C D E T1 T2 T3 T4 U1 A F : Nat, Hid (bg1 se = B ∧ chN se sf sg = C ∧ bg0 sa = D ∧ majN sa sb sc = E ∧ (St.mk sa sb sc sd se sf sg sh).step kn wn = ⟨A, sa, sb, sc, F, se, sf, sg⟩) ∧
      (((sh : Int) + (B : Int)) % 4294967296 = (T1 : Int) ∧ ((T1 : Int) + (C : Int)) % 4294967296 = (T2 : Int) ∧ ((T2 : Int) + (kn : Int)) % 4294967296 = (T3 : Int) ∧ ((T3 : Int) + (wn : Int)) % 4294967296 = (T4 : Int) ∧
        ((D : Int) + (E : Int)) % 4294967296 = (U1 : Int) ∧ ((T4 : Int) + (U1 : Int)) % 4294967296 = (A : Int) ∧ ((sd : Int) + (T4 : Int)) % 4294967296 = (F : Int)) ∧
      B < 4294967296 ∧ C < 4294967296 ∧ D < 4294967296 ∧ E < 4294967296 ∧ T1 < 4294967296 ∧ T2 < 4294967296 ∧ T3 < 4294967296 ∧ T4 < 4294967296 ∧ U1 < 4294967296 := by
  obtain ⟨T1, h1⟩ : ∃ T1, T1 = (sh + bg1 se) % 4294967296 := ⟨_, rfl⟩
  obtain ⟨T2, h2⟩ : ∃ T2, T2 = (T1 + chN se sf sg) % 4294967296 := ⟨_, rfl⟩
  obtain ⟨T3, h3⟩ : ∃ T3, T3 = (T2 + kn) % 4294967296 := ⟨_, rfl⟩
  obtain ⟨T4, h4⟩ : ∃ T4, T4 = (T3 + wn) % 4294967296 := ⟨_, rfl⟩
  obtain ⟨U1, h5⟩ : ∃ U1, U1 = (bg0 sa + majN sa sb sc) % 4294967296 := ⟨_, rfl⟩
  have b1 := bg1_lt se
  have b2 : chN se sf sg < 4294967296 := chN_lt (by assumption)
  have b3 := bg0_lt sa
  have b4 : majN sa sb sc < 4294967296 := majN_lt (by assumption) (by assumption)
  refine ⟨_, _, _, _, T1, T2, T3, T4, U1, (T4 + U1) % 4294967296, (sd + T4) % 4294967296, Lib.hid ⟨rfl, rfl, rfl, rfl, ?_⟩, ⟨by omega, by omega, by omega, by omega, by omega, by omega, by omega⟩, b1, b2, b3, b4, by omega, by omega, by omega, by omega, by omega⟩
  unfold St.step tOf uOf
  simp only [St.mk.injEq, and_true, true_and]
  constructor <;> omega
set_option maxRecDepth 100000 in
set_option maxHeartbeats 4000000 in
theorem round_any (g : Nat) (s : St) (kn wn : Nat) (w : World) (hA : Arr 73 w g s.list) (hs : s.Ok) (hk : kn < 4294967296) (hw : wn < 4294967296) :
    Calls Tryd.prog 85 #[.pointer (some ⟨g, 0, none⟩), .int .u32 (kn : Int), .int .u32 (wn : Int)] w
      fun e w' => e = .returned (.tuple #[]) ∧ Arr 73 w' g (s.step kn wn).list ∧ w.grownBy w' (some g) := by
  obtain ⟨sa, sb, sc, sd, se, sf, sg, sh⟩ := s
  obtain ⟨ba, bb, bc, bd, be, bf, bg, bh⟩ := hs
  simp only at ba bb bc bd be bf bg bh
  obtain ⟨B, C, D, E, T1, T2, T3, T4, U1, A, F, H, ⟨t1, t2, t3, t4, t5, t6, t7⟩, l1, l2, l3, l4, l5, l6, l7, l8, l9⟩ := round_sums (sc := sc) (sf := sf) (sg := sg) bh bd hk hw ba bb be
  have c0 : w.cell? ⟨g, 0, none⟩ = some (.int .u32 (sa : Int)) := hA.at 0 (by decide : 0 < 8)
  have c1 : w.cell? ⟨g, 1, none⟩ = some (.int .u32 (sb : Int)) := hA.at 1 (by decide : 1 < 8)
  have c2 : w.cell? ⟨g, 2, none⟩ = some (.int .u32 (sc : Int)) := hA.at 2 (by decide : 2 < 8)
  have c3 : w.cell? ⟨g, 3, none⟩ = some (.int .u32 (sd : Int)) := hA.at 3 (by decide : 3 < 8)
  have c4 : w.cell? ⟨g, 4, none⟩ = some (.int .u32 (se : Int)) := hA.at 4 (by decide : 4 < 8)
  have c5 : w.cell? ⟨g, 5, none⟩ = some (.int .u32 (sf : Int)) := hA.at 5 (by decide : 5 < 8)
  have c6 : w.cell? ⟨g, 6, none⟩ = some (.int .u32 (sg : Int)) := hA.at 6 (by decide : 6 < 8)
  have c7 : w.cell? ⟨g, 7, none⟩ = some (.int .u32 (sh : Int)) := hA.at 7 (by decide : 7 < 8)
  rw [H.out.2.2.2.2]
  go_enter Tryd.func85, Tryd.ntmps85
  go_wp2_with fail
  go_quiet (fail)
  have hA8 : Arr 73 (w.drewN nq) g (St.list ⟨sa, sb, sc, sd, se, sf, sg, sh⟩) := hA
  have hg8 : w.grownBy (w.drewN nq) (some g) := ⟨rfl, rfl, rfl, Nat.le_refl _, fun _ _ _ => rfl⟩
  clear c0 c1 c2 c3 c4 c5 c6 c7 hA
  generalize w.drewN nq = w8 at hA8 hg8 ⊢
  go_wp2_with fail
  refine (shaBig1_any se _ be).mono ?_
  rw [H.out.1]
  rintro ev _ ⟨rfl, rfl⟩
  go_wp2_with fail
  refine (shaChoice_any se sf sg _ be bf bg).mono ?_
  rw [H.out.2.1]
  rintro ev _ ⟨rfl, rfl⟩
  go_wp2_with fail
  refine (shaBig0_any sa _ ba).mono ?_
  rw [H.out.2.2.1]
  rintro ev _ ⟨rfl, rfl⟩
  go_wp2_with fail
  refine (shaMajority_any sa sb sc _ ba bb bc).mono ?_
  rw [H.out.2.2.2.1]
  rintro ev _ ⟨rfl, rfl⟩
  go_wp2_with (refine wpList_store_row rfl _ _ _ rfl g (cw (St.list ⟨A, sa, sb, sc, F, se, sf, sg⟩)) rfl rfl _ _ hA8 (wSize rfl) rfl (cw_cell _) ?_)
  go_end0
  exact ⟨rfl, setRow_heap w8 g _ _ _ _ hA8, gtrans hg8 (grown_setRow _ _ _)⟩

/-- What compress has after k rounds of its last loop. -/
def mix (z h : List Nat) (k : Nat) : List Nat := z.take k ++ h.drop k
theorem mix_zero (z h : List Nat) : mix z h 0 = h := by simp [mix]
theorem mix_full {z h : List Nat} {k : Nat} (hz : z.length = k) (hh : h.length = k) : mix z h k = z := by simp [mix, List.take_of_length_le (Nat.le_of_eq hz), List.drop_eq_nil_of_le (Nat.le_of_eq hh)]
theorem mix_length {z h : List Nat} {k : Nat} (hz : z.length = h.length) (hk : k ≤ h.length) : (mix z h k).length = h.length := by simp [mix]; omega
theorem mix_get {z h : List Nat} {k : Nat} (hz : z.length = h.length) (hk : k ≤ h.length) : (mix z h k).getD k 0 = h.getD k 0 := by
  have e : (z.take k).length = k := by simp; omega
  simp only [mix, List.getD_eq_getElem?_getD]
  rw [List.getElem?_append_right (by omega), e]
  simp
theorem mix_set {z h : List Nat} {k : Nat} (hz : z.length = h.length) (hk : k < h.length) : (mix z h k).set k (z.getD k 0) = mix z h (k + 1) := by
  have e : (z.take k).length = k := by simp; omega
  unfold mix
  rw [List.set_append_right _ _ (by omega), e, Nat.sub_self, List.drop_eq_getElem_cons hk, List.set_cons_zero, List.take_add_one, List.getElem?_eq_getElem (show k < z.length by omega), List.append_assoc]
  simp [List.getD_eq_getElem?_getD, List.getElem?_eq_getElem (show k < z.length by omega)]
theorem blockW_get {h : List Nat} {b : List UInt8} (hl : h.length = 8) (k : Nat) (hk : k < 8) : (blockW h b).getD k 0 = (h.getD k 0 + ((rounds (sched b 48) (St.of h) 64).list).getD k 0) % 4294967296 := by
  have hr : ((rounds (sched b 48) (St.of h) 64).list).length = 8 := rfl
  unfold blockW
  simp only [List.getD_eq_getElem?_getD]
  rw [List.getElem?_zipWith, List.getElem?_eq_getElem (show k < h.length by omega), List.getElem?_eq_getElem (by omega)]
  rfl
theorem St.list_words {s : St} (h : s.Ok) : Words s.list := by
  obtain ⟨h0, h1, h2, h3, h4, h5, h6, h7⟩ := h
  intro x hx
  simp only [St.list, List.mem_cons, List.not_mem_nil, or_false] at hx
  rcases hx with rfl | rfl | rfl | rfl | rfl | rfl | rfl | rfl <;> assumption
set_option maxRecDepth 100000 in
set_option maxHeartbeats 4000000 in
theorem compress_any (g : Nat) (h : List Nat) (u : Value) (b : List UInt8) (w : World) (hA : Arr 73 w g h) (hl : h.length = 8) (hw : Words h)
    (hs : Sl w w.heap.size u b) (hb : b.length = 64) (hG : Glob w 1 kk) :
    Calls Tryd.prog 71 #[.pointer (some ⟨g, 0, none⟩), u] w
      fun e w' => e = .returned (.tuple #[]) ∧ Arr 73 w' g (blockW h b) ∧ w.grownBy w' (some g) := by
  have hgl := hA.lt
  have hsz := wSize hl
  have hZ : Arr 73 (w.alloc (.cells (cw (List.replicate 8 0)) 73)) w.heap.size (List.replicate 8 0) := arr_new _ w _
  have HL := Lib.hid hl
  have HB := Lib.hid hb
  obtain ⟨Z, hZZ⟩ : ∃ Z, Z = blockW h b := ⟨_, rfl⟩
  obtain ⟨S, hS⟩ : ∃ S, S = sched b 48 := ⟨_, rfl⟩
  rw [← hZZ]
  have HZ := Lib.hid hZZ
  have HS := Lib.hid hS
  clear hl hb hZZ hS
  go_enter Tryd.func71, Tryd.ntmps71
  go_wp2_with (first
    | (refine wpList_load_row rfl _ _ rfl g rfl _ _ _ _ hA wDesc rfl hsz ?_)
    | (refine wpList_store_row rfl _ _ _ rfl w.heap.size (cw h) rfl rfl _ _ hZ hsz (by rw [cw_size, cw_size, HL.out]; rfl) (cw_cell _) ?_))
  change Calls _ _ _ ((w.alloc (.cells (cw (List.replicate 8 0)) 73)).setRow w.heap.size (cw h)) _
  have hW2 : Arr 73 ((w.alloc (.cells (cw (List.replicate 8 0)) 73)).setRow w.heap.size (cw h)) w.heap.size h := setRow_heap _ _ _ _ _ _ hZ
  have hb2 : Below w.heap.size w ((w.alloc (.cells (cw (List.replicate 8 0)) 73)).setRow w.heap.size (cw h)) := ((Below.refl _ _).alloc (Nat.le_refl _) _).trans (setRow_below (Nat.le_refl _))
  generalize (w.alloc (.cells (cw (List.replicate 8 0)) 73)).setRow w.heap.size (cw h) = w2 at hW2 hb2 ⊢
  refine (scheduleOf_any _ b _ (hs.up hb2) HB.out).mono ?_
  rw [← HS.out]
  rintro ev w3 ⟨rfl, hb3⟩
  have hW3 := hW2.up hb3
  have hb3' : Below w.heap.size w w3 := hb2.trans (hb3.mono hb2.size)
  have hSl : S.length = 64 := by rw [HS.out, sched_length]
  have hSw : Words S := by rw [HS.out]; exact sched_words _ _
  have hok := St.of_ok hw
  have hW3' : Arr 73 w3 w.heap.size (rounds S (St.of h) 0).list := by
    show Arr _ _ _ (St.of h).list
    rw [St.of_list HL.out]
    exact hW3
  obtain ⟨s0, hs0⟩ : ∃ s0, s0 = St.of h := ⟨_, rfl⟩
  rw [← hs0] at hW3' hok
  have HS0 := Lib.hid hs0
  clear hs0 hW2 hb2 hb3 hW3 hZ
  go_wp2
  go_loopw [14] (fun i wr => ∃ k : Nat, k ≤ 64 ∧ i = .int .i64 k ∧ Arr 73 wr w.heap.size (rounds S s0 k).list ∧ Below w.heap.size w wr)
    (fun i _ => 64 - (intOf i).toNat)
  case atStart => exact ⟨0, Nat.zero_le _, rfl, hW3', hb3'⟩
  case round =>
    clear hW3' hb3'
    obtain ⟨k, hk, rfl, hW, hbel⟩ := hrel
    by_cases hlt : k < 64
    · have hlt64 : (k : Int) < 64 := by omega
      have hx := cw_get S k (by rw [hSl]; exact hlt)
      have hgc := (hG.below hG.lt hbel).at k (by rw [kk_length]; exact hlt)
      have hkl := kk_words.at_ k
      have hwl := hSw.at_ k
      have hsok := rounds_ok S hok k
      have hnext : rounds S s0 (k + 1) = (rounds S s0 k).step (kk.getD k 0) (S.getD k 0) := rfl
      generalize kk.getD k 0 = kn at hgc hkl hnext
      generalize S.getD k 0 = wn at hx hwl hnext
      generalize rounds S s0 k = s at hW hsok hnext
      have hX := fun w => run_idx sDesc S k wn (by omega) hx w
      have HN := Lib.hid hnext
      clear hnext hx
      go_wp2_with fail
      refine (round_any w.heap.size s kn wn wr hW hsok hkl hwl).mono ?_
      rw [← HN.out]
      rintro ev w4 ⟨rfl, hW4, hg4⟩
      have hb4 := hbel.grown hg4 hbel.size (by simp)
      go_wp2
      go_roundw
      case rel => exact ⟨k + 1, by omega, by go_num, hW4, hb4⟩
      case measure => simp [intOf]; omega
    · have hk64 : k = 64 := by omega
      have hki : (k : Int) = 64 := by omega
      rw [hki]
      rw [hk64] at hW
      have hrw := St.list_words (rounds_ok S hok 64)
      have hrsz := wSize (ws := (rounds S s0 64).list) rfl
      have hrl : ((rounds S s0 64).list).length = 8 := rfl
      have hget : ∀ j, j < 8 → Z.getD j 0 = (h.getD j 0 + ((rounds S s0 64).list).getD j 0) % 4294967296 := fun j hj => by
        rw [HZ.out, HS.out, HS0.out]
        exact blockW_get HL.out j hj
      generalize (rounds S s0 64).list = R at hW hrw hrsz hrl hget
      clear hk hk64 hki hlt
      have HG := Lib.hid hget
      have HR := Lib.hid hrl
      clear hget hrl
      go_wp2_with (refine wpList_load_row rfl _ _ rfl w.heap.size rfl _ _ _ _ hW wDesc rfl hrsz ?_)
      have hZl : Z.length = 8 := by rw [HZ.out]; exact blockW_length _ HL.out
      have hAw : Arr 73 wr g (mix Z h 0) := by rw [mix_zero]; exact hA.below hgl hbel
      have hgw : w.grownBy wr (some g) := grown_of_below hbel _
      have HZL := Lib.hid hZl
      clear hW hbel hSl hZl
      go_loopw [25] (fun i wq => ∃ k : Nat, k ≤ 8 ∧ i = .int .i64 k ∧ Arr 73 wq g (mix Z h k) ∧ w.grownBy wq (some g))
        (fun i _ => 8 - (intOf i).toNat)
      case atStart => exact ⟨0, Nat.zero_le _, rfl, hAw, hgw⟩
      case round =>
        clear hAw hgw
        obtain ⟨k, hk, rfl, hM, hgr⟩ := hrel
        by_cases hlt : k < 8
        · have hlt8 : (k : Int) < 8 := by omega
          have hml : (mix Z h k).length = 8 := by rw [mix_length (by rw [HZL.out, HL.out]) (by rw [HL.out]; exact hk), HL.out]
          have hx := cw_get R k (by rw [HR.out]; exact hlt)
          have hc := hM.at k (by rw [hml]; exact hlt)
          rw [mix_get (by rw [HZL.out, HL.out]) (by rw [HL.out]; exact hk)] at hc
          have hf := hM.free k
          have hxl := hrw.at_ k
          have hyl := hw.at_ k
          have hz := HG.out k hlt
          have hset := mix_set (z := Z) (h := h) (k := k) (by rw [HZL.out, HL.out]) (by rw [HL.out]; exact hlt)
          rw [hz] at hset
          generalize R.getD k 0 = x at hx hxl hset hz
          generalize h.getD k 0 = y at hc hyl hset hz
          have hX := fun w => run_idx wDesc R k x (by omega) hx w
          have hsum : IntKind.u32.wrap ((y : Int) + (x : Int)) = (((y + x) % 4294967296 : Nat) : Int) := by simp only [IntKind.wrap_u32']; omega
          generalize (y + x) % 4294967296 = q at hset hsum hz
          have HSET := Lib.hid hset
          clear hset hz hx hml
          go_wp2_with fail
          go_still_tail 9, (by kernel_rfl)
          change wpList _ _ _ _ _ wr.drew
          have hM9 : Arr 73 wr.drew g (mix Z h k) := hM
          have hg9 : w.grownBy wr.drew (some g) := gtrans hgr ⟨rfl, rfl, rfl, Nat.le_refl _, fun _ _ _ => rfl⟩
          have hc9 : wr.drew.cell? ⟨g, k, none⟩ = some (.int .u32 (y : Int)) := hc
          have hf9 : wr.drew.frozen? ⟨g, k, none⟩ = false := hf
          clear hM hgr hc hf hX hsum
          generalize wr.drew = w9 at hM9 hg9 hc9 hf9 ⊢
          have hst := hM9.set k q
          rw [HSET.out] at hst
          have HST := Lib.hid hst
          have HGR := Lib.hid (gtrans hg9 (gsetW w9 g k (.int .u32 (q : Int))))
          clear hst
          go_wp2
          go_roundw
          case rel => exact ⟨k + 1, by omega, by go_num, HST.out, HGR.out⟩
          case measure => simp [intOf]; omega
        · obtain rfl : k = 8 := by omega
          rw [mix_full HZL.out HL.out] at hM
          go_wp2
          go_end0
          exact ⟨rfl, hM, hgr⟩
end Go.Proofs.YtlchadbbldkkfaaDoor
