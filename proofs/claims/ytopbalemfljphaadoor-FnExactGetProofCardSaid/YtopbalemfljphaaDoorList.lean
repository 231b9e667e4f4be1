/- List: Bits, Has, List. -/
import Derived.Test.YtopbalemfljphaaDoorPut
import Derived.Test.YtopbalemfljphaaDoorMem
import Derived.Laws.BitsAllLaws
import Derived.Laws.Wrap64
import Derived.Shelf.Small.Bits

/- The contracts of the small functions on bitmaps: BitsSize, BitsNew, BitsHas and what they call, as the program has them and as their model has them. -/
namespace Go.Proofs.YtopbalemfljphaaDoor
open Go.ChangeShapes Go.WideShapes Go.ChangeAt Go.RowKit

theorem wfHi {n : Int} (h : (Lit.int .i64 n).wf = true) : n ≤ 9223372036854775807 := by
  simp [Lit.wf, IntKind.min, IntKind.max, IntKind.signed, IntKind.bits] at h
  omega
theorem specBitsSize_any (n : Int) (w : World) (hn : n ≤ 9223372036854775807) :
    Calls Tryd.prog 86 #[.int .i64 n] w fun e w' => e = .returned (.int .i64 (sizeB n)) ∧ w = w' := by
  unfold sizeB
  by_cases h : n < 1
  · rw [if_pos h]
    go_enter Tryd.func86, Tryd.ntmps86
    go_wp2
    go_ret
    exact ⟨rfl, rfl⟩
  · rw [if_neg h]
    go_enter Tryd.func86, Tryd.ntmps86
    go_wp2
    go_ret
    exact ⟨rfl, rfl⟩
theorem implBitsSize_any (n : Int) (w : World) (hn : n ≤ 9223372036854775807) :
    Calls Tryd.prog 102 #[.int .i64 n] w fun e w' => e = .returned (.int .i64 (sizeB n)) ∧ w = w' := by
  unfold sizeB
  by_cases h : n < 1
  · rw [if_pos h]
    go_enter Tryd.func102, Tryd.ntmps102
    go_wp2
    go_ret
    exact ⟨rfl, rfl⟩
  · rw [if_neg h]
    go_enter Tryd.func102, Tryd.ntmps102
    go_wp2
    go_ret
    exact ⟨rfl, rfl⟩
theorem l02Signers_any (n : Int) (w : World) :
    Calls Tryd.prog 59 #[.int .i64 n] w fun e w' => e = .returned (.bool (decide (cntOk n))) ∧ w = w' := by
  by_cases h : cntOk n
  · rw [decide_eq_true h]
    have h1 := h.1
    have h2 := h.2
    clear h
    go_enter Tryd.func59, Tryd.ntmps59
    go_wp2_with fail
    refine (l01In_yes _ _ _ _ h1 h2).mono ?_
    rintro e w' ⟨rfl, rfl⟩
    go_wp2
    go_ret
    exact ⟨rfl, rfl⟩
  · rw [decide_eq_false h]
    have H := Lib.hid h
    clear h
    go_enter Tryd.func59, Tryd.ntmps59
    go_wp2_with fail
    refine (l01In_no _ _ _ _ H.out).mono ?_
    rintro e w' ⟨rfl, rfl⟩
    go_wp2
    go_ret
    exact ⟨rfl, rfl⟩
theorem isSignerCount_any (n : Int) (w : World) :
    Calls Tryd.prog 65 #[.int .i64 n] w fun e w' => e = .returned (.bool (decide (cntOk n))) ∧ w = w' := by
  by_cases h : cntOk n
  · rw [decide_eq_true h]
    have h1 := h.1
    have h2 := h.2
    clear h
    go_enter Tryd.func65, Tryd.ntmps65
    go_wp2
    go_ret
    exact ⟨rfl, rfl⟩
  · rw [decide_eq_false h]
    by_cases h0 : 1 ≤ n
    · have h1 : 10 < n := by unfold cntOk at h; omega
      clear h
      go_enter Tryd.func65, Tryd.ntmps65
      go_wp2
      go_ret
      exact ⟨by simp; omega, rfl⟩
    · have h1 : n < 1 := by omega
      clear h h0
      go_enter Tryd.func65, Tryd.ntmps65
      go_wp2
      go_ret
      exact ⟨rfl, rfl⟩
def isIn (i n : Int) : Bool := decide (0 ≤ i ∧ i < n)
theorem isSigner_any (i n : Int) (w : World) :
    Calls Tryd.prog 89 #[.int .i64 i, .int .i64 n] w fun e w' => e = .returned (.bool (isIn i n)) ∧ w = w' := by
  unfold isIn
  by_cases h0 : 0 ≤ i
  · by_cases h1 : i < n
    · rw [decide_eq_true ⟨h0, h1⟩]
      go_enter Tryd.func89, Tryd.ntmps89
      go_wp2
      go_ret
      exact ⟨rfl, rfl⟩
    · rw [decide_eq_false (fun h => h1 h.2)]
      go_enter Tryd.func89, Tryd.ntmps89
      go_wp2
      go_ret
      exact ⟨rfl, rfl⟩
  · rw [decide_eq_false (fun h => h0 h.1)]
    have h1 : i < 0 := by omega
    go_enter Tryd.func89, Tryd.ntmps89
    go_wp2
    go_ret
    exact ⟨rfl, rfl⟩

theorem us_zeros (m : Nat) : us (List.replicate m 0) = List.replicate m (.int .u8 0) := by simp [us]
end Go.Proofs.YtopbalemfljphaaDoor

/- The contracts of BitsHas, as the program has it and as its model has it. -/
namespace Go.Proofs.YtopbalemfljphaaDoor
open Go.ChangeShapes Go.WideShapes Go.ChangeAt Go.RowKit

theorem has_spec (l : List UInt8) (k : Nat) : ((wrap64 (bt l (k / 8)) / 2 ^ (k % 8)).tmod 2 == 1) = bitL l k := by
  have h0 := bt_lo l (k / 8)
  have h1 := bt_hi l (k / 8)
  have e : wrap64 (bt l (k / 8)) = bt l (k / 8) := by unfold wrap64; omega
  rw [e, bitL_div]
  unfold bt
  generalize (l.getD (k / 8) 0).toNat = c
  generalize k % 8 = j
  have e2 : ((c : Int) / 2 ^ j) = ((c / 2 ^ j : Nat) : Int) := by simp
  rw [e2]
  generalize c / 2 ^ j = d
  rw [Int.tmod_eq_emod_of_nonneg (by omega)]
  by_cases h : d % 2 = 1
  · rw [decide_eq_true h]
    simp
    omega
  · rw [decide_eq_false h]
    simp
    omega
theorem two_pow_lt (j : Nat) (hj : j < 8) : (2 : Nat) ^ j < 256 := by
  have : j = 0 ∨ j = 1 ∨ j = 2 ∨ j = 3 ∨ j = 4 ∨ j = 5 ∨ j = 6 ∨ j = 7 := by omega
  rcases this with rfl | rfl | rfl | rfl | rfl | rfl | rfl | rfl <;> decide
theorem two_pow_u8 (j : Nat) (hj : j < 8) : ((2 : Int) ^ j % 256) = ((2 ^ j : Nat) : Int) := by
  have := two_pow_lt j hj
  have e : ((2 : Int) ^ j) = ((2 ^ j : Nat) : Int) := by simp
  rw [e]
  generalize 2 ^ j = p at *
  omega
theorem has_impl (l : List UInt8) (k : Nat) : (bits BinOp.and IntKind.u8 (bt l (k / 8)) (2 ^ (k % 8) % 256) != 0) = bitL l k := by
  have hj : k % 8 < 8 := by omega
  have hc := (l.getD (k / 8) 0).toNat_lt
  unfold bt bitL
  rw [two_pow_u8 _ hj]
  generalize k % 8 = j at *
  generalize (l.getD (k / 8) 0).toNat = c at *
  have hp := two_pow_lt j hj
  rw [u8_and_nat c (2 ^ j) hc hp]
  cases ht : c.testBit j
  · have : c &&& 2 ^ j = 0 := by
      apply Nat.eq_of_testBit_eq
      intro i
      rw [Nat.testBit_and, Nat.testBit_two_pow]
      by_cases hi : j = i
      · subst hi
        simp [ht]
      · simp [hi]
    rw [this]
    rfl
  · have : c &&& 2 ^ j ≠ 0 := fun e => by
      have h2 : (c &&& 2 ^ j).testBit j = true := by
        rw [Nat.testBit_and, ht, Nat.testBit_two_pow]
        simp
      rw [e] at h2
      simp at h2
    have h3 : ((c &&& 2 ^ j : Nat) : Int) ≠ 0 := by omega
    simpa using h3
theorem hasB_no {l : List UInt8} {i : Int} (h : i < 0) : hasB l i = false := by
  unfold hasB
  rw [decide_eq_false (by omega)]
  rfl
theorem hasB_far {l : List UInt8} {k : Nat} (h : l.length ≤ k / 8) : hasB l (k : Int) = false := by
  unfold hasB
  rw [Int.toNat_natCast, bitL_far l k (by omega), Bool.and_false]
theorem hasB_at (l : List UInt8) (k : Nat) : hasB l (k : Int) = bitL l k := by
  unfold hasB
  rw [decide_eq_true (by omega), Int.toNat_natCast, Bool.true_and]
set_option maxHeartbeats 400000 in
theorem specBitsHas_any (v : Value) (l : List UInt8) (i : Int) (w : World) (h : Sl w w.heap.size v l) (hl : l.length ≤ 4294967296) (hi : i ≤ 9223372036854775807) :
    Calls Tryd.prog 100 #[v, .int .i64 i] w (Quiet (.bool (hasB l i)) w) := by
  obtain ⟨A, c, rfl, h1, h2, h0, h3⟩ := h
  unfold maxLen at h2
  clear h0
  by_cases hneg : i < 0
  · rw [hasB_no hneg]
    go_enter Tryd.func100, Tryd.ntmps100
    go_wp2
    go_ret
    exact ⟨rfl, 0, rfl⟩
  · obtain ⟨k, rfl⟩ := Int.eq_ofNat_of_zero_le (show 0 ≤ i by omega)
    by_cases hlt : k / 8 < l.length
    · obtain ⟨b, off, rfl, hbb, hcell⟩ := h3 (by omega)
      have hc0 := hcell (k / 8) hlt
      have hlt' : (k : Int) / 8 < (l.length : Int) := by omega
      clear hcell
      go_enter Tryd.func100, Tryd.ntmps100
      go_wp2
      go_ret
      exact ⟨by rw [has_spec, hasB_at]; rfl, 0, rfl⟩
    · rw [hasB_far (by omega)]
      have hlt' : ¬ ((k : Int) / 8 < (l.length : Int)) := by omega
      go_enter Tryd.func100, Tryd.ntmps100
      go_wp2
      go_ret
      exact ⟨rfl, 0, rfl⟩
set_option maxHeartbeats 400000 in
theorem implBitsHas_any (v : Value) (l : List UInt8) (i : Int) (w : World) (h : Sl w w.heap.size v l) (hl : l.length ≤ 4294967296) (hi : i ≤ 9223372036854775807) :
    Calls Tryd.prog 105 #[v, .int .i64 i] w (Quiet (.bool (hasB l i)) w) := by
  obtain ⟨A, c, rfl, h1, h2, h0, h3⟩ := h
  unfold maxLen at h2
  clear h0
  by_cases hneg : i < 0
  · rw [hasB_no hneg]
    have hd : decide ((0 : Int) ≤ i) = false := decide_eq_false (by omega)
    go_enter Tryd.func105, Tryd.ntmps105
    go_wp2
    go_quiet (fail)
    go_wp2
    go_ret
    exact ⟨rfl, _, rfl⟩
  · obtain ⟨k, rfl⟩ := Int.eq_ofNat_of_zero_le (show 0 ≤ i by omega)
    by_cases hlt : k / 8 < l.length
    · obtain ⟨b, off, rfl, hbb, hcell⟩ := h3 (by omega)
      have hc0 := hcell (k / 8) hlt
      have hlt' : (k : Int) / 8 < (l.length : Int) := by omega
      clear hcell
      go_enter Tryd.func105, Tryd.ntmps105
      go_wp2
      go_quiet (fail)
      go_wp2
      go_ret
      exact ⟨by rw [has_impl, hasB_at]; rfl, _, rfl⟩
    · rw [hasB_far (by omega)]
      have hd : decide ((k : Int) / 8 < (l.length : Int)) = false := decide_eq_false (by omega)
      go_enter Tryd.func105, Tryd.ntmps105
      go_wp2
      go_quiet (fail)
      go_wp2
      go_ret
      exact ⟨rfl, _, rfl⟩
end Go.Proofs.YtopbalemfljphaaDoor

/- The contracts of BitsList and BitsCount, as the program has them and as their model has them. -/
namespace Go.Proofs.YtopbalemfljphaaDoor
open Go.ChangeShapes Go.WideShapes Go.ChangeAt Go.RowKit

theorem i64info : (Tryd.prog.info? 3).map (fun i => (i.zero, i.size, i.bytes)) = some (some (.int .i64 0), 1, 8) := by kernel_rfl

/-- The call returns a new row of ints that reads as l; nothing that was there has turned. -/
def FreshI (w : World) (l : List Int) (e : Ending) (w' : World) : Prop :=
  ∃ u, e = .returned u ∧ OwnI 3 w' w.heap.size u l ∧ Below w.heap.size w w'

/-- What has been listed after k rounds. -/
def listZ (l : List UInt8) (k : Nat) : List Int := (listTo l k).map fun (i : Nat) => (i : Int)
theorem listZ_zero (l : List UInt8) : listZ l 0 = [] := rfl
theorem listZ_full (l : List UInt8) : listZ l (8 * l.length) = listI l := rfl
theorem listZ_yes {l : List UInt8} {k : Nat} (h : bitL l k = true) : listZ l (k + 1) = listZ l k ++ [(k : Int)] := by
  unfold listZ
  rw [listTo_succ, h]
  simp
theorem listZ_no {l : List UInt8} {k : Nat} (h : bitL l k = false) : listZ l (k + 1) = listZ l k := by
  unfold listZ
  rw [listTo_succ, h]
  simp
theorem listZ_len (l : List UInt8) (k : Nat) : (listZ l k).length ≤ k := by
  unfold listZ
  rw [List.length_map]
  exact listTo_len l k

set_option maxHeartbeats 1000000 in
theorem specBitsList_any (v : Value) (l : List UInt8) (w : World) (h : Sl w w.heap.size v l) (hl : l.length ≤ 4294967296) :
    Calls Tryd.prog 88 #[v] w (FreshI w (listI l)) := by
  have hs := h
  obtain ⟨A, c, rfl, h1, h2, h0, h3⟩ := h
  obtain ⟨i0, hi, hz0, hz1, hz2⟩ := info_parts i64info
  unfold maxLen at h2
  clear h0 h3
  have hown0 : OwnI 3 (w.alloc (.cells #[] 3)) w.heap.size (.slice (some ⟨w.heap.size, 0, none⟩) 0 0) [] :=
    World.ownsRow_lit w #[] 0 (Nat.le_refl _) (by simp [maxLen]) rfl
  have hb0 : Below w.heap.size w (w.alloc (.cells #[] 3)) := (Below.refl _ _).alloc (Nat.le_refl _) _
  go_enter Tryd.func88, Tryd.ntmps88
  go_wp2
  go_loopw [3, 4] (fun o i wr => ∃ k : Nat, k ≤ 8 * l.length ∧ i = .int .i64 k ∧ OwnI 3 wr w.heap.size o (listZ l k) ∧ Below w.heap.size w wr)
    (fun _ i _ => 8 * l.length - (intOf i).toNat)
  case atStart => exact ⟨0, Nat.zero_le _, rfl, by rw [listZ_zero]; exact hown0, hb0⟩
  case round =>
    obtain ⟨k, hk, rfl, hown, hbel⟩ := hrel
    by_cases hlt : k < 8 * l.length
    · have hlt' : (k : Int) < 8 * (l.length : Int) := by omega
      have hlen := listZ_len l k
      have hs' := hs.up hbel
      cases hb : bitL l k
      · have e := listZ_no hb
        have hhas := hasB_at l k
        rw [hb] at hhas
        clear hb
        go_wp2_with fail
        refine (specBitsHas_any _ l k _ hs' hl (by omega)).mono ?_
        rw [hhas]
        rintro ev _ ⟨rfl, n, rfl⟩
        go_wp2
        go_roundw
        case rel => exact ⟨k + 1, by omega, by go_num, by rw [e]; exact hown.drewN n, below_drewN hbel n⟩
        case measure => simp [intOf]; omega
      · have e := listZ_yes hb
        have hhas := hasB_at l k
        rw [hb] at hhas
        clear hb
        go_wp2_with fail
        refine (specBitsHas_any _ l k _ hs' hl (by omega)).mono ?_
        rw [hhas]
        rintro ev _ ⟨rfl, n, rfl⟩
        have hown' := hown.drewN n
        have hbel' := below_drewN hbel n
        generalize wr.drewN n = wq at *
        go_wp2_with (at_builtin; refine wpList_appI1 (W := w) rfl _ _ 138 rfl 3 i0 Tryd.underlying138 hi hz0 hz1 hz2 _ (listZ l k) (by rfl) _ rfl hown' hbel' (by omega) ?_; intro v2 w2 hown2 hb2)
        go_roundw
        case rel => exact ⟨k + 1, by omega, by go_num, by rw [e]; exact hown2, hb2⟩
        case measure => simp [intOf]; omega
    · obtain rfl : k = 8 * l.length := by omega
      go_wp2
      go_ret
      exact ⟨_, rfl, by rw [← listZ_full]; exact hown, hbel⟩

theorem slI_slice {w : World} {B : Nat} {v : Value} {l : List Int} (h : SlI w B v l) : ∃ A c, v = .slice A l.length c ∧ l.length ≤ c ∧ c ≤ maxLen := by
  obtain ⟨A, c, e, h1, h2, _⟩ := h
  exact ⟨A, c, e, h1, h2⟩
theorem specBitsCount_any (v : Value) (l : List UInt8) (w : World) (h : Sl w w.heap.size v l) (hl : l.length ≤ 4294967296) :
    Calls Tryd.prog 64 #[v] w fun e w' => e = .returned (.int .i64 (cntB l)) ∧ Below w.heap.size w w' := by
  have e : cntB l = ((listI l).length : Int) := by simp [cntB, listI]
  rw [e]
  go_enter Tryd.func64, Tryd.ntmps64
  go_wp2_with fail
  refine (specBitsList_any _ l _ h hl).mono ?_
  rintro e w1 ⟨v1, rfl, hown, hb⟩
  obtain ⟨A, c, rfl, k1, k2⟩ := slI_slice hown.sl
  go_wp2
  go_ret
  exact ⟨rfl, hb⟩
set_option maxRecDepth 100000 in
theorem onesCount_any (x : Int) (w : World) (h0 : 0 ≤ x) (h1 : x ≤ 255) :
    Calls Tryd.prog 92 #[.int .u8 x] w fun e w' => e = .returned (.int .i64 (Lib.onesCount x.toNat)) ∧ w = w' := by
  have e : wrap64 (Lib.pop8 x) = (Lib.onesCount x.toNat : Int) := by
    unfold wrap64
    exact Lib.pop8_int x h0 h1
  have E := Lib.hid e
  clear e
  go_enter Tryd.func92, Tryd.ntmps92
  go_wp2
  go_ret
  rw [← E.out]
  exact ⟨rfl, rfl⟩
set_option maxHeartbeats 1000000 in
theorem implBitsCount_any (v : Value) (l : List UInt8) (w : World) (h : Sl w w.heap.size v l) (hl : l.length ≤ 4294967296) :
    Calls Tryd.prog 71 #[v] w fun e w' => e = .returned (.int .i64 (cntB l)) ∧ Below w.heap.size w w' := by
  obtain ⟨A, c, rfl, h1, h2, h0, h3⟩ := h
  unfold maxLen at h2
  clear h0
  go_enter Tryd.func71, Tryd.ntmps71
  go_wp2
  go_loopw [3, 8] (fun o i wr => ∃ k : Nat, k ≤ l.length ∧ i = .int .i64 k ∧ o = .int .i64 ((listTo l (8 * k)).length : Int) ∧ wr = w)
    (fun _ i _ => l.length - (intOf i).toNat)
  case atStart => exact ⟨0, Nat.zero_le _, rfl, rfl, rfl⟩
  case round =>
    obtain ⟨k, hk, rfl, rfl, rfl⟩ := hrel
    by_cases hlt : k < l.length
    · obtain ⟨b, off, rfl, hbb, hcell⟩ := h3 (by omega)
      have hc0 := hcell k hlt
      have hb0 := bt_lo l k
      have hb1 := bt_hi l k
      have hlen := listTo_len l (8 * k)
      have hst := cnt_step l k
      have ht : (bt l k).toNat = (l.getD k 0).toNat := by unfold bt; omega
      have ho : Lib.onesCount (l.getD k 0).toNat ≤ 8 := by
        rw [← pop_byte]
        exact Nat.le_trans (List.length_filter_le _ _) (by simp)
      have H := Lib.hid hst
      clear hcell hst
      obtain ⟨q, hq⟩ : ∃ q, q = (listTo l (8 * k)).length := ⟨_, rfl⟩
      rw [← hq] at hlen H ⊢
      clear hq
      go_wp2_with fail
      refine (onesCount_any _ _ hb0 hb1).mono ?_
      rw [ht]
      rintro e w' ⟨rfl, rfl⟩
      generalize Lib.onesCount (l.getD k 0).toNat = z at *
      go_wp2
      go_roundw
      case rel => exact ⟨k + 1, by omega, by go_num, by rw [H.out]; go_num, trivial⟩
      case measure => simp [intOf]; omega
    · obtain rfl : k = l.length := by omega
      go_wp2
      go_ret
      exact ⟨rfl, Below.refl _ _⟩

/-! The same, as a law's walk takes them. -/
theorem Calls.belowQ {f : Nat} {args : Array Value} {w : World} {x : Value} (h : Calls Tryd.prog f args w (Quiet x w)) : Calls Tryd.prog f args w fun e w' => e = .returned x ∧ Below w.heap.size w w' :=
  h.mono fun e w' ⟨h1, n, h2⟩ => ⟨h1, by subst h2; exact below_drewN (Below.refl _ _) n⟩
theorem Calls.belowE {f : Nat} {args : Array Value} {w : World} {x : Value} (h : Calls Tryd.prog f args w fun e w' => e = .returned x ∧ w = w') : Calls Tryd.prog f args w fun e w' => e = .returned x ∧ Below w.heap.size w w' :=
  h.mono fun e w' ⟨h1, h2⟩ => ⟨h1, by subst h2; exact Below.refl _ _⟩
theorem specBitsSizeB_any (n : Int) (w : World) (hn : n ≤ 9223372036854775807) :
    Calls Tryd.prog 86 #[.int .i64 n] w fun e w' => e = .returned (.int .i64 (sizeB n)) ∧ Below w.heap.size w w' := Calls.belowE (specBitsSize_any n w hn)
theorem implBitsSizeB_any (n : Int) (w : World) (hn : n ≤ 9223372036854775807) :
    Calls Tryd.prog 102 #[.int .i64 n] w fun e w' => e = .returned (.int .i64 (sizeB n)) ∧ Below w.heap.size w w' := Calls.belowE (implBitsSize_any n w hn)
theorem specBitsHasB_any (v : Value) (l : List UInt8) (i : Int) (w : World) (h : Sl w w.heap.size v l) (hl : l.length ≤ 4294967296) (hi : i ≤ 9223372036854775807) :
    Calls Tryd.prog 100 #[v, .int .i64 i] w fun e w' => e = .returned (.bool (hasB l i)) ∧ Below w.heap.size w w' := Calls.belowQ (specBitsHas_any v l i w h hl hi)
theorem implBitsHasB_any (v : Value) (l : List UInt8) (i : Int) (w : World) (h : Sl w w.heap.size v l) (hl : l.length ≤ 4294967296) (hi : i ≤ 9223372036854775807) :
    Calls Tryd.prog 105 #[v, .int .i64 i] w fun e w' => e = .returned (.bool (hasB l i)) ∧ Below w.heap.size w w' := Calls.belowQ (implBitsHas_any v l i w h hl hi)
end Go.Proofs.YtopbalemfljphaaDoor
