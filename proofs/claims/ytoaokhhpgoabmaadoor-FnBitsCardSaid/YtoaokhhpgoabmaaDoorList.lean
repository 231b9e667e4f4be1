/- The contracts of BitsList and BitsCount, as the program has them and as their model has them. -/
import Derived.Test.YtoaokhhpgoabmaaDoorHas
import Derived.Test.YtoaokhhpgoabmaaDoorInts
import Derived.Shelf.Small.Bits
namespace Go.Proofs.YtoaokhhpgoabmaaDoor
open Go.ChangeShapes Go.WideShapes Go.ChangeAt Go.RowKit

theorem i64info : (Tryd.prog.info? 3).map (fun i => (i.zero, i.size, i.bytes)) = some (some (.int .i64 0), 1, 8) := by kernel_rfl

/-- The call returns a new row of ints that reads as l; nothing that was there has turned. -/
def FreshI (w : World) (l : List Int) (e : Ending) (w' : World) : Prop :=
  ∃ u, e = .returned u ∧ OwnI 3 w' w.heap.size u l ∧ Below w.heap.size w w'

/-- What has been listed after k rounds. -/
def listZ (l : List UInt8) (k : Nat) : List Int := (listTo l k).map fun (i : Nat) => (i : Int)
theorem listZ_zero (l : List UInt8) : listZ l 0 = [] := rfl
theorem listZ_full (l : List UInt8) : listZ l (8 * l.length) = listI l := rfl
theorem listZ_yes {l : List UInt8} {k : Nat} (h : bitL l k = true) : listZ l (k + 1) = listZ l k ++ [(k : Int)] := by
  unfold listZ
  rw [listTo_succ, h]
  simp
theorem listZ_no {l : List UInt8} {k : Nat} (h : bitL l k = false) : listZ l (k + 1) = listZ l k := by
  unfold listZ
  rw [listTo_succ, h]
  simp
theorem listZ_len (l : List UInt8) (k : Nat) : (listZ l k).length ≤ k := by
  unfold listZ
  rw [List.length_map]
  exact listTo_len l k

set_option maxHeartbeats 1000000 in
theorem specBitsList_any (v : Value) (l : List UInt8) (w : World) (h : Sl w w.heap.size v l) (hl : l.length ≤ 4294967296) :
    Calls Tryd.prog 47 #[v] w (FreshI w (listI l)) := by
  have hs := h
  obtain ⟨A, c, rfl, h1, h2, h0, h3⟩ := h
  obtain ⟨i0, hi, hz0, hz1, hz2⟩ := info_parts i64info
  unfold maxLen at h2
  clear h0 h3
  have hown0 : OwnI 3 (w.alloc (.cells #[] 3)) w.heap.size (.slice (some ⟨w.heap.size, 0, none⟩) 0 0) [] :=
    World.ownsRow_lit w #[] 0 (Nat.le_refl _) (by simp [maxLen]) rfl
  have hb0 : Below w.heap.size w (w.alloc (.cells #[] 3)) := (Below.refl _ _).alloc (Nat.le_refl _) _
  go_enter Tryd.func47, Tryd.ntmps47
  go_wp2
  go_loopw [3, 4] (fun o i wr => ∃ k : Nat, k ≤ 8 * l.length ∧ i = .int .i64 k ∧ OwnI 3 wr w.heap.size o (listZ l k) ∧ Below w.heap.size w wr)
    (fun _ i _ => 8 * l.length - (intOf i).toNat)
  case atStart => exact ⟨0, Nat.zero_le _, rfl, by rw [listZ_zero]; exact hown0, hb0⟩
  case round =>
    obtain ⟨k, hk, rfl, hown, hbel⟩ := hrel
    by_cases hlt : k < 8 * l.length
    · have hlt' : (k : Int) < 8 * (l.length : Int) := by omega
      have hlen := listZ_len l k
      have hs' := hs.up hbel
      cases hb : bitL l k
      · have e := listZ_no hb
        have hhas := hasB_at l k
        rw [hb] at hhas
        clear hb
        go_wp2_with fail
        refine (specBitsHas_any _ l k _ hs' hl (by omega)).mono ?_
        rw [hhas]
        rintro ev _ ⟨rfl, n, rfl⟩
        go_wp2
        go_roundw
        case rel => exact ⟨k + 1, by omega, by go_num, by rw [e]; exact hown.drewN n, below_drewN hbel n⟩
        case measure => simp [intOf]; omega
      · have e := listZ_yes hb
        have hhas := hasB_at l k
        rw [hb] at hhas
        clear hb
        go_wp2_with fail
        refine (specBitsHas_any _ l k _ hs' hl (by omega)).mono ?_
        rw [hhas]
        rintro ev _ ⟨rfl, n, rfl⟩
        have hown' := hown.drewN n
        have hbel' := below_drewN hbel n
        generalize wr.drewN n = wq at *
        go_wp2_with (at_builtin; refine wpList_appI1 (W := w) rfl _ _ 27 rfl 3 i0 Tryd.underlying27 hi hz0 hz1 hz2 _ (listZ l k) (by rfl) _ rfl hown' hbel' (by omega) ?_; intro v2 w2 hown2 hb2)
        go_roundw
        case rel => exact ⟨k + 1, by omega, by go_num, by rw [e]; exact hown2, hb2⟩
        case measure => simp [intOf]; omega
    · obtain rfl : k = 8 * l.length := by omega
      go_wp2
      go_ret
      exact ⟨_, rfl, by rw [← listZ_full]; exact hown, hbel⟩

set_option maxHeartbeats 1000000 in
theorem implBitsList_any (v : Value) (l : List UInt8) (w : World) (h : Sl w w.heap.size v l) (hl : l.length ≤ 4294967296) :
    Calls Tryd.prog 8 #[v] w (FreshI w (listI l)) := by
  have hs := h
  obtain ⟨A, c, rfl, h1, h2, h0, h3⟩ := h
  obtain ⟨i0, hi, hz0, hz1, hz2⟩ := info_parts i64info
  unfold maxLen at h2
  clear h0 h3
  go_enter Tryd.func8, Tryd.ntmps8
  go_wp2
  go_loopw [3, 8] (fun o i wr => ∃ k : Nat, k ≤ 8 * l.length ∧ i = .int .i64 k ∧ OwnI 3 wr w.heap.size o (listZ l k) ∧ Below w.heap.size w wr)
    (fun _ i _ => 8 * l.length - (intOf i).toNat)
  case atStart => exact ⟨0, Nat.zero_le _, rfl, by rw [listZ_zero]; exact World.ownsRow_nil _ _ _ _, Below.refl _ _⟩
  case round =>
    obtain ⟨k, hk, rfl, hown, hbel⟩ := hrel
    by_cases hlt : k < 8 * l.length
    · have hlt' : (k : Int) < 8 * (l.length : Int) := by omega
      have hlen := listZ_len l k
      have hs' := hs.up hbel
      cases hb : bitL l k
      · have e := listZ_no hb
        have hhas := hasB_at l k
        rw [hb] at hhas
        clear hb
        go_wp2_with fail
        refine (implBitsHas_any _ l k _ hs' hl (by omega)).mono ?_
        rw [hhas]
        rintro ev _ ⟨rfl, n, rfl⟩
        go_wp2
        go_roundw
        case rel => exact ⟨k + 1, by omega, by go_num, by rw [e]; exact hown.drewN n, below_drewN hbel n⟩
        case measure => simp [intOf]; omega
      · have e := listZ_yes hb
        have hhas := hasB_at l k
        rw [hb] at hhas
        clear hb
        go_wp2_with fail
        refine (implBitsHas_any _ l k _ hs' hl (by omega)).mono ?_
        rw [hhas]
        rintro ev _ ⟨rfl, n, rfl⟩
        have hown' := hown.drewN n
        have hbel' := below_drewN hbel n
        generalize wr.drewN n = wq at *
        go_wp2_with (at_builtin; refine wpList_appI1 (W := w) rfl _ _ 27 rfl 3 i0 Tryd.underlying27 hi hz0 hz1 hz2 _ (listZ l k) (by rfl) _ rfl hown' hbel' (by omega) ?_; intro v2 w2 hown2 hb2)
        go_roundw
        case rel => exact ⟨k + 1, by omega, by go_num, by rw [e]; exact hown2, hb2⟩
        case measure => simp [intOf]; omega
    · obtain rfl : k = 8 * l.length := by omega
      go_wp2
      go_ret
      exact ⟨_, rfl, by rw [← listZ_full]; exact hown, hbel⟩

theorem slI_slice {w : World} {B : Nat} {v : Value} {l : List Int} (h : SlI w B v l) : ∃ A c, v = .slice A l.length c ∧ l.length ≤ c ∧ c ≤ maxLen := by
  obtain ⟨A, c, e, h1, h2, _⟩ := h
  exact ⟨A, c, e, h1, h2⟩
set_option maxRecDepth 100000 in
theorem onesCount_any (x : Int) (w : World) (h0 : 0 ≤ x) (h1 : x ≤ 255) :
    Calls Tryd.prog 33 #[.int .u8 x] w fun e w' => e = .returned (.int .i64 (Lib.onesCount x.toNat)) ∧ w = w' := by
  have e : wrap64 (Lib.pop8 x) = (Lib.onesCount x.toNat : Int) := by
    unfold wrap64
    exact Lib.pop8_int x h0 h1
  have E := Lib.hid e
  clear e
  go_enter Tryd.func33, Tryd.ntmps33
  go_wp2
  go_ret
  rw [← E.out]
  exact ⟨rfl, rfl⟩
set_option maxHeartbeats 1000000 in
theorem implBitsCount_any (v : Value) (l : List UInt8) (w : World) (h : Sl w w.heap.size v l) (hl : l.length ≤ 4294967296) :
    Calls Tryd.prog 13 #[v] w fun e w' => e = .returned (.int .i64 (cntB l)) ∧ Below w.heap.size w w' := by
  obtain ⟨A, c, rfl, h1, h2, h0, h3⟩ := h
  unfold maxLen at h2
  clear h0
  go_enter Tryd.func13, Tryd.ntmps13
  go_wp2
  go_loopw [3, 8] (fun o i wr => ∃ k : Nat, k ≤ l.length ∧ i = .int .i64 k ∧ o = .int .i64 ((listTo l (8 * k)).length : Int) ∧ wr = w)
    (fun _ i _ => l.length - (intOf i).toNat)
  case atStart => exact ⟨0, Nat.zero_le _, rfl, rfl, rfl⟩
  case round =>
    obtain ⟨k, hk, rfl, rfl, rfl⟩ := hrel
    by_cases hlt : k < l.length
    · obtain ⟨b, off, rfl, hbb, hcell⟩ := h3 (by omega)
      have hc0 := hcell k hlt
      have hb0 := bt_lo l k
      have hb1 := bt_hi l k
      have hlen := listTo_len l (8 * k)
      have hst := cnt_step l k
      have ht : (bt l k).toNat = (l.getD k 0).toNat := by unfold bt; omega
      have ho : Lib.onesCount (l.getD k 0).toNat ≤ 8 := by
        rw [← pop_byte]
        exact Nat.le_trans (List.length_filter_le _ _) (by simp)
      have H := Lib.hid hst
      clear hcell hst
      obtain ⟨q, hq⟩ : ∃ q, q = (listTo l (8 * k)).length := ⟨_, rfl⟩
      rw [← hq] at hlen H ⊢
      clear hq
      go_wp2_with fail
      refine (onesCount_any _ _ hb0 hb1).mono ?_
      rw [ht]
      rintro e w' ⟨rfl, rfl⟩
      generalize Lib.onesCount (l.getD k 0).toNat = z at *
      go_wp2
      go_roundw
      case rel => exact ⟨k + 1, by omega, by go_num, by rw [H.out]; go_num, trivial⟩
      case measure => simp [intOf]; omega
    · obtain rfl : k = l.length := by omega
      go_wp2
      go_ret
      exact ⟨rfl, Below.refl _ _⟩

/-! The same, as a law's walk takes them. -/
theorem Calls.belowQ {f : Nat} {args : Array Value} {w : World} {x : Value} (h : Calls Tryd.prog f args w (Quiet x w)) : Calls Tryd.prog f args w fun e w' => e = .returned x ∧ Below w.heap.size w w' :=
  h.mono fun e w' ⟨h1, n, h2⟩ => ⟨h1, by subst h2; exact below_drewN (Below.refl _ _) n⟩
theorem Calls.belowE {f : Nat} {args : Array Value} {w : World} {x : Value} (h : Calls Tryd.prog f args w fun e w' => e = .returned x ∧ w = w') : Calls Tryd.prog f args w fun e w' => e = .returned x ∧ Below w.heap.size w w' :=
  h.mono fun e w' ⟨h1, h2⟩ => ⟨h1, by subst h2; exact Below.refl _ _⟩
theorem specBitsSizeB_any (n : Int) (w : World) (hn : n ≤ 9223372036854775807) :
    Calls Tryd.prog 38 #[.int .i64 n] w fun e w' => e = .returned (.int .i64 (sizeB n)) ∧ Below w.heap.size w w' := Calls.belowE (specBitsSize_any n w hn)
theorem implBitsSizeB_any (n : Int) (w : World) (hn : n ≤ 9223372036854775807) :
    Calls Tryd.prog 18 #[.int .i64 n] w fun e w' => e = .returned (.int .i64 (sizeB n)) ∧ Below w.heap.size w w' := Calls.belowE (implBitsSize_any n w hn)
theorem specBitsHasB_any (v : Value) (l : List UInt8) (i : Int) (w : World) (h : Sl w w.heap.size v l) (hl : l.length ≤ 4294967296) (hi : i ≤ 9223372036854775807) :
    Calls Tryd.prog 53 #[v, .int .i64 i] w fun e w' => e = .returned (.bool (hasB l i)) ∧ Below w.heap.size w w' := Calls.belowQ (specBitsHas_any v l i w h hl hi)
theorem implBitsHasB_any (v : Value) (l : List UInt8) (i : Int) (w : World) (h : Sl w w.heap.size v l) (hl : l.length ≤ 4294967296) (hi : i ≤ 9223372036854775807) :
    Calls Tryd.prog 17 #[v, .int .i64 i] w fun e w' => e = .returned (.bool (hasB l i)) ∧ Below w.heap.size w w' := Calls.belowQ (implBitsHas_any v l i w h hl hi)
end Go.Proofs.YtoaokhhpgoabmaaDoor
