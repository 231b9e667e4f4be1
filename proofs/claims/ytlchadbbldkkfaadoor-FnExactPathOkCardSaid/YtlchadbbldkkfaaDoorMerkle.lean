/- The contracts of LeafHash and NodeHash, as the program has them (slices.Grow, slices.Concat) and as their models have them. -/
import Derived.Test.YtlchadbbldkkfaaDoorShaBoth
import Derived.Test.YtlchadbbldkkfaaDoorSSBase
import Derived.Test.YtlchadbbldkkfaaDoorTreeMath
import Derived.Lib.AppendZeros
namespace Go.Proofs.YtlchadbbldkkfaaDoor
open Go.ChangeShapes Go.WideShapes Go.ChangeAt Go.RowKit

theorem own_lit1 (w : World) (x : UInt8) : Own 5 (w.alloc (.cells #[.int .u8 (x.toNat : Int)] 5)) w.heap.size (.slice (some ⟨w.heap.size, 0, none⟩) 1 1) [x] :=
  World.ownsRow_lit w #[.int .u8 (x.toNat : Int)] 1 (Nat.le_refl _) (by simp [maxLen]) rfl

set_option maxHeartbeats 1000000 in
theorem specLeafHash_any (v : Value) (l : List UInt8) (w : World) (h : Sl w w.heap.size v l) (hl : l.length ≤ 1073741000) :
    Calls Tryd.prog 60 #[v] w (Fresh w (leafL l)) := by
  obtain ⟨i0, hi, hz0, hz1, hz2⟩ := info_parts u8info
  have hown : Own 5 (w.alloc (.cells #[.int .u8 0] 5)) w.heap.size (.slice (some ⟨w.heap.size, 0, none⟩) 1 1) [0] := own_lit1 w 0
  have hb : Below w.heap.size w (w.alloc (.cells #[.int .u8 0] 5)) := (Below.refl _ _).alloc (Nat.le_refl _) _
  have hn1 : Hid (([0] : List UInt8).length + l.length ≤ 70368744177664) := Lib.hid (by simp; omega)
  have hn2 : Hid (([0] ++ l).length ≤ 1073741824) := Lib.hid (by simp; omega)
  go_enter Tryd.func60, Tryd.ntmps60
  go_wp2_with (first
    | (at_builtin; refine wpList_appS (W := w) rfl _ _ 22 rfl 5 i0 Tryd.underlying22 hi hz0 hz1 hz2 _ [0] (by rfl) _ l (by rfl) (h.up hb) hown hb hn1.out ?_; intro v7 w7 hown7 hb7)
    | (go_at_call 79; refine (specSha_any _ ([0] ++ l) _ hown7.sl hn2.out).mono ?_; rintro e w8 ⟨v8, rfl, hown8, hb8⟩))
  go_ret
  exact ⟨_, rfl, hown8.mono hb7.size, hb7.trans (hb8.mono hb7.size)⟩

set_option maxHeartbeats 1000000 in
theorem specNodeHash_any (v u : Value) (l m : List UInt8) (w : World) (h : Sl w w.heap.size v l) (h' : Sl w w.heap.size u m) (hl : l.length ≤ 536870000) (hm : m.length ≤ 536870000) :
    Calls Tryd.prog 78 #[v, u] w (Fresh w (nodeL l m)) := by
  obtain ⟨i0, hi, hz0, hz1, hz2⟩ := info_parts u8info
  have hown : Own 5 (w.alloc (.cells #[.int .u8 1] 5)) w.heap.size (.slice (some ⟨w.heap.size, 0, none⟩) 1 1) [1] := own_lit1 w 1
  have hb : Below w.heap.size w (w.alloc (.cells #[.int .u8 1] 5)) := (Below.refl _ _).alloc (Nat.le_refl _) _
  have hn1 : Hid (([1] : List UInt8).length + l.length ≤ 70368744177664) := Lib.hid (by simp; omega)
  have hn3 : Hid (([1] ++ l : List UInt8).length + m.length ≤ 70368744177664) := Lib.hid (by simp; omega)
  have hn2 : Hid (([1] ++ l ++ m).length ≤ 1073741824) := Lib.hid (by simp; omega)
  go_enter Tryd.func78, Tryd.ntmps78
  go_wp2_with (first
    | (at_builtin; refine wpList_appS (W := w) rfl _ _ 22 rfl 5 i0 Tryd.underlying22 hi hz0 hz1 hz2 _ [1] (by rfl) _ l (by rfl) (h.up hb) hown hb hn1.out ?_; intro v6 w6 hown6 hb6)
    | (at_builtin; refine wpList_appS (W := w) rfl _ _ 22 rfl 5 i0 Tryd.underlying22 hi hz0 hz1 hz2 _ ([1] ++ l) (by rfl) _ m (by rfl) (h'.up hb6) hown6 hb6 hn3.out ?_; intro v7 w7 hown7 hb7)
    | (go_at_call 79; refine (specSha_any _ ([1] ++ l ++ m) _ hown7.sl hn2.out).mono ?_; rintro e w8 ⟨v8, rfl, hown8, hb8⟩))
  go_ret
  exact ⟨_, rfl, hown8.mono hb7.size, hb7.trans (hb8.mono hb7.size)⟩

set_option maxHeartbeats 1000000 in
/-- slices.Grow of nil. -/
theorem growNil_any (n : Nat) (w : World) (h0 : 0 < n) (hn : n ≤ 1073741824) :
    Calls Tryd.prog 75 #[.slice none 0 0, .int .i64 (n : Int)] w (Fresh w []) := by
  obtain ⟨i0, hi, hz0, hz1, hz2⟩ := info_parts u8info
  have hrz : ∀ ty, (Builtin.append_ #[22, 3] ty #[.slice none 0 0, .int .i64 (n : Int)]).run Tryd.prog w = _ := fun ty =>
    Lib.run_append_nil_zeros w 22 3 ty 5 i0 (.int .u8 0) .i64 .i64 Tryd.underlying22 Tryd.underlying3 hi hz0 n h0 (by rw [hz1]; decide) (by omega) (by rw [hz2]; omega)
  have hge := grownCap_ge w n 0 5
  have hle := grownCap_le_maxLen w n 0 5 (by unfold maxLen; omega)
  generalize grownCap w n 0 5 = G at hrz hge hle
  have hs1 : (Builtin.zeroCells (Value.cells (.int .u8 0)) n ++ Builtin.zeroCells (Value.cells (.int .u8 0)) (G - n)).size = G := by
    rw [Array.size_append, size_zeroCells, size_zeroCells]
    simp [Value.cells]
    omega
  generalize Builtin.zeroCells (Value.cells (.int .u8 0)) n ++ Builtin.zeroCells (Value.cells (.int .u8 0)) (G - n) = Z at hrz hs1
  have hown : Own 5 (w.drew.alloc (.cells Z 5)) w.heap.size (.slice (some ⟨w.heap.size, 0, none⟩) 0 G) [] := by
    refine ⟨by simp [us], .inr ⟨w.heap.size, G, Z, rfl, Nat.le_refl _, ?_, Nat.zero_le _, hle, by rw [hs1, Nat.mul_one], by simp [us]⟩⟩
    exact heap_alloc_new w.drew _
  have hbel : Below w.heap.size w (w.drew.alloc (.cells Z 5)) := ((below_drewN (Below.refl w.heap.size w) 1).alloc (Nat.le_refl _) _)
  have hno := Lib.hid hown
  have hbo := Lib.hid hbel
  have hG63 : G ≤ 9223372036854775807 := by unfold maxLen at hle; omega
  clear hown hbel hle hs1
  have h1 : ¬ ((n : Int) < 0) := by omega
  have h4 : (n : Int) > 0 := by omega
  go_enter Tryd.func75, Tryd.ntmps75
  go_wp2_with (at_builtin; refine Lib.wpList_append_run _ rfl _ _ _ _ rfl _ _ rfl rfl _ _ (hrz _) ?_)
  go_ret
  exact ⟨_, rfl, hno.out, hbo.out⟩

set_option maxHeartbeats 2000000 in
theorem concat_any (v : Value) (L : List (List UInt8)) (w : World) (h : SlS w w.heap.size v L) (hl : L.length ≤ 1048576) (hs : sumL L ≤ 1073741824) (h0 : 0 < sumL L) :
    Calls Tryd.prog 48 #[v] w (Fresh w (catL L)) := by
  obtain ⟨i0, hi, hz0, hz1, hz2⟩ := info_parts u8info
  obtain ⟨A, c, rfl, h1, h2, k0, h3⟩ := h
  unfold maxLen at h2
  clear k0
  go_enter Tryd.func48, Tryd.ntmps48
  go_wp2
  go_loopw [3, 11] (fun q i wr => ∃ j : Nat, j ≤ L.length ∧ i = .int .i64 j ∧ q = .int .i64 (sumL (L.take j) : Int) ∧ w = wr)
    (fun _ i _ => L.length - (intOf i).toNat)
  case atStart => exact ⟨0, Nat.zero_le _, rfl, rfl, rfl⟩
  case round =>
    obtain ⟨j, hj, rfl, rfl, rfl⟩ := hrel
    by_cases hlj : j < L.length
    · obtain ⟨b, off, rfl, hbb, hcell⟩ := h3 (by omega)
      obtain ⟨x, hc0, hx⟩ := hcell j hlj
      have hsum := sumL_take L j hlj
      have hle := sumL_le L (j + 1)
      obtain ⟨A1, c1, rfl, m1, m2, m0, m3⟩ := hx
      clear hcell m0 m1 m2 m3 h3
      generalize (L.getD j []).length = z at hc0 hsum
      have HS := Lib.hid hsum
      generalize sumL (L.take j) = q at hsum HS ⊢
      have hqz : q + z ≤ 1073741824 := by omega
      have hnn : ¬ (q : Int) + (z : Int) < 0 := by omega
      clear hsum hle
      go_wp2
      go_roundw
      case rel => exact ⟨j + 1, by omega, by go_num, by rw [HS.out]; go_num, trivial⟩
      case measure => simp [intOf]; omega
    · obtain rfl : j = L.length := by omega
      rw [List.take_length]
      have hn0 : Hid (catL (L.take 0) = []) := Lib.hid rfl
      go_wp2_with (go_at_call 75; refine (growNil_any (sumL L) _ h0 hs).mono ?_; rintro e w3 ⟨u3, rfl, hown3, hb3⟩)
      rw [← hn0.out] at hown3
      go_loopw [6, 27] (fun o i wq => ∃ j : Nat, j ≤ L.length ∧ i = .int .i64 j ∧ Own 5 wq w.heap.size o (catL (L.take j)) ∧ Below w.heap.size w wq)
        (fun _ i _ => L.length - (intOf i).toNat)
      case atStart => exact ⟨0, Nat.zero_le _, rfl, hown3, hb3⟩
      case round =>
        clear hown3 hb3
        obtain ⟨j, hj, rfl, hown, hbel⟩ := hrel
        by_cases hlj : j < L.length
        · obtain ⟨b, off, rfl, hbb, hcell⟩ := h3 (by omega)
          obtain ⟨x, hc0, hx⟩ := hcell j hlj
          have hc1 := (hbel.cell (p := ⟨b, off + j, none⟩) hbb).trans hc0
          have hx1 := hx.up hbel
          have hct := catL_take L j hlj
          have hlt2 : (catL (L.take j)).length + (L.getD j []).length ≤ 70368744177664 := by
            have h1 := sumL_take L j hlj
            have h2 := sumL_le L (j + 1)
            rw [catL_length]
            omega
          generalize L.getD j [] = y at hx1 hct hlt2
          generalize catL (L.take j) = C at hown hct hlt2
          have HX := Lib.hid hx1
          have HC := Lib.hid hct
          have HB := Lib.hid hlt2
          clear hcell hc0 hx hx1 hct hlt2
          go_wp2_with (at_builtin; refine wpList_appS (W := w) rfl _ _ 22 rfl 5 i0 Tryd.underlying22 hi hz0 hz1 hz2 _ C (by rfl) _ y (by rfl) HX.out hown hbel HB.out ?_; intro v7 w7 hown7 hb7)
          go_roundw
          case rel => exact ⟨j + 1, by omega, by go_num, by rw [HC.out]; exact hown7, hb7⟩
          case measure => simp [intOf]; omega
        · obtain rfl : j = L.length := by omega
          rw [List.take_length] at hown
          go_wp2
          go_ret
          exact ⟨_, rfl, hown, hbel⟩
end Go.Proofs.YtlchadbbldkkfaaDoor
