/- Tree: Merkle, Split, Tree. -/
import Derived.Test.YtdoaikanaodefaaDoorShaBoth
import Derived.Test.YtdoaikanaodefaaDoorStackBase
import Derived.Test.YtdoaikanaodefaaDoorMem
import Derived.Lib.AppendZeros
import Derived.Test.YtdoaikanaodefaaDoorPut
import Derived.Test.YtdoaikanaodefaaDoorShelf
import Derived.Test.YtdoaikanaodefaaDoorList
import Derived.Lib.ItoaNum
import Derived.Deep.RegionHeld3
import Derived.Laws.EntriesVeiled

/- The contracts of LeafHash and NodeHash, as the program has them (slices.Grow, slices.Concat) and as their models have them. -/
namespace Go.Proofs.YtdoaikanaodefaaDoor
open Go.ChangeShapes Go.WideShapes Go.ChangeAt Go.RowKit

theorem own_lit1 (w : World) (x : UInt8) : Own 5 (w.alloc (.cells #[.int .u8 (x.toNat : Int)] 5)) w.heap.size (.slice (some ⟨w.heap.size, 0, none⟩) 1 1) [x] :=
  World.ownsRow_lit w #[.int .u8 (x.toNat : Int)] 1 (Nat.le_refl _) (by simp [maxLen]) rfl

set_option maxHeartbeats 1000000 in
theorem specLeafHash_any (v : Value) (l : List UInt8) (w : World) (h : Sl w w.heap.size v l) (hl : l.length ≤ 1073741000) :
    Calls Tryd.prog 63 #[v] w (Fresh w (leafL l)) := by
  obtain ⟨i0, hi, hz0, hz1, hz2⟩ := info_parts u8info
  have hown : Own 5 (w.alloc (.cells #[.int .u8 0] 5)) w.heap.size (.slice (some ⟨w.heap.size, 0, none⟩) 1 1) [0] := own_lit1 w 0
  have hb : Below w.heap.size w (w.alloc (.cells #[.int .u8 0] 5)) := (Below.refl _ _).alloc (Nat.le_refl _) _
  have hn1 : Hid (([0] : List UInt8).length + l.length ≤ 70368744177664) := Lib.hid (by simp; omega)
  have hn2 : Hid (([0] ++ l).length ≤ 1073741824) := Lib.hid (by simp; omega)
  go_enter Tryd.func63, Tryd.ntmps63
  go_wp2_with (first
    | (at_builtin; refine wpList_appS (W := w) rfl _ _ 22 rfl 5 i0 Tryd.underlying22 hi hz0 hz1 hz2 _ [0] (by rfl) _ l (by rfl) (h.up hb) hown hb hn1.out ?_; intro v7 w7 hown7 hb7)
    | (go_at_call 85; refine (specSha_any _ ([0] ++ l) _ hown7.sl hn2.out).mono ?_; rintro e w8 ⟨v8, rfl, hown8, hb8⟩))
  go_ret
  exact ⟨_, rfl, hown8.mono hb7.size, hb7.trans (hb8.mono hb7.size)⟩

set_option maxHeartbeats 1000000 in
theorem specNodeHash_any (v u : Value) (l m : List UInt8) (w : World) (h : Sl w w.heap.size v l) (h' : Sl w w.heap.size u m) (hl : l.length ≤ 536870000) (hm : m.length ≤ 536870000) :
    Calls Tryd.prog 55 #[v, u] w (Fresh w (nodeL l m)) := by
  obtain ⟨i0, hi, hz0, hz1, hz2⟩ := info_parts u8info
  have hown : Own 5 (w.alloc (.cells #[.int .u8 1] 5)) w.heap.size (.slice (some ⟨w.heap.size, 0, none⟩) 1 1) [1] := own_lit1 w 1
  have hb : Below w.heap.size w (w.alloc (.cells #[.int .u8 1] 5)) := (Below.refl _ _).alloc (Nat.le_refl _) _
  have hn1 : Hid (([1] : List UInt8).length + l.length ≤ 70368744177664) := Lib.hid (by simp; omega)
  have hn3 : Hid (([1] ++ l : List UInt8).length + m.length ≤ 70368744177664) := Lib.hid (by simp; omega)
  have hn2 : Hid (([1] ++ l ++ m).length ≤ 1073741824) := Lib.hid (by simp; omega)
  go_enter Tryd.func55, Tryd.ntmps55
  go_wp2_with (first
    | (at_builtin; refine wpList_appS (W := w) rfl _ _ 22 rfl 5 i0 Tryd.underlying22 hi hz0 hz1 hz2 _ [1] (by rfl) _ l (by rfl) (h.up hb) hown hb hn1.out ?_; intro v6 w6 hown6 hb6)
    | (at_builtin; refine wpList_appS (W := w) rfl _ _ 22 rfl 5 i0 Tryd.underlying22 hi hz0 hz1 hz2 _ ([1] ++ l) (by rfl) _ m (by rfl) (h'.up hb6) hown6 hb6 hn3.out ?_; intro v7 w7 hown7 hb7)
    | (go_at_call 85; refine (specSha_any _ ([1] ++ l ++ m) _ hown7.sl hn2.out).mono ?_; rintro e w8 ⟨v8, rfl, hown8, hb8⟩))
  go_ret
  exact ⟨_, rfl, hown8.mono hb7.size, hb7.trans (hb8.mono hb7.size)⟩

set_option maxHeartbeats 1000000 in
/-- slices.Grow of nil. -/
theorem growNil_any (n : Nat) (w : World) (h0 : 0 < n) (hn : n ≤ 1073741824) :
    Calls Tryd.prog 81 #[.slice none 0 0, .int .i64 (n : Int)] w (Fresh w []) := by
  obtain ⟨i0, hi, hz0, hz1, hz2⟩ := info_parts u8info
  have hrz : ∀ ty, (Builtin.append_ #[22, 3] ty #[.slice none 0 0, .int .i64 (n : Int)]).run Tryd.prog w = _ := fun ty =>
    Lib.run_append_nil_zeros w 22 3 ty 5 i0 (.int .u8 0) .i64 .i64 Tryd.underlying22 Tryd.underlying3 hi hz0 n h0 (by rw [hz1]; decide) (by omega) (by rw [hz2]; omega)
  have hge := grownCap_ge w n 0 5
  have hle := grownCap_le_maxLen w n 0 5 (by unfold maxLen; omega)
  generalize grownCap w n 0 5 = G at hrz hge hle
  have hs1 : (Builtin.zeroCells (Value.cells (.int .u8 0)) n ++ Builtin.zeroCells (Value.cells (.int .u8 0)) (G - n)).size = G := by
    rw [Array.size_append, size_zeroCells, size_zeroCells]
    simp [Value.cells]
    omega
  generalize Builtin.zeroCells (Value.cells (.int .u8 0)) n ++ Builtin.zeroCells (Value.cells (.int .u8 0)) (G - n) = Z at hrz hs1
  have hown : Own 5 (w.drew.alloc (.cells Z 5)) w.heap.size (.slice (some ⟨w.heap.size, 0, none⟩) 0 G) [] := by
    refine ⟨by simp [us], .inr ⟨w.heap.size, G, Z, rfl, Nat.le_refl _, ?_, Nat.zero_le _, hle, by rw [hs1, Nat.mul_one], by simp [us]⟩⟩
    exact heap_alloc_new w.drew _
  have hbel : Below w.heap.size w (w.drew.alloc (.cells Z 5)) := ((below_drewN (Below.refl w.heap.size w) 1).alloc (Nat.le_refl _) _)
  have hno := Lib.hid hown
  have hbo := Lib.hid hbel
  have hG63 : G ≤ 9223372036854775807 := by unfold maxLen at hle; omega
  clear hown hbel hle hs1
  have h1 : ¬ ((n : Int) < 0) := by omega
  have h4 : (n : Int) > 0 := by omega
  go_enter Tryd.func81, Tryd.ntmps81
  go_wp2_with (at_builtin; refine Lib.wpList_append_run _ rfl _ _ _ _ rfl _ _ rfl rfl _ _ (hrz _) ?_)
  go_ret
  exact ⟨_, rfl, hno.out, hbo.out⟩

set_option maxHeartbeats 2000000 in
theorem concat_any (v : Value) (L : List (List UInt8)) (w : World) (h : SlS w w.heap.size v L) (hl : L.length ≤ 1048576) (hs : sumL L ≤ 1073741824) (h0 : 0 < sumL L) :
    Calls Tryd.prog 44 #[v] w (Fresh w (catL L)) := by
  obtain ⟨i0, hi, hz0, hz1, hz2⟩ := info_parts u8info
  obtain ⟨A, c, rfl, h1, h2, k0, h3⟩ := h
  unfold maxLen at h2
  clear k0
  go_enter Tryd.func44, Tryd.ntmps44
  go_wp2
  go_loopw [3, 11] (fun q i wr => ∃ j : Nat, j ≤ L.length ∧ i = .int .i64 j ∧ q = .int .i64 (sumL (L.take j) : Int) ∧ w = wr)
    (fun _ i _ => L.length - (intOf i).toNat)
  case atStart => exact ⟨0, Nat.zero_le _, rfl, rfl, rfl⟩
  case round =>
    obtain ⟨j, hj, rfl, rfl, rfl⟩ := hrel
    by_cases hlj : j < L.length
    · obtain ⟨b, off, rfl, hbb, hcell⟩ := h3 (by omega)
      obtain ⟨x, hc0, hx⟩ := hcell j hlj
      have hsum := sumL_take L j hlj
      have hle := sumL_le L (j + 1)
      obtain ⟨A1, c1, rfl, m1, m2, m0, m3⟩ := hx
      clear hcell m0 m1 m2 m3 h3
      generalize (L.getD j []).length = z at hc0 hsum
      have HS := Lib.hid hsum
      generalize sumL (L.take j) = q at hsum HS ⊢
      have hqz : q + z ≤ 1073741824 := by omega
      have hnn : ¬ (q : Int) + (z : Int) < 0 := by omega
      clear hsum hle
      go_wp2
      go_roundw
      case rel => exact ⟨j + 1, by omega, by go_num, by rw [HS.out]; go_num, trivial⟩
      case measure => simp [intOf]; omega
    · obtain rfl : j = L.length := by omega
      rw [List.take_length]
      have hn0 : Hid (catL (L.take 0) = []) := Lib.hid rfl
      go_wp2_with (go_at_call 81; refine (growNil_any (sumL L) _ h0 hs).mono ?_; rintro e w3 ⟨u3, rfl, hown3, hb3⟩)
      rw [← hn0.out] at hown3
      go_loopw [6, 27] (fun o i wq => ∃ j : Nat, j ≤ L.length ∧ i = .int .i64 j ∧ Own 5 wq w.heap.size o (catL (L.take j)) ∧ Below w.heap.size w wq)
        (fun _ i _ => L.length - (intOf i).toNat)
      case atStart => exact ⟨0, Nat.zero_le _, rfl, hown3, hb3⟩
      case round =>
        clear hown3 hb3
        obtain ⟨j, hj, rfl, hown, hbel⟩ := hrel
        by_cases hlj : j < L.length
        · obtain ⟨b, off, rfl, hbb, hcell⟩ := h3 (by omega)
          obtain ⟨x, hc0, hx⟩ := hcell j hlj
          have hc1 := (hbel.cell (p := ⟨b, off + j, none⟩) hbb).trans hc0
          have hx1 := hx.up hbel
          have hct := catL_take L j hlj
          have hlt2 : (catL (L.take j)).length + (L.getD j []).length ≤ 70368744177664 := by
            have h1 := sumL_take L j hlj
            have h2 := sumL_le L (j + 1)
            rw [catL_length]
            omega
          generalize L.getD j [] = y at hx1 hct hlt2
          generalize catL (L.take j) = C at hown hct hlt2
          have HX := Lib.hid hx1
          have HC := Lib.hid hct
          have HB := Lib.hid hlt2
          clear hcell hc0 hx hx1 hct hlt2
          go_wp2_with (at_builtin; refine wpList_appS (W := w) rfl _ _ 22 rfl 5 i0 Tryd.underlying22 hi hz0 hz1 hz2 _ C (by rfl) _ y (by rfl) HX.out hown hbel HB.out ?_; intro v7 w7 hown7 hb7)
          go_roundw
          case rel => exact ⟨j + 1, by omega, by go_num, by rw [HC.out]; exact hown7, hb7⟩
          case measure => simp [intOf]; omega
        · obtain rfl : j = L.length := by omega
          rw [List.take_length] at hown
          go_wp2
          go_ret
          exact ⟨_, rfl, hown, hbel⟩
end Go.Proofs.YtdoaikanaodefaaDoor

/- The contracts of SplitAt, as the program has it; its model's is in SplitS. -/
namespace Go.Proofs.YtdoaikanaodefaaDoor
open Go.ChangeShapes Go.WideShapes Go.ChangeAt Go.RowKit

theorem splitN_bits {n : Nat} (h : 2 ≤ n) (hn : n ≤ 9223372036854775807) : ∃ j, Lib.bitLen (n - 1) = j + 1 ∧ j ≤ 62 ∧ splitN n = 2 ^ j := by
  obtain ⟨h1, h2, h3⟩ := Lib.bitLenAux_bounds 64 (n - 1) (by omega) (by omega)
  change 1 ≤ Lib.bitLen (n - 1) at h1
  change 2 ^ (Lib.bitLen (n - 1) - 1) ≤ n - 1 at h2
  change n - 1 < 2 ^ Lib.bitLen (n - 1) at h3
  generalize Lib.bitLen (n - 1) = b at h1 h2 h3
  obtain ⟨j, rfl⟩ : ∃ j, b = j + 1 := ⟨b - 1, by omega⟩
  rw [Nat.add_sub_cancel] at h2
  refine ⟨j, rfl, ?_, splitN_of (by omega) (by rw [Nat.pow_succ] at h3; omega)⟩
  rcases Nat.lt_or_ge 62 j with hj | hj
  · have : 2 ^ 63 ≤ 2 ^ j := Nat.pow_le_pow_right (by omega) hj
    omega
  · exact hj

theorem wrap_pow {j : Nat} (hj : j ≤ 62) : wrap64 ((2 : Int) ^ j) = ((2 ^ j : Nat) : Int) := by
  have hp : 2 ^ j ≤ 2 ^ 62 := Nat.pow_le_pow_right (by omega) hj
  have e : ((2 : Int) ^ j) = ((2 ^ j : Nat) : Int) := by simp
  rw [e]
  generalize 2 ^ j = k at hp
  unfold wrap64
  omega

set_option maxRecDepth 100000 in
theorem implSplitAt_any (n : Int) (w : World) (hn : n ≤ 9223372036854775807) :
    Calls Tryd.prog 50 #[.int .i64 n] w (fun e w' => e = .returned (.int .i64 (splitZ n)) ∧ w' = w) := by
  by_cases hlt : n < 2
  · rw [splitZ_small hlt]
    go_enter Tryd.func50, Tryd.ntmps50
    go_wp2
    go_ret
    exact ⟨rfl, rfl⟩
  · obtain ⟨m, rfl⟩ := Int.eq_ofNat_of_zero_le (show 0 ≤ n by omega)
    obtain ⟨j, hb, hj, hs⟩ := splitN_bits (n := m) (by omega) (by omega)
    rw [splitZ_nat, hs]
    have HB := Lib.hid (Tryd.bits_Len ((m : Int) - 1) w (by omega) (by omega))
    have hto : ((m : Int) - 1).toNat = m - 1 := by omega
    rw [hto, hb] at HB
    clear hb hs hto
    go_enter Tryd.func50, Tryd.ntmps50
    go_wp2_with (go_at_call 83; refine HB.out.mono ?_; rintro e _ ⟨rfl, rfl⟩)
    go_ret
    refine ⟨?_, rfl⟩
    rw [wrap_pow hj]
    rfl

theorem implSplitAtB_any (n : Int) (w : World) (hn : n ≤ 9223372036854775807) :
    Calls Tryd.prog 50 #[.int .i64 n] w (fun e w' => e = .returned (.int .i64 (splitZ n)) ∧ Below w.heap.size w w') :=
  (implSplitAt_any n w hn).mono fun _ _ h => ⟨h.1, by rw [h.2]; exact Below.refl _ _⟩
theorem specSplitAtB_any (n : Int) (w : World) (hn : n ≤ 9223372036854775807) :
    Calls Tryd.prog 92 #[.int .i64 n] w (fun e w' => e = .returned (.int .i64 (splitZ n)) ∧ Below w.heap.size w w') :=
  (specSplitAt_any n w hn).mono fun _ _ h => ⟨h.1, by rw [h.2]; exact Below.refl _ _⟩
end Go.Proofs.YtdoaikanaodefaaDoor

/- The contracts of LeafHash and NodeHash as the program has them, and of TreeRoot, as the program has it (a closure that calls itself) and as its model has it. -/
namespace Go.Proofs.YtdoaikanaodefaaDoor
open Go.ChangeShapes Go.WideShapes Go.ChangeAt Go.RowKit

theorem slS_lit2 {w : World} {x y : Value} {l m : List UInt8} (E : TypeId) (hx : Sl w w.heap.size x l) (hy : Sl w w.heap.size y m) :
    SlS (w.alloc (.cells #[x, y] E)) (w.alloc (.cells #[x, y] E)).heap.size (.slice (some ⟨w.heap.size, 0, none⟩) 2 2) [l, m] := by
  have hb : Below w.heap.size w (w.alloc (.cells #[x, y] E)) := (Below.refl _ _).alloc (Nat.le_refl _) _
  refine ⟨_, 2, rfl, Nat.le_refl _, by simp [maxLen], (fun e => by cases e), fun _ => ⟨w.heap.size, 0, rfl, by simp, fun k hk => ?_⟩⟩
  rcases k with _ | k
  · exact ⟨x, by simp, hx.up hb⟩
  rcases k with _ | k
  · exact ⟨y, by simp, hy.up hb⟩
  · simp at hk
    omega
theorem slS_lit3 {w : World} {x y z : Value} {l m n : List UInt8} (E : TypeId) (hx : Sl w w.heap.size x l) (hy : Sl w w.heap.size y m) (hz : Sl w w.heap.size z n) :
    SlS (w.alloc (.cells #[x, y, z] E)) (w.alloc (.cells #[x, y, z] E)).heap.size (.slice (some ⟨w.heap.size, 0, none⟩) 3 3) [l, m, n] := by
  have hb : Below w.heap.size w (w.alloc (.cells #[x, y, z] E)) := (Below.refl _ _).alloc (Nat.le_refl _) _
  refine ⟨_, 3, rfl, Nat.le_refl _, by simp [maxLen], (fun e => by cases e), fun _ => ⟨w.heap.size, 0, rfl, by simp, fun k hk => ?_⟩⟩
  rcases k with _ | k
  · exact ⟨x, by simp, hx.up hb⟩
  rcases k with _ | k
  · exact ⟨y, by simp, hy.up hb⟩
  rcases k with _ | k
  · exact ⟨z, by simp, hz.up hb⟩
  · simp at hk
    omega

set_option maxHeartbeats 1000000 in
theorem implLeafHash_any (v : Value) (l : List UInt8) (w : World) (h : Sl w w.heap.size v l) (hl : l.length ≤ 1073741000)
    (hI : Glob w 0 initW) (hG : Glob w 1 kk) :
    Calls Tryd.prog 10 #[v] w (Fresh w (leafL l)) := by
  have hs := h
  obtain ⟨A, c, rfl, h1, h2, h0, h3⟩ := h
  unfold maxLen at h2
  clear h0 h1 h2 h3
  have hb1 : Below w.heap.size w (w.alloc (.cells #[.int .u8 0] 5)) := (Below.refl _ _).alloc (Nat.le_refl _) _
  have hown : Own 5 (w.alloc (.cells #[.int .u8 0] 5)) w.heap.size (.slice (some ⟨w.heap.size, 0, none⟩) 1 1) [0] := own_lit1 w 0
  have hss := slS_lit2 22 hown.sl (hs.up hb1)
  have hb2 := hb1.trans (((Below.refl _ _).alloc (Nat.le_refl _) (.cells #[.slice (some ⟨w.heap.size, 0, none⟩) 1 1, .slice A l.length c] 22)).mono hb1.size)
  rw [show (w.alloc (.cells #[.int .u8 0] 5)).heap.size = w.heap.size + 1 by simp] at hss
  have hn1 : Hid (sumL [([0] : List UInt8), l] ≤ 1073741824) := Lib.hid (by simp [sumL]; omega)
  have hn2 : Hid (([0] ++ l).length ≤ 1073741824) := Lib.hid (by simp; omega)
  have hn3 : Hid (catL [([0] : List UInt8), l] = [0] ++ l) := Lib.hid (by simp [catL])
  have hn4 : Hid (0 < sumL [([0] : List UInt8), l]) := Lib.hid (by simp [sumL]; omega)
  go_enter Tryd.func10, Tryd.ntmps10
  go_wp2_with (first
    | (go_at_call 44; refine (concat_any _ [([0] : List UInt8), l] _ hss (by simp) hn1.out hn4.out).mono ?_; rw [hn3.out]; rintro e w7 ⟨v7, rfl, hown7, hb7⟩; have hb7' := hb2.trans (hb7.mono hb2.size))
    | (go_at_call 43; refine (implSha_any _ ([0] ++ l) _ hown7.sl hn2.out (hI.below hI.lt hb7') (hG.below hG.lt hb7')).mono ?_; rintro e w8 ⟨v8, rfl, hown8, hb8⟩))
  go_ret
  exact ⟨_, rfl, hown8.mono hb7'.size, hb7'.trans (hb8.mono hb7'.size)⟩

set_option maxHeartbeats 1000000 in
theorem implNodeHash_any (v u : Value) (l m : List UInt8) (w : World) (h : Sl w w.heap.size v l) (h' : Sl w w.heap.size u m) (hl : l.length ≤ 536870000) (hm : m.length ≤ 536870000)
    (hI : Glob w 0 initW) (hG : Glob w 1 kk) :
    Calls Tryd.prog 48 #[v, u] w (Fresh w (nodeL l m)) := by
  have hs := h
  have hs' := h'
  obtain ⟨A, c, rfl, h1, h2, h0, h3⟩ := h
  obtain ⟨A', c', rfl, h1', h2', h0', h3'⟩ := h'
  clear h0 h1 h2 h3 h0' h1' h2' h3'
  have hb1 : Below w.heap.size w (w.alloc (.cells #[.int .u8 1] 5)) := (Below.refl _ _).alloc (Nat.le_refl _) _
  have hown : Own 5 (w.alloc (.cells #[.int .u8 1] 5)) w.heap.size (.slice (some ⟨w.heap.size, 0, none⟩) 1 1) [1] := own_lit1 w 1
  have hss := slS_lit3 22 hown.sl (hs.up hb1) (hs'.up hb1)
  have hb2 := hb1.trans (((Below.refl _ _).alloc (Nat.le_refl _) (.cells #[.slice (some ⟨w.heap.size, 0, none⟩) 1 1, .slice A l.length c, .slice A' m.length c'] 22)).mono hb1.size)
  rw [show (w.alloc (.cells #[.int .u8 1] 5)).heap.size = w.heap.size + 1 by simp] at hss
  have hn1 : Hid (sumL [([1] : List UInt8), l, m] ≤ 1073741824) := Lib.hid (by simp [sumL]; omega)
  have hn2 : Hid (([1] ++ l ++ m).length ≤ 1073741824) := Lib.hid (by simp; omega)
  have hn3 : Hid (catL [([1] : List UInt8), l, m] = [1] ++ l ++ m) := Lib.hid (by simp [catL])
  have hn4 : Hid (0 < sumL [([1] : List UInt8), l, m]) := Lib.hid (by simp [sumL]; omega)
  go_enter Tryd.func48, Tryd.ntmps48
  go_wp2_with (first
    | (go_at_call 44; refine (concat_any _ [([1] : List UInt8), l, m] _ hss (by simp) hn1.out hn4.out).mono ?_; rw [hn3.out]; rintro e w7 ⟨v7, rfl, hown7, hb7⟩; have hb7' := hb2.trans (hb7.mono hb2.size))
    | (go_at_call 43; refine (implSha_any _ ([1] ++ l ++ m) _ hown7.sl hn2.out (hI.below hI.lt hb7') (hG.below hG.lt hb7')).mono ?_; rintro e w8 ⟨v8, rfl, hown8, hb8⟩))
  go_ret
  exact ⟨_, rfl, hown8.mono hb7'.size, hb7'.trans (hb8.mono hb7'.size)⟩

theorem cell_new (w : World) (x : Value) (E : TypeId) {g : Nat} (hg : w.heap.size = g) : (w.alloc (.cells #[x] E)).cell? ⟨g, 0, none⟩ = some x := by
  subst hg
  simp
theorem cell_before {w : World} (o : Obj) {g k : Nat} (h : g < w.heap.size) : (w.alloc o).cell? ⟨g, k, none⟩ = w.cell? ⟨g, k, none⟩ :=
  ((Below.refl w.heap.size w).alloc (Nat.le_refl _) o).cell (p := ⟨g, k, none⟩) h
/-- What the closure finds: the leaves in the variable in block g, itself in the variable in block k. -/
def Env (w : World) (g k : Nat) (A : Option Addr) (c : Nat) (L : List (List UInt8)) : Prop :=
  g < w.heap.size ∧ k < w.heap.size ∧ w.cell? ⟨g, 0, none⟩ = some (.slice A L.length c) ∧
    w.cell? ⟨k, 0, none⟩ = some (.func (Fn.func 49) #[] #[.pointer (some ⟨g, 0, none⟩), .pointer (some ⟨k, 0, none⟩)]) ∧
    SlS w w.heap.size (.slice A L.length c) L ∧ Glob w 0 initW ∧ Glob w 1 kk
theorem Env.up {w w' : World} {g k : Nat} {A : Option Addr} {c : Nat} {L : List (List UInt8)} (h : Env w g k A c L) (hb : Below w.heap.size w w') : Env w' g k A c L := by
  obtain ⟨h1, h2, h3, h4, h5, h6, h7⟩ := h
  exact ⟨Nat.lt_of_lt_of_le h1 hb.size, Nat.lt_of_lt_of_le h2 hb.size, (hb.cell (p := ⟨g, 0, none⟩) h1).trans h3, (hb.cell (p := ⟨k, 0, none⟩) h2).trans h4, h5.up hb, h6.up hb, h7.up hb⟩
theorem Env.drew {w : World} {g k : Nat} {A : Option Addr} {c : Nat} {L : List (List UInt8)} (h : Env w g k A c L) : Env w.drew g k A c L := h
theorem Env.self {w : World} {g k : Nat} {A : Option Addr} {c : Nat} {L : List (List UInt8)} (h : Env w g k A c L) :
    w.cell? ⟨k, 0, none⟩ = some (.func (Fn.func 49) #[] #[.pointer (some ⟨g, 0, none⟩), .pointer (some ⟨k, 0, none⟩)]) := h.2.2.2.1

set_option maxRecDepth 100000 in
set_option maxHeartbeats 4000000 in
theorem partRoot_any (g k : Nat) (A : Option Addr) (c : Nat) (L : List (List UInt8)) (hs : sumL L ≤ 1073741000) (hL : L.length ≤ 1073741824) : ∀ (f a b n : Nat) (w : World), n ≤ f → 0 < n → b = a + n → b ≤ L.length → Env w g k A c L →
    Calls Tryd.prog 49 #[.int .i64 (a : Int), .int .i64 (b : Int), .pointer (some ⟨g, 0, none⟩), .pointer (some ⟨k, 0, none⟩)] w (Fresh w (treeL (partL L a n))) := by
  intro f
  induction f with
  | zero => intro a b n w hf h0; omega
  | succ f ih =>
    intro a b n w hf h0 hb hbl hE
    obtain ⟨hg, hk, hcg, hck, hS, hI, hG⟩ := hE
    have HE := Lib.hid (⟨hg, hk, hcg, hck, hS, hI, hG⟩ : Env w g k A c L)
    have hsub : (b : Int) - (a : Int) = (n : Int) := by omega
    by_cases hn : n = 1
    · subst hn
      rw [treeL_part1 (by omega)]
      obtain ⟨A', c', e', h1, h2, k0, h3⟩ := hS
      simp only [Value.slice.injEq, true_and] at e'
      obtain ⟨rfl, rfl⟩ := e'
      obtain ⟨bb, off, rfl, hbb, hcell⟩ := h3 (by omega)
      obtain ⟨x, hc0, hx⟩ := hcell a (by omega)
      have hsum := sumL_one L a (by omega)
      have haL : (a : Int) < (L.length : Int) := by omega
      unfold maxLen at h2
      clear hcell h3 k0
      generalize L.getD a [] = l at hx hsum
      have hll : l.length ≤ 1073741000 := by omega
      clear hsum hb
      go_enter Tryd.func49, Tryd.ntmps49
      go_wp2_with (go_at_call 10; refine (implLeafHash_any x l _ hx hll hI hG).mono ?_; rintro e w1 ⟨v1, rfl, hown1, hb1⟩)
      go_ret
      exact ⟨_, rfl, hown1, hb1⟩
    · have hn2 : 2 ≤ n := by omega
      rw [treeL_part hn2 (by omega)]
      have hlt := splitN_lt hn2
      have hps := splitN_pos hn2
      have hz := splitZ_nat n
      have hne : ¬ ((n : Int) = 1) := by omega
      have HA := Lib.hid (implSplitAt_any (n : Int) w (by omega))
      rw [hz] at HA
      generalize splitN n = s at hlt hps HA ⊢
      clear hz hcg hS
      obtain ⟨m, hm⟩ : ∃ m, m = a + s := ⟨_, rfl⟩
      have hadd : (a : Int) + (s : Int) = (m : Int) := by omega
      have hl1 := treeL_length (partL L a s)
      have hl2 := treeL_length (partL L (a + s) (n - s))
      rw [← hm] at hl2 ⊢
      have IH1 := Lib.hid (ih a m s)
      have IH2 := Lib.hid (ih m b (n - s))
      have hc1 : Hid (s ≤ f ∧ 0 < s ∧ m = a + s ∧ m ≤ L.length) := Lib.hid ⟨by omega, by omega, by omega, by omega⟩
      have hc2 : Hid (n - s ≤ f ∧ 0 < n - s ∧ b = m + (n - s) ∧ b ≤ L.length) := Lib.hid ⟨by omega, by omega, by omega, by omega⟩
      generalize treeL (partL L a s) = R1 at hl1 IH1 ⊢
      generalize treeL (partL L m (n - s)) = R2 at hl2 IH2 ⊢
      have HL1 : Hid (R1.length ≤ 536870000) := Lib.hid (by omega)
      have HL2 : Hid (R2.length ≤ 536870000) := Lib.hid (by omega)
      have hml : m ≤ 1073741824 := by omega
      clear ih hl1 hl2 hm hb
      go_enter Tryd.func49, Tryd.ntmps49
      go_wp2_with (go_at_call 50; refine HA.out.mono ?_; rintro e w' ⟨rfl, hw⟩; obtain rfl : w = w' := hw.symm)
      have HD : Hid (Env w.drew g k A c L) := Lib.hid (Env.drew HE.out)
      go_region_held3 (fun w' => w'.cell? ⟨k, 0, none⟩ = some (.func (Fn.func 49) #[] #[.pointer (some ⟨g, 0, none⟩), .pointer (some ⟨k, 0, none⟩)]))
        (first
          | go_keep
          | exact HE1.out.self
          | exact HE2.out.self
          | exact HE3.out.self)
        (first
          | (go_at_call_of 49 (Value.int IntKind.i64 (a : Int)); refine (IH1.out w.drew hc1.out.1 hc1.out.2.1 hc1.out.2.2.1 hc1.out.2.2.2 HD.out).mono ?_; rintro e w1 ⟨v1, rfl, hown1, hb1⟩; have HE1 := Lib.hid (HD.out.up hb1))
          | (go_at_call_of 49 (Value.int IntKind.i64 (b : Int)); refine (IH2.out w1 hc2.out.1 hc2.out.2.1 hc2.out.2.2.1 hc2.out.2.2.2 HE1.out).mono ?_; rintro e w2 ⟨v2, rfl, hown2, hb2⟩; have HE2 := Lib.hid (HE1.out.up hb2))
          | (go_at_call 48; refine (implNodeHash_any v1 v2 R1 R2 w2 (hown1.sl.up hb2) hown2.sl HL1.out HL2.out HE2.out.2.2.2.2.2.1 HE2.out.2.2.2.2.2.2).mono ?_; rintro e w3 ⟨v3, rfl, hown3, hb3⟩; have HE3 := Lib.hid (HE2.out.up hb3)))
      go_wp2
      go_ret
      have hbd : Below w.heap.size w w.drew := below_drewN (Below.refl _ _) 1
      have hb12 := (hbd.trans hb1).trans (hb2.mono hb1.size)
      exact ⟨_, rfl, hown3.mono hb12.size, hb12.trans (hb3.mono hb12.size)⟩

set_option maxRecDepth 100000 in
set_option maxHeartbeats 4000000 in
theorem implTreeRoot_any (v : Value) (L : List (List UInt8)) (w : World) (h : SlS w w.heap.size v L) (hs : sumL L ≤ 1073741000) (hL : L.length ≤ 1073741824)
    (hI : Glob w 0 initW) (hG : Glob w 1 kk) :
    Calls Tryd.prog 15 #[v] w (Fresh w (treeL L)) := by
  have hmf : ∀ (fn : Fn) (first cap : Array Value) (w : World), (Instr.makeFunc fn first cap).run Tryd.prog w = .ok (.func fn first cap) w := fun _ _ _ _ => rfl
  have hS := h
  obtain ⟨A, c, rfl, h1, h2, h0, h3⟩ := h
  unfold maxLen at h2
  clear h0 h3
  have hb1 : Below w.heap.size w (w.alloc (.cells #[.slice A L.length c] 23)) := (Below.refl _ _).alloc (Nat.le_refl _) _
  by_cases hl0 : L.length = 0
  · have hli : (L.length : Int) = 0 := by omega
    have hl0' : ((L.length : Int) == 0) = true := by simp [hl0]
    rw [treeL_nil hl0]
    clear hl0
    go_enter Tryd.func15, Tryd.ntmps15
    go_wp2_with (go_at_call 43; refine (implSha_any _ [] _ Sl.nil_ (by simp) (hI.below hI.lt hb1) (hG.below hG.lt hb1)).mono ?_; rintro e w8 ⟨v8, rfl, hown8, hb8⟩)
    go_ret
    exact ⟨_, rfl, hown8.mono hb1.size, hb1.trans (hb8.mono hb1.size)⟩
  · have hli : ¬ (L.length : Int) = 0 := by omega
    have hb2 : Below w.heap.size w ((w.alloc (.cells #[.slice A L.length c] 23)).alloc (.cells #[.func (Fn.func 49) #[] #[.pointer (some ⟨w.heap.size, 0, none⟩), .pointer (some ⟨w.heap.size + 1, 0, none⟩)]] 83)) := hb1.alloc hb1.size _
    have hE : Env ((w.alloc (.cells #[.slice A L.length c] 23)).alloc (.cells #[.func (Fn.func 49) #[] #[.pointer (some ⟨w.heap.size, 0, none⟩), .pointer (some ⟨w.heap.size + 1, 0, none⟩)]] 83)) w.heap.size (w.heap.size + 1) A c L :=
      ⟨by simp; omega, by simp, (cell_before _ (by simp)).trans (cell_new _ _ _ rfl), cell_new _ _ _ (by simp), hS.up hb2, hI.below hI.lt hb2, hG.below hG.lt hb2⟩
    have hP := partRoot_any w.heap.size (w.heap.size + 1) A c L hs hL L.length 0 L.length L.length _ (Nat.le_refl _) (by omega) (by omega) (Nat.le_refl _) hE
    rw [partL_all, show ((0 : Nat) : Int) = 0 from rfl] at hP
    have HP := Lib.hid hP
    clear hP hE
    go_enter Tryd.func15, Tryd.ntmps15
    go_wp2_with (go_at_call 49; refine HP.out.mono ?_; rintro e w8 ⟨v8, rfl, hown8, hb8⟩)
    go_ret
    exact ⟨_, rfl, hown8.mono hb2.size, hb2.trans (hb8.mono hb2.size)⟩

set_option maxRecDepth 100000 in
set_option maxHeartbeats 4000000 in
theorem specTreeRoot_all : ∀ (f : Nat) (L : List (List UInt8)) (v : Value) (w : World), L.length ≤ f → L.length ≤ 1073741824 → sumL L ≤ 1073741000 → SlS w w.heap.size v L →
    Calls Tryd.prog 67 #[v] w (Fresh w (treeL L)) := by
  intro f
  induction f with
  | zero =>
    intro L v w hf hL hs h
    have hl0 : L.length = 0 := by omega
    obtain ⟨A, c, rfl, h1, h2, h0, h3⟩ := h
    unfold maxLen at h2
    clear h0 h3
    rw [treeL_nil hl0]
    have hl0' : ((L.length : Int) == 0) = true := by simp [hl0]
    clear hl0
    go_enter Tryd.func67, Tryd.ntmps67
    go_wp2_with (go_at_call 85; refine (specSha_any _ [] _ Sl.nil_ (by simp)).mono ?_; rintro e w8 ⟨v8, rfl, hown8, hb8⟩)
    go_ret
    exact ⟨_, rfl, hown8, hb8⟩
  | succ f ih =>
    intro L v w hf hL hs h
    have hS := h
    obtain ⟨A, c, rfl, h1, h2, h0, h3⟩ := h
    unfold maxLen at h2
    clear h0
    by_cases hl0 : L.length = 0
    · rw [treeL_nil hl0]
      have hl0' : ((L.length : Int) == 0) = true := by simp [hl0]
      clear hl0 h3 ih
      go_enter Tryd.func67, Tryd.ntmps67
      go_wp2_with (go_at_call 85; refine (specSha_any _ [] _ Sl.nil_ (by simp)).mono ?_; rintro e w8 ⟨v8, rfl, hown8, hb8⟩)
      go_ret
      exact ⟨_, rfl, hown8, hb8⟩
    have hl0' : ((L.length : Int) == 0) = false := by rw [beq_eq_false_iff_ne]; omega
    obtain ⟨bb, off, rfl, hbb, hcell⟩ := h3 (by omega)
    by_cases hl1 : L.length = 1
    · rw [treeL_one hl1]
      have hl1' : ((L.length : Int) == 1) = true := by simp [hl1]
      obtain ⟨x, hc0, hx⟩ := hcell 0 (by omega)
      rw [Nat.add_zero] at hc0
      have hsum := sumL_one L 0 (by omega)
      have hp : (0 : Int) < (L.length : Int) := by omega
      clear hcell h3 ih hl0 hl1
      generalize L.getD 0 [] = l at hx hsum
      have hll : l.length ≤ 1073741000 := by omega
      clear hsum
      go_enter Tryd.func67, Tryd.ntmps67
      go_wp2_with (go_at_call 63; refine (specLeafHash_any x l _ hx hll).mono ?_; rintro e w1 ⟨v1, rfl, hown1, hb1⟩)
      go_ret
      exact ⟨_, rfl, hown1, hb1⟩
    · have hl1' : ((L.length : Int) == 1) = false := by rw [beq_eq_false_iff_ne]; omega
      have hn2 : 2 ≤ L.length := by omega
      rw [treeL_two hn2]
      have hlt := splitN_lt hn2
      have hps := splitN_pos hn2
      have hz := splitZ_nat L.length
      obtain ⟨n, hn⟩ : ∃ n, n = L.length := ⟨_, rfl⟩
      rw [← hn] at hlt hps hz hn2 h1 hl0' hl1' hf ⊢
      have HA := Lib.hid (specSplitAt_any (n : Int) w (by omega))
      rw [hz] at HA
      generalize splitN n = s at hlt hps HA ⊢
      clear hz hl0 hl1 h3
      have ht1 : SlS w w.heap.size (.slice (some ⟨bb, off, none⟩) s c) (L.take s) := by
        have := slS_cut (L := L) (off := off) (c := c) 0 s h2 hbb hcell (by omega) off c (by omega) (by omega) (Nat.le_refl _)
        simpa using this
      have ht2 : SlS w w.heap.size (.slice (some ⟨bb, off + s, none⟩) (n - s) (c - s)) (L.drop s) := by
        have := slS_cut (L := L) (off := off) (c := c) s (n - s) h2 hbb hcell (by omega) (off + s) (c - s) (by omega) (by omega) (by omega)
        rwa [List.take_of_length_le (by rw [List.length_drop]; omega)] at this
      have hs1 : Hid ((L.take s).length ≤ f ∧ (L.take s).length ≤ 1073741824 ∧ sumL (L.take s) ≤ 1073741000) := Lib.hid (by
        have := sumL_le L s
        rw [List.length_take]
        exact ⟨by omega, by omega, by omega⟩)
      have hs2 : Hid ((L.drop s).length ≤ f ∧ (L.drop s).length ≤ 1073741824 ∧ sumL (L.drop s) ≤ 1073741000) := Lib.hid (by
        have h1 := sumL_app (L.take s) (L.drop s)
        rw [List.take_append_drop] at h1
        rw [List.length_drop]
        exact ⟨by omega, by omega, by omega⟩)
      have hl1 := treeL_length (L.take s)
      have hl2 := treeL_length (L.drop s)
      have IH1 := Lib.hid (ih (L.take s))
      have IH2 := Lib.hid (ih (L.drop s))
      have HT1 := Lib.hid ht1
      have HT2 := Lib.hid ht2
      clear ih hcell ht1 ht2 hS hn
      generalize L.take s = L1 at hl1 hs1 IH1 HT1 ⊢
      generalize L.drop s = L2 at hl2 hs2 IH2 HT2 ⊢
      generalize treeL L1 = R1 at hl1 IH1 ⊢
      generalize treeL L2 = R2 at hl2 IH2 ⊢
      have HL1 : Hid (R1.length ≤ 536870000) := Lib.hid (by omega)
      have HL2 : Hid (R2.length ≤ 536870000) := Lib.hid (by omega)
      have hi1 : (0 : Int) ≤ (s : Int) := by omega
      have hi2 : (s : Int) ≤ (n : Int) := by omega
      have hi3 : (s : Int) ≤ (c : Int) := by omega
      have hi4 : s ≤ n := by omega
      have hi5 : s ≤ c := by omega
      clear hl1 hl2
      go_enter Tryd.func67, Tryd.ntmps67
      go_wp2_with (go_at_call 92; refine HA.out.mono ?_; rintro e w' ⟨rfl, hw⟩; obtain rfl : w = w' := hw.symm)
      go_region_held3 (fun _ => True)
        (trivial)
        (first
          | (go_at_call_of 67 (Value.slice (some ⟨bb, off, none⟩) s c); refine (IH1.out _ w.drew hs1.out.1 hs1.out.2.1 hs1.out.2.2 HT1.out).mono ?_; rintro e w1 ⟨v1, rfl, hown1, hb1⟩; have HT3 := Lib.hid (HT2.out.up ((below_drewN (Below.refl _ _) 1).trans hb1)))
          | (go_at_call_of 67 (Value.slice (some ⟨bb, off + s, none⟩) (n - s) (c - s)); refine (IH2.out _ w1 hs2.out.1 hs2.out.2.1 hs2.out.2.2 HT3.out).mono ?_; rintro e w2 ⟨v2, rfl, hown2, hb2⟩)
          | (go_at_call 55; refine (specNodeHash_any v1 v2 R1 R2 w2 (hown1.sl.up hb2) hown2.sl HL1.out HL2.out).mono ?_; rintro e w3 ⟨v3, rfl, hown3, hb3⟩))
      go_wp2
      go_ret
      have hbd : Below w.heap.size w w.drew := below_drewN (Below.refl _ _) 1
      have hb12 := (hbd.trans hb1).trans (hb2.mono hb1.size)
      exact ⟨_, rfl, hown3.mono hb12.size, hb12.trans (hb3.mono hb12.size)⟩
theorem specTreeRoot_any (v : Value) (L : List (List UInt8)) (w : World) (h : SlS w w.heap.size v L) (hs : sumL L ≤ 1073741000) (hL : L.length ≤ 1073741824) :
    Calls Tryd.prog 67 #[v] w (Fresh w (treeL L)) := specTreeRoot_all L.length L v w (Nat.le_refl _) hL hs h
end Go.Proofs.YtdoaikanaodefaaDoor
