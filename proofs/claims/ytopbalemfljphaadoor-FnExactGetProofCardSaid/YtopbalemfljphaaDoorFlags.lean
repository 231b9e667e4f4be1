/- The contracts of flagsOf and bitmap: an array of sixteen flags, made of a bitmap and made into one. -/
import Derived.Test.YtopbalemfljphaaDoorAnd
namespace Go.Proofs.YtopbalemfljphaaDoor
open Go.ChangeShapes Go.WideShapes Go.ChangeAt Go.RowKit

/-- The cells of sixteen flags. -/
def fl (f : Nat → Bool) : Array Value := ((List.range 16).map fun i => Value.bool (f i)).toArray
theorem fl_size (f : Nat → Bool) : (fl f).size = 16 := by simp [fl]
theorem fl_get (f : Nat → Bool) (k : Nat) (h : k < 16) : (fl f)[k]? = some (.bool (f k)) := by
  simp [fl, h]
theorem fl_cell (f : Nat → Bool) : (fl f).all (·.oneCell') = true := by
  rw [Array.all_eq_true_iff_forall_mem]
  intro v hv
  simp only [fl, List.mem_toArray, List.mem_map] at hv
  obtain ⟨i, _, rfl⟩ := hv
  rfl
theorem fl_set (f : Nat → Bool) (k : Nat) (b : Bool) (h : k < 16) : (fl f).setIfInBounds k (.bool b) = fl fun i => if i = k then b else f i := by
  apply Array.ext_getElem?
  intro i
  rw [Array.getElem?_setIfInBounds]
  rcases Nat.lt_or_ge i 16 with hi | hi
  · rw [fl_get _ _ hi, fl_get _ _ hi, fl_size]
    by_cases e : k = i
    · rw [if_pos e, if_pos h, if_pos e.symm]
    · rw [if_neg e, if_neg (fun e' => e e'.symm)]
  · have e : ∀ g : Nat → Bool, (fl g)[i]? = none := fun g => Array.getElem?_eq_none (by rw [fl_size]; exact hi)
    rw [e, e, if_neg (by omega)]
theorem fl_ext {f g : Nat → Bool} (h : ∀ i, i < 16 → f i = g i) : fl f = fl g := by
  unfold fl
  congr 1
  apply List.map_congr_left
  intro i hi
  rw [h i (List.mem_range.1 hi)]
theorem fl_inj {f g : Nat → Bool} (h : fl f = fl g) : ∀ i, i < 16 → f i = g i := fun i hi => by
  have e := fl_get f i hi
  rw [h, fl_get g i hi] at e
  injection e with e
  injection e with e
  exact e.symm
/-- Block g holds the flags f. -/
def Flags (w : World) (g : Nat) (f : Nat → Bool) : Prop := w.heap[g]? = some (.cells (fl f) 161 (0, 0))
theorem Flags.lt {w : World} {g : Nat} {f : Nat → Bool} (h : Flags w g f) : g < w.heap.size := (Array.getElem?_eq_some_iff.1 h).1
theorem Flags.at {w : World} {g : Nat} {f : Nat → Bool} (h : Flags w g f) (k : Nat) (hk : k < 16) : w.cell? ⟨g, k, none⟩ = some (.bool (f k)) := (cell_of_row w g k _ _ _ h).trans (fl_get f k hk)
theorem Flags.free {w : World} {g : Nat} {f : Nat → Bool} (h : Flags w g f) (k : Nat) : w.frozen? ⟨g, k, none⟩ = false := by
  unfold Flags at h
  simp [World.frozen?, h]
theorem Flags.set {w : World} {g : Nat} {f : Nat → Bool} (h : Flags w g f) (k : Nat) (b : Bool) (hk : k < 16) : Flags (w.setCell ⟨g, k, none⟩ (.bool b)) g fun i => if i = k then b else f i := by
  unfold Flags
  rw [setCell_eq_setRow w g k _ _ _ _ h, ← fl_set f k b hk]
  exact setRow_heap w g _ _ _ _ h
theorem Flags.ext {w : World} {g : Nat} {f f' : Nat → Bool} (h : Flags w g f) (he : ∀ i, i < 16 → f i = f' i) : Flags w g f' := by
  unfold Flags
  rw [← fl_ext he]
  exact h
theorem Flags.beside {w : World} {g g' : Nat} {f : Nat → Bool} (h : Flags w g f) (k : Nat) (v : Value) (hne : g ≠ g') : Flags (w.setCell ⟨g', k, none⟩ v) g f := by
  unfold Flags
  rw [Below.heap_setCell _ _ _ _ hne]
  exact h
theorem Flags.drewN {w : World} {g : Nat} {f : Nat → Bool} (h : Flags w g f) (n : Nat) : Flags (w.drewN n) g f := h
theorem Flags.up {w w' : World} {g : Nat} {f : Nat → Bool} (h : Flags w g f) (hb : Below w.heap.size w w') : Flags w' g f := by
  unfold Flags
  rw [hb.block g h.lt]
  exact h
theorem flags_new (w : World) (f : Nat → Bool) : Flags (w.alloc (.cells (fl f) 161)) w.heap.size f := by
  show (w.heap.push (.cells (fl f) 161))[w.heap.size]? = some (.cells (fl f) 161 (0, 0))
  simp
theorem Flags.alloc {w : World} {g : Nat} {f : Nat → Bool} (h : Flags w g f) (o : Obj) : Flags (w.alloc o) g f := h.up ((Below.refl _ _).alloc (Nat.le_refl _) _)
theorem arrDesc : Tryd.prog.underlying 161 = some (.array 16 4) := by kernel_rfl
theorem arrSize (f : Nat → Bool) : (Tryd.prog.info? 161).map (·.size) = some (fl f).size := by
  rw [fl_size]
  kernel_rfl

/-- What flagsOf has after k rounds. -/
def flk (l : List UInt8) (k : Nat) : Nat → Bool := fun i => decide (i < k) && bitL l i
theorem flk_zero (l : List UInt8) : fl (flk l 0) = fl fun _ => false := fl_ext fun i _ => by simp [flk]
theorem flk_succ (l : List UInt8) (k i : Nat) : flk l (k + 1) i = if i = k then bitL l k else flk l k i := by
  unfold flk
  split
  · rename_i h
    subst h
    rw [decide_eq_true (by omega), Bool.true_and]
  · rename_i h
    by_cases hik : i < k
    · rw [decide_eq_true hik, decide_eq_true (by omega)]
    · rw [decide_eq_false hik, decide_eq_false (by omega)]

theorem setRow_belowF {w : World} {B g : Nat} {cs : Array Value} (hg : B ≤ g) : Below B w (w.setRow g cs) := by
  refine ⟨rfl, rfl, rfl, by simp, fun i hi => ?_⟩
  rw [setRow_other]
  omega

set_option maxRecDepth 100000 in
set_option maxHeartbeats 1000000 in
theorem flagsOf_any (v : Value) (l : List UInt8) (n : Nat) (w : World) (h : Sl w w.heap.size v l) (hl : l.length ≤ 4294967296) (hn : n ≤ 16) :
    Calls Tryd.prog 104 #[v, .int .i64 (n : Int)] w fun e w' => e = .returned (.agg (fl (flk l n))) ∧ Below w.heap.size w w' := by
  have hs := h
  obtain ⟨A, c, rfl, h1, h2, h0, h3⟩ := h
  unfold maxLen at h2
  clear h0 h3
  have hF0 : Flags ((w.alloc (.cells (fl fun _ => false) 161)).alloc (.cells (fl fun _ => false) 161)) w.heap.size fun _ => false := (flags_new w _).alloc _
  have hF1 : Flags ((w.alloc (.cells (fl fun _ => false) 161)).alloc (.cells (fl fun _ => false) 161)) (w.heap.size + 1) (flk l 0) := by
    have e : (w.alloc (.cells (fl fun _ => false) 161)).heap.size = w.heap.size + 1 := by simp
    rw [← e]
    exact (flags_new _ _).ext fun i _ => by simp [flk]
  have hB1 : Below w.heap.size w ((w.alloc (.cells (fl fun _ => false) 161)).alloc (.cells (fl fun _ => false) 161)) := ((Below.refl _ _).alloc (Nat.le_refl _) _).alloc (by simp) _
  go_enter Tryd.func104, Tryd.ntmps104
  go_wp2
  go_loopw [8] (fun i wr => ∃ k : Nat, k ≤ n ∧ i = .int .i64 k ∧ Flags wr w.heap.size (fun _ => false) ∧ Flags wr (w.heap.size + 1) (flk l k) ∧ Below w.heap.size w wr)
    (fun i _ => n - (intOf i).toNat)
  case atStart => exact ⟨0, Nat.zero_le _, rfl, hF0, hF1, hB1⟩
  case round =>
    obtain ⟨k, hk, rfl, hA, hC, hbel⟩ := hrel
    by_cases hlt : k < n
    · have hlt' : (k : Int) < (n : Int) := by omega
      have hk16 : (k : Int) < 16 := by omega
      have hs' := hs.up hbel
      have hc0 := hC.at k (by omega)
      have hf0 := hC.free k
      have hst := hC.set k (bitL l k) (by omega)
      have hst' := Lib.hid (hst.ext (f' := flk l (k + 1)) fun i _ => (flk_succ l k i).symm)
      have hA' := Lib.hid (hA.beside (g' := w.heap.size + 1) k (.bool (bitL l k)) (by omega))
      clear hst
      go_wp2_with fail
      refine (implBitsHas_any _ l k _ hs' hl (by omega)).mono ?_
      rw [hasB_at]
      rintro ev _ ⟨rfl, q, rfl⟩
      go_wp2
      go_roundw
      case rel => exact ⟨k + 1, by omega, by go_num, hA'.out, hst'.out, (below_drewN hbel q).setCell (Nat.le_succ _) _⟩
      case measure => simp [intOf]; omega
    · obtain rfl : k = n := by omega
      go_wp2_with (first
        | (refine wpList_load_row rfl _ _ rfl (w.heap.size + 1) rfl _ _ _ _ hC arrDesc rfl (arrSize _) ?_)
        | (refine wpList_store_row rfl _ _ _ rfl w.heap.size (fl (flk l k)) rfl rfl _ _ hA (arrSize _) (by rw [fl_size, fl_size]) (fl_cell _) ?_))
      exact bodyPost_ret (results_cell_row rfl _ _ w.heap.size _ _ _ _ rfl (setRow_heap wr w.heap.size _ _ _ _ hA) arrDesc rfl (arrSize _)) rfl ⟨rfl, hbel.trans (setRow_belowF (Nat.le_refl _))⟩

/-! One bit set, one bit turned. -/
theorem two_u8 (j : Nat) (hj : j < 8) : (UInt8.ofNat (2 ^ j)).toNat = 2 ^ j := by
  have := two_pow_lt j hj
  rw [UInt8.toNat_ofNat']
  generalize 2 ^ j = p at *
  omega
theorem bits_or_two (c : UInt8) (j : Nat) (hj : j < 8) : bits .or .u8 (c.toNat : Int) (2 ^ j % 256) = ((c ||| UInt8.ofNat (2 ^ j)).toNat : Int) := by
  rw [two_pow_u8 j hj, u8_or_nat _ _ c.toNat_lt (two_pow_lt j hj), UInt8.toNat_or, two_u8 j hj]
theorem bits_xor_two (c : UInt8) (j : Nat) (hj : j < 8) : bits .xor .u8 (c.toNat : Int) (2 ^ j % 256) = ((c ^^^ UInt8.ofNat (2 ^ j)).toNat : Int) := by
  rw [two_pow_u8 j hj, u8_xor_nat _ _ c.toNat_lt (two_pow_lt j hj), UInt8.toNat_xor, two_u8 j hj]
theorem or_two_bit (c : UInt8) (j i : Nat) (hj : j < 8) : (c ||| UInt8.ofNat (2 ^ j)).toNat.testBit i = (c.toNat.testBit i || decide (j = i)) := by
  rw [UInt8.toNat_or, two_u8 j hj, Nat.testBit_or, Nat.testBit_two_pow]
theorem xor_two_bit (c : UInt8) (j i : Nat) (hj : j < 8) : (c ^^^ UInt8.ofNat (2 ^ j)).toNat.testBit i = ((c.toNat.testBit i).xor (decide (j = i))) := by
  rw [UInt8.toNat_xor, two_u8 j hj, Nat.testBit_xor, Nat.testBit_two_pow]
/-- Bit k set. -/
def put1 (L : List UInt8) (k : Nat) : List UInt8 := L.set (k / 8) (L.getD (k / 8) 0 ||| UInt8.ofNat (2 ^ (k % 8)))
/-- Bit k turned. -/
def turn1 (L : List UInt8) (k : Nat) : List UInt8 := L.set (k / 8) (L.getD (k / 8) 0 ^^^ UInt8.ofNat (2 ^ (k % 8)))
theorem put1_us (L : List UInt8) (k : Nat) : (us L).set (k / 8) (.int .u8 (bits .or .u8 (bt L (k / 8)) (2 ^ (k % 8) % 256))) = us (put1 L k) := by
  unfold bt put1
  rw [bits_or_two _ _ (by omega), us_set]
theorem turn1_us (L : List UInt8) (k : Nat) : (us L).set (k / 8) (.int .u8 (bits .xor .u8 (bt L (k / 8)) (2 ^ (k % 8) % 256))) = us (turn1 L k) := by
  unfold bt turn1
  rw [bits_xor_two _ _ (by omega), us_set]
theorem put1_length (L : List UInt8) (k : Nat) : (put1 L k).length = L.length := by simp [put1]
theorem turn1_length (L : List UInt8) (k : Nat) : (turn1 L k).length = L.length := by simp [turn1]
theorem put1_bit (L : List UInt8) (k i : Nat) (h : k / 8 < L.length) : bitL (put1 L k) i = if i = k then true else bitL L i := by
  unfold put1
  rw [bitL_set _ _ _ _ h]
  by_cases e : i / 8 = k / 8
  · rw [if_pos e, or_two_bit _ _ _ (by omega)]
    by_cases e2 : i = k
    · rw [if_pos e2, decide_eq_true (by omega), Bool.or_true]
    · rw [if_neg e2, decide_eq_false (by omega), Bool.or_false, ← e]
      rfl
  · rw [if_neg e, if_neg (by omega)]
theorem turn1_bit (L : List UInt8) (k i : Nat) (h : k / 8 < L.length) : bitL (turn1 L k) i = if i = k then !bitL L i else bitL L i := by
  unfold turn1
  rw [bitL_set _ _ _ _ h]
  by_cases e : i / 8 = k / 8
  · rw [if_pos e, xor_two_bit _ _ _ (by omega)]
    by_cases e2 : i = k
    · rw [if_pos e2, decide_eq_true (by omega), Bool.xor_true, ← e]
      rfl
    · rw [if_neg e2, decide_eq_false (by omega), Bool.xor_false, ← e]
      rfl
  · rw [if_neg e, if_neg (by omega)]

end Go.Proofs.YtopbalemfljphaaDoor
