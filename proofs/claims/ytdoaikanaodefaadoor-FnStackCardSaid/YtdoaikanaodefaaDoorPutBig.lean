/- PutBig: Sha, ShaPad, Rot, PutBig, Words. -/
import Derived.Test.YtdoaikanaodefaaDoorStackBase
import Derived.Test.YtdoaikanaodefaaDoorMem
import Derived.RegionTactic
import Derived.BigRegion
import Derived.Laws.ShiftsVar
import Derived.Laws.ShiftsVarLaws
import Derived.Laws.CopyOwn
import Derived.Lib.LaidTab
import Derived.Deep.Cut

/- The contracts of the hash's functions but ShaBlock and Sha, as their model has them. -/
namespace Go.Proofs.YtdoaikanaodefaaDoor
open Go.ChangeShapes Go.WideShapes Go.ChangeAt Go.RowKit

theorem l04Turn_any (x n : Nat) (w : World) (hn : n ≤ 31) :
    Calls Tryd.prog 124 #[.int .i64 (x : Int), .int .i64 (n : Int)] w (Quiet (.int .i64 (turnR x n : Int)) w) := by
  have hr := turn_bits x n
  generalize turnR x n = r at hr
  go_enter Tryd.func124, Tryd.ntmps124
  go_wp2
  go_quiet (fail)
  go_wp2
  go_ret
  exact ⟨by rw [← hr]; rfl, _, rfl⟩
theorem l04Word_yes (n : Int) (w : World) (h0 : 0 ≤ n) (h1 : n ≤ 4294967295) :
    Calls Tryd.prog 123 #[.int .i64 n] w fun e w' => e = .returned (.bool true) ∧ w = w' := by
  go_enter Tryd.func123, Tryd.ntmps123
  go_wp2_with (go_at_call 84; refine (l01In_yes _ _ _ _ h0 h1).mono ?_; rintro e w' ⟨rfl, rfl⟩)
  go_ret
  exact ⟨rfl, rfl⟩
theorem l04Word_no (n : Int) (w : World) (h : ¬ (0 ≤ n ∧ n ≤ 4294967295)) :
    Calls Tryd.prog 123 #[.int .i64 n] w fun e w' => e = .returned (.bool false) ∧ w = w' := by
  have H := Lib.hid h
  clear h
  go_enter Tryd.func123, Tryd.ntmps123
  go_wp2_with (go_at_call 84; refine (l01In_no _ _ _ _ H.out).mono ?_; rintro e w' ⟨rfl, rfl⟩)
  go_ret
  exact ⟨rfl, rfl⟩

/-- The arguments of TurnRight. -/
def turnOk (x n : Int) : Prop := (0 ≤ x ∧ x ≤ 4294967295) ∧ 0 ≤ n ∧ n ≤ 31
instance (x n : Int) : Decidable (turnOk x n) := inferInstanceAs (Decidable (_ ∧ _))
/-- What TurnRight answers. -/
def turnZ (x n : Int) : Int := if turnOk x n then (turnR x.toNat n.toNat : Int) else 0
/-- The call returns the number x; nothing that was there has turned. -/
def Num2 (x : Int) (w : World) (e : Ending) (w' : World) : Prop := e = .returned (.int .i64 x) ∧ Below w.heap.size w w'
set_option maxRecDepth 100000 in
theorem specShaInit_any (w : World) : Calls Tryd.prog 105 #[] w (FreshI w (wi initW)) := by
  go_enter Tryd.func105, Tryd.ntmps105
  go_wp2
  go_ret
  exact ⟨_, rfl, World.ownsRow_lit w _ 8 (Nat.le_refl _) (by simp [maxLen]) rfl, (Below.refl _ _).alloc (Nat.le_refl _) _⟩
set_option maxRecDepth 100000 in
theorem l04K_any (w : World) : Calls Tryd.prog 125 #[] w (FreshI w (wi kk)) := by
  go_enter Tryd.func125, Tryd.ntmps125
  go_wp2
  go_ret
  exact ⟨_, rfl, World.ownsRow_lit w _ 64 (Nat.le_refl _) (by simp [maxLen]) rfl, (Below.refl _ _).alloc (Nat.le_refl _) _⟩
end Go.Proofs.YtdoaikanaodefaaDoor

/- The contract of ShaPad, as its model has it. -/
namespace Go.Proofs.YtdoaikanaodefaaDoor
open Go.ChangeShapes Go.WideShapes Go.ChangeAt Go.RowKit

/-- What has been filled up after j zero bytes. -/
def padZ (l : List UInt8) (j : Nat) : List UInt8 := l ++ [128] ++ List.replicate j 0
theorem padZ_length (l : List UInt8) (j : Nat) : (padZ l j).length = l.length + 1 + j := by simp [padZ]; omega
theorem padZ_succ (l : List UInt8) (j : Nat) : padZ l (j + 1) = padZ l j ++ [0] := by simp [padZ, List.replicate_succ']
theorem pad_more {n j : Nat} (h : j < zerosOf n) : ((((n + 1 + j : Nat) : Int) % 64) != 56) = true := by
  unfold zerosOf at h
  have : (((n + 1 + j : Nat) : Int) % 64) ≠ 56 := by omega
  simpa using this
theorem pad_done (n : Nat) : ((((n + 1 + zerosOf n : Nat) : Int) % 64) != 56) = false := by
  unfold zerosOf
  have : (((n + 1 + (119 - n % 64) % 64 : Nat) : Int) % 64) = 56 := by omega
  simpa using this
theorem eight_length (n : Nat) : (eight n).length = 8 := by simp [eight]
theorem eight_take (n j : Nat) (h : j < 8) : (eight n).take (j + 1) = (eight n).take j ++ [UInt8.ofNat (n / 256 ^ (7 - j) % 256)] := by
  rw [List.take_add_one, List.getElem?_eq_getElem (by rw [eight_length]; exact h)]
  simp [eight]

theorem byte_of (N q : Nat) : (N : Int) / 2 ^ (8 * q) % 256 = ((UInt8.ofNat (N / 256 ^ q % 256)).toNat : Int) := by
  have e : (256 : Nat) ^ q = 2 ^ (8 * q) := by rw [Nat.pow_mul]
  rw [e]
  simp
/-- How many elements a slice has. -/
def slLen : Value → Nat
  | .slice _ n _ => n
  | _ => 0
theorem slLen_own {E : TypeId} {w : World} {B : Nat} {v : Value} {l : List UInt8} (h : Own E w B v l) : slLen v = l.length := by
  obtain ⟨A, c, rfl, _⟩ := h.sl
  rfl
set_option maxRecDepth 100000 in
set_option maxHeartbeats 1000000 in
theorem specShaPad_any (v : Value) (l : List UInt8) (w : World) (h : Sl w w.heap.size v l) (hl : l.length ≤ 4294967296) :
    Calls Tryd.prog 106 #[v] w (Fresh w (padL l)) := by
  obtain ⟨i0, hi, hz0, hz1, hz2⟩ := info_parts u8info
  have hs := h
  obtain ⟨A, c, rfl, h1, h2, h0, h3⟩ := h
  unfold maxLen at h2
  clear h0 h3
  go_enter Tryd.func106, Tryd.ntmps106
  go_wp2_with (first
    | (go_at_call 54; refine (l01Copy_any _ l _ hs hl).mono ?_; rintro e w1 ⟨v1, rfl, hown1, hb1⟩)
    | (at_builtin; refine wpList_app1 (W := w) rfl _ _ 22 rfl 5 i0 Tryd.underlying22 hi hz0 hz1 hz2 _ l (by rfl) _ 128 (Lib.hid rfl) rfl hown1 hb1 (by omega) ?_; intro v2 w2 hown2 hb2))
  have hz : zerosOf l.length ≤ 63 := by unfold zerosOf; omega
  go_loopw [3] (fun s wr => ∃ j : Nat, j ≤ zerosOf l.length ∧ slLen s = l.length + 1 + j ∧ Own 5 wr w.heap.size s (padZ l j) ∧ Below w.heap.size w wr)
    (fun s _ => l.length + 1 + zerosOf l.length - slLen s)
  case atStart => exact ⟨0, Nat.zero_le _, by rw [slLen_own hown2]; simp, by simpa [padZ] using hown2, hb2⟩
  case round =>
    obtain ⟨j, hj, hsl, hown, hbel⟩ := hrel
    obtain ⟨A3, c3, rfl, k1, k2, k0, k3⟩ := hown.sl
    unfold maxLen at k2
    have hpl := padZ_length l j
    rw [hpl] at k1 hsl hown ⊢
    clear k0 k3 hsl
    by_cases hlt : j < zerosOf l.length
    · have hm := pad_more hlt
      have hlj : (padZ l j).length ≤ 4294967360 := by omega
      go_wp2_with (at_builtin; refine wpList_app1 (W := w) rfl _ _ 22 rfl 5 i0 Tryd.underlying22 hi hz0 hz1 hz2 _ (padZ l j) (by rfl) _ 0 (Lib.hid rfl) rfl hown hbel (by omega) ?_; intro v4 w4 hown4 hb4)
      rw [← padZ_succ] at hown4
      have hs4 := slLen_own hown4
      rw [padZ_length] at hs4
      go_roundw
      case rel => exact ⟨j + 1, by omega, hs4, hown4, hb4⟩
      case measure => rw [hs4]; simp [slLen]; omega
    · obtain rfl : j = zerosOf l.length := by omega
      have hm := pad_done l.length
      have hp : padZ l (zerosOf l.length) ++ (eight (8 * l.length)).take 8 = padL l := by
        rw [List.take_of_length_le (Nat.le_of_eq (eight_length _))]
        simp [padL, padZ]
      have Hp := Lib.hid hp
      clear hp
      go_wp2
      have hN : (8 * (l.length : Int)) = ((8 * l.length : Nat) : Int) := by omega
      have hN' : 8 * l.length ≤ 34359738368 := by omega
      rw [hN]
      clear hN
      clear hm
      generalize (((l.length : Int) + 1 + (zerosOf l.length : Int)) % 64 != 56) = b13
      generalize 8 * l.length = N at Hp hN'
      have hbl : (padZ l (zerosOf l.length)).length ≤ 4294967360 := by omega
      generalize padZ l (zerosOf l.length) = base at Hp hown hbl
      go_loopw [3, 5] (fun s i wr => ∃ j : Nat, j ≤ 8 ∧ i = .int .i64 (7 - (j : Int)) ∧ Own 5 wr w.heap.size s (base ++ (eight N).take j) ∧ Below w.heap.size w wr)
        (fun _ i _ => (intOf i + 1).toNat)
      case atStart => exact ⟨0, Nat.zero_le _, rfl, by rw [List.take_zero, List.append_nil]; exact hown, hbel⟩
      case round =>
        obtain ⟨j, hj, rfl, hown, hbel⟩ := hrel
        by_cases hlt8 : j < 8
        · have hq : (7 : Int) - (j : Int) = ((7 - j : Nat) : Int) := by omega
          have htk := eight_take N j hlt8
          have hbj : (base ++ (eight N).take j).length ≤ 4294967368 := by simp; omega
          have hq7 : 7 - j ≤ 7 := by omega
          rw [hq]
          generalize 7 - j = q at hq htk hq7
          have Hq := Lib.hid hq
          clear hq
          have hby := Lib.hid (byte_of N q)
          go_wp2_with (at_builtin; refine wpList_app1 (W := w) rfl _ _ 22 rfl 5 i0 Tryd.underlying22 hi hz0 hz1 hz2 _ (base ++ (eight N).take j) (by rfl) _ (UInt8.ofNat (N / 256 ^ q % 256)) hby rfl hown hbel (by omega) ?_; intro v4 w4 hown4 hb4)
          rw [List.append_assoc, ← htk] at hown4
          go_roundw
          case rel => exact ⟨j + 1, by omega, by have := Hq.out; congr 1; omega, hown4, hb4⟩
          case measure => simp [intOf]
        · obtain rfl : j = 8 := by omega
          go_wp2
          go_ret
          exact ⟨_, rfl, by rw [← Hp.out]; exact hown, hbel⟩
end Go.Proofs.YtdoaikanaodefaaDoor

/- The contract of the rotation, as the program has it, and of TurnRight. -/
namespace Go.Proofs.YtdoaikanaodefaaDoor
open Go.ChangeShapes Go.WideShapes Go.ChangeAt Go.RowKit

/-- The call returns x and turns nothing. -/
def Same (x : Value) (w : World) (e : Ending) (w' : World) : Prop := e = .returned x ∧ w = w'
/-- The count of the shift to the left. -/
theorem rot_count : ∀ n : Fin 32, bits .and .u64 (IntKind.u64.wrap (-((n.val : Nat) : Int))) 31 = (((32 - n.val) % 32 : Nat) : Int) := by decide +kernel
theorem turn_u32 (x n s : Nat) (hx : x < 4294967296) (hn : n ≤ 31) (hs : s = (32 - n) % 32) :
    bits .or .u32 ((x : Int) * 2 ^ s % 4294967296) ((x : Int) / 2 ^ (32 - s)) = (turnR x n : Int) := by
  have e1 : (x : Int) * 2 ^ s % 4294967296 = ((x * 2 ^ s % 4294967296 : Nat) : Int) := by simp
  have e2 : (x : Int) / 2 ^ (32 - s) = ((x / 2 ^ (32 - s) : Nat) : Int) := by simp
  rw [e1, e2, u32_or_nat _ _ (Nat.mod_lt _ (by decide)) (Nat.lt_of_le_of_lt (Nat.div_le_self _ _) hx)]
  congr 1
  unfold turnR
  rw [show (4294967296 : Nat) = 2 ^ 32 from rfl, Nat.or_mod_two_pow]
  rcases Nat.eq_zero_or_pos n with h0 | h0
  · subst h0
    obtain rfl : s = 0 := by omega
    have hd : x / 2 ^ 32 = 0 := Nat.div_eq_of_lt hx
    simp [hd, Nat.mod_eq_of_lt hx]
  · have h1 : s = 32 - n := by omega
    have h2 : 32 - s = n := by omega
    rw [h2, h1, Nat.or_comm]
    congr 1
    exact (Nat.mod_eq_of_lt (Nat.lt_of_le_of_lt (Nat.div_le_self _ _) hx)).symm
theorem rotateLeft32_any (x n : Nat) (w : World) (hx : x < 4294967296) (hn : n ≤ 31) :
    Calls Tryd.prog 136 #[.int .u32 (x : Int), .int .i64 (-(n : Int))] w (Same (.int .u32 (turnR x n : Int)) w) := by
  obtain ⟨s, hsn⟩ : ∃ s, s = (32 - n) % 32 := ⟨_, rfl⟩
  have hs := rot_count ⟨n, by omega⟩
  have ht := turn_u32 x n s hx hn hsn
  rw [← hsn] at hs
  have hs31 : s ≤ 31 := by omega
  clear hsn
  generalize turnR x n = r at ht ⊢
  dsimp only at hs
  go_enter Tryd.func136, Tryd.ntmps136
  go_wp2
  go_ret
  exact ⟨by rw [← ht]; rfl, rfl⟩
theorem rotr_any (x n : Nat) (w : World) (hx : x < 4294967296) (hn : n ≤ 31) :
    Calls Tryd.prog 133 #[.int .u32 (x : Int), .int .i64 (n : Int)] w (Same (.int .u32 (turnR x n : Int)) w) := by
  go_enter Tryd.func133, Tryd.ntmps133
  go_wp2_with fail
  refine (rotateLeft32_any x n _ hx hn).mono ?_
  rintro e _ ⟨rfl, rfl⟩
  go_wp2_with fail
  go_ret
  exact ⟨rfl, rfl⟩
end Go.Proofs.YtdoaikanaodefaaDoor

/- The contract of putBig, as the program has it: all bytes of a part of a row of the call's own. -/
namespace Go.Proofs.YtdoaikanaodefaaDoor
open Go.ChangeShapes Go.WideShapes Go.ChangeAt Go.RowKit

/-- The row l behind j rounds over the part of k bytes from off on. -/
def PB (l : List UInt8) (off k x : Nat) : Nat → List UInt8
  | 0 => l
  | j + 1 => (PB l off k x j).set (off + (k - 1 - j)) (UInt8.ofNat (x / 256 ^ j % 256))
theorem PB_length (l : List UInt8) (off k x j : Nat) : (PB l off k x j).length = l.length := by
  induction j with
  | zero => rfl
  | succ j ih => simp [PB, ih]
theorem pb_set (l : List UInt8) (off k x j y : Nat) (hy : y = x / 256 ^ j) : (us (PB l off k x j)).set (off + (k - 1 - j)) (.int .u8 ((y : Int) % 256)) = us (PB l off k x (j + 1)) := by
  have e : (y : Int) % 256 = ((UInt8.ofNat (x / 256 ^ j % 256)).toNat : Int) := by
    rw [hy]
    simp
  rw [e, us_set]
  rfl
theorem set_at (p q : List UInt8) (i : Nat) (c : UInt8) : (p ++ q).set (p.length + i) c = p ++ q.set i c := by
  rw [List.set_append_right _ _ (by omega)]
  congr 2
  omega
theorem PB_4 (p m q : List UInt8) (x : Nat) (hm : m.length = 4) : PB (p ++ m ++ q) p.length 4 x 4 = p ++ four x ++ q := by
  match m, hm with
  | [a, b, c, d], _ =>
    simp only [PB, List.append_assoc, set_at]
    simp [four]
theorem PB_8 (p m : List UInt8) (x : Nat) (hm : m.length = 8) : PB (p ++ m) p.length 8 x 8 = p ++ eight x := by
  match m, hm with
  | [a, b, c, d, e, f, g, h], _ =>
    simp only [PB, set_at]
    simp [eight, List.range_succ]
/-- Nothing returned; the row is l' now; nothing else that was there has turned. -/
def Filled (B g n cap : Nat) (l' : List UInt8) (w : World) (e : Ending) (w' : World) : Prop :=
  e = .returned (.tuple #[]) ∧ w'.ownsRow B 5 1 (.slice (some ⟨g, 0, none⟩) n cap) n (us l') ∧ w.grownBy w' (some g)
set_option maxHeartbeats 1000000 in
theorem putBig_any (g n cap off k c : Nat) (l : List UInt8) (x : Nat) (B : Nat) (w : World) (h : w.ownsRow B 5 1 (.slice (some ⟨g, 0, none⟩) n cap) n (us l)) (hn : l.length = n)
    (hk : off + k ≤ n) (hk8 : k ≤ 8) (hx : x < 18446744073709551616) (_hbig : n ≤ 4294967360) :
    Calls Tryd.prog 100 #[.slice (some ⟨g, off, none⟩) k c, .int .u64 (x : Int)] w (Filled B g n cap (PB l off k x k) w) := by
  have Hn := Lib.hid hn
  clear hn
  go_enter Tryd.func100, Tryd.ntmps100
  go_wp2
  go_loopw [1, 7] (fun q i wr => ∃ j y : Nat, j ≤ k ∧ y = x / 256 ^ j ∧ i = .int .i64 j ∧ q = .int .u64 y ∧ wr.ownsRow B 5 1 (.slice (some ⟨g, 0, none⟩) n cap) n (us (PB l off k x j)) ∧ w.grownBy wr (some g))
    (fun _ i _ => k - (intOf i).toNat)
  case atStart => exact ⟨0, x, Nat.zero_le _, by simp, rfl, rfl, h, World.grownBy.refl _ _⟩
  case round =>
    obtain ⟨j, y, hj, hy, rfl, rfl, hown, hgr⟩ := hrel
    have HY := Lib.hid hy
    have hyx : y < 18446744073709551616 := by rw [hy]; exact Nat.lt_of_le_of_lt (Nat.div_le_self _ _) hx
    clear hy
    by_cases hlt : j < k
    · have hq : (k : Int) - 1 - (j : Int) = ((k - 1 - j : Nat) : Int) := by omega
      have hset := pb_set l off k x j y HY.out
      obtain ⟨q, hq2⟩ : ∃ q, q = k - 1 - j := ⟨_, rfl⟩
      rw [← hq2] at hq hset
      have hqk : q < k := by omega
      clear hq2
      have hc1 := (World.ownsRow.cellAt hown (off + q) (by omega)).trans (us_get (PB l off k x j) (off + q) (by rw [PB_length, Hn.out]; omega))
      have hf1 := World.ownsRow.frozenAt hown (off + q)
      have hst := World.ownsRow.stored hown (off + q) (.int .u8 ((y : Int) % 256))
      rw [hset] at hst
      have hst1 := Lib.hid hst
      clear hst hset
      go_wp2
      go_roundw
      case rel => exact ⟨j + 1, y / 256, by omega, by rw [HY.out, Nat.pow_succ, Nat.div_div_eq_div_mul], by go_num, by go_num, hst1.out.1, gtrans hgr hst1.out.2⟩
      case measure => simp [intOf]; omega
    · obtain rfl : j = k := by omega
      go_wp2
      go_end0
      exact ⟨rfl, hown, hgr⟩

/-- What the copy leaves: the bytes of l and zeros behind them. -/
theorem splice_us (l : List UInt8) (T : Nat) : splice (us (List.replicate T 0)) 0 (us l) = us (l ++ List.replicate (T - l.length) 0) := by
  simp [splice, us]
theorem addr_add (b off j : Nat) : (⟨b, off, none⟩ : Addr).add j = ⟨b, off + j, none⟩ := by
  unfold Addr.add
  split
  · next h => subst h; rfl
  · rfl
theorem row_zero {E : TypeId} {w : World} {B g T : Nat} (h : w.ownsRow B E 1 (.slice (some ⟨g, 0, none⟩) T T) T (madeCells (Value.int .u8 0).cells (T * 1)).toList) : w.ownsRow B E 1 (.slice (some ⟨g, 0, none⟩) T T) T (us (List.replicate T 0)) := by
  have e : (madeCells (Value.int .u8 0).cells (T * 1)).toList = us (List.replicate T 0) := by
    rw [Nat.mul_one, us_zeros]
    exact toList_madeCells_one _ _
  rw [← e]
  exact h
theorem src_pos {w : World} {B n c g : Nat} {A : Option Addr} {l : List UInt8} (h : Sl w B (.slice A n c) l) :
    0 < (us l).length → (some ⟨g, 0, none⟩ : Option Addr) = some ⟨g, 0, none⟩ ∧ ∃ ad, A = some ad ∧ ∀ j v, (us l)[j]? = some v → w.cell? (ad.add j) = some v := by
  intro hp
  rw [us_length] at hp
  obtain ⟨A', c', he, h1, h2, h0, h3⟩ := h
  obtain ⟨b, off, rfl, hb, hc⟩ := h3 hp
  simp only [Value.slice.injEq] at he
  refine ⟨rfl, _, he.1, fun j v hv => ?_⟩
  have hj : j < l.length := by
    rw [← us_length l]
    exact (List.getElem?_eq_some_iff.1 hv).1
  rw [us_get l j hj] at hv
  rw [← hv]
  rw [addr_add]
  exact hc j hj
theorem row_full {E : TypeId} {w : World} {B g T : Nat} {xs : List Value} (h : w.ownsRow B E 1 (.slice (some ⟨g, 0, none⟩) T T) T xs) : w.heap[g]? = some (.cells xs.toArray E (0, 0)) := by
  rcases h.2 with ⟨h', _⟩ | ⟨g', cap', cur, h', hb, hg, hnc, hcm, hcs, htake⟩
  · simp at h'
  · simp only [Value.slice.injEq, Option.some.injEq, Addr.mk.injEq, and_true, true_and] at h'
    obtain ⟨rfl, rfl⟩ := h'
    rw [hg, ← htake, List.take_of_length_le (by simp [hcs])]
theorem row_is {E : TypeId} {w : World} {B g T : Nat} {xs : List Value} (hg : w.heap[g]? = some (.cells xs.toArray E (0, 0))) (hB : B ≤ g) (hT : xs.length = T) (hm : T ≤ maxLen) : w.ownsRow B E 1 (.slice (some ⟨g, 0, none⟩) T T) T xs :=
  ⟨by omega, .inr ⟨g, T, _, rfl, hB, hg, Nat.le_refl _, hm, by simp [hT], by simp [List.take_of_length_le, hT]⟩⟩
theorem copied {w : World} {g T : Nat} {l : List UInt8} (hg : w.heap[g]? = some (.cells (splice (us (List.replicate T 0)) 0 (us l)).toArray 5 (0, 0))) (h : l.length < T) (hm : T ≤ maxLen) :
    w.ownsRow g 5 1 (.slice (some ⟨g, 0, none⟩) T T) T (us (l ++ List.replicate (T - l.length) 0)) := by
  rw [splice_us] at hg
  exact row_is hg (Nat.le_refl _) (by rw [us_length, List.length_append, List.length_replicate]; omega) hm
theorem copied_cell {w : World} {g T : Nat} {l : List UInt8} (h : w.ownsRow g 5 1 (.slice (some ⟨g, 0, none⟩) T T) T (us (l ++ List.replicate (T - l.length) 0))) (hl : l.length < T) :
    w.cell? ⟨g, l.length, none⟩ = some (.int .u8 (bt (l ++ List.replicate (T - l.length) 0) l.length)) :=
  (World.ownsRow.cellAt h l.length (by omega)).trans (us_get _ _ (by rw [List.length_append, List.length_replicate]; omega))
theorem pad_total (n : Nat) : (((n : Int) + 8) / 64 + 1) * 64 = ((n + 9 + zerosOf n : Nat) : Int) := by
  unfold zerosOf
  omega
theorem padL_len (l : List UInt8) : (padL l).length ≤ l.length + 72 := by
  rw [padL_length]
  unfold zerosOf
  omega
theorem pad_parts (l : List UInt8) {T T8 : Nat} (hT : T = l.length + 9 + zerosOf l.length) (h8 : T = T8 + 8) :
    (l ++ List.replicate (T - l.length) 0).set l.length 128 = (l ++ [128] ++ List.replicate (zerosOf l.length) 0) ++ List.replicate 8 0 ∧ (l ++ [128] ++ List.replicate (zerosOf l.length) 0).length = T8 ∧
      ∀ N, N = 8 * l.length → PB ((l ++ [128] ++ List.replicate (zerosOf l.length) 0) ++ List.replicate 8 0) T8 8 N 8 = padL l := by
  have hl : (l ++ [128] ++ List.replicate (zerosOf l.length) 0).length = T8 := by simp; omega
  refine ⟨?_, hl, ?_⟩
  · have e : T - l.length = (zerosOf l.length + 8) + 1 := by omega
    rw [e, List.replicate_succ, List.set_append_right _ _ (Nat.le_refl _), Nat.sub_self]
    rw [← List.replicate_append_replicate]
    simp
  · rintro N rfl
    rw [← hl, PB_8 _ _ _ (by simp)]
    rfl
set_option maxRecDepth 100000 in
set_option maxHeartbeats 2000000 in
theorem implShaPad_any (v : Value) (l : List UInt8) (w : World) (h : Sl w w.heap.size v l) (hl : l.length ≤ 1073741824) :
    Calls Tryd.prog 78 #[v] w (Fresh w (padL l)) := by
  obtain ⟨i0, hi, hz0, hz1, hz2⟩ := info_parts u8info
  have hs := h
  obtain ⟨A, c, rfl, h1, h2, h0, h3⟩ := h
  have hT := pad_total l.length
  have hPL := padL_length l
  have hz : zerosOf l.length ≤ 63 := by unfold zerosOf; omega
  obtain ⟨T, hTT⟩ : ∃ T, T = l.length + 9 + zerosOf l.length := ⟨_, rfl⟩
  rw [← hTT] at hT hPL
  have hTn : l.length + 9 ≤ T := by omega
  have hTb : T ≤ 1073741896 := by omega
  have HT := Lib.hid hTT
  have HPL := Lib.hid hPL
  clear hTT hPL hz
  have hby : i0.bytes * T ≤ 281474976710656 := by rw [hz2]; omega
  have hml : T ≤ maxLen := by unfold maxLen; omega
  unfold maxLen at h2
  clear h0
  have hsz : (Tryd.prog.info? 5).map (·.size) = some 1 := by rw [hi]; simp [hz1]
  obtain ⟨T8, hT8⟩ : ∃ T8, T = T8 + 8 := ⟨T - 8, by omega⟩
  have hT8i : (T : Int) - 8 = (T8 : Int) := by omega
  have hT8l : T8 + 8 ≤ T := by omega
  have HT8 := Lib.hid hT8
  clear hT8
  obtain ⟨N, hNN⟩ : ∃ N, N = 8 * l.length := ⟨_, rfl⟩
  have hN : 8 * (l.length : Int) = (N : Int) := by omega
  have hNb : N < 18446744073709551616 := by omega
  have HN := Lib.hid hNN
  clear hNN
  have hT88 : T - T8 = 8 := by have := HT8.out; omega
  have Hlt : Hid (l.length < T) := Lib.hid (by omega)
  have Hmn : Hid ((us l).length = Nat.min l.length T) := Lib.hid (by rw [us_length]; exact (Nat.min_eq_left (by omega)).symm)
  have Hft : Hid (0 + (us l).length ≤ (us (List.replicate T 0)).length) := Lib.hid (by rw [us_length, us_length, List.length_replicate]; omega)
  go_enter Tryd.func78, Tryd.ntmps78
  go_wp2_with (first
    | (at_make; refine wpList_make_full _ rfl _ _ _ rfl w.heap.size 5 i0 (.int .u8 0) 1 Tryd.underlying22 hi hz0 hz1 .i64 .i64 _ _ T rfl rfl rfl rfl hby hml (Nat.le_refl _) ?_; intro w1 hown1 hg1; have hb1 := (Below.refl w.heap.size w).grown hg1 (Nat.le_refl _) (by simp); have hrow := row_full (row_zero hown1); have hs1 := Lib.hid (hs.up hb1); clear hown1 hg1)
    | (refine wpList_copy_splice rfl _ _ _ _ rfl 5 Tryd.underlying22 hsz _ _ _ _ _ _ (by rfl) (by rfl) w.heap.size 0 (us (List.replicate T 0)) 5 hrow (us l) Hmn.out (src_pos hs1.out) Hft.out (us_cell l) w.heap.size w hb1 (Nat.le_refl _) ?_; intro w2 hg2 hb2; have ho2 := copied hg2.out Hlt.out hml; have hc2 := copied_cell ho2 Hlt.out; have hf2 := World.ownsRow.frozenAt ho2 l.length; have hst2 := Lib.hid (World.ownsRow.stored ho2 l.length (.int .u8 128)); clear hg2 ho2))
  have ho3 : (w2.setCell ⟨w.heap.size, l.length, none⟩ (.int .u8 128)).ownsRow w.heap.size 5 1 (.slice (some ⟨w.heap.size, 0, none⟩) T T) T (us ((l ++ List.replicate (T - l.length) 0).set l.length 128)) := by
    have := hst2.out.1
    rw [show (Value.int .u8 128) = .int .u8 ((128 : UInt8).toNat : Int) from rfl, us_set] at this
    exact this
  have hg3 := hst2.out.2
  have hb3 : Below w.heap.size w (w2.setCell ⟨w.heap.size, l.length, none⟩ (.int .u8 128)) := hb2.setCell (Nat.le_refl _) _
  obtain ⟨e1, e2, e3⟩ := pad_parts l HT.out HT8.out
  rw [e1] at ho3
  clear hst2 hc2 hf2 hg3
  generalize w2.setCell ⟨w.heap.size, l.length, none⟩ (.int .u8 128) = w3 at ho3 hb3 ⊢
  refine (putBig_any w.heap.size T T T8 8 8 _ N w.heap.size w3 ho3 (by rw [← e1, List.length_set, List.length_append, List.length_replicate]; omega) hT8l (by decide) hNb (by omega)).mono ?_
  rintro e w4 ⟨rfl, ho4, hg4⟩
  have hb4 : Below w.heap.size w w4 := hb3.grown hg4 hb3.size (by simp)
  rw [e3 N HN.out] at ho4
  go_wp2
  go_ret
  exact ⟨_, rfl, by unfold Own; rw [HPL.out]; exact ho4, hb4⟩
end Go.Proofs.YtdoaikanaodefaaDoor

/- Arrays of words: a block that holds them, and the contract of ints. -/
namespace Go.Proofs.YtdoaikanaodefaaDoor
open Go.ChangeShapes Go.WideShapes Go.ChangeAt Go.RowKit

/-- The cells of a list of words. -/
def cw (ws : List Nat) : Array Value := (ws.map fun (x : Nat) => Value.int .u32 (x : Int)).toArray
theorem cw_size (ws : List Nat) : (cw ws).size = ws.length := by simp [cw]
theorem cw_get (ws : List Nat) (k : Nat) (h : k < ws.length) : (cw ws)[k]? = some (.int .u32 ((ws.getD k 0 : Nat) : Int)) := by
  simp [cw, List.getD_eq_getElem?_getD, h]
theorem cw_cell (ws : List Nat) : (cw ws).all (·.oneCell') = true := by
  rw [Array.all_eq_true_iff_forall_mem]
  intro v hv
  simp only [cw, List.mem_toArray, List.mem_map] at hv
  obtain ⟨i, _, rfl⟩ := hv
  rfl
theorem cw_set (ws : List Nat) (k x : Nat) : (cw ws).setIfInBounds k (.int .u32 (x : Int)) = cw (ws.set k x) := by
  simp [cw, List.map_set]
/-- Block g holds the words ws. -/
def Arr (t : TypeId) (w : World) (g : Nat) (ws : List Nat) : Prop := w.heap[g]? = some (.cells (cw ws) t (0, 0))
theorem Arr.lt {t : TypeId} {w : World} {g : Nat} {ws : List Nat} (h : Arr t w g ws) : g < w.heap.size := (Array.getElem?_eq_some_iff.1 h).1
theorem Arr.at {t : TypeId} {w : World} {g : Nat} {ws : List Nat} (h : Arr t w g ws) (k : Nat) (hk : k < ws.length) : w.cell? ⟨g, k, none⟩ = some (.int .u32 ((ws.getD k 0 : Nat) : Int)) := (cell_of_row w g k _ _ _ h).trans (cw_get ws k hk)
theorem Arr.free {t : TypeId} {w : World} {g : Nat} {ws : List Nat} (h : Arr t w g ws) (k : Nat) : w.frozen? ⟨g, k, none⟩ = false := by
  unfold Arr at h
  simp [World.frozen?, h]
theorem Arr.set {t : TypeId} {w : World} {g : Nat} {ws : List Nat} (h : Arr t w g ws) (k x : Nat) : Arr t (w.setCell ⟨g, k, none⟩ (.int .u32 (x : Int))) g (ws.set k x) := by
  unfold Arr
  rw [setCell_eq_setRow w g k _ _ _ _ h, ← cw_set ws k x]
  exact setRow_heap w g _ _ _ _ h
theorem Arr.beside {t : TypeId} {w : World} {g g' : Nat} {ws : List Nat} (h : Arr t w g ws) (k : Nat) (v : Value) (hne : g ≠ g') : Arr t (w.setCell ⟨g', k, none⟩ v) g ws := by
  unfold Arr
  rw [Below.heap_setCell _ _ _ _ hne]
  exact h
theorem Arr.drewN {t : TypeId} {w : World} {g : Nat} {ws : List Nat} (h : Arr t w g ws) (n : Nat) : Arr t (w.drewN n) g ws := h
theorem Arr.up {t : TypeId} {w w' : World} {g : Nat} {ws : List Nat} (h : Arr t w g ws) (hb : Below w.heap.size w w') : Arr t w' g ws := by
  unfold Arr
  rw [hb.block g h.lt]
  exact h
theorem Arr.below {t : TypeId} {w w' : World} {B g : Nat} {ws : List Nat} (h : Arr t w g ws) (hg : g < B) (hb : Below B w w') : Arr t w' g ws := by
  unfold Arr
  rw [hb.block g hg]
  exact h
theorem Arr.grown {t : TypeId} {w w' : World} {g : Nat} {ws : List Nat} {row : Option Nat} (h : Arr t w g ws) (hg : w.grownBy w' row) (hne : some g ≠ row) : Arr t w' g ws := by
  unfold Arr
  rw [hg.block g h.lt hne]
  exact h
theorem arr_new (t : TypeId) (w : World) (ws : List Nat) : Arr t (w.alloc (.cells (cw ws) t)) w.heap.size ws := by
  show (w.heap.push (.cells (cw ws) t))[w.heap.size]? = some (.cells (cw ws) t (0, 0))
  simp
theorem Arr.alloc {t : TypeId} {w : World} {g : Nat} {ws : List Nat} (h : Arr t w g ws) (o : Obj) : Arr t (w.alloc o) g ws := h.up ((Below.refl _ _).alloc (Nat.le_refl _) _)
theorem wDesc : Tryd.prog.underlying 105 = some (.array 8 103) := by kernel_rfl
theorem wSize {ws : List Nat} (h : ws.length = 8) : (Tryd.prog.info? 105).map (·.size) = some (cw ws).size := by
  rw [cw_size, h]
  kernel_rfl
theorem sDesc : Tryd.prog.underlying 129 = some (.array 64 103) := by kernel_rfl
theorem sSize {ws : List Nat} (h : ws.length = 64) : (Tryd.prog.info? 129).map (·.size) = some (cw ws).size := by
  rw [cw_size, h]
  kernel_rfl
/-- The variable of block g holds the words ws. -/
def Glob (w : World) (g : Nat) (ws : List Nat) : Prop := ∃ t fr, w.heap[g]? = some (.cells (cw ws) t fr)
theorem Glob.lt {w : World} {g : Nat} {ws : List Nat} (h : Glob w g ws) : g < w.heap.size := by
  obtain ⟨t, fr, h⟩ := h
  exact (Array.getElem?_eq_some_iff.1 h).1
theorem Glob.up {w w' : World} {g : Nat} {ws : List Nat} (h : Glob w g ws) (hb : Below w.heap.size w w') : Glob w' g ws := by
  have hl := h.lt
  obtain ⟨t, fr, h⟩ := h
  exact ⟨t, fr, by rw [hb.block g hl]; exact h⟩
theorem Glob.below {w w' : World} {B g : Nat} {ws : List Nat} (h : Glob w g ws) (hg : g < B) (hb : Below B w w') : Glob w' g ws := by
  obtain ⟨t, fr, h⟩ := h
  exact ⟨t, fr, by rw [hb.block g hg]; exact h⟩
theorem Glob.at {w : World} {g : Nat} {ws : List Nat} (h : Glob w g ws) (k : Nat) (hk : k < ws.length) : w.cell? ⟨g, k, none⟩ = some (.int .u32 ((ws.getD k 0 : Nat) : Int)) := by
  obtain ⟨t, fr, h⟩ := h
  exact (cell_of_row w g k _ _ _ h).trans (cw_get ws k hk)
theorem glob_of_tab {w : World} {name : String} {g : Nat} {ws : List Nat} (hn : Tryd.prog.globalNamed name = some g) (h : Lib.TabIs Tryd.prog w name .u32 (wi ws)) : Glob w g ws := by
  unfold Lib.TabIs World.var? at h
  rw [hn] at h
  simp only [Option.bind_some] at h
  have e : ((wi ws).map fun z => Value.int .u32 z).toArray = cw ws := by simp [cw, wi]
  rw [e] at h
  split at h
  · rename_i cs t fr he
    exact ⟨t, fr, by rw [he, Option.some.inj h]⟩
  · simp at h

theorem u32info : (Tryd.prog.info? 103).map (fun i => (i.zero, i.size, i.bytes)) = some (some (.int .u32 0), 1, 4) := by kernel_rfl
/-- An element of an array by value. -/
theorem run_idx {t : TypeId} {n : Nat} (hd : Tryd.prog.underlying t = some (.array n 103)) (ws : List Nat) (k x : Nat) (hk : k < n) (h : (cw ws)[k]? = some (.int .u32 (x : Int))) (w : World) :
    (Instr.index t (.agg (cw ws)) (.int .i64 (k : Int))).run Tryd.prog w = .ok (.int .u32 (x : Int)) w := by
  have hn : (0 : Int) ≤ k ∧ (k : Int) < (n : Int) := by omega
  obtain ⟨i0, hi, hz0, hz1, hz2⟩ := info_parts u32info
  have hcell : Tryd.prog.cellsOf 103 = 1 := by kernel_rfl
  simp [Instr.index, run_underlying hd, asIntOf, hn, hk, go_sem, run_sizeOf w hi, hcell, isAgg, run_underlying Tryd.underlying103, h]
theorem ints_zero {E : TypeId} {w : World} {B g T : Nat} (h : w.ownsRow B E 1 (.slice (some ⟨g, 0, none⟩) T T) T (madeCells (Value.int .i64 0).cells (T * 1)).toList) (l : List Int) (hl : l.length = T) :
    w.ownsRow B E 1 (.slice (some ⟨g, 0, none⟩) T T) T (is (TBI l 0)) := by
  have e : (madeCells (Value.int .i64 0).cells (T * 1)).toList = is (TBI l 0) := by
    rw [TBI_zero, hl, Nat.mul_one]
    exact toList_madeCells_one _ _
  rw [← e]
  exact h
end Go.Proofs.YtdoaikanaodefaaDoor
