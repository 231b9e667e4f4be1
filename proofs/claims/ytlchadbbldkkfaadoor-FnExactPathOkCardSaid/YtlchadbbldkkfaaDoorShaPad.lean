/- The contract of ShaPad, as its model has it. -/
import Derived.Test.YtlchadbbldkkfaaDoorSha
namespace Go.Proofs.YtlchadbbldkkfaaDoor
open Go.ChangeShapes Go.WideShapes Go.ChangeAt Go.RowKit

/-- What has been filled up after j zero bytes. -/
def padZ (l : List UInt8) (j : Nat) : List UInt8 := l ++ [128] ++ List.replicate j 0
theorem padZ_length (l : List UInt8) (j : Nat) : (padZ l j).length = l.length + 1 + j := by simp [padZ]; omega
theorem padZ_succ (l : List UInt8) (j : Nat) : padZ l (j + 1) = padZ l j ++ [0] := by simp [padZ, List.replicate_succ']
theorem pad_more {n j : Nat} (h : j < zerosOf n) : ((((n + 1 + j : Nat) : Int) % 64) != 56) = true := by
  unfold zerosOf at h
  have : (((n + 1 + j : Nat) : Int) % 64) ≠ 56 := by omega
  simpa using this
theorem pad_done (n : Nat) : ((((n + 1 + zerosOf n : Nat) : Int) % 64) != 56) = false := by
  unfold zerosOf
  have : (((n + 1 + (119 - n % 64) % 64 : Nat) : Int) % 64) = 56 := by omega
  simpa using this
theorem eight_length (n : Nat) : (eight n).length = 8 := by simp [eight]
theorem eight_take (n j : Nat) (h : j < 8) : (eight n).take (j + 1) = (eight n).take j ++ [UInt8.ofNat (n / 256 ^ (7 - j) % 256)] := by
  rw [List.take_add_one, List.getElem?_eq_getElem (by rw [eight_length]; exact h)]
  simp [eight]

theorem byte_of (N q : Nat) : (N : Int) / 2 ^ (8 * q) % 256 = ((UInt8.ofNat (N / 256 ^ q % 256)).toNat : Int) := by
  have e : (256 : Nat) ^ q = 2 ^ (8 * q) := by rw [Nat.pow_mul]
  rw [e]
  simp
/-- How many elements a slice has. -/
def slLen : Value → Nat
  | .slice _ n _ => n
  | _ => 0
theorem slLen_own {E : TypeId} {w : World} {B : Nat} {v : Value} {l : List UInt8} (h : Own E w B v l) : slLen v = l.length := by
  obtain ⟨A, c, rfl, _⟩ := h.sl
  rfl
set_option maxRecDepth 100000 in
set_option maxHeartbeats 1000000 in
theorem specShaPad_any (v : Value) (l : List UInt8) (w : World) (h : Sl w w.heap.size v l) (hl : l.length ≤ 4294967296) :
    Calls Tryd.prog 89 #[v] w (Fresh w (padL l)) := by
  obtain ⟨i0, hi, hz0, hz1, hz2⟩ := info_parts u8info
  have hs := h
  obtain ⟨A, c, rfl, h1, h2, h0, h3⟩ := h
  unfold maxLen at h2
  clear h0 h3
  go_enter Tryd.func89, Tryd.ntmps89
  go_wp2_with (first
    | (go_at_call 58; refine (l01Copy_any _ l _ hs hl).mono ?_; rintro e w1 ⟨v1, rfl, hown1, hb1⟩)
    | (at_builtin; refine wpList_app1 (W := w) rfl _ _ 22 rfl 5 i0 Tryd.underlying22 hi hz0 hz1 hz2 _ l (by rfl) _ 128 (Lib.hid rfl) rfl hown1 hb1 (by omega) ?_; intro v2 w2 hown2 hb2))
  have hz : zerosOf l.length ≤ 63 := by unfold zerosOf; omega
  go_loopw [3] (fun s wr => ∃ j : Nat, j ≤ zerosOf l.length ∧ slLen s = l.length + 1 + j ∧ Own 5 wr w.heap.size s (padZ l j) ∧ Below w.heap.size w wr)
    (fun s _ => l.length + 1 + zerosOf l.length - slLen s)
  case atStart => exact ⟨0, Nat.zero_le _, by rw [slLen_own hown2]; simp, by simpa [padZ] using hown2, hb2⟩
  case round =>
    obtain ⟨j, hj, hsl, hown, hbel⟩ := hrel
    obtain ⟨A3, c3, rfl, k1, k2, k0, k3⟩ := hown.sl
    unfold maxLen at k2
    have hpl := padZ_length l j
    rw [hpl] at k1 hsl hown ⊢
    clear k0 k3 hsl
    by_cases hlt : j < zerosOf l.length
    · have hm := pad_more hlt
      have hlj : (padZ l j).length ≤ 4294967360 := by omega
      go_wp2_with (at_builtin; refine wpList_app1 (W := w) rfl _ _ 22 rfl 5 i0 Tryd.underlying22 hi hz0 hz1 hz2 _ (padZ l j) (by rfl) _ 0 (Lib.hid rfl) rfl hown hbel (by omega) ?_; intro v4 w4 hown4 hb4)
      rw [← padZ_succ] at hown4
      have hs4 := slLen_own hown4
      rw [padZ_length] at hs4
      go_roundw
      case rel => exact ⟨j + 1, by omega, hs4, hown4, hb4⟩
      case measure => rw [hs4]; simp [slLen]; omega
    · obtain rfl : j = zerosOf l.length := by omega
      have hm := pad_done l.length
      have hp : padZ l (zerosOf l.length) ++ (eight (8 * l.length)).take 8 = padL l := by
        rw [List.take_of_length_le (Nat.le_of_eq (eight_length _))]
        simp [padL, padZ]
      have Hp := Lib.hid hp
      clear hp
      go_wp2
      have hN : (8 * (l.length : Int)) = ((8 * l.length : Nat) : Int) := by omega
      have hN' : 8 * l.length ≤ 34359738368 := by omega
      rw [hN]
      clear hN
      clear hm
      generalize (((l.length : Int) + 1 + (zerosOf l.length : Int)) % 64 != 56) = b13
      generalize 8 * l.length = N at Hp hN'
      have hbl : (padZ l (zerosOf l.length)).length ≤ 4294967360 := by omega
      generalize padZ l (zerosOf l.length) = base at Hp hown hbl
      go_loopw [3, 5] (fun s i wr => ∃ j : Nat, j ≤ 8 ∧ i = .int .i64 (7 - (j : Int)) ∧ Own 5 wr w.heap.size s (base ++ (eight N).take j) ∧ Below w.heap.size w wr)
        (fun _ i _ => (intOf i + 1).toNat)
      case atStart => exact ⟨0, Nat.zero_le _, rfl, by rw [List.take_zero, List.append_nil]; exact hown, hbel⟩
      case round =>
        obtain ⟨j, hj, rfl, hown, hbel⟩ := hrel
        by_cases hlt8 : j < 8
        · have hq : (7 : Int) - (j : Int) = ((7 - j : Nat) : Int) := by omega
          have htk := eight_take N j hlt8
          have hbj : (base ++ (eight N).take j).length ≤ 4294967368 := by simp; omega
          have hq7 : 7 - j ≤ 7 := by omega
          rw [hq]
          generalize 7 - j = q at hq htk hq7
          have Hq := Lib.hid hq
          clear hq
          have hby := Lib.hid (byte_of N q)
          go_wp2_with (at_builtin; refine wpList_app1 (W := w) rfl _ _ 22 rfl 5 i0 Tryd.underlying22 hi hz0 hz1 hz2 _ (base ++ (eight N).take j) (by rfl) _ (UInt8.ofNat (N / 256 ^ q % 256)) hby rfl hown hbel (by omega) ?_; intro v4 w4 hown4 hb4)
          rw [List.append_assoc, ← htk] at hown4
          go_roundw
          case rel => exact ⟨j + 1, by omega, by have := Hq.out; congr 1; omega, hown4, hb4⟩
          case measure => simp [intOf]
        · obtain rfl : j = 8 := by omega
          go_wp2
          go_ret
          exact ⟨_, rfl, by rw [← Hp.out]; exact hown, hbel⟩
end Go.Proofs.YtlchadbbldkkfaaDoor
