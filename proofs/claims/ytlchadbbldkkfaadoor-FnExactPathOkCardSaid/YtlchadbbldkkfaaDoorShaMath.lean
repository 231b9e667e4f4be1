/- The hash as a function on natural numbers: rotations, the message schedule, the rounds, the padding. No program is named here. -/
import Derived.Test.YtlchadbbldkkfaaDoorInts
import Derived.Test.YtlchadbbldkkfaaDoorCrcMath
import Derived.Laws.BitsAllLaws
import Derived.Laws.Wrap64
namespace Go.Proofs.YtlchadbbldkkfaaDoor
open Go.RowKit

/-! The machine's words. -/
theorem ofInt_wrap (z : Int) : BitVec.ofInt 64 (wrap64 z) = BitVec.ofInt 64 z := by
  apply BitVec.eq_of_toNat_eq
  rw [BitVec.toNat_ofInt, BitVec.toNat_ofInt]
  unfold wrap64
  omega
theorem toNat_ofInt_nat (a : Nat) : (BitVec.ofInt 64 (a : Int)).toNat = a % 18446744073709551616 := by
  rw [BitVec.toNat_ofInt]
  omega
theorem wrapI (z : Int) : IntKind.i64.wrap z = wrap64 z := by
  rw [IntKind.wrap_i64]
  unfold wrap64
  omega
theorem wrap64_small (z : Int) (h0 : -9223372036854775808 ≤ z) (h1 : z < 9223372036854775808) : wrap64 z = z := by
  unfold wrap64
  omega
/-- The low 32 bits of an OR: what stands above them is cut away. -/
theorem or_low (a b : Nat) : bits .and .i64 (bits .or .i64 (a : Int) (wrap64 (b : Int))) 4294967295 = (((a ||| b) % 4294967296 : Nat) : Int) := by
  show IntKind.i64.wrap ((BitVec.ofInt 64 (IntKind.i64.wrap ((BitVec.ofInt 64 (a : Int) ||| BitVec.ofInt 64 (wrap64 (b : Int))).toNat : Int)) &&& BitVec.ofInt 64 ((4294967295 : Nat) : Int)).toNat : Int) = _
  rw [wrapI, wrapI, ofInt_wrap, ofInt_wrap, BitVec.toNat_and, toNat_ofInt_nat, toNat_ofInt_nat, BitVec.toNat_or, toNat_ofInt_nat, toNat_ofInt_nat]
  have e : (((a % 18446744073709551616 ||| b % 18446744073709551616) % 18446744073709551616) &&& (4294967295 % 18446744073709551616)) = (a ||| b) % 4294967296 := by
    have h1 : (4294967295 % 18446744073709551616) = 2 ^ 32 - 1 := by decide
    rw [h1, Nat.and_two_pow_sub_one_eq_mod, show (4294967296 : Nat) = 2 ^ 32 from rfl, Nat.mod_mod_of_dvd _ (by decide : 2 ^ 32 ∣ 18446744073709551616), Nat.or_mod_two_pow, Nat.or_mod_two_pow,
      Nat.mod_mod_of_dvd _ (by decide : 2 ^ 32 ∣ 18446744073709551616), Nat.mod_mod_of_dvd _ (by decide : 2 ^ 32 ∣ 18446744073709551616)]
  rw [e, wrap64_small _ (by omega) (by omega)]
theorem i64_and (a b : Nat) (ha : a < 9223372036854775808) : bits .and .i64 (a : Int) (b : Int) = ((a &&& b : Nat) : Int) := by
  have hl : a &&& b ≤ a := Nat.and_le_left
  show IntKind.i64.wrap ((BitVec.ofInt 64 (a : Int) &&& BitVec.ofInt 64 (b : Int)).toNat : Int) = _
  rw [wrapI, BitVec.toNat_and, toNat_ofInt_nat, toNat_ofInt_nat]
  have e : a % 18446744073709551616 &&& b % 18446744073709551616 = a &&& b := by
    rw [show (18446744073709551616 : Nat) = 2 ^ 64 from rfl, ← Nat.and_mod_two_pow]
    exact Nat.mod_eq_of_lt (by omega)
  rw [e, wrap64_small _ (by omega) (by omega)]
theorem i64_or (a b : Nat) (ha : a < 9223372036854775808) (hb : b < 9223372036854775808) : bits .or .i64 (a : Int) (b : Int) = ((a ||| b : Nat) : Int) := by
  have hx : a ||| b < 2 ^ 63 := Nat.or_lt_two_pow (by omega) (by omega)
  show IntKind.i64.wrap ((BitVec.ofInt 64 (a : Int) ||| BitVec.ofInt 64 (b : Int)).toNat : Int) = _
  rw [wrapI, BitVec.toNat_or, toNat_ofInt_nat, toNat_ofInt_nat, Nat.mod_eq_of_lt (by omega), Nat.mod_eq_of_lt (by omega), wrap64_small _ (by omega) (by omega)]
/-- The low 32 bits of a number. -/
theorem i64_low (a : Nat) : bits .and .i64 (a : Int) 4294967295 = ((a % 4294967296 : Nat) : Int) := by
  show IntKind.i64.wrap ((BitVec.ofInt 64 (a : Int) &&& BitVec.ofInt 64 ((4294967295 : Nat) : Int)).toNat : Int) = _
  rw [wrapI, BitVec.toNat_and, toNat_ofInt_nat, toNat_ofInt_nat]
  have e : a % 18446744073709551616 &&& (4294967295 % 18446744073709551616) = a % 4294967296 := by
    have h1 : (4294967295 % 18446744073709551616) = 2 ^ 32 - 1 := by decide
    rw [h1, Nat.and_two_pow_sub_one_eq_mod, Nat.mod_mod_of_dvd _ (by decide : 2 ^ 32 ∣ 18446744073709551616)]
  rw [e, wrap64_small _ (by omega) (by omega)]

/-! Rotations and what is made of them. -/
def turnR (x n : Nat) : Nat := (x / 2 ^ n ||| x * 2 ^ (32 - n)) % 4294967296
theorem turnR_lt (x n : Nat) : turnR x n < 4294967296 := Nat.mod_lt _ (by decide)
theorem turn_bits (x n : Nat) : bits .and .i64 (bits .or .i64 ((x : Int) / 2 ^ n) (wrap64 ((x : Int) * 2 ^ (32 - n)))) 4294967295 = (turnR x n : Int) := by
  have := or_low (x / 2 ^ n) (x * 2 ^ (32 - n))
  simpa [turnR] using this

def sg0 (x : Nat) : Nat := turnR x 7 ^^^ turnR x 18 ^^^ x / 8
def sg1 (x : Nat) : Nat := turnR x 17 ^^^ turnR x 19 ^^^ x / 1024
def bg0 (x : Nat) : Nat := turnR x 2 ^^^ turnR x 13 ^^^ turnR x 22
def bg1 (x : Nat) : Nat := turnR x 6 ^^^ turnR x 11 ^^^ turnR x 25
def chN (e f g : Nat) : Nat := (e &&& f) ^^^ ((4294967295 ^^^ e) &&& g)
def majN (a b c : Nat) : Nat := (a &&& b) ^^^ (a &&& c) ^^^ (b &&& c)
theorem and_lt {a b : Nat} (h : a < 4294967296) : a &&& b < 4294967296 := Nat.lt_of_le_of_lt Nat.and_le_left h
theorem sg0_lt {x : Nat} (h : x < 4294967296) : sg0 x < 4294967296 := xor_lt (xor_lt (turnR_lt _ _) (turnR_lt _ _)) (by omega)
theorem sg1_lt {x : Nat} (h : x < 4294967296) : sg1 x < 4294967296 := xor_lt (xor_lt (turnR_lt _ _) (turnR_lt _ _)) (by omega)
theorem bg0_lt (x : Nat) : bg0 x < 4294967296 := xor_lt (xor_lt (turnR_lt _ _) (turnR_lt _ _)) (turnR_lt _ _)
theorem bg1_lt (x : Nat) : bg1 x < 4294967296 := xor_lt (xor_lt (turnR_lt _ _) (turnR_lt _ _)) (turnR_lt _ _)
theorem chN_lt {e f g : Nat} (he : e < 4294967296) : chN e f g < 4294967296 := xor_lt (and_lt he) (and_lt (xor_lt (by decide) he))
theorem majN_lt {a b c : Nat} (ha : a < 4294967296) (hb : b < 4294967296) : majN a b c < 4294967296 := xor_lt (xor_lt (and_lt ha) (and_lt ha)) (and_lt hb)

/-! The message schedule. -/
/-- The number of byte k. -/
def by8 (l : List UInt8) (k : Nat) : Nat := (l.getD k 0).toNat
theorem by8_lt (l : List UInt8) (k : Nat) : by8 l k < 256 := (l.getD k 0).toNat_lt
theorem bt_by8 (l : List UInt8) (k : Nat) : bt l k = (by8 l k : Int) := rfl
/-- Word j of a block: four bytes, the most significant first. -/
def wordAt (l : List UInt8) (j : Nat) : Nat := by8 l (4 * j) * 16777216 + by8 l (4 * j + 1) * 65536 + by8 l (4 * j + 2) * 256 + by8 l (4 * j + 3)
theorem wordAt_lt (l : List UInt8) (j : Nat) : wordAt l j < 4294967296 := by
  have h0 := by8_lt l (4 * j)
  have h1 := by8_lt l (4 * j + 1)
  have h2 := by8_lt l (4 * j + 2)
  have h3 := by8_lt l (4 * j + 3)
  unfold wordAt
  omega
/-- The next word behind the words w, n behind the sixteenth. -/
def nextW (w : List Nat) (n : Nat) : Nat := (w.getD n 0 + sg0 (w.getD (n + 1) 0) + w.getD (n + 9) 0 + sg1 (w.getD (n + 14) 0)) % 4294967296
theorem nextW_lt (w : List Nat) (n : Nat) : nextW w n < 4294967296 := Nat.mod_lt _ (by decide)
/-- The first j words of a block. -/
def firstW (l : List UInt8) (j : Nat) : List Nat := (List.range j).map (wordAt l)
theorem firstW_length (l : List UInt8) (j : Nat) : (firstW l j).length = j := by simp [firstW]
theorem firstW_succ (l : List UInt8) (j : Nat) : firstW l (j + 1) = firstW l j ++ [wordAt l j] := by simp [firstW, List.range_succ]
/-- The schedule with n words behind the sixteenth. -/
def sched (l : List UInt8) : Nat → List Nat
  | 0 => firstW l 16
  | n + 1 => sched l n ++ [nextW (sched l n) n]
theorem sched_length (l : List UInt8) (n : Nat) : (sched l n).length = 16 + n := by
  induction n with
  | zero => simp [sched, firstW_length]
  | succ n ih => simp [sched, ih]; omega
/-- All are words. -/
def Words (w : List Nat) : Prop := ∀ x ∈ w, x < 4294967296
theorem Words.at_ {w : List Nat} (h : Words w) (k : Nat) : w.getD k 0 < 4294967296 := by
  rw [List.getD_eq_getElem?_getD]
  rcases Nat.lt_or_ge k w.length with hk | hk
  · rw [List.getElem?_eq_getElem hk]
    exact h _ (List.getElem_mem hk)
  · rw [List.getElem?_eq_none hk]
    decide
theorem Words.app {w v : List Nat} (h : Words w) (h' : Words v) : Words (w ++ v) := by
  intro x hx
  rcases List.mem_append.1 hx with hx | hx
  · exact h x hx
  · exact h' x hx
theorem Words.one {x : Nat} (h : x < 4294967296) : Words [x] := by
  intro y hy
  rw [List.mem_singleton.1 hy]
  exact h
theorem firstW_words (l : List UInt8) (j : Nat) : Words (firstW l j) := by
  intro x hx
  simp only [firstW, List.mem_map] at hx
  obtain ⟨k, _, rfl⟩ := hx
  exact wordAt_lt l k
theorem sched_words (l : List UInt8) (n : Nat) : Words (sched l n) := by
  induction n with
  | zero => exact firstW_words l 16
  | succ n ih => exact ih.app (Words.one (nextW_lt _ _))

/-! The rounds. -/
structure St where
  a : Nat
  b : Nat
  c : Nat
  d : Nat
  e : Nat
  f : Nat
  g : Nat
  h : Nat
def St.list (s : St) : List Nat := [s.a, s.b, s.c, s.d, s.e, s.f, s.g, s.h]
def St.of (l : List Nat) : St := ⟨l.getD 0 0, l.getD 1 0, l.getD 2 0, l.getD 3 0, l.getD 4 0, l.getD 5 0, l.getD 6 0, l.getD 7 0⟩
theorem St.of_list {l : List Nat} (h : l.length = 8) : (St.of l).list = l := by
  match l, h with
  | [a, b, c, d, e, f, g, i], _ => rfl
def tOf (s : St) (k w : Nat) : Nat := s.h + bg1 s.e + chN s.e s.f s.g + k + w
def uOf (s : St) : Nat := bg0 s.a + majN s.a s.b s.c
def St.step (s : St) (k w : Nat) : St := ⟨(tOf s k w + uOf s) % 4294967296, s.a, s.b, s.c, (s.d + tOf s k w) % 4294967296, s.e, s.f, s.g⟩
def St.Ok (s : St) : Prop := s.a < 4294967296 ∧ s.b < 4294967296 ∧ s.c < 4294967296 ∧ s.d < 4294967296 ∧ s.e < 4294967296 ∧ s.f < 4294967296 ∧ s.g < 4294967296 ∧ s.h < 4294967296
theorem St.of_ok {l : List Nat} (h : Words l) : (St.of l).Ok := ⟨h.at_ 0, h.at_ 1, h.at_ 2, h.at_ 3, h.at_ 4, h.at_ 5, h.at_ 6, h.at_ 7⟩
theorem St.step_ok {s : St} (h : s.Ok) (k w : Nat) : (s.step k w).Ok := ⟨Nat.mod_lt _ (by decide), h.1, h.2.1, h.2.2.1, Nat.mod_lt _ (by decide), h.2.2.2.2.1, h.2.2.2.2.2.1, h.2.2.2.2.2.2.1⟩
/-- The round constants. -/
def kk : List Nat := [1116352408, 1899447441, 3049323471, 3921009573, 961987163, 1508970993, 2453635748, 2870763221, 3624381080, 310598401, 607225278, 1426881987, 1925078388, 2162078206, 2614888103, 3248222580, 3835390401, 4022224774, 264347078, 604807628, 770255983, 1249150122, 1555081692, 1996064986, 2554220882, 2821834349, 2952996808, 3210313671, 3336571891, 3584528711, 113926993, 338241895, 666307205, 773529912, 1294757372, 1396182291, 1695183700, 1986661051, 2177026350, 2456956037, 2730485921, 2820302411, 3259730800, 3345764771, 3516065817, 3600352804, 4094571909, 275423344, 430227734, 506948616, 659060556, 883997877, 958139571, 1322822218, 1537002063, 1747873779, 1955562222, 2024104815, 2227730452, 2361852424, 2428436474, 2756734187, 3204031479, 3329325298]
theorem kk_length : kk.length = 64 := rfl
theorem kk_words : Words kk := by
  have h : kk.all (fun x => decide (x < 4294967296)) = true := by decide
  intro x hx
  simpa using List.all_eq_true.1 h x hx
/-- n rounds. -/
def rounds (w : List Nat) (s : St) : Nat → St
  | 0 => s
  | n + 1 => (rounds w s n).step (kk.getD n 0) (w.getD n 0)
theorem rounds_ok (w : List Nat) {s : St} (h : s.Ok) (n : Nat) : (rounds w s n).Ok := by
  induction n with
  | zero => exact h
  | succ n ih => exact St.step_ok ih _ _
/-- The words h behind the block b. -/
def blockW (h : List Nat) (b : List UInt8) : List Nat := List.zipWith (fun x y => (x + y) % 4294967296) h (rounds (sched b 48) (St.of h) 64).list
theorem blockW_length {h : List Nat} (b : List UInt8) (hl : h.length = 8) : (blockW h b).length = 8 := by simp [blockW, hl, St.list]
theorem blockW_words (h : List Nat) (b : List UInt8) : Words (blockW h b) := by
  intro x hx
  unfold blockW at hx
  obtain ⟨k, hk, rfl⟩ := List.mem_iff_getElem.1 hx
  rw [List.getElem_zipWith]
  exact Nat.mod_lt _ (by decide)

/-! Ints and words. -/
def wi (l : List Nat) : List Int := l.map fun (x : Nat) => (x : Int)
theorem wi_length (l : List Nat) : (wi l).length = l.length := by simp [wi]
theorem wi_app (l m : List Nat) : wi (l ++ m) = wi l ++ wi m := by simp [wi]
theorem it_wi (l : List Nat) (k : Nat) : it (wi l) k = (l.getD k 0 : Int) := by
  unfold it wi
  rw [List.getD_eq_getElem?_getD, List.getD_eq_getElem?_getD, List.getElem?_map]
  cases l[k]? <;> simp
/-- h is eight words. -/
def hOk (h : List Int) : Prop := h.length = 8 ∧ ∀ x ∈ h, 0 ≤ x ∧ x ≤ 4294967295
instance (h : List Int) : Decidable (hOk h) := inferInstanceAs (Decidable (_ ∧ _))
/-- What ShaBlock answers. -/
def shaBlockL (h : List Int) (b : List UInt8) : List Int := if hOk h ∧ b.length = 64 then wi (blockW (h.map Int.toNat) b) else []
theorem wi_toNat {h : List Int} (ho : hOk h) : wi (h.map Int.toNat) = h ∧ Words (h.map Int.toNat) := by
  constructor
  · unfold wi
    rw [List.map_map]
    conv => rhs; rw [← List.map_id h]
    apply List.map_congr_left
    intro x hx
    have := (ho.2 x hx).1
    simp [Int.toNat_of_nonneg this]
  · intro y hy
    obtain ⟨x, hx, rfl⟩ := List.mem_map.1 hy
    have := ho.2 x hx
    omega

/-! The padding. -/
/-- So many zero bytes. -/
def zerosOf (n : Nat) : Nat := (119 - n % 64) % 64
/-- The eight bytes of a number. -/
def eight (n : Nat) : List UInt8 := (List.range 8).map fun i => UInt8.ofNat (n / 256 ^ (7 - i) % 256)
def padL (b : List UInt8) : List UInt8 := b ++ [128] ++ List.replicate (zerosOf b.length) 0 ++ eight (8 * b.length)
theorem padL_length (b : List UInt8) : (padL b).length = b.length + 9 + zerosOf b.length := by simp [padL, eight]; omega
theorem padL_mod (b : List UInt8) : (padL b).length % 64 = 0 := by
  rw [padL_length]
  unfold zerosOf
  omega

/-! The hash. -/
def initW : List Nat := [1779033703, 3144134277, 1013904242, 2773480762, 1359893119, 2600822924, 528734635, 1541459225]
/-- The words behind the first n blocks of p. -/
def blocksW (p : List UInt8) : Nat → List Nat
  | 0 => initW
  | n + 1 => blockW (blocksW p n) ((p.drop (64 * n)).take 64)
theorem initW_words : Words initW := by
  have h : initW.all (fun x => decide (x < 4294967296)) = true := by decide
  intro x hx
  simpa using List.all_eq_true.1 h x hx
theorem blocksW_length (p : List UInt8) (n : Nat) : (blocksW p n).length = 8 := by
  induction n with
  | zero => rfl
  | succ n ih => exact blockW_length _ ih
theorem blocksW_words (p : List UInt8) (n : Nat) : Words (blocksW p n) := by
  cases n with
  | zero => exact initW_words
  | succ n => exact blockW_words _ _
/-- The four bytes of a word. -/
def four (x : Nat) : List UInt8 := [UInt8.ofNat (x / 16777216 % 256), UInt8.ofNat (x / 65536 % 256), UInt8.ofNat (x / 256 % 256), UInt8.ofNat (x % 256)]
def fours (l : List Nat) : List UInt8 := l.flatMap four
theorem fours_length (l : List Nat) : (fours l).length = 4 * l.length := by
  induction l with
  | nil => rfl
  | cons x l ih => simp [fours, four] at ih ⊢; omega
def shaL (b : List UInt8) : List UInt8 := fours (blocksW (padL b) ((padL b).length / 64))
theorem shaL_length (b : List UInt8) : (shaL b).length = 32 := by
  unfold shaL
  rw [fours_length, blocksW_length]
end Go.Proofs.YtlchadbbldkkfaaDoor
