/- The contracts of the functions on words: shaSmall0, shaSmall1, shaBig0, shaBig1, shaChoice, shaMajority, getBigWord. -/
import Derived.Test.YtlchadbbldkkfaaDoorWords
import Derived.BigQuiet
import Derived.BigRegion
import Derived.RegionTactic
namespace Go.Proofs.YtlchadbbldkkfaaDoor
open Go.ChangeShapes Go.WideShapes Go.ChangeAt Go.RowKit

theorem xor_u32 {a b : Nat} (ha : a < 4294967296) (hb : b < 4294967296) : bits .xor .u32 (a : Int) (b : Int) = ((a ^^^ b : Nat) : Int) := u32_xor_nat a b ha hb
/-- What two XORs in a row give, behind names. -/
theorem xor3 {P Q R : Nat} (hP : P < 4294967296) (hQ : Q < 4294967296) (hR : R < 4294967296) :
    ∃ p q r s t : Nat, Hid (P = p ∧ Q = q ∧ R = r ∧ P ^^^ Q ^^^ R = t) ∧ bits .xor .u32 (p : Int) (q : Int) = (s : Int) ∧ bits .xor .u32 (s : Int) (r : Int) = (t : Int) :=
  ⟨P, Q, R, _, _, Lib.hid ⟨rfl, rfl, rfl, rfl⟩, xor_u32 hP hQ, xor_u32 (xor_lt hP hQ) hR⟩
set_option maxHeartbeats 1000000 in
theorem shaSmall0_any (x : Nat) (w : World) (hx : x < 4294967296) :
    Calls Tryd.prog 93 #[.int .u32 (x : Int)] w (Same (.int .u32 (sg0 x : Int)) w) := by
  obtain ⟨p, q, r, s, t, H, e1, e2⟩ := xor3 (turnR_lt x 7) (turnR_lt x 18) (show x / 8 < 4294967296 by omega)
  have e : (x : Int) / 8 = (r : Int) := by have := H.out.2.2.1; omega
  rw [show sg0 x = t from H.out.2.2.2]
  go_enter Tryd.func93, Tryd.ntmps93
  go_wp2_with fail
  refine (rotr_any x 7 _ hx (by decide)).mono ?_
  rw [H.out.1]
  rintro e _ ⟨rfl, rfl⟩
  go_wp2_with fail
  refine (rotr_any x 18 _ hx (by decide)).mono ?_
  rw [H.out.2.1]
  rintro e _ ⟨rfl, rfl⟩
  go_wp2
  go_ret
  exact ⟨rfl, rfl⟩
set_option maxHeartbeats 1000000 in
theorem shaSmall1_any (x : Nat) (w : World) (hx : x < 4294967296) :
    Calls Tryd.prog 94 #[.int .u32 (x : Int)] w (Same (.int .u32 (sg1 x : Int)) w) := by
  obtain ⟨p, q, r, s, t, H, e1, e2⟩ := xor3 (turnR_lt x 17) (turnR_lt x 19) (show x / 1024 < 4294967296 by omega)
  have e : (x : Int) / 1024 = (r : Int) := by have := H.out.2.2.1; omega
  rw [show sg1 x = t from H.out.2.2.2]
  go_enter Tryd.func94, Tryd.ntmps94
  go_wp2_with fail
  refine (rotr_any x 17 _ hx (by decide)).mono ?_
  rw [H.out.1]
  rintro e _ ⟨rfl, rfl⟩
  go_wp2_with fail
  refine (rotr_any x 19 _ hx (by decide)).mono ?_
  rw [H.out.2.1]
  rintro e _ ⟨rfl, rfl⟩
  go_wp2
  go_ret
  exact ⟨rfl, rfl⟩
set_option maxHeartbeats 1000000 in
theorem shaBig0_any (x : Nat) (w : World) (hx : x < 4294967296) :
    Calls Tryd.prog 97 #[.int .u32 (x : Int)] w (Same (.int .u32 (bg0 x : Int)) w) := by
  obtain ⟨p, q, r, s, t, H, e1, e2⟩ := xor3 (turnR_lt x 2) (turnR_lt x 13) (turnR_lt x 22)
  rw [show bg0 x = t from H.out.2.2.2]
  go_enter Tryd.func97, Tryd.ntmps97
  go_wp2_with fail
  refine (rotr_any x 2 _ hx (by decide)).mono ?_
  rw [H.out.1]
  rintro e _ ⟨rfl, rfl⟩
  go_wp2_with fail
  refine (rotr_any x 13 _ hx (by decide)).mono ?_
  rw [H.out.2.1]
  rintro e _ ⟨rfl, rfl⟩
  go_wp2_with fail
  refine (rotr_any x 22 _ hx (by decide)).mono ?_
  rw [H.out.2.2.1]
  rintro e _ ⟨rfl, rfl⟩
  go_wp2
  go_ret
  exact ⟨rfl, rfl⟩
set_option maxHeartbeats 1000000 in
theorem shaBig1_any (x : Nat) (w : World) (hx : x < 4294967296) :
    Calls Tryd.prog 95 #[.int .u32 (x : Int)] w (Same (.int .u32 (bg1 x : Int)) w) := by
  obtain ⟨p, q, r, s, t, H, e1, e2⟩ := xor3 (turnR_lt x 6) (turnR_lt x 11) (turnR_lt x 25)
  rw [show bg1 x = t from H.out.2.2.2]
  go_enter Tryd.func95, Tryd.ntmps95
  go_wp2_with fail
  refine (rotr_any x 6 _ hx (by decide)).mono ?_
  rw [H.out.1]
  rintro e _ ⟨rfl, rfl⟩
  go_wp2_with fail
  refine (rotr_any x 11 _ hx (by decide)).mono ?_
  rw [H.out.2.1]
  rintro e _ ⟨rfl, rfl⟩
  go_wp2_with fail
  refine (rotr_any x 25 _ hx (by decide)).mono ?_
  rw [H.out.2.2.1]
  rintro e _ ⟨rfl, rfl⟩
  go_wp2
  go_ret
  exact ⟨rfl, rfl⟩
theorem ch_nat (e f g : Nat) : (e &&& f) ||| ((4294967295 ^^^ e) &&& g) = chN e f g ∨ ¬ e < 4294967296 := by
  by_cases he : e < 4294967296
  · left
    unfold chN
    apply Nat.eq_of_testBit_eq
    intro i
    simp only [Nat.testBit_or, Nat.testBit_xor, Nat.testBit_and]
    have hb : (4294967295 : Nat).testBit i = decide (i < 32) := by
      rw [show (4294967295 : Nat) = 2 ^ 32 - 1 from rfl, Nat.testBit_two_pow_sub_one]
    rw [hb]
    by_cases hi : i < 32
    · rw [decide_eq_true hi]
      cases e.testBit i <;> cases f.testBit i <;> cases g.testBit i <;> rfl
    · have h0 : e.testBit i = false := Nat.testBit_lt_two_pow (Nat.lt_of_lt_of_le he (by rw [show (4294967296 : Nat) = 2 ^ 32 from rfl]; exact Nat.pow_le_pow_right (by decide) (by omega)))
      rw [decide_eq_false hi, h0]
      cases f.testBit i <;> cases g.testBit i <;> rfl
  · exact .inr he
theorem ch_bits {e f g : Nat} (he : e < 4294967296) (hf : f < 4294967296) (hg : g < 4294967296) :
    bits .or .u32 (bits .and .u32 (e : Int) (f : Int)) (bits .and .u32 (bits .xor .u32 IntKind.u32.max (e : Int)) (g : Int)) = (chN e f g : Int) := by
  have hm : IntKind.u32.max = ((4294967295 : Nat) : Int) := rfl
  have h1 : e &&& f < 4294967296 := and_lt he
  have h2 : (4294967295 ^^^ e) < 4294967296 := xor_lt (by decide) he
  rw [hm, u32_and_nat _ _ he hf, u32_xor_nat _ _ (by decide) he, u32_and_nat _ _ h2 hg, u32_or_nat _ _ h1 (and_lt h2)]
  rcases ch_nat e f g with h | h
  · rw [h]
  · exact absurd he h
theorem maj_nat (a b c : Nat) : (a &&& b) ||| (a &&& c) ||| (b &&& c) = majN a b c := by
  unfold majN
  apply Nat.eq_of_testBit_eq
  intro i
  simp only [Nat.testBit_or, Nat.testBit_xor, Nat.testBit_and]
  cases a.testBit i <;> cases b.testBit i <;> cases c.testBit i <;> rfl
theorem or_lt32 {a b : Nat} (ha : a < 4294967296) (hb : b < 4294967296) : a ||| b < 4294967296 := Nat.or_lt_two_pow (n := 32) ha hb
theorem maj_bits {a b c : Nat} (ha : a < 4294967296) (hb : b < 4294967296) (hc : c < 4294967296) :
    bits .or .u32 (bits .or .u32 (bits .and .u32 (a : Int) (b : Int)) (bits .and .u32 (a : Int) (c : Int))) (bits .and .u32 (b : Int) (c : Int)) = (majN a b c : Int) := by
  rw [u32_and_nat _ _ ha hb, u32_and_nat _ _ ha hc, u32_and_nat _ _ hb hc, u32_or_nat _ _ (and_lt ha) (and_lt ha), u32_or_nat _ _ (or_lt32 (and_lt ha) (and_lt ha)) (and_lt hb), maj_nat]
theorem or_sum (a b i : Nat) (hb : b < 2 ^ i) : 2 ^ i * a ||| b = 2 ^ i * a + b := (Nat.two_pow_add_eq_or_of_lt hb a).symm
theorem word_u32 {x0 x1 x2 x3 : Nat} (l0 : x0 < 256) (l1 : x1 < 256) (l2 : x2 < 256) (l3 : x3 < 256) :
    bits .or .u32 (bits .or .u32 (bits .or .u32 ((x0 : Int) * 16777216) ((x1 : Int) * 65536)) ((x2 : Int) * 256)) (x3 : Int) = ((x0 * 16777216 + x1 * 65536 + x2 * 256 + x3 : Nat) : Int) := by
  have e1 : 2 ^ 24 * x0 ||| x1 * 65536 = x0 * 16777216 + x1 * 65536 := by rw [or_sum _ _ _ (by omega)]; omega
  have e2 : 2 ^ 16 * (x0 * 256 + x1) ||| x2 * 256 = x0 * 16777216 + x1 * 65536 + x2 * 256 := by rw [or_sum _ _ _ (by omega)]; omega
  have e3 : 2 ^ 8 * (x0 * 65536 + x1 * 256 + x2) ||| x3 = x0 * 16777216 + x1 * 65536 + x2 * 256 + x3 := by rw [or_sum _ _ _ (by omega)]; omega
  have f1 := u32_or_nat (x0 * 16777216) (x1 * 65536) (by omega) (by omega)
  rw [show x0 * 16777216 = 2 ^ 24 * x0 from by omega, e1] at f1
  have f2 := u32_or_nat (x0 * 16777216 + x1 * 65536) (x2 * 256) (by omega) (by omega)
  rw [show x0 * 16777216 + x1 * 65536 = 2 ^ 16 * (x0 * 256 + x1) from by omega, e2] at f2
  have f3 := u32_or_nat (x0 * 16777216 + x1 * 65536 + x2 * 256) x3 (by omega) (by omega)
  rw [show x0 * 16777216 + x1 * 65536 + x2 * 256 = 2 ^ 8 * (x0 * 65536 + x1 * 256 + x2) from by omega, e3] at f3
  rw [← f3]
  have g1 : bits .or .u32 ((x0 : Int) * 16777216) ((x1 : Int) * 65536) = ((x0 * 16777216 + x1 * 65536 : Nat) : Int) := by
    rw [← f1]
    congr 1 <;> omega
  rw [g1]
  have g2 : bits .or .u32 ((x0 * 16777216 + x1 * 65536 : Nat) : Int) ((x2 : Int) * 256) = ((x0 * 16777216 + x1 * 65536 + x2 * 256 : Nat) : Int) := by
    rw [← f2]
    congr 1 <;> omega
  rw [g2]
  congr 1
  omega
set_option maxHeartbeats 1000000 in
theorem shaChoice_any (e f g : Nat) (w : World) (he : e < 4294967296) (hf : f < 4294967296) (hg : g < 4294967296) :
    Calls Tryd.prog 96 #[.int .u32 (e : Int), .int .u32 (f : Int), .int .u32 (g : Int)] w (Same (.int .u32 (chN e f g : Int)) w) := by
  go_enter Tryd.func96, Tryd.ntmps96
  go_wp2
  go_ret
  exact ⟨by rw [← ch_bits he hf hg]; rfl, rfl⟩
set_option maxHeartbeats 1000000 in
theorem shaMajority_any (a b c : Nat) (w : World) (ha : a < 4294967296) (hb : b < 4294967296) (hc : c < 4294967296) :
    Calls Tryd.prog 98 #[.int .u32 (a : Int), .int .u32 (b : Int), .int .u32 (c : Int)] w (Same (.int .u32 (majN a b c : Int)) w) := by
  go_enter Tryd.func98, Tryd.ntmps98
  go_wp2
  go_ret
  exact ⟨by rw [← maj_bits ha hb hc]; rfl, rfl⟩
set_option maxHeartbeats 1000000 in
theorem getBigWord_any (b : Nat) (off n c : Nat) (l : List UInt8) (q : Nat) (w : World) (hn : 4 ≤ n) (_hnc : n ≤ c) (_hc : c ≤ 9223372036854775807)
    (h : ∀ k, k < 4 → w.cell? ⟨b, off + k, none⟩ = some (.int .u8 (bt l (4 * q + k)))) :
    Calls Tryd.prog 92 #[.slice (some ⟨b, off, none⟩) n c] w (Quiet (.int .u32 (wordAt l q : Int)) w) := by
  have c0 : w.cell? ⟨b, off, none⟩ = _ := h 0 (by decide)
  have c1 := h 1 (by decide)
  have c2 := h 2 (by decide)
  have c3 := h 3 (by decide)
  clear h
  simp only [bt_by8] at c0 c1 c2 c3
  have b0 := by8_lt l (4 * q + 0)
  have b1 := by8_lt l (4 * q + 1)
  have b2 := by8_lt l (4 * q + 2)
  have b3 := by8_lt l (4 * q + 3)
  have hr : wordAt l q = by8 l (4 * q + 0) * 16777216 + by8 l (4 * q + 1) * 65536 + by8 l (4 * q + 2) * 256 + by8 l (4 * q + 3) := rfl
  generalize by8 l (4 * q + 0) = y0 at *
  generalize by8 l (4 * q + 1) = y1 at *
  generalize by8 l (4 * q + 2) = y2 at *
  generalize by8 l (4 * q + 3) = y3 at *
  generalize wordAt l q = r at *
  have n1 : (1 : Int) < (n : Int) := by omega
  have n2 : (2 : Int) < (n : Int) := by omega
  have n3 : (3 : Int) < (n : Int) := by omega
  have n0 : (0 : Int) < (n : Int) := by omega
  go_enter Tryd.func92, Tryd.ntmps92
  go_wp2
  go_quiet (fail)
  go_wp2
  go_ret
  exact ⟨by rw [hr, ← word_u32 b0 b1 b2 b3]; rfl, _, rfl⟩
end Go.Proofs.YtlchadbbldkkfaaDoor
