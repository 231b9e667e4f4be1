/- How a varint is read: a plain function on lists of bytes. -/
import Derived.Test.YtopbalemfljphaaDoorMem
namespace Go.Proofs.YtopbalemfljphaaDoor

/-- From byte i of the varint at place a on, n having been read so far, f bytes at most. -/
def gvF (l : List UInt8) (a : Nat) : Nat → Nat → Nat → Int × Int × Int
  | 0, _, _ => (0, 0, 2)
  | f + 1, i, n =>
    if l.length ≤ a + i then (0, 0, 1)
    else if (0 < i ∧ (bt l (a + i)).toNat = 0) ∨ (i = 8 ∧ 128 ≤ (bt l (a + i)).toNat) then (0, 0, 2)
    else if (bt l (a + i)).toNat < 128 then
      if 1152921504606846975 < n + (bt l (a + i)).toNat % 128 * 128 ^ i then (0, 0, 2) else (((n + (bt l (a + i)).toNat % 128 * 128 ^ i : Nat) : Int), (a : Int) + (i : Int) + 1, 0)
    else gvF l a f (i + 1) (n + (bt l (a + i)).toNat % 128 * 128 ^ i)
def getV (l : List UInt8) (a : Int) : Int × Int × Int := if a < 0 then (0, 0, 1) else gvF l a.toNat 9 0 0
theorem getV_neg {l : List UInt8} {a : Int} (h : a < 0) : getV l a = (0, 0, 1) := if_pos h
theorem getV_at (l : List UInt8) (a : Nat) : getV l (a : Int) = gvF l a 9 0 0 := by
  rw [getV, if_neg (by omega), Int.toNat_natCast]
section
variable {l : List UInt8} {a f i n q : Nat}
theorem gv_short (h : l.length ≤ a + i) : gvF l a (f + 1) i n = (0, 0, 1) := by rw [gvF, if_pos h]
theorem gv_bad (h : a + i < l.length) (hq : bt l (a + i) = (q : Int)) (hb : (0 < i ∧ q = 0) ∨ (i = 8 ∧ 128 ≤ q)) : gvF l a (f + 1) i n = (0, 0, 2) := by
  rw [gvF, if_neg (by omega), hq, Int.toNat_natCast, if_pos hb]
theorem gv_big (h : a + i < l.length) (hq : bt l (a + i) = (q : Int)) (hb : ¬ ((0 < i ∧ q = 0) ∨ (i = 8 ∧ 128 ≤ q))) (hs : q < 128) (hn : 1152921504606846975 < n + q % 128 * 128 ^ i) : gvF l a (f + 1) i n = (0, 0, 2) := by
  rw [gvF, if_neg (by omega), hq, Int.toNat_natCast, if_neg hb, if_pos hs, if_pos hn]
theorem gv_end (h : a + i < l.length) (hq : bt l (a + i) = (q : Int)) (hb : ¬ ((0 < i ∧ q = 0) ∨ (i = 8 ∧ 128 ≤ q))) (hs : q < 128) (hn : ¬ 1152921504606846975 < n + q % 128 * 128 ^ i) :
    gvF l a (f + 1) i n = (((n + q % 128 * 128 ^ i : Nat) : Int), (a : Int) + (i : Int) + 1, 0) := by
  rw [gvF, if_neg (by omega), hq, Int.toNat_natCast, if_neg hb, if_pos hs, if_neg hn]
theorem gv_more (h : a + i < l.length) (hq : bt l (a + i) = (q : Int)) (hb : ¬ ((0 < i ∧ q = 0) ∨ (i = 8 ∧ 128 ≤ q))) (hs : ¬ q < 128) : gvF l a (f + 1) i n = gvF l a f (i + 1) (n + q % 128 * 128 ^ i) := by
  rw [gvF, if_neg (by omega), hq, Int.toNat_natCast, if_neg hb, if_neg hs]
end
theorem pow128 (i : Nat) (h : i ≤ 8) : 128 ^ i ≤ 72057594037927936 := by
  have := Nat.pow_le_pow_right (n := 128) (by omega) h
  omega
theorem pow128_pos (i : Nat) : 0 < 128 ^ i := Nat.pow_pos (by omega)
/-- What has been read fits. -/
theorem gv_step {n q i : Nat} (hn : n < 128 ^ i) : n + q % 128 * 128 ^ i < 128 ^ (i + 1) := by
  have h1 : q % 128 * 128 ^ i ≤ 127 * 128 ^ i := Nat.mul_le_mul_right _ (by omega)
  rw [Nat.pow_succ]
  omega
theorem mul_fits (q ff : Nat) (h : ff ≤ 72057594037927936) : q % 128 * ff ≤ 9151314442816847872 := by
  have h1 : q % 128 * ff ≤ 127 * ff := Nat.mul_le_mul_right _ (by omega)
  omega
theorem sum_fits (n m : Nat) (h1 : n < 72057594037927936) (h2 : m ≤ 9151314442816847872) : n + m ≤ 9223372036854775807 := by omega
end Go.Proofs.YtopbalemfljphaaDoor
