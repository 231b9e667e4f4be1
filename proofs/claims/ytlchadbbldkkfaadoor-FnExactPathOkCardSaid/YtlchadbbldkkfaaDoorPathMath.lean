/- Inclusion proofs over lists, without a program: the parts of a tree beside a leaf, level by level from the leaf (upN, prt), the same from the root down (prt_left, prt_right), the path (pathL), the root that a path leads to (rootR). -/
import Derived.Test.YtlchadbbldkkfaaDoorTreeMath
namespace Go.Proofs.YtlchadbbldkkfaaDoor
open Go.RowKit

/-- The node beside a. -/
def x1 (a : Nat) : Nat := if a % 2 = 0 then a + 1 else a - 1
theorem xor_one (a : Nat) : a ^^^ 1 = x1 a := by
  have h1 : (a ^^^ 1) / 2 = a / 2 := by
    have := Nat.xor_div_two (a := a) (b := 1)
    simpa using this
  have h2 : (a ^^^ 1) % 2 = (a + 1) % 2 := by
    have h3 := Nat.xor_mod_two_pow (a := a) (b := 1) (n := 1)
    rw [Nat.pow_one] at h3
    rw [h3]
    rcases Nat.mod_two_eq_zero_or_one a with h | h
    · rw [h, Nat.add_mod, h]; rfl
    · rw [h, Nat.add_mod, h]; rfl
  unfold x1
  split <;> omega
theorem x1_add {a b : Nat} (h : a % 2 = 0) : x1 (a + b) = a + x1 b := by
  unfold x1
  by_cases hb : b % 2 = 0
  · rw [if_pos hb, if_pos (by omega)]; omega
  · rw [if_neg hb, if_neg (by omega)]; omega
theorem x1_lt {a m : Nat} (h : a < 2 * m) : x1 a < 2 * m := by
  unfold x1
  split <;> omega
theorem x1_ne (a : Nat) : x1 a ≠ a := by
  unfold x1
  split <;> omega

/-- The part beside leaf i in level s of a tree of n leaves. -/
def lev (i n s : Nat) : List (Nat × Nat) := if x1 (i / 2 ^ s) ≤ (n - 1) / 2 ^ s then [(x1 (i / 2 ^ s) * 2 ^ s, min ((x1 (i / 2 ^ s) + 1) * 2 ^ s) n)] else []
/-- The parts of the levels below m. -/
def upN (i n : Nat) : Nat → List (Nat × Nat)
  | 0 => []
  | m + 1 => upN i n m ++ lev i n m
theorem lev_top {i n m : Nat} (hi : i < n) (h : n ≤ 2 ^ m) : lev i n m = [] := by
  unfold lev
  rw [Nat.div_eq_of_lt (by omega : i < 2 ^ m), Nat.div_eq_of_lt (by omega : n - 1 < 2 ^ m), if_neg (by simp [x1])]
theorem upN_more {i n m : Nat} (hi : i < n) (h : n ≤ 2 ^ m) : ∀ d, upN i n (m + d) = upN i n m
  | 0 => rfl
  | d + 1 => by
    rw [← Nat.add_assoc]
    change upN i n (m + d) ++ lev i n (m + d) = _
    rw [upN_more hi h d, lev_top hi (Nat.le_trans h (Nat.pow_le_pow_right (by omega) (by omega))), List.append_nil]
/-- All of them. -/
def prt (i n : Nat) : List (Nat × Nat) := upN i n n
theorem prt_of {i n m : Nat} (hi : i < n) (h : n ≤ 2 ^ m) : upN i n m = prt i n := by
  have hn : n ≤ 2 ^ n := Nat.le_of_lt Nat.lt_two_pow_self
  rcases Nat.le_total m n with hm | hm
  · have := upN_more hi h (n - m)
    rw [show m + (n - m) = n by omega] at this
    exact this.symm
  · have := upN_more hi hn (m - n)
    rwa [show n + (m - n) = m by omega] at this
theorem prt_small {i n : Nat} (h : n < 2) (hi : i < n) : prt i n = [] := by
  obtain rfl : i = 0 := by omega
  obtain rfl : n = 1 := by omega
  rfl
theorem lev_mem {i n s : Nat} (h0 : 0 < n) {p : Nat × Nat} (h : p ∈ lev i n s) : p.1 < p.2 ∧ p.2 ≤ n := by
  unfold lev at h
  split at h
  · rename_i hb
    simp only [List.mem_singleton] at h
    subst h
    have hp := Nat.two_pow_pos s
    have h1 := Nat.mul_le_mul_right (2 ^ s) hb
    have h2 := Nat.div_mul_le_self (n - 1) (2 ^ s)
    simp only
    rw [Nat.add_mul, Nat.one_mul]
    omega
  · simp at h
theorem upN_mem {i n : Nat} (h0 : 0 < n) {p : Nat × Nat} : ∀ m, p ∈ upN i n m → p.1 < p.2 ∧ p.2 ≤ n
  | 0, h => by simp [upN] at h
  | m + 1, h => by
    simp only [upN, List.mem_append] at h
    rcases h with h | h
    · exact upN_mem h0 m h
    · exact lev_mem h0 h
theorem prt_mem {i n : Nat} {p : Nat × Nat} (h : p ∈ prt i n) : p.1 < p.2 ∧ p.2 ≤ n := by
  rcases Nat.eq_zero_or_pos n with rfl | h0
  · simp [prt, upN] at h
  · exact upN_mem h0 n h
theorem lev_len (i n s : Nat) : (lev i n s).length ≤ 1 := by
  unfold lev
  split <;> simp
theorem upN_len (i n : Nat) : ∀ m, (upN i n m).length ≤ m
  | 0 => Nat.le_refl _
  | m + 1 => by
    have h1 := upN_len i n m
    have h2 := lev_len i n m
    simp only [upN, List.length_append]
    omega
theorem prt_len {i n : Nat} (hi : i < n) (hn : n ≤ 2 ^ 30) : (prt i n).length ≤ 30 := by
  rw [← prt_of hi hn]
  exact upN_len i n 30
def shiftP (k : Nat) (p : Nat × Nat) : Nat × Nat := (p.1 + k, p.2 + k)

theorem pow_sub_even {s m : Nat} (h : s < m) : 2 ^ m = 2 ^ (m - s) * 2 ^ s ∧ 2 ^ (m - s) % 2 = 0 := by
  constructor
  · rw [← Nat.pow_add, show m - s + s = m by omega]
  · obtain ⟨d, hd⟩ : ∃ d, m - s = d + 1 := ⟨m - s - 1, by omega⟩
    rw [hd, Nat.pow_succ]
    omega
theorem lev_left {i n m s : Nat} (hs : s < m) (hi : i < 2 ^ m) (hn : 2 ^ m < n) : lev i n s = lev i (2 ^ m) s := by
  obtain ⟨he, h2⟩ := pow_sub_even hs
  have hp := Nat.two_pow_pos s
  obtain ⟨d, hd⟩ : ∃ d, 2 ^ (m - s) = 2 * d := ⟨2 ^ (m - s) / 2, by omega⟩
  have hd0 : 0 < d := by have := Nat.two_pow_pos (m - s); omega
  have h1 : i / 2 ^ s < 2 * d := by
    rw [Nat.div_lt_iff_lt_mul hp, ← hd, ← he]
    exact hi
  have hx := x1_lt h1
  have hk : (2 ^ m - 1) / 2 ^ s = 2 * d - 1 := by
    rw [he, hd]
    have : 2 * d * 2 ^ s - 1 = (2 ^ s - 1) + (2 * d - 1) * 2 ^ s := by
      have := Nat.sub_mul (2 * d) 1 (2 ^ s)
      rw [Nat.one_mul] at this
      have h3 : 1 * 2 ^ s ≤ 2 * d * 2 ^ s := Nat.mul_le_mul_right _ (by omega)
      omega
    rw [this, Nat.add_mul_div_right _ _ hp, Nat.div_eq_of_lt (by omega), Nat.zero_add]
  have hkn : (2 ^ m - 1) / 2 ^ s ≤ (n - 1) / 2 ^ s := Nat.div_le_div_right (by omega)
  have hle : (x1 (i / 2 ^ s) + 1) * 2 ^ s ≤ 2 ^ m := by
    rw [he, hd]
    exact Nat.mul_le_mul_right _ (by omega)
  unfold lev
  rw [if_pos (by omega), if_pos (by omega), Nat.min_eq_left hle, Nat.min_eq_left (by omega)]
theorem lev_right {i n m s : Nat} (hs : s < m) (hn : 0 < n) : lev (2 ^ m + i) (2 ^ m + n) s = (lev i n s).map (shiftP (2 ^ m)) := by
  obtain ⟨he, h2⟩ := pow_sub_even hs
  have hp := Nat.two_pow_pos s
  have h1 : (2 ^ m + i) / 2 ^ s = 2 ^ (m - s) + i / 2 ^ s := by
    rw [he, Nat.add_comm, Nat.add_mul_div_right _ _ hp, Nat.add_comm]
  have h3 : (2 ^ m + n - 1) / 2 ^ s = 2 ^ (m - s) + (n - 1) / 2 ^ s := by
    rw [show 2 ^ m + n - 1 = (n - 1) + 2 ^ m by omega, he, Nat.add_mul_div_right _ _ hp, Nat.add_comm]
  have h4 := x1_add (b := i / 2 ^ s) h2
  unfold lev
  rw [h1, h3, h4]
  generalize x1 (i / 2 ^ s) = b
  by_cases hb : b ≤ (n - 1) / 2 ^ s
  · rw [if_pos hb, if_pos (by omega)]
    have e1 : (2 ^ (m - s) + b) * 2 ^ s = b * 2 ^ s + 2 ^ m := by rw [Nat.add_mul, ← he, Nat.add_comm]
    have e2 : (2 ^ (m - s) + b + 1) * 2 ^ s = (b + 1) * 2 ^ s + 2 ^ m := by rw [Nat.add_assoc, Nat.add_mul, ← he, Nat.add_comm]
    rw [e1, e2, Nat.add_comm (2 ^ m) n, Nat.add_min_add_right]
    rfl
  · rw [if_neg hb, if_neg (by omega)]
    rfl
theorem upN_left {i n m : Nat} (hi : i < 2 ^ m) (hn : 2 ^ m < n) : ∀ s, s ≤ m → upN i n s = upN i (2 ^ m) s
  | 0, _ => rfl
  | s + 1, h => by
    simp only [upN]
    rw [upN_left hi hn s (by omega), lev_left (by omega) hi hn]
theorem upN_right {i n m : Nat} (hn : 0 < n) : ∀ s, s ≤ m → upN (2 ^ m + i) (2 ^ m + n) s = (upN i n s).map (shiftP (2 ^ m))
  | 0, _ => rfl
  | s + 1, h => by
    simp only [upN, List.map_append]
    rw [upN_right hn s (by omega), lev_right (by omega) hn]

theorem splitN_pow {n : Nat} (h : 2 ≤ n) : ∃ m, splitN n = 2 ^ m := ⟨_, splitN_big h⟩
theorem prt_left {i n : Nat} (h : 2 ≤ n) (hi : i < splitN n) : prt i n = prt i (splitN n) ++ [(splitN n, n)] := by
  obtain ⟨m, hm⟩ := splitN_pow h
  have h1 := splitN_lt h
  have h2 := splitN_half h
  rw [hm] at hi h1 h2 ⊢
  rw [← prt_of (m := m + 1) (by omega) (by rw [Nat.pow_succ]; omega), ← prt_of (m := m) hi (Nat.le_refl _)]
  simp only [upN]
  rw [upN_left hi h1 m (Nat.le_refl _)]
  congr 1
  have hk : (n - 1) / 2 ^ m = 1 := Nat.div_eq_of_lt_le (by omega) (by omega)
  unfold lev
  rw [Nat.div_eq_of_lt hi, hk]
  simp [x1]
  omega
theorem prt_right {i n : Nat} (h : 2 ≤ n) (hi : splitN n ≤ i) (hn : i < n) : prt i n = (prt (i - splitN n) (n - splitN n)).map (shiftP (splitN n)) ++ [(0, splitN n)] := by
  obtain ⟨m, hm⟩ := splitN_pow h
  have h1 := splitN_lt h
  have h2 := splitN_half h
  rw [hm] at hi h1 h2 ⊢
  obtain ⟨j, rfl⟩ : ∃ j, i = 2 ^ m + j := ⟨i - 2 ^ m, by omega⟩
  obtain ⟨k, rfl⟩ : ∃ k, n = 2 ^ m + k := ⟨n - 2 ^ m, by omega⟩
  rw [← prt_of (m := m + 1) (by omega) (by rw [Nat.pow_succ]; omega), Nat.add_sub_cancel_left, Nat.add_sub_cancel_left, ← prt_of (m := m) (i := j) (n := k) (by omega) (by omega)]
  simp only [upN]
  rw [upN_right (by omega) m (Nat.le_refl _)]
  congr 1
  have hp := Nat.two_pow_pos m
  have hj : (2 ^ m + j) / 2 ^ m = 1 := by
    rw [Nat.add_div_left _ hp, Nat.div_eq_of_lt (by omega)]
  unfold lev
  rw [hj]
  simp [x1]

/-- The length of the path, for ints. -/
def plenN (i n : Nat) : Nat := (prt i n).length
theorem plenN_left {i n : Nat} (h : 2 ≤ n) (hi : i < splitN n) : plenN i n = plenN i (splitN n) + 1 := by
  unfold plenN
  rw [prt_left h hi, List.length_append]
  rfl
theorem plenN_right {i n : Nat} (h : 2 ≤ n) (hi : splitN n ≤ i) (hn : i < n) : plenN i n = plenN (i - splitN n) (n - splitN n) + 1 := by
  unfold plenN
  rw [prt_right h hi hn, List.length_append, List.length_map]
  rfl
theorem plenN_small {i n : Nat} (h : n < 2) (hi : i < n) : plenN i n = 0 := by
  unfold plenN
  rw [prt_small h hi]
  rfl

/-- The root of one part. -/
def rootOf (L : List (List UInt8)) (p : Nat × Nat) : List UInt8 := treeL (partL L p.1 (p.2 - p.1))
theorem rootOf_length (L : List (List UInt8)) (p : Nat × Nat) : (rootOf L p).length = 32 := treeL_length _
/-- The path of leaf i. -/
def pathL (L : List (List UInt8)) (i : Nat) : List (List UInt8) := (prt i L.length).map (rootOf L)
theorem pathL_length (L : List (List UInt8)) (i : Nat) : (pathL L i).length = plenN i L.length := by simp [pathL, plenN]
theorem pathL_small {L : List (List UInt8)} {i : Nat} (h : L.length < 2) (hi : i < L.length) : pathL L i = [] := by
  unfold pathL
  rw [prt_small h hi]
  rfl
theorem pathL_32 (L : List (List UInt8)) (i : Nat) : ∀ r ∈ pathL L i, r.length = 32 := by
  intro r hr
  obtain ⟨p, _, rfl⟩ := List.mem_map.1 hr
  exact rootOf_length L p
theorem pathL_left {L : List (List UInt8)} {i : Nat} (h : 2 ≤ L.length) (hi : i < splitN L.length) :
    pathL L i = pathL (L.take (splitN L.length)) i ++ [treeL (L.drop (splitN L.length))] := by
  have hlt := splitN_lt h
  have hl : (L.take (splitN L.length)).length = splitN L.length := by rw [List.length_take]; omega
  unfold pathL
  rw [hl, prt_left h hi, List.map_append]
  congr 1
  · refine List.map_congr_left fun p hp => ?_
    obtain ⟨h1, h2⟩ := prt_mem hp
    unfold rootOf partL
    rw [List.drop_take, List.take_take, Nat.min_eq_left (by omega)]
  · simp only [List.map_cons, List.map_nil, rootOf, partL]
    rw [List.take_of_length_le (by rw [List.length_drop]; exact Nat.le_refl _)]
theorem pathL_right {L : List (List UInt8)} {i : Nat} (h : 2 ≤ L.length) (hi : splitN L.length ≤ i) (hn : i < L.length) :
    pathL L i = pathL (L.drop (splitN L.length)) (i - splitN L.length) ++ [treeL (L.take (splitN L.length))] := by
  have hlt := splitN_lt h
  unfold pathL
  rw [List.length_drop, prt_right h hi hn, List.map_append, List.map_map]
  congr 1
  refine List.map_congr_left fun p hp => ?_
  simp only [Function.comp, rootOf, shiftP, partL, List.drop_drop]
  rw [Nat.add_sub_add_right, Nat.add_comm p.1]

/-- One step up. -/
def stepR (i : Nat) (acc : List UInt8) (q : (Nat × Nat) × List UInt8) : List UInt8 := if i < q.1.1 then nodeL acc q.2 else nodeL q.2 acc
/-- The root to which a path leads. -/
def rootR (h : List UInt8) (i n : Nat) (path : List (List UInt8)) : List UInt8 := ((prt i n).zip path).foldl (stepR i) h
theorem rootR_small {h : List UInt8} {i n : Nat} {path : List (List UInt8)} (hn : n < 2) (hi : i < n) : rootR h i n path = h := by
  unfold rootR
  rw [prt_small hn hi]
  rfl
theorem rootR_left {h : List UInt8} {i n : Nat} {q : List (List UInt8)} {r : List UInt8} (hn : 2 ≤ n) (hi : i < splitN n) (hq : q.length = plenN i (splitN n)) :
    rootR h i n (q ++ [r]) = nodeL (rootR h i (splitN n) q) r := by
  unfold rootR
  rw [prt_left hn hi, List.zip_append (by rw [hq]; rfl), List.foldl_append]
  simp only [List.zip_cons_cons, List.zip_nil_left, List.foldl_cons, List.foldl_nil, stepR]
  rw [if_pos hi]
theorem rootR_right {h : List UInt8} {i n : Nat} {q : List (List UInt8)} {r : List UInt8} (hn : 2 ≤ n) (hi : splitN n ≤ i) (hin : i < n) (hq : q.length = plenN (i - splitN n) (n - splitN n)) :
    rootR h i n (q ++ [r]) = nodeL r (rootR h (i - splitN n) (n - splitN n) q) := by
  unfold rootR
  rw [prt_right hn hi hin, List.zip_append (by rw [hq, List.length_map]; rfl), List.foldl_append]
  simp only [List.zip_cons_cons, List.zip_nil_left, List.foldl_cons, List.foldl_nil, stepR]
  rw [if_neg (by omega), List.zip_map_left, List.foldl_map]
  congr 2
  funext acc p
  change (if i < p.1.1 + splitN n then nodeL acc p.2 else nodeL p.2 acc) = (if i - splitN n < p.1.1 then nodeL acc p.2 else nodeL p.2 acc)
  by_cases hc : i - splitN n < p.1.1
  · rw [if_pos hc, if_pos (by omega)]
  · rw [if_neg hc, if_neg (by omega)]
theorem rootR_length {h : List UInt8} {i n : Nat} {path : List (List UInt8)} (hh : h.length = 32) : (rootR h i n path).length = 32 := by
  unfold rootR
  generalize (prt i n).zip path = zs
  induction zs generalizing h with
  | nil => exact hh
  | cons z zs ih =>
    rw [List.foldl_cons]
    refine ih ?_
    unfold stepR
    split
    · exact nodeL_length _ _
    · exact nodeL_length _ _

/-- The path of a leaf leads to the root. -/
theorem rootR_path : ∀ (f : Nat) (L : List (List UInt8)) (i : Nat), L.length ≤ f → i < L.length → rootR (leafL (L.getD i [])) i L.length (pathL L i) = treeL L := by
  intro f
  induction f with
  | zero => intro L i hf hi; omega
  | succ f ih =>
    intro L i hf hi
    by_cases h : 2 ≤ L.length
    · have hlt := splitN_lt h
      have hps := splitN_pos h
      rw [treeL_two h]
      by_cases hk : i < splitN L.length
      · have hl : (L.take (splitN L.length)).length = splitN L.length := by rw [List.length_take]; omega
        rw [pathL_left h hk, rootR_left h hk (by rw [pathL_length, hl])]
        have := ih (L.take (splitN L.length)) i (by omega) (by omega)
        rw [getD_take _ _ _ _ hk, hl] at this
        rw [this]
      · have hl : (L.drop (splitN L.length)).length = L.length - splitN L.length := List.length_drop
        rw [pathL_right h (by omega) hi, rootR_right h (by omega) hi (by rw [pathL_length, hl])]
        have := ih (L.drop (splitN L.length)) (i - splitN L.length) (by omega) (by omega)
        rw [getD_drop, hl, show splitN L.length + (i - splitN L.length) = i by omega] at this
        rw [this]
    · obtain rfl : i = 0 := by omega
      rw [rootR_small (by omega) (by omega), treeL_one (by omega)]
end Go.Proofs.YtlchadbbldkkfaaDoor
