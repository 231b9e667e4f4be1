/- What was written is read back: plain functions on lists of bytes. -/
import Derived.Test.YtahfklghnbpadaaDoorGetText
import Derived.Test.YtahfklghnbpadaaDoorText
import Derived.Test.YtahfklghnbpadaaDoorGetFix
import Derived.Test.YtahfklghnbpadaaDoorHex
import Derived.Test.YtahfklghnbpadaaDoorUnhex
import Derived.Test.YtahfklghnbpadaaDoorTextNum
namespace Go.Proofs.YtahfklghnbpadaaDoor

theorem gv_max {i m : Nat} (hm : 0 < m) (h : m * 128 ^ i ≤ 1152921504606846975) : i ≤ 8 := by
  rcases Nat.lt_or_ge i 9 with h9 | h9
  · omega
  · have h1 : 128 ^ 9 ≤ 128 ^ i := Nat.pow_le_pow_right (by omega) h9
    have h2 : 1 * 128 ^ i ≤ m * 128 ^ i := Nat.mul_le_mul_right _ hm
    have e : (128 : Nat) ^ 9 = 9223372036854775808 := by decide
    rw [e] at h1
    generalize 128 ^ i = P at *
    omega
theorem gv_max8 {i m : Nat} (hm : 128 ≤ m) (h : m * 128 ^ i ≤ 1152921504606846975) : i ≤ 7 := by
  have h3 : 1 * 128 ^ (i + 1) ≤ (m / 128) * 128 ^ (i + 1) := Nat.mul_le_mul_right _ (by omega)
  have h4 : m / 128 * 128 ^ (i + 1) ≤ m * 128 ^ i := by
    rw [Nat.pow_succ, Nat.mul_comm (128 ^ i), ← Nat.mul_assoc]
    exact Nat.mul_le_mul_right _ (Nat.div_mul_le_self m 128)
  have := gv_max (i := i + 1) (m := m / 128) (by omega) (by generalize 128 ^ (i + 1) = P at *; omega)
  omega
theorem gv_varL (l : List UInt8) (a : Nat) : ∀ (m i f acc : Nat), i + f = 9 → (0 < i → 0 < m) → acc + m * 128 ^ i ≤ 1152921504606846975 → a + i + (varL m).length ≤ l.length →
    (∀ j, j < (varL m).length → bt l (a + i + j) = bt (varL m) j) → gvF l a f i acc = (((acc + m * 128 ^ i : Nat) : Int), (a : Int) + (i : Int) + ((varL m).length : Int), 0) := by
  intro m
  induction m using Nat.strongRecOn with
  | ind m ih =>
    intro i f acc hif hi hacc hlen hbt
    have hi8 : i ≤ 8 := by
      rcases Nat.eq_zero_or_pos i with h | h
      · omega
      · exact gv_max (hi h) (by generalize m * 128 ^ i = P at *; omega)
    obtain ⟨f, rfl⟩ : ∃ g, f = g + 1 := ⟨f - 1, by omega⟩
    by_cases hs : m < 128
    · rw [varL_small hs] at hlen hbt ⊢
      have h0 := hbt 0 (by simp)
      have e0 : bt [UInt8.ofNat m] 0 = (m : Int) := by simp [bt]; omega
      rw [Nat.add_zero, e0] at h0
      have hlen' : a + i + 1 ≤ l.length := hlen
      have hmm : m % 128 = m := Nat.mod_eq_of_lt hs
      rw [gv_end (q := m) (by omega) h0 (by omega) hs (by rw [hmm]; generalize m * 128 ^ i = P at *; omega), hmm]
      rfl
    · have hs' : 128 ≤ m := by omega
      have hi7 : i ≤ 7 := gv_max8 hs' (by generalize m * 128 ^ i = P at *; omega)
      rw [varL_big hs'] at hlen hbt ⊢
      have h0 := hbt 0 (by simp)
      have e0 : bt (UInt8.ofNat (m % 128 + 128) :: varL (m / 128)) 0 = ((m % 128 + 128 : Nat) : Int) := by simp [bt]; omega
      rw [Nat.add_zero, e0] at h0
      have hlen' : a + i + ((varL (m / 128)).length + 1) ≤ l.length := hlen
      have hmm : (m % 128 + 128) % 128 = m % 128 := by omega
      have hsum : acc + m % 128 * 128 ^ i + m / 128 * 128 ^ (i + 1) = acc + m * 128 ^ i := by
        have e1 : m / 128 * 128 ^ (i + 1) = 128 * (m / 128) * 128 ^ i := by rw [Nat.pow_succ, Nat.mul_comm (128 ^ i), ← Nat.mul_assoc, Nat.mul_comm (m / 128)]
        rw [e1, Nat.add_assoc, ← Nat.add_mul]
        congr 2
        omega
      rw [gv_more (q := m % 128 + 128) (by omega) h0 (by omega) (by omega), hmm, ih (m / 128) (by omega) (i + 1) f _ (by omega) (by omega) (by rw [hsum]; exact hacc) (by omega) ?_, hsum]
      · simp only [List.length_cons]
        refine Prod.ext rfl (Prod.ext ?_ rfl)
        simp
        omega
      · intro j hj
        have := hbt (j + 1) (by simpa using hj)
        rw [bt_cons_succ] at this
        rw [← this]
        congr 1
        omega
/-- A number is read where it was written. -/
theorem getV_varL (p s : List UInt8) (n : Nat) (hn : n ≤ 1152921504606846975) : getV (p ++ varL n ++ s) (p.length : Int) = ((n : Int), (p.length : Int) + ((varL n).length : Int), 0) := by
  rw [getV_at, gv_varL _ p.length n 0 9 0 (by omega) (by omega) (by simpa using hn) (by simp) (fun j hj => ?_)]
  · simp
  · rw [List.append_assoc, Nat.add_zero, bt_app_ge, bt_app_lt _ _ _ hj]
theorem getF_fixL (n : Nat) (hn : n < 16777216) : getF (fixL n 3) 0 3 = ((n : Int), 3, 0) := by
  have h := getF_ok (l := fixL n 3) (a := 0) (k := 3) (by omega) ⟨by omega, by omega, by rw [fixL_length]; omega⟩
  have e : fv (fixL n 3) 0 0 3 = n := by
    simp [fv, fixL, bt, List.range_succ]
    omega
  rw [e] at h
  exact h
theorem hv_hexD : ∀ k, k < 16 → hv (((hexD k).toNat : Nat) : Int) = (k : Int) := by decide
theorem hex_pairs (l : List UInt8) : hexTo (hexL l) l.length ∧ pairs (hexL l) l.length = l := by
  induction l with
  | nil => exact ⟨fun j hj => absurd hj (by simp), rfl⟩
  | cons c l ih =>
    have e : hexL (c :: l) = hexD (c.toNat / 16) :: hexD (c.toNat % 16) :: hexL l := rfl
    have hc := c.toNat_lt
    have v0 := hv_hexD (c.toNat / 16) (by omega)
    have v1 := hv_hexD (c.toNat % 16) (by omega)
    have b0 : hv (bt (hexL (c :: l)) (2 * 0)) = ((c.toNat / 16 : Nat) : Int) := v0
    have b1 : hv (bt (hexL (c :: l)) (2 * 0 + 1)) = ((c.toNat % 16 : Nat) : Int) := v1
    have bs : ∀ j, bt (hexL (c :: l)) (2 * (j + 1)) = bt (hexL l) (2 * j) ∧ bt (hexL (c :: l)) (2 * (j + 1) + 1) = bt (hexL l) (2 * j + 1) := fun j => by
      rw [e]
      exact ⟨rfl, rfl⟩
    refine ⟨fun j hj => ?_, ?_⟩
    · rcases j with _ | j
      · rw [b0, b1]; omega
      · rw [(bs j).1, (bs j).2]
        exact ih.1 j (by simpa using hj)
    · have hp : pairs (hexL (c :: l)) (l.length + 1) = c :: pairs (hexL l) l.length := by
        unfold pairs
        rw [List.range_succ_eq_map, List.map_cons, b0, b1, List.map_map]
        congr 1
        apply UInt8.toNat_inj.1
        simp
        omega
      rw [List.length_cons, hp, ih.2]
theorem unhex_hex (l : List UInt8) : unhexL (ba (hexL l)) = l ∧ unhexB (ba (hexL l)) = true := by
  have e : (ba (hexL l)).data.toList = hexL l := rfl
  have hl : (hexL l).length = 2 * l.length := hexL_len l
  have hok : hexOk (ba (hexL l)).data.toList := by
    rw [e]
    refine ⟨by omega, ?_⟩
    have : (hexL l).length / 2 = l.length := by omega
    rw [this]
    exact (hex_pairs l).1
  obtain ⟨h1, h2⟩ := unhex_yes hok
  refine ⟨?_, h2⟩
  rw [h1, e]
  have : (hexL l).length / 2 = l.length := by omega
  rw [this]
  exact (hex_pairs l).2
theorem tx_put (t : List UInt8) (ht : t.length ≤ 9) : txL (putTextL [] t) 0 9 = t ∧ txN (putTextL [] t) 0 9 = (t.length : Int) + 1 ∧ txE (putTextL [] t) 0 9 = 0 := by
  have hv := getV_varL [] t t.length (by omega)
  have h1 : (varL t.length).length = 1 := by rw [varL_small (by omega)]; rfl
  have hp : putTextL [] t = [] ++ varL t.length ++ t := rfl
  have hz : (([] : List UInt8).length : Int) = 0 := rfl
  rw [h1, hz] at hv
  rw [hp]
  have hok : rawOk ([] ++ varL t.length ++ t) 1 (t.length : Int) := ⟨by omega, by omega, by simp [h1]⟩
  obtain ⟨r1, r2, r3⟩ := raw_yes hok
  have e1 : (([] ++ varL t.length ++ t).drop (1 : Int).toNat).take (t.length : Int).toNat = t := by
    rw [varL_small (by omega)]
    simp
  have n9 : ¬ ((9 : Int) < (t.length : Int)) := by omega
  unfold txL txN txE
  rw [hv]
  refine ⟨?_, ?_, ?_⟩
  · simp only [ne_eq, not_true_eq_false, if_false, if_neg n9]
    exact r1.trans e1
  · simp only [ne_eq, not_true_eq_false, if_false, if_neg n9]
    exact r2.trans (by omega)
  · simp only [ne_eq, not_true_eq_false, if_false, if_neg n9]
    exact r3
theorem tn_num (n : Nat) (hn : n ≤ 1152921504606846975) : tnN (ba (numL (n : Int))).data.toList = (n : Int) ∧ tnB (ba (numL (n : Int))).data.toList = true := by
  have e : (ba (numL (n : Int))).data.toList = Lib.decDigits n := numL_yes hn
  rw [e]
  obtain ⟨h1, h2⟩ := can_of hn (rfl : Lib.decDigits n = Lib.decDigits n)
  obtain ⟨a, b⟩ := tn_yes h1
  rw [h2] at a
  exact ⟨a, b⟩
end Go.Proofs.YtahfklghnbpadaaDoor
