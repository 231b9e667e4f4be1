/- Decimal numerals: plain functions on lists of bytes. -/
import Derived.Lib.ItoaNum
import Derived.Lib.AtoiAll
import Derived.Test.YtemjagdlbehboaaDoorNumText
namespace Go.Proofs.YtemjagdlbehboaaDoor

/-- A digit. -/
def isDig (c : UInt8) : Prop := 48 ≤ c.toNat ∧ c.toNat ≤ 57
def stepV (a : Nat) (c : UInt8) : Nat := a * 10 + (c.toNat - 48)
/-- What the digits spell. -/
def valL (l : List UInt8) : Nat := l.foldl stepV 0
theorem valL_snoc (l : List UInt8) (c : UInt8) : valL (l ++ [c]) = valL l * 10 + (c.toNat - 48) := by simp [valL, stepV]
theorem fold_ge (l : List UInt8) : ∀ a, a ≤ l.foldl stepV a := by
  induction l with
  | nil => intro a; exact Nat.le_refl _
  | cons c l ih =>
    intro a
    have h1 := ih (stepV a c)
    have h2 : a ≤ stepV a c := by unfold stepV; omega
    exact Nat.le_trans h2 h1
theorem valL_take (l : List UInt8) (k : Nat) : valL (l.take k) ≤ valL l := by
  have e : valL l = (l.drop k).foldl stepV (valL (l.take k)) := by
    unfold valL
    rw [← List.foldl_append, List.take_append_drop]
  rw [e]
  exact fold_ge _ _
theorem dec_dig (n : Nat) : (∀ c ∈ Lib.decDigits n, isDig c) ∧ valL (Lib.decDigits n) = n := by
  induction n using Nat.strongRecOn with
  | ind n ih =>
    by_cases hs : n < 10
    · rw [dec_small hs]
      have e : (UInt8.ofNat (48 + n)).toNat = 48 + n := by simp; omega
      refine ⟨fun c hc => ?_, ?_⟩
      · obtain rfl := List.mem_singleton.1 hc
        unfold isDig
        rw [e]
        omega
      · simp only [valL, List.foldl_cons, List.foldl_nil, stepV, e]
        omega
    · obtain ⟨h1, h2⟩ := ih (n / 10) (by omega)
      rw [dec_big (by omega)]
      have e : (UInt8.ofNat (48 + n % 10)).toNat = 48 + n % 10 := by simp; omega
      refine ⟨fun c hc => ?_, ?_⟩
      · rcases List.mem_append.1 hc with hc | hc
        · exact h1 c hc
        · obtain rfl := List.mem_singleton.1 hc
          unfold isDig
          rw [e]
          omega
      · rw [valL_snoc, h2, e]
        omega
theorem dec_ne (n : Nat) : Lib.decDigits n ≠ [] := by
  intro h
  by_cases hs : n < 10
  · rw [dec_small hs] at h; cases h
  · rw [dec_big (by omega)] at h; simp at h
theorem parse_fold (l : List UInt8) : ∀ a, (∀ c ∈ l, isDig c) → l.foldl stepV a ≤ 1152921504606846975 → Lib.parseUint10 a l = .ok (l.foldl stepV a) := by
  induction l with
  | nil => intro a _ _; rfl
  | cons c l ih =>
    intro a hd hv
    have hc := hd c (List.mem_cons_self)
    have hge := fold_ge l (stepV a c)
    have hv' : l.foldl stepV (stepV a c) ≤ 1152921504606846975 := hv
    have hs : stepV a c = a * 10 + (c.toNat - 48) := rfl
    obtain ⟨c0, c1⟩ := hc
    rw [Lib.parseUint10, if_pos ⟨c0, c1⟩, if_neg (by omega), if_neg (by omega)]
    exact ih _ (fun x hx => hd x (List.mem_cons_of_mem _ hx)) hv'
/-- The numeral of a number is read back. -/
theorem atoi_dec (n : Nat) (hn : n ≤ 1152921504606846975) : Lib.atoiAll (Lib.decDigits n) = .ok (n : Int) := by
  obtain ⟨hd, hv⟩ := dec_dig n
  rcases hl : Lib.decDigits n with _ | ⟨c, r⟩
  · exact absurd hl (dec_ne n)
  · rw [hl] at hd hv
    have hc := hd c (List.mem_cons_self)
    unfold isDig at hc
    have hp : Lib.parseMag (c :: r) = .ok n := by
      rw [Lib.parseMag, if_neg (by simp), parse_fold _ 0 hd (by unfold valL at hv; omega)]
      unfold valL at hv
      rw [hv]
    have h1 : ¬ (c.toNat = 43 ∨ c.toNat = 45) := by omega
    have h2 : ¬ c.toNat = 45 := by omega
    simp only [Lib.atoiAll, if_neg h1, hp]
    rw [if_neg (by omega), if_neg (by simp [h2]), if_neg h2]
/-- What TextNum answers. -/
def isCan (l : List UInt8) : Prop := valL l ≤ 1152921504606846975 ∧ Lib.decDigits (valL l) = l
instance (l : List UInt8) : Decidable (isCan l) := by unfold isCan; infer_instance
def tnN (l : List UInt8) : Int := if isCan l then (valL l : Int) else 0
def tnB (l : List UInt8) : Bool := decide (isCan l)
theorem tn_yes {l : List UInt8} (h : isCan l) : tnN l = (valL l : Int) ∧ tnB l = true := ⟨if_pos h, by simp [tnB, h]⟩
theorem tn_no {l : List UInt8} (h : ¬ isCan l) : tnN l = 0 ∧ tnB l = false := ⟨if_neg h, by simp [tnB, h]⟩
/-- The numeral of n is l: just then l is a canonical numeral, and of n. -/
theorem can_of {n : Nat} {l : List UInt8} (hn : n ≤ 1152921504606846975) (h : Lib.decDigits n = l) : isCan l ∧ valL l = n := by
  have e : valL l = n := by rw [← h]; exact (dec_dig n).2
  exact ⟨⟨by omega, by rw [e]; exact h⟩, e⟩
theorem can_dig {l : List UInt8} (h : isCan l) : ∀ c ∈ l, isDig c := by
  have := (dec_dig (valL l)).1
  rw [h.2] at this
  exact this
theorem can_len {l : List UInt8} (h : isCan l) : 0 < l.length ∧ l.length ≤ 19 := by
  have h1 := dec_len 18 (valL l) (by have := h.1; omega)
  rw [h.2] at h1
  refine ⟨?_, by omega⟩
  rcases l with _ | ⟨c, r⟩
  · exact absurd h.2 (dec_ne _)
  · simp
theorem numL_can {l : List UInt8} (h : isCan l) : numL (valL l : Int) = l := by rw [numL_yes h.1, h.2]
/-- A text that is not empty is NumText of v: just then it is canonical, and v its number. -/
theorem can_of_numL {v : Int} {l : List UInt8} (hl : l ≠ []) (h : numL v = l) : isCan l ∧ (valL l : Int) = v := by
  unfold numL at h
  split at h
  · rename_i hv
    obtain ⟨a, b⟩ := can_of (n := v.toNat) (by omega) h
    exact ⟨a, by rw [b]; omega⟩
  · exact absurd h.symm hl
end Go.Proofs.YtemjagdlbehboaaDoor
