/- What a decoder reads of transactions: texts of at most m bytes, one behind the other up to the first error. No program is named here. -/
import Derived.Test.YtopbalemfljphaaDoorGetText
import Derived.Test.YtopbalemfljphaaDoorDecMath
namespace Go.Proofs.YtopbalemfljphaaDoor

/-- A text of at most m bytes: what it is, the place and the error behind it. -/
def tV (l : List UInt8) (m p e : Int) : List UInt8 := if e = 0 then txL l p m else []
def tP (l : List UInt8) (m p e : Int) : Int := if e = 0 then txN l p m else p
def tE (l : List UInt8) (m p e : Int) : Int := if e = 0 then txE l p m else e
section
variable {l : List UInt8} {m p e : Int}
theorem tV_yes : tV l m p 0 = txL l p m := if_pos rfl
theorem tP_yes : tP l m p 0 = txN l p m := if_pos rfl
theorem tE_yes : tE l m p 0 = txE l p m := if_pos rfl
theorem tV_no (h : e ≠ 0) : tV l m p e = [] := if_neg h
theorem tP_no (h : e ≠ 0) : tP l m p e = p := if_neg h
theorem tE_no (h : e ≠ 0) : tE l m p e = e := if_neg h
theorem tV_len (l : List UInt8) (m p e : Int) : (tV l m p e).length ≤ l.length := by
  unfold tV
  split
  · exact txL_len l p m
  · simp
theorem rawL_most (l : List UInt8) (a n : Int) : ((rawL l a n).length : Int) ≤ max n 0 := by
  unfold rawL
  split
  · rename_i h
    simp only [List.length_take, List.length_drop]
    omega
  · simp only [List.length_nil]
    omega
theorem tV_most (hm : m ≤ 40) : (tV l m p e).length ≤ 40 := by
  unfold tV
  split
  · unfold txL
    split
    · simp
    · split
      · simp
      · have := rawL_most l (getV l p).2.1 (getV l p).1
        omega
  · simp
theorem tP_hi (h : p ≤ 9223372036854775807) (hl : l.length ≤ 4294967296) (m e : Int) : tP l m p e ≤ 9223372036854775807 := by
  unfold tP
  split
  · unfold txN
    split
    · omega
    · split
      · omega
      · unfold rawN
        split
        · rename_i h1
          have := h1.2.2
          omega
        · omega
  · exact h
end
/-- What has been read behind j texts: the texts, the place, the error; behind an error nothing more is read. -/
def txsAt (l : List UInt8) (m p e : Int) : Nat → List (List UInt8) × Int × Int
  | 0 => ([], p, e)
  | j + 1 => if (txsAt l m p e j).2.2 = 0 then ((txsAt l m p e j).1 ++ [txL l (txsAt l m p e j).2.1 m], txN l (txsAt l m p e j).2.1 m, txE l (txsAt l m p e j).2.1 m) else txsAt l m p e j
section
variable {l : List UInt8} {m p e : Int}
theorem txs_zero : txsAt l m p e 0 = ([], p, e) := rfl
theorem txs_more {j : Nat} {A : List (List UInt8)} {q : Int} (h : txsAt l m p e j = (A, q, 0)) : txsAt l m p e (j + 1) = (A ++ [txL l q m], txN l q m, txE l q m) := by
  rw [txsAt, h, if_pos rfl]
theorem txs_stay {j : Nat} (h : (txsAt l m p e j).2.2 ≠ 0) : ∀ k, j ≤ k → txsAt l m p e k = txsAt l m p e j
  | 0, hk => by rw [show j = 0 by omega]
  | k + 1, hk => by
    by_cases hj : j = k + 1
    · rw [hj]
    · have ih := txs_stay h k (by omega)
      rw [txsAt, ih, if_neg h]
theorem txs_sum (hm : m ≤ 40) (l : List UInt8) (p e : Int) : ∀ j, sumL (txsAt l m p e j).1 ≤ 40 * j ∧ (txsAt l m p e j).1.length ≤ j
  | 0 => by simp [txsAt, sumL]
  | j + 1 => by
    have ih := txs_sum hm l p e j
    rw [txsAt]
    split
    · have h := tV_most (l := l) (p := (txsAt l m p e j).2.1) (e := 0) hm
      rw [tV_yes] at h
      simp only [sumL_app, List.length_append, List.length_cons, List.length_nil]
      simp only [sumL]
      omega
    · omega
theorem txs_len {j : Nat} (h : (txsAt l m p e j).2.2 = 0) : (txsAt l m p e j).1.length = j := by
  induction j with
  | zero => rfl
  | succ j ih =>
    by_cases h0 : (txsAt l m p e j).2.2 = 0
    · rw [txsAt, if_pos h0]
      simp [ih h0]
    · rw [txs_stay h0 (j + 1) (by omega)] at h
      exact absurd h h0
theorem txs_hi (h : p ≤ 9223372036854775807) (hl : l.length ≤ 4294967296) : ∀ j, (txsAt l m p e j).2.1 ≤ 9223372036854775807
  | 0 => h
  | j + 1 => by
    have ih := txs_hi h hl j
    rw [txsAt]
    split
    · have := tP_hi (l := l) (p := (txsAt l m p e j).2.1) ih hl m 0
      rw [tP_yes] at this
      exact this
    · exact ih
end
end Go.Proofs.YtopbalemfljphaaDoor
