/- What GetProof reads, part by part up to the first error: plain functions of the place p and the error e. -/
import Derived.Test.YtopbalemfljphaaDoorHdM
import Derived.Test.YtopbalemfljphaaDoorLastB
import Derived.Test.YtopbalemfljphaaDoorErrMath
import Derived.Test.YtopbalemfljphaaDoorDecS
namespace Go.Proofs.YtopbalemfljphaaDoor

/-- A header that has been read. -/
def htOf (r : HdAt) : Ht := ⟨r.x, r.y, r.z, r.m, r.k, r.q.x, r.q.y, r.q.m, r.q.k, r.q.L⟩
/-- j headers, one behind the other. -/
def hdsAt (l : List UInt8) (n p e : Int) : Nat → List Ht × Int × Int
  | 0 => ([], p, e)
  | j + 1 => ((hdsAt l n p e j).1 ++ [htOf (hdAt l n (hdsAt l n p e j).2.1 (hdsAt l n p e j).2.2)], (hdAt l n (hdsAt l n p e j).2.1 (hdsAt l n p e j).2.2).q.p, (hdAt l n (hdsAt l n p e j).2.1 (hdsAt l n p e j).2.2).e)
section
variable {l : List UInt8} {n p e : Int}
theorem qcAt_err (h : e ≠ 0) : (qcAt l n p e).e = e := by
  unfold qcAt
  simp only [nE_no h, nP_no h, rE_no h, rP_no h, bE_no h, bP_no h]
  have k := tagsAt_err (l := l) (p := p) (e := e) (j := 0) h (cntB (bV l n p e)).toNat
  rw [Nat.zero_add] at k
  exact k
theorem hdAt_err (h : e ≠ 0) : (hdAt l n p e).e = e := by
  unfold hdAt
  simp only [nE_no h, nP_no h, rE_no h, rP_no h, fE_no h]
  rw [qcAt_err h, fE_no h]
theorem hdsAt_len (l : List UInt8) (n p e : Int) : ∀ j, (hdsAt l n p e j).1.length = j
  | 0 => rfl
  | j + 1 => by simp [hdsAt, hdsAt_len l n p e j]
theorem hdsAt_err {j : Nat} (h : (hdsAt l n p e j).2.2 ≠ 0) : ∀ m, (hdsAt l n p e (j + m)).2.2 = (hdsAt l n p e j).2.2
  | 0 => rfl
  | m + 1 => by
    have ih := hdsAt_err h m
    show (hdAt l n (hdsAt l n p e (j + m)).2.1 (hdsAt l n p e (j + m)).2.2).e = _
    rw [hdAt_err (by rw [ih]; exact h), ih]
theorem hdsAt_zero {j : Nat} (h : (hdsAt l n p e j).2.2 = 0) : e = 0 := by
  by_cases he : e = 0
  · exact he
  · have k := hdsAt_err (l := l) (n := n) (p := p) (e := e) (j := 0) he j
    rw [Nat.zero_add, h] at k
    exact absurd k.symm he
theorem qcAt_hi (h : p ≤ 9223372036854775807) (hl : l.length ≤ 4294967296) (n e : Int) : (qcAt l n p e).p ≤ 9223372036854775807 := by
  unfold qcAt
  simp only
  exact tagsAt_hi (bP_hi (rP_hi (nP_hi (nP_hi h hl _) hl _) hl _ _) hl _ _) hl _ _
theorem hdAt_hi (h : p ≤ 9223372036854775807) (hl : l.length ≤ 4294967296) (n e : Int) : (hdAt l n p e).q.p ≤ 9223372036854775807 := by
  unfold hdAt
  simp only
  exact qcAt_hi (rP_hi (rP_hi (nP_hi (nP_hi (nP_hi h hl _) hl _) hl _) hl _ _) hl _ _) hl _ _
theorem hdsAt_hi (h : p ≤ 9223372036854775807) (hl : l.length ≤ 4294967296) (n e : Int) : ∀ j, (hdsAt l n p e j).2.1 ≤ 9223372036854775807
  | 0 => h
  | j + 1 => hdAt_hi (hdsAt_hi h hl n e j) hl n _
theorem hdAt_mk (l : List UInt8) (n p e : Int) : mkT (htOf (hdAt l n p e)) ≤ l.length + 421 := by
  have h1 : (hdAt l n p e).m.length ≤ 32 := rV_len32 l _ _
  have h2 : (hdAt l n p e).k.length ≤ 32 := rV_len32 l _ _
  have h3 : (hdAt l n p e).q.m.length ≤ 32 := rV_len32 l _ _
  have h4 : (hdAt l n p e).q.k.length ≤ l.length := qcAt_k l n _ _
  have h5 : sumL (hdAt l n p e).q.L ≤ 320 := qcAt_L l n _ _
  unfold mkT htOf
  simp only
  omega
theorem hdsAt_mk (l : List UInt8) (n p e : Int) : ∀ j, mkH (hdsAt l n p e j).1 ≤ j * (l.length + 421)
  | 0 => by simp [hdsAt, mkH]
  | j + 1 => by
    have h1 := hdsAt_mk l n p e j
    have h2 := hdAt_mk l n (hdsAt l n p e j).2.1 (hdsAt l n p e j).2.2
    show mkH ((hdsAt l n p e j).1 ++ [htOf (hdAt l n (hdsAt l n p e j).2.1 (hdsAt l n p e j).2.2)]) ≤ _
    rw [mkH_app, Nat.add_mul]
    simp only [mkH]
    omega
end
/-- What GetProof reads of l from place p on under limits of a signers and f headers, the error e being there already. -/
structure PfAt where
  M : List Ht
  q : QcAt
  e : Int
def pfE (l : List UInt8) (f p e : Int) : Int := fE (fE (nE l p e) (decide (3 ≤ nV l p e)) 5) (decide (nV l p e ≤ f)) 3
def pfN (c e2 : Int) : Nat := if e2 = 0 then c.toNat else 0
/-- The headers are known. -/
def pfRest (l : List UInt8) (a : Int) (h : List Ht × Int × Int) : PfAt := ⟨h.1, qcAt l a h.2.1 h.2.2, fE (qcAt l a h.2.1 h.2.2).e (lastB h.1 (qcAt l a h.2.1 h.2.2).x (qcAt l a h.2.1 h.2.2).y) 6⟩
def pfAt (l : List UInt8) (a f p e : Int) : PfAt := pfRest l a (hdsAt l a (nP l p e) (pfE l f p e) (pfN (nV l p e) (pfE l f p e)))
theorem pfRest_err {l : List UInt8} {a : Int} {h : List Ht × Int × Int} (he : h.2.2 ≠ 0) : (pfRest l a h).e = h.2.2 := by
  unfold pfRest
  simp only
  rw [qcAt_err he, fE_no he]
/-- The result: a commit proof and the place behind it, or the error. -/
def gpM (r : PfAt) : List Ht := if r.e = 0 then r.M else []
def gpX (r : PfAt) : Int := if r.e = 0 then r.q.x else 0
def gpY (r : PfAt) : Int := if r.e = 0 then r.q.y else 0
def gpA (r : PfAt) : List UInt8 := if r.e = 0 then r.q.m else []
def gpB (r : PfAt) : List UInt8 := if r.e = 0 then r.q.k else []
def gpL (r : PfAt) : List (List UInt8) := if r.e = 0 then r.q.L else []
def gpP (r : PfAt) : Int := if r.e = 0 then r.q.p else 0
theorem gp_all {r : PfAt} (h : r.e = 0) : gpM r = r.M ∧ gpX r = r.q.x ∧ gpY r = r.q.y ∧ gpA r = r.q.m ∧ gpB r = r.q.k ∧ gpL r = r.q.L ∧ gpP r = r.q.p := ⟨if_pos h, if_pos h, if_pos h, if_pos h, if_pos h, if_pos h, if_pos h⟩
theorem gp_none {r : PfAt} (h : r.e ≠ 0) : gpM r = [] ∧ gpX r = 0 ∧ gpY r = 0 ∧ gpA r = [] ∧ gpB r = [] ∧ gpL r = [] ∧ gpP r = 0 := ⟨if_neg h, if_neg h, if_neg h, if_neg h, if_neg h, if_neg h, if_neg h⟩
theorem gpA_len (l : List UInt8) (a f p e : Int) : (gpA (pfAt l a f p e)).length ≤ l.length := by
  unfold gpA
  split
  · exact qcAt_m l a _ _
  · exact Nat.zero_le _
theorem gpB_len (l : List UInt8) (a f p e : Int) : (gpB (pfAt l a f p e)).length ≤ l.length := by
  unfold gpB
  split
  · exact qcAt_k l a _ _
  · exact Nat.zero_le _
theorem gpL_sum (l : List UInt8) (a f p e : Int) : sumL (gpL (pfAt l a f p e)) ≤ 320 := by
  unfold gpL
  split
  · exact qcAt_L l a _ _
  · exact Nat.zero_le _
theorem pf_count {l : List UInt8} {a b c d f p : Int} (h : pfE l f p (limE a b c d f) = 0) : 3 ≤ nV l p (limE a b c d f) ∧ nV l p (limE a b c d f) ≤ 5 ∧ limE a b c d f = 0 := by
  unfold pfE at h
  have h1 := in_fE (by decide) h
  have h2 := in_fE (by decide) h1.1
  have h0 := in_nE h2.1
  have h3 := of_decide_eq_true h1.2
  have h4 := of_decide_eq_true h2.2
  have h5 : f ≤ 5 := by
    unfold limE at h0
    split at h0
    · rename_i hl
      exact (limB_yes hl).2.2.2.2.2
    · cases h0
  exact ⟨h4, by omega, h0⟩
theorem gpM_mk (l : List UInt8) (a b c d f p : Int) : mkH (gpM (pfAt l a f p (limE a b c d f))) ≤ 5 * l.length + 2105 := by
  unfold gpM
  split
  · have h := hdsAt_mk l a (nP l p (limE a b c d f)) (pfE l f p (limE a b c d f)) (pfN (nV l p (limE a b c d f)) (pfE l f p (limE a b c d f)))
    have hN : pfN (nV l p (limE a b c d f)) (pfE l f p (limE a b c d f)) ≤ 5 := by
      unfold pfN
      split
      · rename_i h2
        have := (pf_count h2).2.1
        omega
      · omega
    have h3 := Nat.mul_le_mul_right (l.length + 421) hN
    show mkH (hdsAt l a (nP l p (limE a b c d f)) (pfE l f p (limE a b c d f)) (pfN (nV l p (limE a b c d f)) (pfE l f p (limE a b c d f)))).1 ≤ _
    omega
  · exact Nat.zero_le _
end Go.Proofs.YtopbalemfljphaaDoor
