/- What a decoder reads, part by part up to the first error: plain functions of its place p and its error e. No program is named here. -/
import Derived.Test.YtopbalemfljphaaDoorVarMath
namespace Go.Proofs.YtopbalemfljphaaDoor

theorem gvF_lo (l : List UInt8) (a : Nat) : ∀ f i n, 0 ≤ (gvF l a f i n).1
  | 0, _, _ => by simp [gvF]
  | f + 1, i, n => by
    rw [gvF]
    split
    · simp
    split
    · simp
    split
    · split
      · simp
      · simp only
        omega
    · exact gvF_lo l a f _ _
theorem getV_lo (l : List UInt8) (a : Int) : 0 ≤ (getV l a).1 := by
  unfold getV
  split
  · simp
  · exact gvF_lo l _ _ _ _
theorem gvF_at (l : List UInt8) (a : Nat) : ∀ f i n, (gvF l a f i n).2.1 ≤ (l.length : Int)
  | 0, _, _ => by simp [gvF]
  | f + 1, i, n => by
    rw [gvF]
    split
    · simp
    split
    · simp
    split
    · split
      · simp
      · simp only
        omega
    · exact gvF_at l a f _ _
theorem getV_at_le (l : List UInt8) (a : Int) : (getV l a).2.1 ≤ (l.length : Int) := by
  unfold getV
  split
  · simp
  · exact gvF_at l _ _ _ _

/-- A number: what it is, the place and the error behind it. -/
def nV (l : List UInt8) (p e : Int) : Int := if e = 0 then (getV l p).1 else 0
def nP (l : List UInt8) (p e : Int) : Int := if e = 0 then (getV l p).2.1 else p
def nE (l : List UInt8) (p e : Int) : Int := if e = 0 then (getV l p).2.2 else e
/-- k bytes. -/
def rV (l : List UInt8) (k p e : Int) : List UInt8 := if e = 0 then rawL l p k else []
def rP (l : List UInt8) (k p e : Int) : Int := if e = 0 then rawN l p k else p
def rE (l : List UInt8) (k p e : Int) : Int := if e = 0 then rawE l p k else e
/-- The error behind a test: the first stays. -/
def fE (e : Int) (ok : Bool) (c : Int) : Int := if e = 0 then (if ok then 0 else c) else e
section
variable {l : List UInt8} {p e k : Int}
theorem nV_yes : nV l p 0 = (getV l p).1 := if_pos rfl
theorem nP_yes : nP l p 0 = (getV l p).2.1 := if_pos rfl
theorem nE_yes : nE l p 0 = (getV l p).2.2 := if_pos rfl
theorem nV_no (h : e ≠ 0) : nV l p e = 0 := if_neg h
theorem nP_no (h : e ≠ 0) : nP l p e = p := if_neg h
theorem nE_no (h : e ≠ 0) : nE l p e = e := if_neg h
theorem rV_yes : rV l k p 0 = rawL l p k := if_pos rfl
theorem rP_yes : rP l k p 0 = rawN l p k := if_pos rfl
theorem rE_yes : rE l k p 0 = rawE l p k := if_pos rfl
theorem rV_no (h : e ≠ 0) : rV l k p e = [] := if_neg h
theorem rP_no (h : e ≠ 0) : rP l k p e = p := if_neg h
theorem rE_no (h : e ≠ 0) : rE l k p e = e := if_neg h
theorem fE_yes (ok : Bool) (c : Int) : fE 0 ok c = if ok then 0 else c := if_pos rfl
theorem fE_no (h : e ≠ 0) (ok : Bool) (c : Int) : fE e ok c = e := if_neg h
theorem nV_lo (l : List UInt8) (p e : Int) : 0 ≤ nV l p e := by
  unfold nV
  split
  · exact getV_lo l p
  · omega
theorem rV_len (l : List UInt8) (k p e : Int) : (rV l k p e).length ≤ l.length := by
  unfold rV
  split
  · exact rawL_len l p k
  · simp
theorem nP_hi (h : p ≤ 9223372036854775807) (hl : l.length ≤ 4294967296) (e : Int) : nP l p e ≤ 9223372036854775807 := by
  unfold nP
  split
  · have := getV_at_le l p; omega
  · exact h
theorem rP_hi (h : p ≤ 9223372036854775807) (hl : l.length ≤ 4294967296) (k e : Int) : rP l k p e ≤ 9223372036854775807 := by
  unfold rP
  split
  · unfold rawN
    split
    · rename_i h1
      have := h1.2.2
      omega
    · omega
  · exact h
end
end Go.Proofs.YtopbalemfljphaaDoor
