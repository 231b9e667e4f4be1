/- What GetQc reads, part by part up to the first error: plain functions of the place p and the error e. -/
import Derived.Test.YtopbalemfljphaaDoorDecMath
import Derived.Test.YtopbalemfljphaaDoorGetBits
namespace Go.Proofs.YtopbalemfljphaaDoor

/-- A bitmap under limits of n signers: what it is, the place and the error behind it. -/
def bV (l : List UInt8) (n p e : Int) : List UInt8 := if e = 0 then (gb l p n).1 else []
def bP (l : List UInt8) (n p e : Int) : Int := if e = 0 then (gb l p n).2.1 else p
def bE (l : List UInt8) (n p e : Int) : Int := if e = 0 then (gb l p n).2.2 else e
/-- j hashes, one behind the other. -/
def tagsAt (l : List UInt8) (p e : Int) : Nat → List (List UInt8) × Int × Int
  | 0 => ([], p, e)
  | j + 1 => ((tagsAt l p e j).1 ++ [rV l 32 (tagsAt l p e j).2.1 (tagsAt l p e j).2.2], rP l 32 (tagsAt l p e j).2.1 (tagsAt l p e j).2.2, rE l 32 (tagsAt l p e j).2.1 (tagsAt l p e j).2.2)
section
variable {l : List UInt8} {n p e : Int}
theorem bV_yes : bV l n p 0 = (gb l p n).1 := if_pos rfl
theorem bP_yes : bP l n p 0 = (gb l p n).2.1 := if_pos rfl
theorem bE_yes : bE l n p 0 = (gb l p n).2.2 := if_pos rfl
theorem bV_no (h : e ≠ 0) : bV l n p e = [] := if_neg h
theorem bP_no (h : e ≠ 0) : bP l n p e = p := if_neg h
theorem bE_no (h : e ≠ 0) : bE l n p e = e := if_neg h
theorem bV_len (l : List UInt8) (n p e : Int) : (bV l n p e).length ≤ l.length := by
  unfold bV
  split
  · exact gb_len l p n
  · simp
theorem bP_hi (h : p ≤ 9223372036854775807) (hl : l.length ≤ 4294967296) (n e : Int) : bP l n p e ≤ 9223372036854775807 := by
  unfold bP gb
  split
  · split
    · split
      · rename_i hr
        have := hr.2.2
        split <;> simp only <;> omega
      · simp
    · simp
  · exact h
theorem range_cut (f : Nat → Bool) (n : Nat) (h : ∀ i, f i = true → i < n) : ∀ m, ((List.range m).filter f).length ≤ n ∧ ((List.range m).filter f).length ≤ m
  | 0 => by simp
  | m + 1 => by
    have ih := range_cut f n h m
    rw [List.range_succ, List.filter_append, List.length_append]
    cases hf : f m with
    | false =>
      simp [hf]
      omega
    | true =>
      have := h m hf
      simp [hf]
      omega
theorem okP_cnt {k : List UInt8} {n : Int} (h : okP k n) : 0 ≤ cntB k ∧ cntB k ≤ 10 := by
  obtain ⟨hn, hl, hz⟩ := h
  have hs := sizeB_ok hn
  have hc : (listN k).length ≤ n.toNat := by
    refine (range_cut (fun i => bitL k i) n.toNat (fun i hi => ?_) (8 * k.length)).1
    rcases Nat.lt_or_ge i n.toNat with h1 | h1
    · exact h1
    · exfalso
      by_cases h16 : i < 16
      · have := hz i h16 (by omega)
        rw [hi] at this
        cases this
      · have := bitL_far k i (by omega)
        rw [hi] at this
        cases this
  have := hn.2
  unfold cntB
  omega
theorem cnt_nil : cntB [] = 0 := rfl
theorem bV_cnt (l : List UInt8) (n p e : Int) : 0 ≤ cntB (bV l n p e) ∧ cntB (bV l n p e) ≤ 10 := by
  unfold bV
  split
  · unfold gb
    split
    · split
      · split
        · rename_i h
          exact okP_cnt h
        · simp [cnt_nil]
      · simp [cnt_nil]
    · simp [cnt_nil]
  · simp [cnt_nil]
theorem rV_len32 (l : List UInt8) (p e : Int) : (rV l 32 p e).length ≤ 32 := by
  unfold rV
  split
  · by_cases h : rawOk l p 32
    · rw [rawL_len_n h]; decide
    · rw [(raw_no h).1]; simp
  · simp
theorem tagsAt_len (l : List UInt8) (p e : Int) : ∀ j, (tagsAt l p e j).1.length = j
  | 0 => rfl
  | j + 1 => by simp [tagsAt, tagsAt_len l p e j]
theorem tagsAt_sum (l : List UInt8) (p e : Int) : ∀ j, sumL (tagsAt l p e j).1 ≤ 32 * j
  | 0 => by simp [tagsAt, sumL]
  | j + 1 => by
    have h1 := tagsAt_sum l p e j
    have h2 := rV_len32 l (tagsAt l p e j).2.1 (tagsAt l p e j).2.2
    simp only [tagsAt, sumL_app, sumL]
    omega
theorem tagsAt_hi (h : p ≤ 9223372036854775807) (hl : l.length ≤ 4294967296) (e : Int) : ∀ j, (tagsAt l p e j).2.1 ≤ 9223372036854775807
  | 0 => h
  | j + 1 => rP_hi (tagsAt_hi h hl e j) hl 32 _
end

/-- What GetQc reads of l from place p on under limits of n signers, the error e being there already. -/
structure QcAt where
  x : Int
  y : Int
  m : List UInt8
  k : List UInt8
  L : List (List UInt8)
  p : Int
  e : Int
def qcAt (l : List UInt8) (n p e : Int) : QcAt :=
  let p1 := nP l p e; let e1 := nE l p e
  let p2 := nP l p1 e1; let e2 := nE l p1 e1
  let p3 := rP l 32 p2 e2; let e3 := rE l 32 p2 e2
  let k := bV l n p3 e3; let p4 := bP l n p3 e3; let e4 := bE l n p3 e3
  let t := tagsAt l p4 e4 (cntB k).toNat
  { x := nV l p e, y := nV l p1 e1, m := rV l 32 p2 e2, k := k, L := t.1, p := t.2.1, e := t.2.2 }
/-- The result: a certificate and the place behind it, or the error. -/
def gqX (r : QcAt) : Int := if r.e = 0 then r.x else 0
def gqY (r : QcAt) : Int := if r.e = 0 then r.y else 0
def gqM (r : QcAt) : List UInt8 := if r.e = 0 then r.m else []
def gqK (r : QcAt) : List UInt8 := if r.e = 0 then r.k else []
def gqL (r : QcAt) : List (List UInt8) := if r.e = 0 then r.L else []
def gqP (r : QcAt) : Int := if r.e = 0 then r.p else 0
theorem gq_all {r : QcAt} (h : r.e = 0) : gqX r = r.x ∧ gqY r = r.y ∧ gqM r = r.m ∧ gqK r = r.k ∧ gqL r = r.L ∧ gqP r = r.p := ⟨if_pos h, if_pos h, if_pos h, if_pos h, if_pos h, if_pos h⟩
theorem gq_none {r : QcAt} (h : r.e ≠ 0) : gqX r = 0 ∧ gqY r = 0 ∧ gqM r = [] ∧ gqK r = [] ∧ gqL r = [] ∧ gqP r = 0 := ⟨if_neg h, if_neg h, if_neg h, if_neg h, if_neg h, if_neg h⟩
theorem gqM_len (l : List UInt8) (n p e : Int) : (gqM (qcAt l n p e)).length ≤ l.length := by
  unfold gqM
  split
  · exact rV_len l 32 _ _
  · simp
theorem gqK_len (l : List UInt8) (n p e : Int) : (gqK (qcAt l n p e)).length ≤ l.length := by
  unfold gqK
  split
  · exact bV_len l n _ _
  · simp
theorem gqL_sum (l : List UInt8) (n p e : Int) : sumL (gqL (qcAt l n p e)) ≤ 320 := by
  unfold gqL
  split
  · show sumL (tagsAt l _ _ (cntB (bV l n _ _)).toNat).1 ≤ 320
    refine Nat.le_trans (tagsAt_sum _ _ _ _) ?_
    have := bV_cnt l n (rP l 32 (nP l (nP l p e) (nE l p e)) (nE l (nP l p e) (nE l p e))) (rE l 32 (nP l (nP l p e) (nE l p e)) (nE l (nP l p e) (nE l p e)))
    omega
  · simp [sumL]
end Go.Proofs.YtopbalemfljphaaDoor
