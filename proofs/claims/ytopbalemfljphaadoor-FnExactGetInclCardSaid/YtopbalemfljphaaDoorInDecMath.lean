/- What GetIncl reads, part by part up to the first error: plain functions of the place p and the error e. -/
import Derived.Test.YtopbalemfljphaaDoorTxMath
import Derived.Test.YtopbalemfljphaaDoorQcDecMath
import Derived.Test.YtopbalemfljphaaDoorPathLen
import Derived.Test.YtopbalemfljphaaDoorDecS
namespace Go.Proofs.YtopbalemfljphaaDoor

/-- What GetIncl reads of l from place p on under limits b (a text's bytes), c (texts), the error e being there already. -/
structure InAt where
  x : Int
  y : Int
  z : Int
  t : List UInt8
  L : List (List UInt8)
  p : Int
  e : Int
/-- The text is known. -/
def inRest (l : List UInt8) (x y z : Int) (t : List UInt8) (p4 e4 : Int) : InAt := if e4 = 0 then ⟨x, y, z, t, (tagsAt l p4 0 (plenZ z y).toNat).1, (tagsAt l p4 0 (plenZ z y).toNat).2.1, (tagsAt l p4 0 (plenZ z y).toNat).2.2⟩ else ⟨x, y, z, t, [], p4, e4⟩
def inAt (l : List UInt8) (b c p e : Int) : InAt :=
  let x := nV l p e; let p1 := nP l p e; let e1 := nE l p e
  let y := nV l p1 e1; let p2 := nP l p1 e1; let f2 := nE l p1 e1
  let g2 := fE f2 (!(y == 0)) 5; let e2 := fE g2 (decide (y ≤ c)) 3
  let z := nV l p2 e2; let p3 := nP l p2 e2; let f3 := nE l p2 e2
  let e3 := fE f3 (decide (z < y)) 5
  inRest l x y z (tV l b p3 e3) (tP l b p3 e3) (tE l b p3 e3)
section
variable {l : List UInt8} {p e : Int}
/-- An error stays. -/
theorem tagsAt_err {j : Nat} (h : (tagsAt l p e j).2.2 ≠ 0) : ∀ m, (tagsAt l p e (j + m)).2.2 = (tagsAt l p e j).2.2
  | 0 => rfl
  | m + 1 => by
    have ih := tagsAt_err h m
    show rE l 32 (tagsAt l p e (j + m)).2.1 (tagsAt l p e (j + m)).2.2 = _
    rw [rE_no (by rw [ih]; exact h), ih]
end
theorem plenN_le : ∀ (f n i : Nat), n ≤ f → i < n → plenN i n + 1 ≤ n
  | 0, n, i, h, hi => by omega
  | f + 1, n, i, h, hi => by
    by_cases h2 : n < 2
    · rw [plenN_small h2 hi]
      omega
    · have hp := splitN_pos (n := n) (by omega)
      have hl := splitN_lt (n := n) (by omega)
      by_cases hs : i < splitN n
      · rw [plenN_left (by omega) hs]
        have := plenN_le f (splitN n) i (by omega) hs
        omega
      · rw [plenN_right (by omega) (by omega) hi]
        have := plenN_le f (n - splitN n) (i - splitN n) (by omega) (by omega)
        omega
theorem plenZ_lo (z y : Int) : 0 ≤ plenZ z y := by
  unfold plenZ
  split <;> omega
theorem plenZ_le (z y : Int) : plenZ z y ≤ 1048576 ∧ (plenZ z y = 0 ∨ plenZ z y < y) := by
  unfold plenZ
  split
  · rename_i h
    have h1 := of_decide_eq_true (show decide (1 ≤ y ∧ y ≤ 1048576 ∧ 0 ≤ z ∧ z < y) = true from h)
    have := plenN_le y.toNat y.toNat z.toNat (Nat.le_refl _) (by omega)
    omega
  · omega
/-- The result: a proof of inclusion and the place behind it, or the error. -/
def giX (r : InAt) : Int := if r.e = 0 then r.x else 0
def giY (r : InAt) : Int := if r.e = 0 then r.y else 0
def giZ (r : InAt) : Int := if r.e = 0 then r.z else 0
def giT (r : InAt) : List UInt8 := if r.e = 0 then r.t else []
def giL (r : InAt) : List (List UInt8) := if r.e = 0 then r.L else []
def giP (r : InAt) : Int := if r.e = 0 then r.p else 0
theorem gi_all {r : InAt} (h : r.e = 0) : giX r = r.x ∧ giY r = r.y ∧ giZ r = r.z ∧ giT r = r.t ∧ giL r = r.L ∧ giP r = r.p := ⟨if_pos h, if_pos h, if_pos h, if_pos h, if_pos h, if_pos h⟩
theorem gi_none {r : InAt} (h : r.e ≠ 0) : giX r = 0 ∧ giY r = 0 ∧ giZ r = 0 ∧ giT r = [] ∧ giL r = [] ∧ giP r = 0 := ⟨if_neg h, if_neg h, if_neg h, if_neg h, if_neg h, if_neg h⟩
theorem giT_len (l : List UInt8) (b c p e : Int) : (giT (inAt l b c p e)).length ≤ l.length := by
  unfold giT
  split
  · show (inRest l _ _ _ _ _ _).t.length ≤ _
    unfold inRest
    split
    · exact tV_len _ _ _ _
    · exact tV_len _ _ _ _
  · exact Nat.zero_le _
theorem sum32 (l : List UInt8) (p e : Int) (j : Nat) (h : j ≤ 8) : sumL (tagsAt l p e j).1 ≤ 256 := by
  have := tagsAt_sum l p e j
  omega
theorem in_fE {e c : Int} {ok : Bool} (hc : c ≠ 0) (h : fE e ok c = 0) : e = 0 ∧ ok = true := by
  by_cases he : e = 0
  · subst he
    rw [fE_yes] at h
    cases ok with
    | true => exact ⟨rfl, rfl⟩
    | false => exact absurd h hc
  · rw [fE_no he] at h
    exact absurd h he
theorem in_nE {l : List UInt8} {p e : Int} (h : nE l p e = 0) : e = 0 := by
  by_cases he : e = 0
  · exact he
  · rw [nE_no he] at h
    exact h
theorem in_tE {l : List UInt8} {m p e : Int} (h : tE l m p e = 0) : e = 0 := by
  by_cases he : e = 0
  · exact he
  · rw [tE_no he] at h
    exact h
theorem giL_sum (l : List UInt8) (a b c d f p : Int) : sumL (giL (inAt l b c p (limE a b c d f))) ≤ 256 := by
  unfold giL
  split
  · show sumL (inRest l _ _ _ _ _ _).L ≤ 256
    unfold inRest
    split
    · rename_i h4
      have h3 := in_fE (by decide) (in_tE h4)
      have h2 := in_fE (by decide) (in_nE h3.1)
      have h1 := in_fE (by decide) h2.1
      have h0 := in_nE (in_nE h1.1)
      have hy := of_decide_eq_true h2.2
      have hc : c ≤ 8 := by
        unfold limE at h0
        split at h0
        · rename_i hl
          exact (limB_yes hl).2.2.1.2
        · cases h0
      refine sum32 l _ _ _ ?_
      have := (plenZ_le (nV l (nP l (nP l p (limE a b c d f)) (nE l p (limE a b c d f))) (fE (fE (nE l (nP l p (limE a b c d f)) (nE l p (limE a b c d f))) (!(nV l (nP l p (limE a b c d f)) (nE l p (limE a b c d f)) == 0)) 5) (decide (nV l (nP l p (limE a b c d f)) (nE l p (limE a b c d f)) ≤ c)) 3)) (nV l (nP l p (limE a b c d f)) (nE l p (limE a b c d f)))).2
      omega
    · exact Nat.zero_le _
  · exact Nat.zero_le _
end Go.Proofs.YtopbalemfljphaaDoor
