/- What GetTc reads, part by part up to the first error: plain functions of the place p and the error e. -/
import Derived.Test.YtickneafppbegaaDoorDecMath
import Derived.Test.YtickneafppbegaaDoorTcM
import Derived.Test.YtickneafppbegaaDoorDecS
namespace Go.Proofs.YtickneafppbegaaDoor

/-- One entry more: under n signers, in view x; the entries so far, the place, the error. -/
def entStep (l : List UInt8) (n x : Int) (s : List Et × Int × Int) : List Et × Int × Int :=
  let z := nV l s.2.1 s.2.2; let p1 := nP l s.2.1 s.2.2; let e1 := nE l s.2.1 s.2.2
  let e2 := fE e1 (isIn z n) 5
  let e3 := fE e2 (nextB s.1 z) 6
  let y := nV l p1 e3; let p2 := nP l p1 e3; let e4 := nE l p1 e3
  let e5 := fE e4 (decide (y < x)) 6
  (s.1 ++ [⟨z, y, rV l 32 p2 e5⟩], rP l 32 p2 e5, rE l 32 p2 e5)
/-- k entries, one behind the other. -/
def entsAt (l : List UInt8) (n x p e : Int) : Nat → List Et × Int × Int
  | 0 => ([], p, e)
  | k + 1 => entStep l n x (entsAt l n x p e k)
section
variable {l : List UInt8} {n x p e : Int}
theorem entsAt_len (l : List UInt8) (n x p e : Int) : ∀ k, (entsAt l n x p e k).1.length = k
  | 0 => rfl
  | k + 1 => by
    have := entsAt_len l n x p e k
    simp [entsAt, entStep, this]
theorem rV_le32 (l : List UInt8) (p e : Int) : (rV l 32 p e).length ≤ 32 := by
  unfold rV
  split
  · by_cases h : rawOk l p 32
    · rw [rawL_len_n h]; decide
    · rw [(raw_no h).1]; simp
  · simp
theorem entsAt_vol (l : List UInt8) (n x p e : Int) : ∀ k, volE (entsAt l n x p e k).1 ≤ 32 * k
  | 0 => by simp [entsAt, volE]
  | k + 1 => by
    have h1 := entsAt_vol l n x p e k
    show volE ((entsAt l n x p e k).1 ++ [_]) ≤ 32 * (k + 1)
    rw [volE_app]
    simp only [volE]
    have h2 := rV_le32 l (nP l (nP l (entsAt l n x p e k).2.1 (entsAt l n x p e k).2.2) (fE (fE (nE l (entsAt l n x p e k).2.1 (entsAt l n x p e k).2.2) (isIn (nV l (entsAt l n x p e k).2.1 (entsAt l n x p e k).2.2) n) 5) (nextB (entsAt l n x p e k).1 (nV l (entsAt l n x p e k).2.1 (entsAt l n x p e k).2.2)) 6)) (fE (nE l (nP l (entsAt l n x p e k).2.1 (entsAt l n x p e k).2.2) (fE (fE (nE l (entsAt l n x p e k).2.1 (entsAt l n x p e k).2.2) (isIn (nV l (entsAt l n x p e k).2.1 (entsAt l n x p e k).2.2) n) 5) (nextB (entsAt l n x p e k).1 (nV l (entsAt l n x p e k).2.1 (entsAt l n x p e k).2.2)) 6)) (decide (nV l (nP l (entsAt l n x p e k).2.1 (entsAt l n x p e k).2.2) (fE (fE (nE l (entsAt l n x p e k).2.1 (entsAt l n x p e k).2.2) (isIn (nV l (entsAt l n x p e k).2.1 (entsAt l n x p e k).2.2) n) 5) (nextB (entsAt l n x p e k).1 (nV l (entsAt l n x p e k).2.1 (entsAt l n x p e k).2.2)) 6) < x)) 6)
    omega
theorem entsAt_hi (h : p ≤ 9223372036854775807) (hl : l.length ≤ 4294967296) (n x e : Int) : ∀ k, (entsAt l n x p e k).2.1 ≤ 9223372036854775807
  | 0 => h
  | k + 1 => rP_hi (nP_hi (nP_hi (entsAt_hi h hl n x e k) hl _) hl _) hl 32 _
theorem fE_zero {e c : Int} {ok : Bool} (hc : c ≠ 0) (h : fE e ok c = 0) : e = 0 ∧ ok = true := by
  by_cases he : e = 0
  · subst he
    rw [fE_yes] at h
    cases ok with
    | true => exact ⟨rfl, rfl⟩
    | false => exact absurd h hc
  · rw [fE_no he] at h
    exact absurd h he
theorem nE_zero (h : nE l p e = 0) : e = 0 := by
  by_cases he : e = 0
  · exact he
  · rw [nE_no he] at h
    exact h
theorem rE_zero (h : rE l 32 p e = 0) : e = 0 := by
  by_cases he : e = 0
  · exact he
  · rw [rE_no he] at h
    exact h
/-- No error behind an entry: none ahead of it, and it lies behind the others. -/
theorem entStep_zero {s : List Et × Int × Int} (h : (entStep l n x s).2.2 = 0) : s.2.2 = 0 ∧ nextB s.1 (nV l s.2.1 s.2.2) = true := by
  have h1 := (fE_zero (by decide) (rE_zero h)).1
  have h2 := fE_zero (by decide) (nE_zero h1)
  have h3 := fE_zero (by decide) h2.1
  exact ⟨nE_zero h3.1, h2.2⟩
/-- An error stays. -/
theorem entStep_err {s : List Et × Int × Int} (h : s.2.2 ≠ 0) : (entStep l n x s).2.2 = s.2.2 := by
  have h1 : nE l s.2.1 s.2.2 = s.2.2 := nE_no h
  show rE l 32 _ (fE (nE l _ (fE (fE (nE l s.2.1 s.2.2) _ 5) _ 6)) _ 6) = s.2.2
  rw [h1, fE_no h, fE_no h, nE_no h, fE_no h, rE_no h]
theorem entsAt_err {j : Nat} (h : (entsAt l n x p e j).2.2 ≠ 0) : ∀ m, (entsAt l n x p e (j + m)).2.2 = (entsAt l n x p e j).2.2
  | 0 => rfl
  | m + 1 => by
    have ih := entsAt_err h m
    show (entStep l n x (entsAt l n x p e (j + m))).2.2 = _
    rw [entStep_err (by rw [ih]; exact h), ih]
theorem Asc.snoc {L : List Et} {t : Et} (h : Asc L) (hn : nextB L t.x = true) : Asc (L ++ [t]) := fun i a b h1 h2 => by
  have hlt := (List.getElem?_eq_some_iff.1 h2).1
  rw [List.length_append, List.length_singleton] at hlt
  have hi : i < L.length := by omega
  rw [List.getElem?_append_left hi] at h1
  by_cases hi2 : i + 1 < L.length
  · rw [List.getElem?_append_left hi2] at h2
    exact h i a b h1 h2
  · have e : i + 1 = L.length := by omega
    rw [List.getElem?_append_right (by omega), e, Nat.sub_self] at h2
    simp at h2
    subst h2
    have e2 : L.take (i + 1) = L := by rw [e, List.take_length]
    have h3 := nextB_take h1 t.x
    rw [e2, hn] at h3
    exact of_decide_eq_true h3.symm
theorem entsAt_asc (l : List UInt8) (n x p e : Int) : ∀ k, (entsAt l n x p e k).2.2 = 0 → Asc (entsAt l n x p e k).1
  | 0, _ => fun i t t' h => by simp [entsAt] at h
  | k + 1, h => by
    have h1 := entStep_zero (s := entsAt l n x p e k) h
    exact (entsAt_asc l n x p e k h1.1).snoc h1.2
end

/-- What GetTc reads of l from place p on under limits of n signers, the error e being there already. -/
structure TcAt where
  x : Int
  L : List Et
  p : Int
  e : Int
/-- The number of entries is known. -/
def tcRest (l : List UInt8) (n x c p2 e3 : Int) : TcAt := if e3 = 0 then ⟨x, (entsAt l n x p2 0 c.toNat).1, (entsAt l n x p2 0 c.toNat).2.1, (entsAt l n x p2 0 c.toNat).2.2⟩ else ⟨x, [], p2, e3⟩
def tcAt (l : List UInt8) (n p e : Int) : TcAt :=
  let x := nV l p e; let p1 := nP l p e; let e1 := nE l p e
  let c := nV l p1 e1; let p2 := nP l p1 e1; let e2 := nE l p1 e1
  tcRest l n x c p2 (fE e2 (decide (c ≤ n)) 3)
/-- The result: a timeout certificate and the place behind it, or the error. -/
def gtX (r : TcAt) : Int := if r.e = 0 then r.x else 0
def gtL (r : TcAt) : List Et := if r.e = 0 then r.L else []
def gtP (r : TcAt) : Int := if r.e = 0 then r.p else 0
theorem gt_all {r : TcAt} (h : r.e = 0) : gtX r = r.x ∧ gtL r = r.L ∧ gtP r = r.p := ⟨if_pos h, if_pos h, if_pos h⟩
theorem gt_none {r : TcAt} (h : r.e ≠ 0) : gtX r = 0 ∧ gtL r = [] ∧ gtP r = 0 := ⟨if_neg h, if_neg h, if_neg h⟩
/-- The number of entries that are read at all. -/
theorem tcCount {a b c d f : Int} {l : List UInt8} {p : Int} (h : fE (nE l (nP l p (limE a b c d f)) (nE l p (limE a b c d f))) (decide (nV l (nP l p (limE a b c d f)) (nE l p (limE a b c d f)) ≤ a)) 3 = 0) : nV l (nP l p (limE a b c d f)) (nE l p (limE a b c d f)) ≤ 10 := by
  have h1 := fE_zero (by decide) h
  have h2 := of_decide_eq_true h1.2
  have h3 := nE_zero (nE_zero h1.1)
  unfold limE at h3
  split at h3
  · rename_i hl
    have := (limB_yes hl).1
    unfold cntOk at this
    omega
  · cases h3
theorem gtL_mk (l : List UInt8) (a b c d f p : Int) : mkE (gtL (tcAt l a p (limE a b c d f))) ≤ 340 ∧ volE (gtL (tcAt l a p (limE a b c d f))) ≤ 320 ∧ (gtL (tcAt l a p (limE a b c d f))).length ≤ 10 := by
  have key : volE (gtL (tcAt l a p (limE a b c d f))) ≤ 320 ∧ (gtL (tcAt l a p (limE a b c d f))).length ≤ 10 := by
    unfold gtL
    split
    · show volE (tcRest l a _ _ _ _).L ≤ 320 ∧ (tcRest l a _ _ _ _).L.length ≤ 10
      unfold tcRest
      split
      · rename_i h
        have h1 := tcCount h
        have h2 := entsAt_vol l a (nV l p (limE a b c d f)) (nP l (nP l p (limE a b c d f)) (nE l p (limE a b c d f))) 0 (nV l (nP l p (limE a b c d f)) (nE l p (limE a b c d f))).toNat
        have h3 := entsAt_len l a (nV l p (limE a b c d f)) (nP l (nP l p (limE a b c d f)) (nE l p (limE a b c d f))) 0 (nV l (nP l p (limE a b c d f)) (nE l p (limE a b c d f))).toNat
        simp only
        omega
      · simp [volE]
    · simp [volE]
  unfold mkE
  omega
end Go.Proofs.YtickneafppbegaaDoor
