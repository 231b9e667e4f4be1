/- What GetHead reads, part by part up to the first error; what it answers. -/
import Derived.Test.YtopbalemfljphaaDoorHeadT
import Derived.Test.YtopbalemfljphaaDoorHeadM
import Derived.Test.YtopbalemfljphaaDoorFits
namespace Go.Proofs.YtopbalemfljphaaDoor
open Go.ChangeShapes Go.WideShapes Go.ChangeAt Go.RowKit

theorem gvF_hi (l : List UInt8) (a : Nat) : ∀ f i n, (gvF l a f i n).1 ≤ 1152921504606846975
  | 0, _, _ => by simp [gvF]
  | f + 1, i, n => by
    rw [gvF]
    split
    · simp
    split
    · simp
    split
    · split
      · simp
      · simp only
        omega
    · exact gvF_hi l a f _ _
theorem getV_hi (l : List UInt8) (a : Int) : (getV l a).1 ≤ 1152921504606846975 := by
  unfold getV
  split
  · simp
  · exact gvF_hi l _ _ _ _
theorem nV_hi (l : List UInt8) (p e : Int) : nV l p e ≤ 1152921504606846975 := by
  unfold nV
  split
  · exact getV_hi l p
  · omega

/-- What GetHead reads of l from place p on under limits of n signers, the error e being there already. -/
structure HdAt where
  x : Int
  y : Int
  z : Int
  m : List UInt8
  k : List UInt8
  q : QcAt
  e : Int
def hdAt (l : List UInt8) (n p e : Int) : HdAt :=
  let p1 := nP l p e; let e1 := nE l p e
  let y := nV l p1 e1; let p2 := nP l p1 e1; let e2 := fE (nE l p1 e1) (!(y == 0)) 5
  let z := nV l p2 e2; let p3 := nP l p2 e2; let e3 := fE (nE l p2 e2) (isIn z n) 5
  let m := rV l 32 p3 e3; let p4 := rP l 32 p3 e3; let e4 := rE l 32 p3 e3
  let k := rV l 32 p4 e4; let p5 := rP l 32 p4 e4; let e5 := rE l 32 p4 e4
  let q := qcAt l n p5 e5
  { x := nV l p e, y := y, z := z, m := m, k := k, q := q, e := fE q.e (fitsB (nV l p e) y q.x q.y m q.m) 6 }
/-- The result: a header and the place behind it, or the error. -/
def ghX (r : HdAt) : Int := if r.e = 0 then r.x else 0
def ghY (r : HdAt) : Int := if r.e = 0 then r.y else 0
def ghZ (r : HdAt) : Int := if r.e = 0 then r.z else 0
def ghM (r : HdAt) : List UInt8 := if r.e = 0 then r.m else []
def ghK (r : HdAt) : List UInt8 := if r.e = 0 then r.k else []
def ghQX (r : HdAt) : Int := if r.e = 0 then r.q.x else 0
def ghQY (r : HdAt) : Int := if r.e = 0 then r.q.y else 0
def ghQM (r : HdAt) : List UInt8 := if r.e = 0 then r.q.m else []
def ghQK (r : HdAt) : List UInt8 := if r.e = 0 then r.q.k else []
def ghQL (r : HdAt) : List (List UInt8) := if r.e = 0 then r.q.L else []
def ghP (r : HdAt) : Int := if r.e = 0 then r.q.p else 0
theorem gh_all {r : HdAt} (h : r.e = 0) : ghX r = r.x ∧ ghY r = r.y ∧ ghZ r = r.z ∧ ghM r = r.m ∧ ghK r = r.k ∧ ghQX r = r.q.x ∧ ghQY r = r.q.y ∧ ghQM r = r.q.m ∧ ghQK r = r.q.k ∧ ghQL r = r.q.L ∧ ghP r = r.q.p :=
  ⟨if_pos h, if_pos h, if_pos h, if_pos h, if_pos h, if_pos h, if_pos h, if_pos h, if_pos h, if_pos h, if_pos h⟩
theorem gh_none {r : HdAt} (h : r.e ≠ 0) : ghX r = 0 ∧ ghY r = 0 ∧ ghZ r = 0 ∧ ghM r = [] ∧ ghK r = [] ∧ ghQX r = 0 ∧ ghQY r = 0 ∧ ghQM r = [] ∧ ghQK r = [] ∧ ghQL r = [] ∧ ghP r = 0 :=
  ⟨if_neg h, if_neg h, if_neg h, if_neg h, if_neg h, if_neg h, if_neg h, if_neg h, if_neg h, if_neg h, if_neg h⟩
theorem qcAt_m (l : List UInt8) (n p e : Int) : (qcAt l n p e).m.length ≤ l.length := rV_len l 32 _ _
theorem qcAt_k (l : List UInt8) (n p e : Int) : (qcAt l n p e).k.length ≤ l.length := bV_len l n _ _
theorem qcAt_L (l : List UInt8) (n p e : Int) : sumL (qcAt l n p e).L ≤ 320 := by
  show sumL (tagsAt l _ _ (cntB (bV l n _ _)).toNat).1 ≤ 320
  refine Nat.le_trans (tagsAt_sum _ _ _ _) ?_
  have := bV_cnt l n (rP l 32 (nP l (nP l p e) (nE l p e)) (nE l (nP l p e) (nE l p e))) (rE l 32 (nP l (nP l p e) (nE l p e)) (nE l (nP l p e) (nE l p e)))
  omega
theorem ghM_len (l : List UInt8) (n p e : Int) : (ghM (hdAt l n p e)).length ≤ l.length := by
  unfold ghM
  split
  · exact rV_len l 32 _ _
  · simp
theorem ghK_len (l : List UInt8) (n p e : Int) : (ghK (hdAt l n p e)).length ≤ l.length := by
  unfold ghK
  split
  · exact rV_len l 32 _ _
  · simp
theorem ghQM_len (l : List UInt8) (n p e : Int) : (ghQM (hdAt l n p e)).length ≤ l.length := by
  unfold ghQM
  split
  · exact qcAt_m l n _ _
  · simp
theorem ghQK_len (l : List UInt8) (n p e : Int) : (ghQK (hdAt l n p e)).length ≤ l.length := by
  unfold ghQK
  split
  · exact qcAt_k l n _ _
  · simp
theorem ghQL_sum (l : List UInt8) (n p e : Int) : sumL (ghQL (hdAt l n p e)) ≤ 320 := by
  unfold ghQL
  split
  · exact qcAt_L l n _ _
  · simp [sumL]

/-- The call returns a header of new rows, and two numbers beside it; nothing that was there has turned. -/
def FreshH3 (w : World) (x y z qx qy : Int) (l k ql qk : List UInt8) (L : List (List UInt8)) (n c : Int) (e : Ending) (w' : World) : Prop :=
  ∃ a b qa qb qs row vs, e = .returned (.tuple #[.agg #[.int .i64 x, .int .i64 y, .int .i64 z, a, b, .int .i64 qx, .int .i64 qy, qa, qb, qs], .int .i64 n, .int .i64 c]) ∧ vs.length = L.length ∧ Reads0 qs row vs ∧
    InvF w w' [segB 5 a l, segB 5 b k, segB 5 qa ql, segB 5 qb qk, row :: rowsS 5 vs L]
/-- What GetHead answers. -/
def GotHd (w : World) (r : HdAt) : Ending → World → Prop := FreshH3 w (ghX r) (ghY r) (ghZ r) (ghQX r) (ghQY r) (ghM r) (ghK r) (ghQM r) (ghQK r) (ghQL r) (ghP r) r.e
theorem goth_yes {w : World} {r : HdAt} {e : Ending} {w' : World} (h : r.e = 0) (H : FreshH3 w r.x r.y r.z r.q.x r.q.y r.m r.k r.q.m r.q.k r.q.L r.q.p 0 e w') : GotHd w r e w' := by
  obtain ⟨i1, i2, i3, i4, i5, i6, i7, i8, i9, i10, i11⟩ := gh_all h
  unfold GotHd
  rw [i1, i2, i3, i4, i5, i6, i7, i8, i9, i10, i11, h]
  exact H
theorem goth_no {w : World} {r : HdAt} {e : Ending} {w' : World} (h : r.e ≠ 0) (he : e = .returned (.tuple #[.agg #[.int .i64 0, .int .i64 0, .int .i64 0, .slice none 0 0, .slice none 0 0, .int .i64 0, .int .i64 0, .slice none 0 0, .slice none 0 0, .slice none 0 0], .int .i64 0, .int .i64 r.e])) (H : Below w.heap.size w w') : GotHd w r e w' := by
  obtain ⟨i1, i2, i3, i4, i5, i6, i7, i8, i9, i10, i11⟩ := gh_none h
  unfold GotHd
  rw [i1, i2, i3, i4, i5, i6, i7, i8, i9, i10, i11]
  have hg : ∀ (w : World) (B : Nat), GOwn w B (24, .slice none 0 0, []) := fun w B => World.ownsRow_nil _ _ _ _
  refine ⟨.slice none 0 0, .slice none 0 0, .slice none 0 0, .slice none 0 0, .slice none 0 0, (24, .slice none 0 0, []), [], he, rfl, reads0_row (hg w 0), ?_⟩
  have h1 : InvF w w [[(24, .slice none 0 0, [])]] := (InvF.start w).more ((InvG.start w).moreG (hg _ _) (Below.refl _ _))
  have h2 := h1.moreB (E := 5) (v := .slice none 0 0) (l := []) (World.ownsRow_nil _ _ _ _) (Below.refl _ _)
  have h3 := h2.moreB (E := 5) (v := .slice none 0 0) (l := []) (World.ownsRow_nil _ _ _ _) (Below.refl _ _)
  have h4 := h3.moreB (E := 5) (v := .slice none 0 0) (l := []) (World.ownsRow_nil _ _ _ _) (Below.refl _ _)
  have h5 := h4.moreB (E := 5) (v := .slice none 0 0) (l := []) (World.ownsRow_nil _ _ _ _) H
  exact h5
end Go.Proofs.YtopbalemfljphaaDoor
