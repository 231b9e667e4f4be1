/- Slices of votes: what they read as (SlV), when they are a call's own (OwnV), their marks. -/
import Derived.Test.YtdoaikanaodefaaRowsE
import Derived.Test.YtdoaikanaodefaaVote
namespace Go.Proofs.Ytdoaikanaodefaa
open Go.RowKit Go.ChangeShapes Go.WideShapes Go.ChangeAt

structure Vt where
  x : Int
  y : Int
  l : List UInt8
  z : Int
  k : List UInt8
instance : Inhabited Vt := ⟨⟨0, 0, [], 0, []⟩⟩
/-- The vote t lies in five cells from o on in block b. -/
def VAt (w : World) (B b o : Nat) (t : Vt) : Prop := ∃ u u', w.cell? ⟨b, o, none⟩ = some (.int .i64 t.x) ∧ w.cell? ⟨b, o + 1, none⟩ = some (.int .i64 t.y) ∧ w.cell? ⟨b, o + 2, none⟩ = some u ∧ w.cell? ⟨b, o + 3, none⟩ = some (.int .i64 t.z) ∧ w.cell? ⟨b, o + 4, none⟩ = some u' ∧ Sl w B u t.l ∧ Sl w B u' t.k
/-- The slice v reads as the votes L, in blocks below B. -/
def SlV (w : World) (B : Nat) (v : Value) (L : List Vt) : Prop :=
  ∃ A c, v = .slice A L.length c ∧ L.length ≤ c ∧ c ≤ maxLen ∧ (A = none → c = 0) ∧
    (0 < L.length → ∃ b off, A = some ⟨b, off, none⟩ ∧ b < B ∧ ∀ i t, L[i]? = some t → VAt w B b (off + i * 5) t)
section
variable {w w' : World} {B B' : Nat} {v : Value} {L : List Vt}
theorem VAt.below {b o : Nat} {t : Vt} (h : VAt w B b o t) (hb : Below B w w') (hlt : b < B) : VAt w' B b o t := by
  obtain ⟨u, u', h0, h1, h2, h3, h4, h5, h6⟩ := h
  exact ⟨u, u', (hb.cell (p := ⟨b, o, none⟩) hlt).trans h0, (hb.cell (p := ⟨b, o + 1, none⟩) hlt).trans h1, (hb.cell (p := ⟨b, o + 2, none⟩) hlt).trans h2, (hb.cell (p := ⟨b, o + 3, none⟩) hlt).trans h3, (hb.cell (p := ⟨b, o + 4, none⟩) hlt).trans h4, h5.below hb, h6.below hb⟩
theorem VAt.mono {b o : Nat} {t : Vt} (h : VAt w B b o t) (hB : B ≤ B') : VAt w B' b o t := by
  obtain ⟨u, u', h0, h1, h2, h3, h4, h5, h6⟩ := h
  exact ⟨u, u', h0, h1, h2, h3, h4, h5.mono hB, h6.mono hB⟩
theorem SlV.nil_ : SlV w B (.slice none 0 0) [] := ⟨none, 0, rfl, Nat.le_refl _, by simp [maxLen], fun _ => rfl, fun h => absurd h (by simp)⟩
theorem SlV.mono (h : SlV w B v L) (hB : B ≤ B') : SlV w B' v L := by
  obtain ⟨A, c, rfl, h1, h2, h0, h3⟩ := h
  exact ⟨A, c, rfl, h1, h2, h0, fun hp => by
    obtain ⟨b, off, e, hb, hc⟩ := h3 hp
    exact ⟨b, off, e, by omega, fun i t ht => (hc i t ht).mono hB⟩⟩
theorem SlV.below (h : SlV w B v L) (hb : Below B w w') : SlV w' B v L := by
  obtain ⟨A, c, rfl, h1, h2, h0, h3⟩ := h
  exact ⟨A, c, rfl, h1, h2, h0, fun hp => by
    obtain ⟨b, off, e, hbb, hc⟩ := h3 hp
    exact ⟨b, off, e, hbb, fun i t ht => (hc i t ht).below hb hbb⟩⟩
theorem SlV.up (h : SlV w w.heap.size v L) (hb : Below w.heap.size w w') : SlV w' w'.heap.size v L := (h.below hb).mono hb.size
theorem SlV.drewN (h : SlV w B v L) (n : Nat) : SlV (w.drewN n) B v L := h.below (below_drewN (Below.refl _ _) n)
end

/-- A vote as an element of a slice that is the call's own. -/
def eltV (t : Vt) (p : Value × Value) : Elt := ([.int .i64 t.x, .int .i64 t.y, p.1, .int .i64 t.z, p.2], [(5, p.1, us t.l), (5, p.2, us t.k)])
def eltsV (L : List Vt) (ps : List (Value × Value)) : List Elt := List.zipWith eltV L ps
/-- The slice v is the call's own and has the votes L. -/
def OwnV (S : Nat → Prop) (w : World) (v : Value) (L : List Vt) (ps : List (Value × Value)) : Prop := ps.length = L.length ∧ OwnE S 59 5 w v (eltsV L ps)
section
variable {S S' : Nat → Prop} {w w' : World} {v : Value} {L : List Vt} {ps : List (Value × Value)}
theorem eltsV_len (h : ps.length = L.length) : (eltsV L ps).length = L.length := by simp [eltsV, h]
theorem eltsV_get {i : Nat} {t : Vt} {p : Value × Value} (ht : L[i]? = some t) (hp : ps[i]? = some p) : (eltsV L ps)[i]? = some (eltV t p) := by
  unfold eltsV
  rw [List.getElem?_zipWith, ht, hp]
theorem eltsV_snoc (h : ps.length = L.length) (t : Vt) (p : Value × Value) : eltsV (L ++ [t]) (ps ++ [p]) = eltsV L ps ++ [eltV t p] := by
  unfold eltsV
  rw [List.zipWith_append h.symm]
  rfl
theorem eltsV_set {i : Nat} {t : Vt} {p : Value × Value} (hp : ps[i]? = some p) : (eltsV L ps).set i (eltV t p) = eltsV (L.set i t) ps := by
  apply List.ext_getElem?
  intro j
  unfold eltsV
  rw [List.getElem?_set, List.getElem?_zipWith, List.getElem?_zipWith, List.getElem?_set]
  by_cases hj : i = j
  · subst hj
    have hlt := (List.getElem?_eq_some_iff.1 hp).1
    simp only [if_true, hp]
    by_cases hk : i < L.length
    · simp [hk]
      omega
    · simp [hk]
      omega
  · simp [hj]
theorem OwnV.sl (H : OwnV S w v L ps) : SlV w w.heap.size v L := by
  obtain ⟨hl, H⟩ := H
  have hle := eltsV_len hl
  obtain ⟨A, c, e, h1, h2, h0, h3⟩ := H.form
  rw [hle] at e h1 h3
  refine ⟨A, c, e, h1, h2, h0, fun hp => ?_⟩
  obtain ⟨b, rfl, hb⟩ := h3 hp
  refine ⟨b, 0, rfl, hb, fun i t ht => ?_⟩
  have hi := (List.getElem?_eq_some_iff.1 ht).1
  obtain ⟨p, hpp⟩ : ∃ p, ps[i]? = some p := ⟨ps[i]'(by omega), List.getElem?_eq_getElem (by omega)⟩
  have hget := eltsV_get ht hpp
  have hv : v = .slice (some ⟨b, 0, none⟩) (eltsV L ps).length c := by rw [e, hle]
  rw [Nat.zero_add]
  exact ⟨p.1, p.2, H.cellE (j := 0) hv hget (by decide), H.cellE (j := 1) hv hget (by decide), H.cellE (j := 2) hv hget (by decide), H.cellE (j := 3) hv hget (by decide), H.cellE (j := 4) hv hget (by decide), H.slB (E := 5) hget (.head _), H.slB (E := 5) hget (.tail _ (.head _))⟩
theorem OwnV.kept (H : OwnV S w v L ps) (hk : ∀ b, S b → b < w.heap.size → w'.heap[b]? = w.heap[b]?) : OwnV S w' v L ps := ⟨H.1, H.2.kept hk⟩
theorem OwnV.up (H : OwnV S w v L ps) (hb : Below w.heap.size w w') : OwnV S w' v L ps := ⟨H.1, H.2.up hb⟩
theorem OwnV.drewN (H : OwnV S w v L ps) (n : Nat) : OwnV S (w.drewN n) v L ps := ⟨H.1, H.2.drewN n⟩
theorem OwnV.mono (H : OwnV S w v L ps) (h : ∀ b, b < w.heap.size → S b → S' b) : OwnV S' w v L ps := ⟨H.1, H.2.mono h⟩
/-- A field of a vote is written: 0, 1, 3 are its numbers. -/
theorem OwnV.setX (H : OwnV S w v L ps) {b c i : Nat} {t : Vt} (hv : v = .slice (some ⟨b, 0, none⟩) L.length c) (ht : L[i]? = some t) (z : Int) :
    OwnV S (w.setCell ⟨b, i * 5, none⟩ (.int .i64 z)) v (L.set i { t with x := z }) ps ∧ Frm S w (w.setCell ⟨b, i * 5, none⟩ (.int .i64 z)) := by
  obtain ⟨hl, H⟩ := H
  obtain ⟨p, hpp⟩ : ∃ p, ps[i]? = some p := ⟨ps[i]'(by have := (List.getElem?_eq_some_iff.1 ht).1; omega), List.getElem?_eq_getElem (by have := (List.getElem?_eq_some_iff.1 ht).1; omega)⟩
  have h := H.setE (j := 0) (g := b) (cap := c) (by rw [hv, eltsV_len hl]) (eltsV_get ht hpp) (by decide) (.int .i64 z)
  refine ⟨⟨by rw [List.length_set]; exact hl, ?_⟩, h.2⟩
  rw [← eltsV_set (t := { t with x := z }) hpp]
  exact h.1
theorem OwnV.setY (H : OwnV S w v L ps) {b c i : Nat} {t : Vt} (hv : v = .slice (some ⟨b, 0, none⟩) L.length c) (ht : L[i]? = some t) (z : Int) :
    OwnV S (w.setCell ⟨b, i * 5 + 1, none⟩ (.int .i64 z)) v (L.set i { t with y := z }) ps ∧ Frm S w (w.setCell ⟨b, i * 5 + 1, none⟩ (.int .i64 z)) := by
  obtain ⟨hl, H⟩ := H
  obtain ⟨p, hpp⟩ : ∃ p, ps[i]? = some p := ⟨ps[i]'(by have := (List.getElem?_eq_some_iff.1 ht).1; omega), List.getElem?_eq_getElem (by have := (List.getElem?_eq_some_iff.1 ht).1; omega)⟩
  have h := H.setE (j := 1) (g := b) (cap := c) (by rw [hv, eltsV_len hl]) (eltsV_get ht hpp) (by decide) (.int .i64 z)
  refine ⟨⟨by rw [List.length_set]; exact hl, ?_⟩, h.2⟩
  rw [← eltsV_set (t := { t with y := z }) hpp]
  exact h.1
theorem OwnV.setZ (H : OwnV S w v L ps) {b c i : Nat} {t : Vt} (hv : v = .slice (some ⟨b, 0, none⟩) L.length c) (ht : L[i]? = some t) (z : Int) :
    OwnV S (w.setCell ⟨b, i * 5 + 3, none⟩ (.int .i64 z)) v (L.set i { t with z := z }) ps ∧ Frm S w (w.setCell ⟨b, i * 5 + 3, none⟩ (.int .i64 z)) := by
  obtain ⟨hl, H⟩ := H
  obtain ⟨p, hpp⟩ : ∃ p, ps[i]? = some p := ⟨ps[i]'(by have := (List.getElem?_eq_some_iff.1 ht).1; omega), List.getElem?_eq_getElem (by have := (List.getElem?_eq_some_iff.1 ht).1; omega)⟩
  have h := H.setE (j := 3) (g := b) (cap := c) (by rw [hv, eltsV_len hl]) (eltsV_get ht hpp) (by decide) (.int .i64 z)
  refine ⟨⟨by rw [List.length_set]; exact hl, ?_⟩, h.2⟩
  rw [← eltsV_set (t := { t with z := z }) hpp]
  exact h.1
/-- The rows behind a vote, and how they are written. -/
theorem OwnV.rowL (H : OwnV S w v L ps) {i : Nat} {t : Vt} {p : Value × Value} (ht : L[i]? = some t) (hp : ps[i]? = some p) : Own 5 w 0 p.1 t.l := H.2.ownB (eltsV_get ht hp) (.head _)
theorem OwnV.rowK (H : OwnV S w v L ps) {i : Nat} {t : Vt} {p : Value × Value} (ht : L[i]? = some t) (hp : ps[i]? = some p) : Own 5 w 0 p.2 t.k := H.2.ownB (eltsV_get ht hp) (.tail _ (.head _))
theorem OwnV.wroteL (H : OwnV S w v L ps) {i : Nat} {t : Vt} {p : Value × Value} {l' : List UInt8} (ht : L[i]? = some t) (hp : ps[i]? = some p) (ho : Own 5 w' 0 p.1 l') (hg : w.grownBy w' p.1.ownBlock) : OwnV S w' v (L.set i { t with l := l' }) ps ∧ Frm S w w' := by
  obtain ⟨hl, H⟩ := H
  have h := H.wroteE (A := []) (B := [(5, p.2, us t.k)]) (eltsV_get ht hp) ho hg
  refine ⟨⟨by rw [List.length_set]; exact hl, ?_⟩, h.2⟩
  rw [← eltsV_set (t := { t with l := l' }) hp]
  exact h.1
theorem OwnV.wroteK (H : OwnV S w v L ps) {i : Nat} {t : Vt} {p : Value × Value} {l' : List UInt8} (ht : L[i]? = some t) (hp : ps[i]? = some p) (ho : Own 5 w' 0 p.2 l') (hg : w.grownBy w' p.2.ownBlock) : OwnV S w' v (L.set i { t with k := l' }) ps ∧ Frm S w w' := by
  obtain ⟨hl, H⟩ := H
  have h := H.wroteE (A := [(5, p.1, us t.l)]) (B := []) (eltsV_get ht hp) ho hg
  refine ⟨⟨by rw [List.length_set]; exact hl, ?_⟩, h.2⟩
  rw [← eltsV_set (t := { t with k := l' }) hp]
  exact h.1
/-- The five cells of a vote. -/
theorem OwnV.cells (H : OwnV S w v L ps) {b c i : Nat} {t : Vt} {p : Value × Value} (hv : v = .slice (some ⟨b, 0, none⟩) L.length c) (ht : L[i]? = some t) (hp : ps[i]? = some p) :
    w.cell? ⟨b, i * 5, none⟩ = some (.int .i64 t.x) ∧ w.cell? ⟨b, i * 5 + 1, none⟩ = some (.int .i64 t.y) ∧ w.cell? ⟨b, i * 5 + 2, none⟩ = some p.1 ∧ w.cell? ⟨b, i * 5 + 3, none⟩ = some (.int .i64 t.z) ∧ w.cell? ⟨b, i * 5 + 4, none⟩ = some p.2 := by
  have hv' : v = .slice (some ⟨b, 0, none⟩) (eltsV L ps).length c := by rw [hv, eltsV_len H.1]
  have hget := eltsV_get ht hp
  exact ⟨H.2.cellE (j := 0) hv' hget (by decide), H.2.cellE (j := 1) hv' hget (by decide), H.2.cellE (j := 2) hv' hget (by decide), H.2.cellE (j := 3) hv' hget (by decide), H.2.cellE (j := 4) hv' hget (by decide)⟩
theorem OwnV.fr (H : OwnV S w v L ps) {b c : Nat} (hv : v = .slice (some ⟨b, 0, none⟩) L.length c) (k : Nat) : w.frozen? ⟨b, k, none⟩ = false := H.2.frE (by rw [hv, eltsV_len H.1]) k
end

/-- The call returns a slice of votes of its own; nothing that was there has turned. -/
def FreshVS (w : World) (L : List Vt) (e : Ending) (w' : World) : Prop := ∃ v ps, e = .returned v ∧ Below w.heap.size w w' ∧ OwnV (fun b => w.heap.size ≤ b) w' v L ps

/-- How much the rows behind votes count, in all. -/
def volV : List Vt → Nat
  | [] => 0
  | t :: L => t.l.length + t.k.length + volV L
theorem volV_app (L M : List Vt) : volV (L ++ M) = volV L + volV M := by
  induction L with
  | nil => simp [volV]
  | cons t L ih => simp [volV, ih]; omega
theorem volV_take (L : List Vt) (k : Nat) (t : Vt) (h : L[k]? = some t) : volV (L.take (k + 1)) = volV (L.take k) + (t.l.length + t.k.length) := by
  rw [List.take_add_one, h, volV_app]
  simp [volV]
theorem volV_le (L : List Vt) (k : Nat) : volV (L.take k) ≤ volV L := by
  have h := volV_app (L.take k) (L.drop k)
  rw [List.take_append_drop] at h
  omega
theorem get_default {L : List Vt} {k : Nat} (h : k < L.length) : ∃ t, L[k]? = some t := ⟨L[k], List.getElem?_eq_getElem h⟩
/-- How many marks votes take. -/
def mkV (L : List Vt) : Nat := volV L + 3 * L.length
theorem mkV_take (L : List Vt) (k : Nat) (t : Vt) (h : L[k]? = some t) : mkV (L.take (k + 1)) = mkV (L.take k) + (t.l.length + t.k.length + 3) := by
  have hk := (List.getElem?_eq_some_iff.1 h).1
  unfold mkV
  rw [volV_take L k t h, List.length_take, List.length_take, Nat.min_eq_left (by omega), Nat.min_eq_left (by omega)]
  omega
theorem mkV_le (L : List Vt) (k : Nat) : mkV (L.take k) ≤ mkV L := by
  unfold mkV
  have := volV_le L k
  rw [List.length_take]
  omega
/-- A vote marked from k on. -/
def markT (k : Nat) (t : Vt) : Vt := ⟨(k : Int), (k : Int) + 1, marks (k + 2) t.l.length, (k : Int) + 2 + (t.l.length : Int), marks (k + 3 + t.l.length) t.k.length⟩
/-- Votes marked from k on. -/
def marksV (k : Nat) : List Vt → List Vt
  | [] => []
  | t :: L => markT k t :: marksV (k + (t.l.length + t.k.length + 3)) L
theorem marksV_length (L : List Vt) : ∀ k, (marksV k L).length = L.length := by
  induction L with
  | nil => intro k; rfl
  | cons t L ih => intro k; simp [marksV, ih]
theorem marksV_get (L : List Vt) : ∀ k j t, L[j]? = some t → (marksV k L)[j]? = some (markT (k + mkV (L.take j)) t) := by
  induction L with
  | nil => intro k j t h; simp at h
  | cons x L ih =>
    intro k j t h
    rcases j with _ | j
    · simp at h
      subst h
      simp [marksV, mkV, volV]
    · have h1 := ih (k + (x.l.length + x.k.length + 3)) j t (by simpa using h)
      simp only [marksV, List.getElem?_cons_succ, List.take_succ_cons]
      rw [h1]
      congr 2
      simp only [mkV, volV, List.length_cons]
      omega
/-- What markVoteS has written after j votes. -/
def MV (L : List Vt) (k j : Nat) : List Vt := (marksV k L).take j ++ L.drop j
theorem MV_zero (L : List Vt) (k : Nat) : MV L k 0 = L := by simp [MV]
theorem MV_full (L : List Vt) (k : Nat) : MV L k L.length = marksV k L := by
  unfold MV
  rw [List.drop_length, List.append_nil, List.take_of_length_le (by rw [marksV_length]; exact Nat.le_refl _)]
theorem MV_length (L : List Vt) (k j : Nat) (h : j ≤ L.length) : (MV L k j).length = L.length := by simp [MV, marksV_length]; omega
theorem MV_at (L : List Vt) (k j : Nat) (t : Vt) (h : L[j]? = some t) : (MV L k j)[j]? = some t := by
  have hj := (List.getElem?_eq_some_iff.1 h).1
  have hl : ((marksV k L).take j).length = j := by rw [List.length_take, marksV_length]; omega
  unfold MV
  rw [List.getElem?_append_right (by omega), hl, Nat.sub_self, List.getElem?_drop, Nat.add_zero, h]
theorem MV_set (L : List Vt) (k j : Nat) (t : Vt) (h : L[j]? = some t) : (MV L k j).set j (markT (k + mkV (L.take j)) t) = MV L k (j + 1) := by
  have hj := (List.getElem?_eq_some_iff.1 h).1
  have hl : ((marksV k L).take j).length = j := by rw [List.length_take, marksV_length]; omega
  have hm := marksV_get L k j t h
  unfold MV
  rw [List.set_append_right _ _ (by omega), hl, Nat.sub_self, List.drop_eq_getElem_cons hj, List.set_cons_zero, List.take_add_one, hm, List.append_assoc]
  rfl

/-- A vote is stored over another one, cell by cell; its rows waited. -/
theorem eltsV_put {L : List Vt} {ps : List (Value × Value)} (i : Nat) (t : Vt) (p : Value × Value) : (eltsV L ps).set i (eltV t p) = eltsV (L.set i t) (ps.set i p) := by
  apply List.ext_getElem?
  intro j
  unfold eltsV
  rw [List.getElem?_set, List.getElem?_zipWith, List.getElem?_zipWith, List.getElem?_set, List.getElem?_set]
  by_cases hj : i = j
  · subst hj
    simp only [if_true, List.length_zipWith]
    by_cases h1 : i < L.length
    · by_cases h2 : i < ps.length
      · simp [h1, h2]
        try omega
      · simp [h1, h2]
        try omega
    · by_cases h2 : i < ps.length
      · simp [h1, h2]
        try omega
      · simp [h1, h2]
        try omega
  · simp [hj]
theorem OwnV.putV {S : Nat → Prop} {w : World} {v : Value} {L : List Vt} {ps : List (Value × Value)} {t : Vt} {a b : Value} {g c i : Nat} (hl : ps.length = L.length) (H : OwnP S 59 5 w v (eltsV L ps) [(5, a, us t.l), (5, b, us t.k)])
    (hv : v = .slice (some ⟨g, 0, none⟩) L.length c) (hi : i < L.length) :
    OwnV S (((((w.setCell ⟨g, i * 5, none⟩ (.int .i64 t.x)).setCell ⟨g, i * 5 + 1, none⟩ (.int .i64 t.y)).setCell ⟨g, i * 5 + 2, none⟩ a).setCell ⟨g, i * 5 + 3, none⟩ (.int .i64 t.z)).setCell ⟨g, i * 5 + 4, none⟩ b) v (L.set i t) (ps.set i (a, b)) ∧
      Frm S w (((((w.setCell ⟨g, i * 5, none⟩ (.int .i64 t.x)).setCell ⟨g, i * 5 + 1, none⟩ (.int .i64 t.y)).setCell ⟨g, i * 5 + 2, none⟩ a).setCell ⟨g, i * 5 + 3, none⟩ (.int .i64 t.z)).setCell ⟨g, i * 5 + 4, none⟩ b) := by
  obtain ⟨t0, ht0⟩ := get_default hi
  obtain ⟨p0, hp0⟩ : ∃ p, ps[i]? = some p := ⟨ps[i]'(by omega), List.getElem?_eq_getElem (by omega)⟩
  have hget := eltsV_get ht0 hp0
  have hlen := eltsV_len hl
  have hlt : i < (eltsV L ps).length := by omega
  have get_ : ∀ e : Elt, ((eltsV L ps).set i e)[i]? = some e := fun e => by rw [List.getElem?_set, if_pos rfl, if_pos hlt]
  have hvs : ∀ e : Elt, v = .slice (some ⟨g, 0, none⟩) ((eltsV L ps).set i e).length c := fun e => by rw [List.length_set, hlen]; exact hv
  have H0 := H.swap hget
  have H1 := H0.setE (j := 0) (hvs _) (get_ _) (by decide) (.int .i64 t.x)
  rw [List.set_set] at H1
  have H2 := H1.1.setE (j := 1) (hvs _) (get_ _) (by decide) (.int .i64 t.y)
  rw [List.set_set] at H2
  have H3 := H2.1.setE (j := 2) (hvs _) (get_ _) (by decide) a
  rw [List.set_set] at H3
  have H4 := H3.1.setE (j := 3) (hvs _) (get_ _) (by decide) (.int .i64 t.z)
  rw [List.set_set] at H4
  have H5 := H4.1.setE (j := 4) (hvs _) (get_ _) (by decide) b
  rw [List.set_set] at H5
  have hF := (((H1.2.trans H2.2).trans H3.2).trans H4.2).trans H5.2
  refine ⟨⟨by rw [List.length_set, List.length_set]; exact hl, ?_⟩, hF⟩
  rw [← eltsV_put i t (a, b)]
  exact H5.1
theorem made_get (Z : Array Value) (n k : Nat) (hk : k < n) : (madeCells Z n).toList[k]? = some (Z[k % Z.size]!) := by simp [madeCells, hk]
/-- A row of votes just made: all zero. -/
theorem zeroV (n : Nat) : (madeCells (Value.agg #[.int .i64 0, .int .i64 0, .slice none 0 0, .int .i64 0, .slice none 0 0]).cells (n * 5)).toList = cellsE (eltsV (List.replicate n (default : Vt)) (List.replicate n (.slice none 0 0, .slice none 0 0))) := by
  have hz : eltsV (List.replicate n (default : Vt)) (List.replicate n (Value.slice none 0 0, Value.slice none 0 0)) = List.replicate n (eltV (default : Vt) (.slice none 0 0, .slice none 0 0)) := by
    unfold eltsV
    rw [List.zipWith_replicate]
    simp
  have hlen : ∀ e ∈ List.replicate n (eltV (default : Vt) (Value.slice none 0 0, Value.slice none 0 0)), e.1.length = 5 := fun e he => by
    rw [List.eq_of_mem_replicate he]
    rfl
  rw [hz]
  apply List.ext_getElem?
  intro k
  have hl1 : (madeCells (Value.agg #[.int .i64 0, .int .i64 0, .slice none 0 0, .int .i64 0, .slice none 0 0]).cells (n * 5)).toList.length = n * 5 := by simp [size_madeCells]
  have hl2 := cellsE_len 5 _ hlen
  rw [List.length_replicate] at hl2
  by_cases hk : k < n * 5
  · have e1 : k = k / 5 * 5 + k % 5 := by omega
    have hi : k / 5 < n := by omega
    have h5 : k % 5 < 5 := by omega
    conv => rhs; rw [e1]
    rw [cellsE_get 5 _ (k / 5) (k % 5) _ hlen (List.getElem?_replicate_of_lt hi) h5]
    have hj : k % 5 = 0 ∨ k % 5 = 1 ∨ k % 5 = 2 ∨ k % 5 = 3 ∨ k % 5 = 4 := by omega
    rw [made_get _ _ _ hk]
    have hs5 : k % (Value.agg #[.int .i64 0, .int .i64 0, .slice none 0 0, .int .i64 0, .slice none 0 0]).cells.size = k % 5 := rfl
    rw [hs5]
    rcases hj with h | h | h | h | h <;> rw [h] <;> rfl
  · rw [List.getElem?_eq_none (by omega), List.getElem?_eq_none (by omega)]
end Go.Proofs.Ytdoaikanaodefaa
