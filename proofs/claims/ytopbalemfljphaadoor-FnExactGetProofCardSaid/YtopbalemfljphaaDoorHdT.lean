/- Slices of headers that are a call's own, each header's tags over any row of its own. No program is named here but the type of headers. -/
import Derived.Test.YtopbalemfljphaaDoorHdS
import Derived.Test.YtopbalemfljphaaDoorTagSeg
namespace Go.Proofs.YtopbalemfljphaaDoor
open Go.RowKit Go.ChangeShapes Go.WideShapes Go.ChangeAt

/-- Where a header's parts lie. -/
structure HPT where
  a : Value
  b : Value
  qa : Value
  qb : Value
  qs : Value
  row : Row
  vs : List Value
/-- A header as an element: its cells and its rows. -/
def rowsHT (t : Ht) (p : HPT) : List (List Row) := [segB 5 p.a t.l, segB 5 p.b t.k, segB 5 p.qa t.ql, segB 5 p.qb t.qk, (p.row :: rowsS 5 p.vs t.L)]
def cellsHT (t : Ht) (p : HPT) : List Value := [.int .i64 t.x, .int .i64 t.y, .int .i64 t.z, p.a, p.b, .int .i64 t.qx, .int .i64 t.qy, p.qa, p.qb, p.qs]
def eltHT (t : Ht) (p : HPT) : Elt := (cellsHT t p, (rowsHT t p).flatten)
def eltsHT (M : List Ht) (ps : List HPT) : List Elt := List.zipWith eltHT M ps
/-- The parts belong to the headers. -/
def OkHT (M : List Ht) (ps : List HPT) : Prop := ps.length = M.length ∧ ∀ (i : Nat) (t : Ht) (p : HPT), M[i]? = some t → ps[i]? = some p → p.vs.length = t.L.length ∧ Reads0 p.qs p.row p.vs
/-- A slice of headers that is a call's own. -/
def segHT (v : Value) (ps : List HPT) (M : List Ht) : List Row := segY 78 10 v (eltsHT M ps)
section
variable {M : List Ht} {ps : List HPT} {i : Nat} {t t' : Ht} {p p' : HPT}
theorem eltsH_lenT (h : ps.length = M.length) : (eltsHT M ps).length = M.length := by simp [eltsHT, h]
theorem eltsH_tenT : ∀ e ∈ eltsHT M ps, e.1.length = 10 := fun e he => by
  obtain ⟨i, hi⟩ := List.getElem?_of_mem he
  unfold eltsHT at hi
  rw [List.getElem?_zipWith] at hi
  rcases hm : M[i]? with _ | t
  · rw [hm] at hi; cases hi
  · rcases hq : ps[i]? with _ | q
    · rw [hm, hq] at hi; cases hi
    · rw [hm, hq] at hi
      cases hi
      rfl
theorem eltsH_getT (ht : M[i]? = some t) (hp : ps[i]? = some p) : (eltsHT M ps)[i]? = some (eltHT t p) := by
  unfold eltsHT
  rw [List.getElem?_zipWith, ht, hp]
theorem eltsH_setT (hi : i < M.length) (hl : ps.length = M.length) : (eltsHT M ps).set i (eltHT t p) = eltsHT (M.set i t) (ps.set i p) := by
  apply List.ext_getElem?
  intro j
  unfold eltsHT
  rw [List.getElem?_set, List.getElem?_zipWith, List.getElem?_zipWith, List.getElem?_set, List.getElem?_set]
  by_cases hj : i = j
  · subst hj
    have h7 : i < ps.length := by omega
    simp only [if_true, List.length_zipWith, hi, h7]
    rw [if_pos (by omega)]
  · simp [hj]
theorem eltsH_snocT (h : ps.length = M.length) (t : Ht) (p : HPT) : eltsHT (M ++ [t]) (ps ++ [p]) = eltsHT M ps ++ [eltHT t p] := by
  unfold eltsHT
  rw [List.zipWith_append h.symm]
  rfl
theorem OkHT.nil_ : OkHT [] [] := ⟨rfl, fun i t p h => by simp at h⟩
theorem OkHT.set (h : OkHT M ps) (hi : i < M.length) (hv : p.vs.length = t.L.length ∧ Reads0 p.qs p.row p.vs) : OkHT (M.set i t) (ps.set i p) := by
  refine ⟨by rw [List.length_set, List.length_set]; exact h.1, fun j s q h1 h2 => ?_⟩
  rw [List.getElem?_set] at h1 h2
  by_cases hj : i = j
  · subst hj
    have h7 : i < ps.length := by have := h.1; omega
    rw [if_pos rfl, if_pos hi] at h1
    rw [if_pos rfl, if_pos h7] at h2
    cases h1
    cases h2
    exact hv
  · rw [if_neg hj] at h1 h2
    exact h.2 j s q h1 h2
theorem OkHT.snoc (h : OkHT M ps) (hv : p.vs.length = t.L.length ∧ Reads0 p.qs p.row p.vs) : OkHT (M ++ [t]) (ps ++ [p]) := by
  refine ⟨by simp [h.1], fun j s q h1 h2 => ?_⟩
  rcases Nat.lt_or_ge j M.length with hj | hj
  · rw [List.getElem?_append_left hj] at h1
    rw [List.getElem?_append_left (by have := h.1; omega)] at h2
    exact h.2 j s q h1 h2
  · rw [List.getElem?_append_right hj] at h1
    rw [List.getElem?_append_right (by have := h.1; omega), h.1] at h2
    rcases hk : j - M.length with _ | m
    · rw [hk] at h1 h2
      simp at h1 h2
      rw [← h1, ← h2]
      exact hv
    · rw [hk] at h1
      simp at h1
end
section
variable {W w w' : World} {ss : List (List Row)} {v : Value} {M : List Ht} {ps : List HPT} {g c i : Nat} {t : Ht} {p : HPT}
theorem InvF.rowsOfHT (H : InvF W w ss) (h : segHT v ps M ∈ ss) (ht : M[i]? = some t) (hp : ps[i]? = some p) {q : Row} (hq : q ∈ (rowsHT t p).flatten) : GOwn w W.heap.size q :=
  H.2.1 q (InvF.mem h (.tail _ (rowsE_mem (eltsH_getT ht hp) hq)))
theorem flat_memT {s : List Row} {gs : List (List Row)} {q : Row} (hs : s ∈ gs) (hq : q ∈ s) : q ∈ gs.flatten := List.mem_flatten.2 ⟨s, hs, hq⟩
theorem InvF.partsHT (hk : OkHT M ps) (H : InvF W w ss) (h : segHT v ps M ∈ ss) (ht : M[i]? = some t) (hp : ps[i]? = some p) :
    Sl w w.heap.size p.a t.l ∧ Sl w w.heap.size p.b t.k ∧ Sl w w.heap.size p.qa t.ql ∧ Sl w w.heap.size p.qb t.qk ∧ SlS w w.heap.size p.qs t.L := by
  have hq := fun {q : Row} (hq : q ∈ (rowsHT t p).flatten) => H.rowsOfHT h ht hp hq
  have h5 : InvF W w (rowsHT t p) := by
    refine ⟨H.1, fun q h => hq h, ?_⟩
    refine H.2.2.sublist ?_
    have hmem := eltsH_getT ht hp
    obtain ⟨A, B, h2, _⟩ := rowsE_split hmem
    refine List.Sublist.trans ?_ (flatten_sub (List.singleton_sublist.2 h))
    rw [List.flatten_cons, List.flatten_nil, List.append_nil]
    unfold segHT segY
    rw [h2]
    refine List.Sublist.cons _ ?_
    rw [List.append_assoc]
    exact (List.sublist_append_left _ _).trans (List.sublist_append_right _ _)
  exact ⟨h5.slB 5 (.head _), h5.slB 5 (.tail _ (.head _)), h5.slB 5 (.tail _ (.tail _ (.head _))), h5.slB 5 (.tail _ (.tail _ (.tail _ (.head _)))), h5.slT (hk.2 i t p ht hp).1 (hk.2 i t p ht hp).2 (.tail _ (.tail _ (.tail _ (.tail _ (.head _)))))⟩
theorem InvF.cellsHT (hk : OkHT M ps) (H : InvF W w ss) (h : segHT v ps M ∈ ss) (hv : v = .slice (some ⟨g, 0, none⟩) M.length c) (ht : M[i]? = some t) (hp : ps[i]? = some p) : ∀ j, j < 10 → w.cell? ⟨g, i * 10 + j, none⟩ = (Proofs.YtopbalemfljphaaDoor.cellsHT t p)[j]? := fun j hj =>
  H.cellY (es := eltsHT M ps) eltsH_tenT h (by rw [eltsH_lenT hk.1]; exact hv) (eltsH_getT ht hp) hj
theorem InvF.atHT (hk : OkHT M ps) (H : InvF W w ss) (h : segHT v ps M ∈ ss) (hv : v = .slice (some ⟨g, 0, none⟩) M.length c) (ht : M[i]? = some t) (hp : ps[i]? = some p) : HAtP w w.heap.size g (i * 10) t p.a p.b p.qa p.qb p.qs := by
  have hc := H.cellsHT hk h hv ht hp
  exact ⟨⟨hc 0 (by decide), hc 1 (by decide), hc 2 (by decide), hc 3 (by decide), hc 4 (by decide), hc 5 (by decide), hc 6 (by decide), hc 7 (by decide), hc 8 (by decide), hc 9 (by decide)⟩, H.partsHT hk h ht hp⟩
theorem InvF.formHT (hk : OkHT M ps) (H : InvF W w ss) (h : segHT v ps M ∈ ss) : ∃ A c, v = .slice A M.length c ∧ M.length ≤ c ∧ c ≤ maxLen ∧ (A = none → c = 0) ∧ (0 < M.length → ∃ g, A = some ⟨g, 0, none⟩ ∧ W.heap.size ≤ g ∧ g < w.heap.size) := by
  have h1 := H.formY (by decide) (eltsH_tenT (M := M) (ps := ps)) h
  rw [eltsH_lenT hk.1] at h1
  exact h1
theorem InvF.frHT (hk : OkHT M ps) (H : InvF W w ss) (h : segHT v ps M ∈ ss) (hv : v = .slice (some ⟨g, 0, none⟩) M.length c) (k : Nat) : w.frozen? ⟨g, k, none⟩ = false := H.frY (es := eltsHT M ps) eltsH_tenT h (by rw [eltsH_lenT hk.1]; exact hv) k
theorem InvF.slHT (hk : OkHT M ps) (H : InvF W w ss) (h : segHT v ps M ∈ ss) : SlH w w.heap.size v M := by
  obtain ⟨A, c, e, h1, h2, h0, h3⟩ := H.formHT hk h
  refine ⟨A, c, e, h1, h2, h0, fun hp => ?_⟩
  obtain ⟨g, rfl, _, hg⟩ := h3 hp
  refine ⟨g, 0, rfl, hg, fun i t ht => ?_⟩
  obtain ⟨q, hq⟩ : ∃ q, ps[i]? = some q := ⟨ps[i]'(by have := (List.getElem?_eq_some_iff.1 ht).1; have := hk.1; omega), List.getElem?_eq_getElem (by have := (List.getElem?_eq_some_iff.1 ht).1; have := hk.1; omega)⟩
  rw [Nat.zero_add]
  exact ⟨_, _, _, _, _, H.atHT hk h e ht hq⟩
theorem InvF.openHT (hk : OkHT M ps) (H : InvF W w ss) (h : segHT v ps M ∈ ss) : ∃ A c, v = .slice A M.length c := by
  obtain ⟨A, c, e, _⟩ := H.formHT hk h
  exact ⟨A, c, e⟩
end

theorem OkHT.marks {M : List Ht} {ps : List HPT} (h : OkHT M ps) (k : Nat) : OkHT (marksH k M) ps := by
  refine ⟨by rw [marksH_length]; exact h.1, fun i t p h1 h2 => ?_⟩
  have hi : i < M.length := by have := (List.getElem?_eq_some_iff.1 h1).1; rw [marksH_length] at this; exact this
  obtain ⟨s, hs⟩ := getH hi
  rw [marksH_get M k i s hs] at h1
  cases h1
  show p.vs.length = (marksS _ s.L).length ∧ _
  rw [marksS_length]
  exact h.2 i s p hs h2
end Go.Proofs.YtopbalemfljphaaDoor
