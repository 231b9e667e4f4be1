/- Slices of headers: what they read as (SlH), a call's own as a segment (segH), how much they count, their marks. -/
import Derived.Test.YtopbalemfljphaaDoorSegY
import Derived.Test.YtopbalemfljphaaDoorHead
namespace Go.Proofs.YtopbalemfljphaaDoor
open Go.RowKit Go.ChangeShapes Go.WideShapes Go.ChangeAt

structure Ht where
  x : Int
  y : Int
  z : Int
  l : List UInt8
  k : List UInt8
  qx : Int
  qy : Int
  ql : List UInt8
  qk : List UInt8
  L : List (List UInt8)
/-- Where a header's parts lie. -/
structure HP where
  a : Value
  b : Value
  qa : Value
  qb : Value
  qs : Value
  vs : List Value
/-- The header t lies in ten cells from o on in block g; its parts are p's. -/
def HAtP (w : World) (B g o : Nat) (t : Ht) (a b qa qb qs : Value) : Prop :=
  (w.cell? ⟨g, o, none⟩ = some (.int .i64 t.x) ∧ w.cell? ⟨g, o + 1, none⟩ = some (.int .i64 t.y) ∧ w.cell? ⟨g, o + 2, none⟩ = some (.int .i64 t.z) ∧ w.cell? ⟨g, o + 3, none⟩ = some a ∧ w.cell? ⟨g, o + 4, none⟩ = some b ∧ w.cell? ⟨g, o + 5, none⟩ = some (.int .i64 t.qx) ∧ w.cell? ⟨g, o + 6, none⟩ = some (.int .i64 t.qy) ∧ w.cell? ⟨g, o + 7, none⟩ = some qa ∧ w.cell? ⟨g, o + 8, none⟩ = some qb ∧ w.cell? ⟨g, o + 9, none⟩ = some qs) ∧
    Sl w B a t.l ∧ Sl w B b t.k ∧ Sl w B qa t.ql ∧ Sl w B qb t.qk ∧ SlS w B qs t.L
def HAt (w : World) (B g o : Nat) (t : Ht) : Prop := ∃ a b qa qb qs, HAtP w B g o t a b qa qb qs
/-- The slice v reads as the headers M, in blocks below B. -/
def SlH (w : World) (B : Nat) (v : Value) (M : List Ht) : Prop :=
  ∃ A c, v = .slice A M.length c ∧ M.length ≤ c ∧ c ≤ maxLen ∧ (A = none → c = 0) ∧
    (0 < M.length → ∃ b off, A = some ⟨b, off, none⟩ ∧ b < B ∧ ∀ i t, M[i]? = some t → HAt w B b (off + i * 10) t)
section
variable {w w' : World} {B B' : Nat} {v : Value} {M : List Ht}
theorem HAtP.below {g o : Nat} {t : Ht} {a b qa qb qs : Value} (h : HAtP w B g o t a b qa qb qs) (hb : Below B w w') (hlt : g < B) : HAtP w' B g o t a b qa qb qs := by
  obtain ⟨⟨c0, c1, c2, c3, c4, c5, c6, c7, c8, c9⟩, s0, s1, s2, s3, s4⟩ := h
  have hc : ∀ j, w'.cell? ⟨g, j, none⟩ = w.cell? ⟨g, j, none⟩ := fun j => hb.cell (p := ⟨g, j, none⟩) hlt
  refine ⟨?_, s0.below hb, s1.below hb, s2.below hb, s3.below hb, s4.below hb⟩
  simp only [hc]
  exact ⟨c0, c1, c2, c3, c4, c5, c6, c7, c8, c9⟩
theorem HAt.below {g o : Nat} {t : Ht} (h : HAt w B g o t) (hb : Below B w w') (hlt : g < B) : HAt w' B g o t := by
  obtain ⟨a, b, qa, qb, qs, h⟩ := h
  exact ⟨a, b, qa, qb, qs, h.below hb hlt⟩
theorem HAtP.mono {g o : Nat} {t : Ht} {a b qa qb qs : Value} (h : HAtP w B g o t a b qa qb qs) (hB : B ≤ B') : HAtP w B' g o t a b qa qb qs :=
  ⟨h.1, h.2.1.mono hB, h.2.2.1.mono hB, h.2.2.2.1.mono hB, h.2.2.2.2.1.mono hB, h.2.2.2.2.2.mono hB⟩
theorem HAt.mono {g o : Nat} {t : Ht} (h : HAt w B g o t) (hB : B ≤ B') : HAt w B' g o t := by
  obtain ⟨a, b, qa, qb, qs, h⟩ := h
  exact ⟨a, b, qa, qb, qs, h.mono hB⟩
theorem SlH.nil_ : SlH w B (.slice none 0 0) [] := ⟨none, 0, rfl, Nat.le_refl _, by simp [maxLen], fun _ => rfl, fun h => absurd h (by simp)⟩
theorem SlH.mono (h : SlH w B v M) (hB : B ≤ B') : SlH w B' v M := by
  obtain ⟨A, c, rfl, h1, h2, h0, h3⟩ := h
  exact ⟨A, c, rfl, h1, h2, h0, fun hp => by
    obtain ⟨b, off, e, hb, hc⟩ := h3 hp
    exact ⟨b, off, e, by omega, fun i t ht => (hc i t ht).mono hB⟩⟩
theorem SlH.below (h : SlH w B v M) (hb : Below B w w') : SlH w' B v M := by
  obtain ⟨A, c, rfl, h1, h2, h0, h3⟩ := h
  exact ⟨A, c, rfl, h1, h2, h0, fun hp => by
    obtain ⟨b, off, e, hbb, hc⟩ := h3 hp
    exact ⟨b, off, e, hbb, fun i t ht => (hc i t ht).below hb hbb⟩⟩
theorem SlH.up (h : SlH w w.heap.size v M) (hb : Below w.heap.size w w') : SlH w' w'.heap.size v M := (h.below hb).mono hb.size
theorem SlH.drewN (h : SlH w B v M) (n : Nat) : SlH (w.drewN n) B v M := h.below (below_drewN (Below.refl _ _) n)
end

/-- A header as an element: its cells and its rows. -/
def rowsH (t : Ht) (p : HP) : List (List Row) := [segB 5 p.a t.l, segB 5 p.b t.k, segB 5 p.qa t.ql, segB 5 p.qb t.qk, segS 24 5 p.qs p.vs t.L]
def cellsH (t : Ht) (p : HP) : List Value := [.int .i64 t.x, .int .i64 t.y, .int .i64 t.z, p.a, p.b, .int .i64 t.qx, .int .i64 t.qy, p.qa, p.qb, p.qs]
def eltH (t : Ht) (p : HP) : Elt := (cellsH t p, (rowsH t p).flatten)
def eltsH (M : List Ht) (ps : List HP) : List Elt := List.zipWith eltH M ps
/-- The parts belong to the headers. -/
def OkH (M : List Ht) (ps : List HP) : Prop := ps.length = M.length ∧ ∀ (i : Nat) (t : Ht) (p : HP), M[i]? = some t → ps[i]? = some p → p.vs.length = t.L.length
/-- A slice of headers that is a call's own. -/
def segH (v : Value) (ps : List HP) (M : List Ht) : List Row := segY 78 10 v (eltsH M ps)
section
variable {M : List Ht} {ps : List HP} {i : Nat} {t t' : Ht} {p p' : HP}
theorem eltsH_len (h : ps.length = M.length) : (eltsH M ps).length = M.length := by simp [eltsH, h]
theorem eltsH_ten : ∀ e ∈ eltsH M ps, e.1.length = 10 := fun e he => by
  obtain ⟨i, hi⟩ := List.getElem?_of_mem he
  unfold eltsH at hi
  rw [List.getElem?_zipWith] at hi
  rcases hm : M[i]? with _ | t
  · rw [hm] at hi; cases hi
  · rcases hq : ps[i]? with _ | q
    · rw [hm, hq] at hi; cases hi
    · rw [hm, hq] at hi
      cases hi
      rfl
theorem eltsH_get (ht : M[i]? = some t) (hp : ps[i]? = some p) : (eltsH M ps)[i]? = some (eltH t p) := by
  unfold eltsH
  rw [List.getElem?_zipWith, ht, hp]
theorem eltsH_set (hi : i < M.length) (hl : ps.length = M.length) : (eltsH M ps).set i (eltH t p) = eltsH (M.set i t) (ps.set i p) := by
  apply List.ext_getElem?
  intro j
  unfold eltsH
  rw [List.getElem?_set, List.getElem?_zipWith, List.getElem?_zipWith, List.getElem?_set, List.getElem?_set]
  by_cases hj : i = j
  · subst hj
    have h7 : i < ps.length := by omega
    simp only [if_true, List.length_zipWith, hi, h7]
    rw [if_pos (by omega)]
  · simp [hj]
theorem eltsH_snoc (h : ps.length = M.length) (t : Ht) (p : HP) : eltsH (M ++ [t]) (ps ++ [p]) = eltsH M ps ++ [eltH t p] := by
  unfold eltsH
  rw [List.zipWith_append h.symm]
  rfl
theorem OkH.nil_ : OkH [] [] := ⟨rfl, fun i t p h => by simp at h⟩
theorem OkH.set (h : OkH M ps) (hi : i < M.length) (hv : p.vs.length = t.L.length) : OkH (M.set i t) (ps.set i p) := by
  refine ⟨by rw [List.length_set, List.length_set]; exact h.1, fun j s q h1 h2 => ?_⟩
  rw [List.getElem?_set] at h1 h2
  by_cases hj : i = j
  · subst hj
    have h7 : i < ps.length := by have := h.1; omega
    rw [if_pos rfl, if_pos hi] at h1
    rw [if_pos rfl, if_pos h7] at h2
    cases h1
    cases h2
    exact hv
  · rw [if_neg hj] at h1 h2
    exact h.2 j s q h1 h2
theorem OkH.snoc (h : OkH M ps) (hv : p.vs.length = t.L.length) : OkH (M ++ [t]) (ps ++ [p]) := by
  refine ⟨by simp [h.1], fun j s q h1 h2 => ?_⟩
  rcases Nat.lt_or_ge j M.length with hj | hj
  · rw [List.getElem?_append_left hj] at h1
    rw [List.getElem?_append_left (by have := h.1; omega)] at h2
    exact h.2 j s q h1 h2
  · rw [List.getElem?_append_right hj] at h1
    rw [List.getElem?_append_right (by have := h.1; omega), h.1] at h2
    rcases hk : j - M.length with _ | m
    · rw [hk] at h1 h2
      simp at h1 h2
      rw [← h1, ← h2]
      exact hv
    · rw [hk] at h1
      simp at h1
end
section
variable {W w w' : World} {ss : List (List Row)} {v : Value} {M : List Ht} {ps : List HP} {g c i : Nat} {t : Ht} {p : HP}
theorem InvF.rowsOfH (H : InvF W w ss) (h : segH v ps M ∈ ss) (ht : M[i]? = some t) (hp : ps[i]? = some p) {q : Row} (hq : q ∈ (rowsH t p).flatten) : GOwn w W.heap.size q :=
  H.2.1 q (InvF.mem h (.tail _ (rowsE_mem (eltsH_get ht hp) hq)))
theorem flat_mem {s : List Row} {gs : List (List Row)} {q : Row} (hs : s ∈ gs) (hq : q ∈ s) : q ∈ gs.flatten := List.mem_flatten.2 ⟨s, hs, hq⟩
theorem InvF.partsH (hk : OkH M ps) (H : InvF W w ss) (h : segH v ps M ∈ ss) (ht : M[i]? = some t) (hp : ps[i]? = some p) :
    Sl w w.heap.size p.a t.l ∧ Sl w w.heap.size p.b t.k ∧ Sl w w.heap.size p.qa t.ql ∧ Sl w w.heap.size p.qb t.qk ∧ SlS w w.heap.size p.qs t.L := by
  have hq := fun {q : Row} (hq : q ∈ (rowsH t p).flatten) => H.rowsOfH h ht hp hq
  have h5 : InvF W w (rowsH t p) := by
    refine ⟨H.1, fun q h => hq h, ?_⟩
    refine H.2.2.sublist ?_
    have hmem := eltsH_get ht hp
    obtain ⟨A, B, h2, _⟩ := rowsE_split hmem
    refine List.Sublist.trans ?_ (flatten_sub (List.singleton_sublist.2 h))
    rw [List.flatten_cons, List.flatten_nil, List.append_nil]
    unfold segH segY
    rw [h2]
    refine List.Sublist.cons _ ?_
    rw [List.append_assoc]
    exact (List.sublist_append_left _ _).trans (List.sublist_append_right _ _)
  exact ⟨h5.slB 5 (.head _), h5.slB 5 (.tail _ (.head _)), h5.slB 5 (.tail _ (.tail _ (.head _))), h5.slB 5 (.tail _ (.tail _ (.tail _ (.head _)))), h5.slS 24 5 (hk.2 i t p ht hp) (.tail _ (.tail _ (.tail _ (.tail _ (.head _)))))⟩
theorem InvF.cellsH (hk : OkH M ps) (H : InvF W w ss) (h : segH v ps M ∈ ss) (hv : v = .slice (some ⟨g, 0, none⟩) M.length c) (ht : M[i]? = some t) (hp : ps[i]? = some p) : ∀ j, j < 10 → w.cell? ⟨g, i * 10 + j, none⟩ = (Proofs.YtopbalemfljphaaDoor.cellsH t p)[j]? := fun j hj =>
  H.cellY (es := eltsH M ps) eltsH_ten h (by rw [eltsH_len hk.1]; exact hv) (eltsH_get ht hp) hj
theorem InvF.atH (hk : OkH M ps) (H : InvF W w ss) (h : segH v ps M ∈ ss) (hv : v = .slice (some ⟨g, 0, none⟩) M.length c) (ht : M[i]? = some t) (hp : ps[i]? = some p) : HAtP w w.heap.size g (i * 10) t p.a p.b p.qa p.qb p.qs := by
  have hc := H.cellsH hk h hv ht hp
  exact ⟨⟨hc 0 (by decide), hc 1 (by decide), hc 2 (by decide), hc 3 (by decide), hc 4 (by decide), hc 5 (by decide), hc 6 (by decide), hc 7 (by decide), hc 8 (by decide), hc 9 (by decide)⟩, H.partsH hk h ht hp⟩
theorem InvF.formH (hk : OkH M ps) (H : InvF W w ss) (h : segH v ps M ∈ ss) : ∃ A c, v = .slice A M.length c ∧ M.length ≤ c ∧ c ≤ maxLen ∧ (A = none → c = 0) ∧ (0 < M.length → ∃ g, A = some ⟨g, 0, none⟩ ∧ W.heap.size ≤ g ∧ g < w.heap.size) := by
  have h1 := H.formY (by decide) (eltsH_ten (M := M) (ps := ps)) h
  rw [eltsH_len hk.1] at h1
  exact h1
theorem InvF.frH (hk : OkH M ps) (H : InvF W w ss) (h : segH v ps M ∈ ss) (hv : v = .slice (some ⟨g, 0, none⟩) M.length c) (k : Nat) : w.frozen? ⟨g, k, none⟩ = false := H.frY (es := eltsH M ps) eltsH_ten h (by rw [eltsH_len hk.1]; exact hv) k
theorem InvF.slH (hk : OkH M ps) (H : InvF W w ss) (h : segH v ps M ∈ ss) : SlH w w.heap.size v M := by
  obtain ⟨A, c, e, h1, h2, h0, h3⟩ := H.formH hk h
  refine ⟨A, c, e, h1, h2, h0, fun hp => ?_⟩
  obtain ⟨g, rfl, _, hg⟩ := h3 hp
  refine ⟨g, 0, rfl, hg, fun i t ht => ?_⟩
  obtain ⟨q, hq⟩ : ∃ q, ps[i]? = some q := ⟨ps[i]'(by have := (List.getElem?_eq_some_iff.1 ht).1; have := hk.1; omega), List.getElem?_eq_getElem (by have := (List.getElem?_eq_some_iff.1 ht).1; have := hk.1; omega)⟩
  rw [Nat.zero_add]
  exact ⟨_, _, _, _, _, H.atH hk h e ht hq⟩
theorem InvF.openH (hk : OkH M ps) (H : InvF W w ss) (h : segH v ps M ∈ ss) : ∃ A c, v = .slice A M.length c := by
  obtain ⟨A, c, e, _⟩ := H.formH hk h
  exact ⟨A, c, e⟩
end

/-- How much a header's memory counts. -/
def volT (t : Ht) : Nat := t.l.length + t.k.length + t.ql.length + t.qk.length + t.L.length + sumL t.L
def volH : List Ht → Nat
  | [] => 0
  | t :: M => volT t + volH M
theorem volH_app (L M : List Ht) : volH (L ++ M) = volH L + volH M := by
  induction L with
  | nil => simp [volH]
  | cons t L ih => simp [volH, ih]; omega
theorem volH_take (L : List Ht) (k : Nat) (t : Ht) (h : L[k]? = some t) : volH (L.take (k + 1)) = volH (L.take k) + volT t := by
  rw [List.take_add_one, h, volH_app]
  simp [volH]
theorem volH_le (L : List Ht) (k : Nat) : volH (L.take k) ≤ volH L := by
  have h := volH_app (L.take k) (L.drop k)
  rw [List.take_append_drop] at h
  omega
theorem volH_mem {L : List Ht} {t : Ht} {i : Nat} (h : L[i]? = some t) : volT t ≤ volH L := by
  have h1 := volH_take L i t h
  have h2 := volH_le L (i + 1)
  omega
theorem getH {L : List Ht} {k : Nat} (h : k < L.length) : ∃ t, L[k]? = some t := ⟨L[k], List.getElem?_eq_getElem h⟩
/-- How many marks headers take. -/
def mkT (t : Ht) : Nat := t.l.length + t.k.length + t.ql.length + t.qk.length + sumL t.L + 5
def mkH : List Ht → Nat
  | [] => 0
  | t :: M => mkT t + mkH M
theorem mkH_app (L M : List Ht) : mkH (L ++ M) = mkH L + mkH M := by
  induction L with
  | nil => simp [mkH]
  | cons t L ih => simp [mkH, ih]; omega
theorem mkH_take (L : List Ht) (k : Nat) (t : Ht) (h : L[k]? = some t) : mkH (L.take (k + 1)) = mkH (L.take k) + mkT t := by
  rw [List.take_add_one, h, mkH_app]
  simp [mkH]
theorem mkH_le (L : List Ht) (k : Nat) : mkH (L.take k) ≤ mkH L := by
  have h := mkH_app (L.take k) (L.drop k)
  rw [List.take_append_drop] at h
  omega
theorem mkH_vol : ∀ L : List Ht, mkH L ≤ volH L + 5 * L.length
  | [] => by simp [mkH, volH]
  | t :: L => by
    have := mkH_vol L
    simp only [mkH, volH, mkT, volT, List.length_cons]
    omega
/-- A header marked from k on. -/
def markHT (k : Nat) (t : Ht) : Ht :=
  { x := (k : Int), y := (k : Int) + 1, z := (k : Int) + 2, l := marks (k + 3) t.l.length, k := marks (k + 3 + t.l.length) t.k.length, qx := ((k + 3 + t.l.length + t.k.length : Nat) : Int), qy := ((k + 3 + t.l.length + t.k.length : Nat) : Int) + 1,
    ql := marks (k + 5 + t.l.length + t.k.length) t.ql.length, qk := marks (k + 5 + t.l.length + t.k.length + t.ql.length) t.qk.length, L := marksS (k + 5 + t.l.length + t.k.length + t.ql.length + t.qk.length) t.L }
/-- Headers marked from k on. -/
def marksH (k : Nat) : List Ht → List Ht
  | [] => []
  | t :: L => markHT k t :: marksH (k + mkT t) L
theorem marksH_length (L : List Ht) : ∀ k, (marksH k L).length = L.length := by
  induction L with
  | nil => intro k; rfl
  | cons t L ih => intro k; simp [marksH, ih]
theorem marksH_get (L : List Ht) : ∀ k j t, L[j]? = some t → (marksH k L)[j]? = some (markHT (k + mkH (L.take j)) t) := by
  induction L with
  | nil => intro k j t h; simp at h
  | cons x L ih =>
    intro k j t h
    rcases j with _ | j
    · simp at h
      subst h
      simp [marksH, mkH]
    · have h1 := ih (k + mkT x) j t (by simpa using h)
      simp only [marksH, List.getElem?_cons_succ, List.take_succ_cons]
      rw [h1]
      congr 2
      simp only [mkH]
      omega
/-- What markHeadS has written after j headers. -/
def MHd (L : List Ht) (k j : Nat) : List Ht := (marksH k L).take j ++ L.drop j
theorem MHd_zero (L : List Ht) (k : Nat) : MHd L k 0 = L := by simp [MHd]
theorem MHd_full (L : List Ht) (k : Nat) : MHd L k L.length = marksH k L := by
  unfold MHd
  rw [List.drop_length, List.append_nil, List.take_of_length_le (by rw [marksH_length]; exact Nat.le_refl _)]
theorem MHd_length (L : List Ht) (k j : Nat) (h : j ≤ L.length) : (MHd L k j).length = L.length := by simp [MHd, marksH_length]; omega
theorem MHd_at (L : List Ht) (k j : Nat) (t : Ht) (h : L[j]? = some t) : (MHd L k j)[j]? = some t := by
  have hj := (List.getElem?_eq_some_iff.1 h).1
  have hl : ((marksH k L).take j).length = j := by rw [List.length_take, marksH_length]; omega
  unfold MHd
  rw [List.getElem?_append_right (by omega), hl, Nat.sub_self, List.getElem?_drop, Nat.add_zero, h]
theorem MHd_set (L : List Ht) (k j : Nat) (t : Ht) (h : L[j]? = some t) : (MHd L k j).set j (markHT (k + mkH (L.take j)) t) = MHd L k (j + 1) := by
  have hj := (List.getElem?_eq_some_iff.1 h).1
  have hl : ((marksH k L).take j).length = j := by rw [List.length_take, marksH_length]; omega
  have hm := marksH_get L k j t h
  unfold MHd
  rw [List.set_append_right _ _ (by omega), hl, Nat.sub_self, List.drop_eq_getElem_cons hj, List.set_cons_zero, List.take_add_one, hm, List.append_assoc]
  rfl
theorem OkH.marks {M : List Ht} {ps : List HP} (h : OkH M ps) (k : Nat) : OkH (marksH k M) ps := by
  refine ⟨by rw [marksH_length]; exact h.1, fun i t p h1 h2 => ?_⟩
  have hi : i < M.length := by have := (List.getElem?_eq_some_iff.1 h1).1; rw [marksH_length] at this; exact this
  obtain ⟨s, hs⟩ := getH hi
  rw [marksH_get M k i s hs] at h1
  cases h1
  show p.vs.length = (marksS _ s.L).length
  rw [marksS_length]
  exact h.2 i s p hs h2
end Go.Proofs.YtopbalemfljphaaDoor
