/- Slices of entries of timeout certificates: what they read as (SlE), a call's own as a segment of rows (segE: the row of their cells, thrice as long as the slice, and the rows of their tags), stores into them, their marks. -/
import Derived.Test.YtickneafppbegaaDoorBox
import Derived.Test.YtickneafppbegaaDoorQc
namespace Go.Proofs.YtickneafppbegaaDoor
open Go.RowKit Go.ChangeShapes Go.WideShapes Go.ChangeAt

structure Et where
  x : Int
  y : Int
  k : List UInt8
instance : Inhabited Et := ⟨⟨0, 0, []⟩⟩
/-- The entry t lies in three cells from o on in block b. -/
def EAt (w : World) (B b o : Nat) (t : Et) : Prop := ∃ u, w.cell? ⟨b, o, none⟩ = some (.int .i64 t.x) ∧ w.cell? ⟨b, o + 1, none⟩ = some (.int .i64 t.y) ∧ w.cell? ⟨b, o + 2, none⟩ = some u ∧ Sl w B u t.k
/-- The slice v reads as the entries L, in blocks below B. -/
def SlE (w : World) (B : Nat) (v : Value) (L : List Et) : Prop :=
  ∃ A c, v = .slice A L.length c ∧ L.length ≤ c ∧ c ≤ maxLen ∧ (A = none → c = 0) ∧
    (0 < L.length → ∃ b off, A = some ⟨b, off, none⟩ ∧ b < B ∧ ∀ i t, L[i]? = some t → EAt w B b (off + i * 3) t)
section
variable {w w' : World} {B B' : Nat} {v : Value} {L : List Et}
theorem EAt.below {b o : Nat} {t : Et} (h : EAt w B b o t) (hb : Below B w w') (hlt : b < B) : EAt w' B b o t := by
  obtain ⟨u, h0, h1, h2, h3⟩ := h
  exact ⟨u, (hb.cell (p := ⟨b, o, none⟩) hlt).trans h0, (hb.cell (p := ⟨b, o + 1, none⟩) hlt).trans h1, (hb.cell (p := ⟨b, o + 2, none⟩) hlt).trans h2, h3.below hb⟩
theorem EAt.mono {b o : Nat} {t : Et} (h : EAt w B b o t) (hB : B ≤ B') : EAt w B' b o t := by
  obtain ⟨u, h0, h1, h2, h3⟩ := h
  exact ⟨u, h0, h1, h2, h3.mono hB⟩
theorem SlE.nil_ : SlE w B (.slice none 0 0) [] := ⟨none, 0, rfl, Nat.le_refl _, by simp [maxLen], fun _ => rfl, fun h => absurd h (by simp)⟩
theorem SlE.mono (h : SlE w B v L) (hB : B ≤ B') : SlE w B' v L := by
  obtain ⟨A, c, rfl, h1, h2, h0, h3⟩ := h
  exact ⟨A, c, rfl, h1, h2, h0, fun hp => by
    obtain ⟨b, off, e, hb, hc⟩ := h3 hp
    exact ⟨b, off, e, by omega, fun i t ht => (hc i t ht).mono hB⟩⟩
theorem SlE.below (h : SlE w B v L) (hb : Below B w w') : SlE w' B v L := by
  obtain ⟨A, c, rfl, h1, h2, h0, h3⟩ := h
  exact ⟨A, c, rfl, h1, h2, h0, fun hp => by
    obtain ⟨b, off, e, hbb, hc⟩ := h3 hp
    exact ⟨b, off, e, hbb, fun i t ht => (hc i t ht).below hb hbb⟩⟩
theorem SlE.up (h : SlE w w.heap.size v L) (hb : Below w.heap.size w w') : SlE w' w'.heap.size v L := (h.below hb).mono hb.size
theorem SlE.drewN (h : SlE w B v L) (n : Nat) : SlE (w.drewN n) B v L := h.below (below_drewN (Below.refl _ _) n)
/-- The first entries. -/
theorem SlE.take {A : Option Addr} {n c : Nat} (h : SlE w B (.slice A n c) L) {j : Nat} (hj : j ≤ L.length) : SlE w B (.slice A j c) (L.take j) := by
  obtain ⟨A', c', e, h1, h2, h0, h3⟩ := h
  simp only [Value.slice.injEq] at e
  obtain ⟨rfl, rfl, rfl⟩ := e
  have hl : (L.take j).length = j := by rw [List.length_take]; omega
  refine ⟨A, c, by rw [hl], by omega, h2, h0, fun hp => ?_⟩
  rw [hl] at hp
  obtain ⟨b, off, e, hb, hc⟩ := h3 (by omega)
  refine ⟨b, off, e, hb, fun i t ht => hc i t ?_⟩
  have hi := (List.getElem?_eq_some_iff.1 ht).1
  rw [List.getElem?_take_of_lt (by omega)] at ht
  exact ht
end

/-- The value of a slice of entries, taken as a row of single cells. -/
def sc3 : Value → Value
  | .slice A n c => .slice A (n * 3) (c * 3)
  | v => v
/-- The cells of entries whose tags lie at ps. -/
def entC : List Et → List Value → List Value
  | t :: L, p :: ps => .int .i64 t.x :: .int .i64 t.y :: p :: entC L ps
  | _, _ => []
def tagsE (L : List Et) : List (List UInt8) := L.map (·.k)
/-- A slice of entries that is a call's own. -/
def segE (v : Value) (ps : List Value) (L : List Et) : List Row := (58, sc3 v, entC L ps) :: rowsS 5 ps (tagsE L)
section
theorem entC_len : ∀ (L : List Et) (ps : List Value), ps.length = L.length → (entC L ps).length = L.length * 3
  | [], [], _ => rfl
  | [], _ :: _, h => by simp at h
  | _ :: _, [], h => by simp at h
  | t :: L, p :: ps, h => by
    have := entC_len L ps (by simpa using h)
    simp [entC, this]
    omega
theorem entC_get : ∀ (L : List Et) (ps : List Value) (i : Nat) (t : Et) (p : Value), L[i]? = some t → ps[i]? = some p →
    (entC L ps)[i * 3]? = some (.int .i64 t.x) ∧ (entC L ps)[i * 3 + 1]? = some (.int .i64 t.y) ∧ (entC L ps)[i * 3 + 2]? = some p
  | [], _, _, _, _, h, _ => by simp at h
  | _ :: _, [], _, _, _, _, h => by simp at h
  | t' :: L, p' :: ps, 0, t, p, h, h' => by
    simp at h h'
    subst h h'
    simp [entC]
  | t' :: L, p' :: ps, i + 1, t, p, h, h' => by
    have := entC_get L ps i t p (by simpa using h) (by simpa using h')
    rw [show (i + 1) * 3 = i * 3 + 3 by omega]
    simpa [entC, Nat.add_right_comm] using this
theorem entC_x : ∀ (L : List Et) (ps : List Value) (i : Nat) (t : Et) (z : Int), L[i]? = some t → ps.length = L.length → (entC L ps).set (i * 3) (.int .i64 z) = entC (L.set i { t with x := z }) ps
  | [], _, _, _, _, h, _ => by simp at h
  | _ :: _, [], _, _, _, _, h => by simp at h
  | t' :: L, p' :: ps, 0, t, z, h, _ => by
    simp at h
    subst h
    simp [entC]
  | t' :: L, p' :: ps, i + 1, t, z, h, h' => by
    have := entC_x L ps i t z (by simpa using h) (by simpa using h')
    rw [show (i + 1) * 3 = i * 3 + 3 by omega]
    simpa [entC] using this
theorem entC_y : ∀ (L : List Et) (ps : List Value) (i : Nat) (t : Et) (z : Int), L[i]? = some t → ps.length = L.length → (entC L ps).set (i * 3 + 1) (.int .i64 z) = entC (L.set i { t with y := z }) ps
  | [], _, _, _, _, h, _ => by simp at h
  | _ :: _, [], _, _, _, _, h => by simp at h
  | t' :: L, p' :: ps, 0, t, z, h, _ => by
    simp at h
    subst h
    simp [entC]
  | t' :: L, p' :: ps, i + 1, t, z, h, h' => by
    have := entC_y L ps i t z (by simpa using h) (by simpa using h')
    rw [show (i + 1) * 3 + 1 = i * 3 + 1 + 3 by omega]
    simpa [entC] using this
theorem entC_p : ∀ (L : List Et) (ps : List Value) (i : Nat) (q : Value), i < L.length → ps.length = L.length → (entC L ps).set (i * 3 + 2) q = entC L (ps.set i q)
  | [], _, _, _, h, _ => by simp at h
  | _ :: _, [], _, _, _, h => by simp at h
  | t' :: L, p' :: ps, 0, q, h, _ => by simp [entC]
  | t' :: L, p' :: ps, i + 1, q, h, h' => by
    have := entC_p L ps i q (by simpa using h) (by simpa using h')
    rw [show (i + 1) * 3 + 2 = i * 3 + 2 + 3 by omega]
    simpa [entC] using this
theorem entC_k : ∀ (L : List Et) (ps : List Value) (i : Nat) (t : Et) (l : List UInt8), L[i]? = some t → entC (L.set i { t with k := l }) ps = entC L ps
  | [], _, _, _, _, h => by simp at h
  | _ :: _, [], _, _, _, _ => by simp [entC]
  | t' :: L, p' :: ps, 0, t, l, h => by
    simp at h
    subst h
    simp [entC]
  | t' :: L, p' :: ps, i + 1, t, l, h => by
    have := entC_k L ps i t l (by simpa using h)
    simpa [entC] using this
theorem tagsE_len (L : List Et) : (tagsE L).length = L.length := by simp [tagsE]
theorem tagsE_get {L : List Et} {i : Nat} {t : Et} (h : L[i]? = some t) : (tagsE L).getD i [] = t.k := by simp [tagsE, List.getD_eq_getElem?_getD, h]
theorem tagsE_set (L : List Et) (i : Nat) (t : Et) : tagsE (L.set i t) = (tagsE L).set i t.k := by simp [tagsE, List.map_set]
theorem tagsE_same {L : List Et} {i : Nat} {t t' : Et} (h : L[i]? = some t) (hk : t'.k = t.k) : tagsE (L.set i t') = tagsE L := by
  rw [tagsE_set, hk]
  apply List.ext_getElem?
  intro j
  rw [List.getElem?_set]
  by_cases hj : i = j
  · subst hj
    have hlt := (List.getElem?_eq_some_iff.1 h).1
    rw [if_pos rfl, tagsE_len, if_pos hlt]
    simp [tagsE, h]
  · rw [if_neg hj]
theorem ent_row {L : List Et} {ps : List Value} {i : Nat} {t : Et} {p : Value} (h : L[i]? = some t) (hp : ps[i]? = some p) : (rowsS 5 ps (tagsE L))[i]? = some (5, p, us t.k) := by
  have hlt := (List.getElem?_eq_some_iff.1 h).1
  rw [rowsS_get 5 ps (tagsE L) i p hp (by rw [tagsE_len]; exact hlt), tagsE_get h]
end
theorem ent_form {w : World} {B : Nat} {T : TypeId} {v : Value} {L : List Et} {ps : List Value} (hl : ps.length = L.length) (h : GOwn w B (T, sc3 v, entC L ps)) :
    ∃ A c, v = .slice A L.length c ∧ L.length ≤ c ∧ c ≤ maxLen ∧ (A = none → c = 0) ∧ (0 < L.length → ∃ g, A = some ⟨g, 0, none⟩ ∧ B ≤ g ∧ g < w.heap.size) := by
  have hlen := entC_len L ps hl
  unfold GOwn at h
  simp only at h
  rw [hlen] at h
  cases v with
  | slice A n c =>
    rcases h.2 with ⟨e, h0⟩ | ⟨g, cap, cur, e, hb, hg, hn, hm, hs, ht⟩
    · simp only [sc3, Value.slice.injEq] at e
      obtain ⟨rfl, e1, e2⟩ := e
      exact ⟨none, c, by congr 1; omega, by omega, by unfold maxLen; omega, fun _ => by omega, fun hp => by omega⟩
    · simp only [sc3, Value.slice.injEq] at e
      obtain ⟨rfl, e1, e2⟩ := e
      unfold maxLen at hm
      exact ⟨_, c, by congr 1; omega, by omega, by unfold maxLen; omega, (fun e => by cases e), fun _ => ⟨g, rfl, hb, (Array.getElem?_eq_some_iff.1 hg).1⟩⟩
  | _ =>
    exfalso
    rcases h.2 with ⟨e, _⟩ | ⟨g, cap, cur, e, _⟩ <;> simp [sc3] at e
section
variable {W w w' : World} {ss : List (List Row)} {v : Value} {L : List Et} {ps : List Value} {g c i : Nat} {t : Et} {p : Value}
theorem InvF.rowE (hl : ps.length = L.length) (H : InvF W w ss) (h : segE v ps L ∈ ss) (hv : v = .slice (some ⟨g, 0, none⟩) L.length c) : w.ownsRow W.heap.size 58 1 (.slice (some ⟨g, 0, none⟩) (L.length * 3) (c * 3)) (L.length * 3) (entC L ps) := by
  have h1 : GOwn w W.heap.size (58, sc3 v, entC L ps) := H.2.1 _ (InvF.mem h (.head _))
  unfold GOwn at h1
  simp only at h1
  rw [entC_len L ps hl, hv] at h1
  exact h1
theorem InvF.cellsE (hl : ps.length = L.length) (H : InvF W w ss) (h : segE v ps L ∈ ss) (hv : v = .slice (some ⟨g, 0, none⟩) L.length c) (ht : L[i]? = some t) (hp : ps[i]? = some p) :
    w.cell? ⟨g, i * 3, none⟩ = some (.int .i64 t.x) ∧ w.cell? ⟨g, i * 3 + 1, none⟩ = some (.int .i64 t.y) ∧ w.cell? ⟨g, i * 3 + 2, none⟩ = some p := by
  have hi := (List.getElem?_eq_some_iff.1 ht).1
  have h1 := H.rowE hl h hv
  obtain ⟨e0, e1, e2⟩ := entC_get L ps i t p ht hp
  exact ⟨(World.ownsRow.cellAt h1 (i * 3) (by omega)).trans e0, (World.ownsRow.cellAt h1 (i * 3 + 1) (by omega)).trans e1, (World.ownsRow.cellAt h1 (i * 3 + 2) (by omega)).trans e2⟩
theorem InvF.frE (hl : ps.length = L.length) (H : InvF W w ss) (h : segE v ps L ∈ ss) (hv : v = .slice (some ⟨g, 0, none⟩) L.length c) (k : Nat) : w.frozen? ⟨g, k, none⟩ = false := World.ownsRow.frozenAt (H.rowE hl h hv) k
theorem InvF.ownE (H : InvF W w ss) (h : segE v ps L ∈ ss) (ht : L[i]? = some t) (hp : ps[i]? = some p) : Own 5 w W.heap.size p t.k :=
  GOwn.b.1 (H.2.1 _ (InvF.mem h (.tail _ (List.mem_of_getElem? (ent_row ht hp)))))
theorem InvF.formE (hl : ps.length = L.length) (H : InvF W w ss) (h : segE v ps L ∈ ss) : ∃ A c, v = .slice A L.length c ∧ L.length ≤ c ∧ c ≤ maxLen ∧ (A = none → c = 0) ∧ (0 < L.length → ∃ g, A = some ⟨g, 0, none⟩ ∧ W.heap.size ≤ g ∧ g < w.heap.size) :=
  ent_form hl (H.2.1 _ (InvF.mem h (.head _)))
theorem InvF.slE (hl : ps.length = L.length) (H : InvF W w ss) (h : segE v ps L ∈ ss) : SlE w w.heap.size v L := by
  obtain ⟨A, c, e, h1, h2, h0, h3⟩ := H.formE hl h
  refine ⟨A, c, e, h1, h2, h0, fun hp => ?_⟩
  obtain ⟨g, rfl, _, hg⟩ := h3 hp
  refine ⟨g, 0, rfl, hg, fun i t ht => ?_⟩
  obtain ⟨q, hq⟩ : ∃ q, ps[i]? = some q := ⟨ps[i]'(by have := (List.getElem?_eq_some_iff.1 ht).1; omega), List.getElem?_eq_getElem (by have := (List.getElem?_eq_some_iff.1 ht).1; omega)⟩
  obtain ⟨e0, e1, e2⟩ := H.cellsE hl h e ht hq
  rw [Nat.zero_add]
  exact ⟨q, e0, e1, e2, (H.ownE h ht hq).sl⟩
theorem InvF.openE (hl : ps.length = L.length) (H : InvF W w ss) (h : segE v ps L ∈ ss) : ∃ A c, v = .slice A L.length c := by
  obtain ⟨A, c, e, _⟩ := H.formE hl h
  exact ⟨A, c, e⟩
/-- A cell of the row is written. -/
theorem InvF.storeE (hl : ps.length = L.length) (H : InvF W w (segE v ps L :: ss)) (hv : v = .slice (some ⟨g, 0, none⟩) L.length c) (j : Nat) (u : Value) :
    InvF W (w.setCell ⟨g, j, none⟩ u) (((58, sc3 v, (entC L ps).set j u) :: rowsS 5 ps (tagsE L)) :: ss) := by
  have hst := World.ownsRow.stored (H.rowE hl (.head _) hv) j u
  have h1 : GOwn (w.setCell ⟨g, j, none⟩ u) W.heap.size (58, sc3 v, (entC L ps).set j u) := by
    unfold GOwn
    simp only [List.length_set]
    rw [entC_len L ps hl, hv]
    exact hst.1
  have hg : w.grownBy (w.setCell ⟨g, j, none⟩ u) (sc3 v).ownBlock := by rw [hv]; exact hst.2
  exact InvG.wrote (x := entC L ps) H h1 hg
theorem InvF.setEx (hl : ps.length = L.length) (H : InvF W w (segE v ps L :: ss)) (hv : v = .slice (some ⟨g, 0, none⟩) L.length c) (ht : L[i]? = some t) (z : Int) :
    InvF W (w.setCell ⟨g, i * 3, none⟩ (.int .i64 z)) (segE v ps (L.set i { t with x := z }) :: ss) := by
  have h := H.storeE hl hv (i * 3) (.int .i64 z)
  rw [entC_x L ps i t z ht hl, ← tagsE_same (t' := { t with x := z }) ht rfl] at h
  exact h
theorem InvF.setEy (hl : ps.length = L.length) (H : InvF W w (segE v ps L :: ss)) (hv : v = .slice (some ⟨g, 0, none⟩) L.length c) (ht : L[i]? = some t) (z : Int) :
    InvF W (w.setCell ⟨g, i * 3 + 1, none⟩ (.int .i64 z)) (segE v ps (L.set i { t with y := z }) :: ss) := by
  have h := H.storeE hl hv (i * 3 + 1) (.int .i64 z)
  rw [entC_y L ps i t z ht hl, ← tagsE_same (t' := { t with y := z }) ht rfl] at h
  exact h
/-- A tag's row is written. -/
theorem InvF.wroteE (H : InvF W w (segE v ps L :: ss)) (ht : L[i]? = some t) (hp : ps[i]? = some p) {l' : List UInt8} (ho : Own 5 w' W.heap.size p l') (hg : w.grownBy w' p.ownBlock) :
    InvF W w' (segE v ps (L.set i { t with k := l' }) :: ss) := by
  have hr := ent_row ht hp
  have hlt := (List.getElem?_eq_some_iff.1 hr).1
  have h := InvG.wroteAt (i + 1) (E := 5) (v := p) (x := us t.k) (l' := l') (by
    unfold InvF at H
    show ((segE v ps L :: ss).flatten)[i + 1]? = _
    rw [List.flatten_cons]
    unfold segE
    rw [List.cons_append, List.getElem?_cons_succ, List.getElem?_append_left hlt]
    exact hr) H ho hg
  have e : ((segE v ps L :: ss).flatten).set (i + 1) (5, p, us l') = (segE v ps (L.set i { t with k := l' }) :: ss).flatten := by
    rw [List.flatten_cons, List.flatten_cons]
    unfold segE
    rw [List.cons_append, List.set_cons_succ, List.set_append_left _ _ hlt, rowsS_set 5 ps (tagsE L) i p l' hp, entC_k L ps i t l' ht, tagsE_set]
    rfl
  unfold InvF
  rw [← e]
  exact h
/-- An entry is stored over another one, cell by cell; its tag's row waited at the head. -/
theorem InvF.putE (hl : ps.length = L.length) (H : InvF W w (segB 5 p t.k :: segE v ps L :: ss)) (hv : v = .slice (some ⟨g, 0, none⟩) L.length c) (hi : i < L.length) :
    InvF W (((w.setCell ⟨g, i * 3, none⟩ (.int .i64 t.x)).setCell ⟨g, i * 3 + 1, none⟩ (.int .i64 t.y)).setCell ⟨g, i * 3 + 2, none⟩ p) (segE v (ps.set i p) (L.set i t) :: ss) := by
  obtain ⟨t0, ht0⟩ : ∃ t0, L[i]? = some t0 := ⟨L[i], List.getElem?_eq_getElem hi⟩
  obtain ⟨p0, hp0⟩ : ∃ p, ps[i]? = some p := ⟨ps[i]'(by omega), List.getElem?_eq_getElem (by omega)⟩
  have H0 := H.front 1 rfl
  have H1 := H0.setEx hl hv ht0 t.x
  have hs1 : (L.set i { t0 with x := t.x })[i]? = some { t0 with x := t.x } := by rw [List.getElem?_set, if_pos rfl, if_pos hi]
  have H2 := H1.setEy (by rw [List.length_set]; exact hl) (by rw [List.length_set]; exact hv) hs1 t.y
  rw [List.set_set] at H2
  have H3 := H2.storeE (by rw [List.length_set]; exact hl) (by rw [List.length_set]; exact hv) (i * 3 + 2) p
  rw [entC_p _ ps i p (by rw [List.length_set]; exact hi) (by rw [List.length_set]; exact hl)] at H3
  have hM : (L.set i { x := t.x, y := t.y, k := t0.k })[i]? = some { x := t.x, y := t.y, k := t0.k } := by rw [List.getElem?_set, if_pos rfl, if_pos hi]
  have hk := entC_k (L.set i { x := t.x, y := t.y, k := t0.k }) (ps.set i p) i _ t.k hM
  rw [List.set_set] at hk
  have ht' : tagsE (L.set i { x := t.x, y := t.y, k := t0.k }) = tagsE L := by
    have h := tagsE_same (t' := { x := t.x, y := t.y, k := t0.k }) ht0 rfl
    exact h
  have hR : rowsS 5 (ps.set i p) (tagsE (L.set i t)) = (rowsS 5 ps (tagsE L)).set i (5, p, us t.k) := by
    have h5 : (ps.set i p)[i]? = some p := by rw [List.getElem?_set, if_pos rfl, if_pos (by omega)]
    unfold rowsS
    apply List.ext_getElem?
    intro j
    rw [tagsE_set, List.getElem?_set, List.getElem?_zipWith, List.getElem?_zipWith, List.getElem?_set, List.getElem?_set]
    by_cases hj : i = j
    · subst hj
      have h6 : i < (tagsE L).length := by rw [tagsE_len]; exact hi
      have h7 : i < ps.length := by omega
      simp only [if_true, List.length_zipWith, h6, h7]
      rw [if_pos (by omega)]
    · simp [hj]
  have hlt : i < (rowsS 5 ps (tagsE L)).length := by rw [rowsS_len _ _ _ (by rw [tagsE_len]; exact hl), tagsE_len]; exact hi
  unfold InvF at H3 ⊢
  simp only [List.eraseIdx, List.flatten_cons, segB] at H3
  rw [List.flatten_cons]
  have e2 : segE v (ps.set i p) (L.set i t) = (58, sc3 v, entC (L.set i { x := t.x, y := t.y, k := t0.k }) (ps.set i p)) :: (rowsS 5 ps (tagsE L)).set i (5, p, us t.k) := by
    unfold segE
    rw [hR, ← hk]
  rw [e2]
  rw [ht'] at H3
  generalize entC (L.set i { x := t.x, y := t.y, k := t0.k }) (ps.set i p) = C at *
  generalize rowsS 5 ps (tagsE L) = R at *
  have hp1 : ((58, sc3 v, C) :: (R ++ ([(5, p, us t.k)] ++ ss.flatten))).Perm ((58, sc3 v, C) :: ((R.take i ++ (5, p, us t.k) :: R.drop i) ++ ss.flatten)) := by
    refine List.Perm.cons _ ?_
    conv => lhs; rw [← List.take_append_drop i R]
    rw [List.append_assoc, List.append_assoc]
    refine List.Perm.append_left _ ?_
    rw [List.cons_append, List.nil_append, List.cons_append]
    exact List.perm_middle
  refine InvG.sub (InvG.perm H3 hp1) ?_
  rw [List.set_eq_take_append_cons_drop, if_pos hlt]
  refine List.Sublist.cons_cons _ ?_
  refine List.Sublist.append ?_ (List.Sublist.refl _)
  refine List.Sublist.append (List.Sublist.refl _) (List.Sublist.cons_cons _ ?_)
  exact List.drop_sublist_drop_left _ (Nat.le_succ i)
end

/-- How much the tags count, in all. -/
def volE : List Et → Nat
  | [] => 0
  | t :: L => t.k.length + volE L
theorem volE_app (L M : List Et) : volE (L ++ M) = volE L + volE M := by
  induction L with
  | nil => simp [volE]
  | cons t L ih => simp [volE, ih]; omega
theorem volE_take (L : List Et) (k : Nat) (t : Et) (h : L[k]? = some t) : volE (L.take (k + 1)) = volE (L.take k) + t.k.length := by
  rw [List.take_add_one, h, volE_app]
  simp [volE]
theorem volE_le (L : List Et) (k : Nat) : volE (L.take k) ≤ volE L := by
  have h := volE_app (L.take k) (L.drop k)
  rw [List.take_append_drop] at h
  omega
theorem volE_mem {L : List Et} {t : Et} {i : Nat} (h : L[i]? = some t) : t.k.length ≤ volE L := by
  have h1 := volE_take L i t h
  have h2 := volE_le L (i + 1)
  omega
theorem getE {L : List Et} {k : Nat} (h : k < L.length) : ∃ t, L[k]? = some t := ⟨L[k], List.getElem?_eq_getElem h⟩
/-- How many marks entries take. -/
def mkE (L : List Et) : Nat := volE L + 2 * L.length
theorem mkE_take (L : List Et) (k : Nat) (t : Et) (h : L[k]? = some t) : mkE (L.take (k + 1)) = mkE (L.take k) + (t.k.length + 2) := by
  have hk := (List.getElem?_eq_some_iff.1 h).1
  unfold mkE
  rw [volE_take L k t h, List.length_take, List.length_take, Nat.min_eq_left (by omega), Nat.min_eq_left (by omega)]
  omega
theorem mkE_le (L : List Et) (k : Nat) : mkE (L.take k) ≤ mkE L := by
  unfold mkE
  have := volE_le L k
  rw [List.length_take]
  omega
/-- An entry marked from k on. -/
def markTE (k : Nat) (t : Et) : Et := ⟨(k : Int), (k : Int) + 1, marks (k + 2) t.k.length⟩
/-- Entries marked from k on. -/
def marksE (k : Nat) : List Et → List Et
  | [] => []
  | t :: L => markTE k t :: marksE (k + (t.k.length + 2)) L
theorem marksE_length (L : List Et) : ∀ k, (marksE k L).length = L.length := by
  induction L with
  | nil => intro k; rfl
  | cons t L ih => intro k; simp [marksE, ih]
theorem marksE_get (L : List Et) : ∀ k j t, L[j]? = some t → (marksE k L)[j]? = some (markTE (k + mkE (L.take j)) t) := by
  induction L with
  | nil => intro k j t h; simp at h
  | cons x L ih =>
    intro k j t h
    rcases j with _ | j
    · simp at h
      subst h
      simp [marksE, mkE, volE]
    · have h1 := ih (k + (x.k.length + 2)) j t (by simpa using h)
      simp only [marksE, List.getElem?_cons_succ, List.take_succ_cons]
      rw [h1]
      congr 2
      simp only [mkE, volE, List.length_cons]
      omega
theorem volE_marks (L : List Et) : ∀ k, volE (marksE k L) = volE L := by
  induction L with
  | nil => intro k; rfl
  | cons t L ih => intro k; simp [marksE, volE, markTE, ih, marks_length]
theorem mkE_marks (L : List Et) (k : Nat) : mkE (marksE k L) = mkE L := by
  unfold mkE
  rw [volE_marks, marksE_length]
/-- What markEntryS has written after j entries. -/
def ME (L : List Et) (k j : Nat) : List Et := (marksE k L).take j ++ L.drop j
theorem ME_zero (L : List Et) (k : Nat) : ME L k 0 = L := by simp [ME]
theorem ME_full (L : List Et) (k : Nat) : ME L k L.length = marksE k L := by
  unfold ME
  rw [List.drop_length, List.append_nil, List.take_of_length_le (by rw [marksE_length]; exact Nat.le_refl _)]
theorem ME_length (L : List Et) (k j : Nat) (h : j ≤ L.length) : (ME L k j).length = L.length := by simp [ME, marksE_length]; omega
theorem ME_at (L : List Et) (k j : Nat) (t : Et) (h : L[j]? = some t) : (ME L k j)[j]? = some t := by
  have hj := (List.getElem?_eq_some_iff.1 h).1
  have hl : ((marksE k L).take j).length = j := by rw [List.length_take, marksE_length]; omega
  unfold ME
  rw [List.getElem?_append_right (by omega), hl, Nat.sub_self, List.getElem?_drop, Nat.add_zero, h]
theorem ME_set (L : List Et) (k j : Nat) (t : Et) (h : L[j]? = some t) : (ME L k j).set j (markTE (k + mkE (L.take j)) t) = ME L k (j + 1) := by
  have hj := (List.getElem?_eq_some_iff.1 h).1
  have hl : ((marksE k L).take j).length = j := by rw [List.length_take, marksE_length]; omega
  have hm := marksE_get L k j t h
  unfold ME
  rw [List.set_append_right _ _ (by omega), hl, Nat.sub_self, List.drop_eq_getElem_cons hj, List.set_cons_zero, List.take_add_one, hm, List.append_assoc]
  rfl
theorem setE_get {L : List Et} {j : Nat} {t : Et} (h : j < L.length) : (L.set j t)[j]? = some t := by rw [List.getElem?_set, if_pos rfl, if_pos h]
/-- What toEntryS has made after j entries. -/
def TE (L : List Et) (j : Nat) : List Et := L.take j ++ List.replicate (L.length - j) default
theorem TE_zero (L : List Et) : TE L 0 = List.replicate L.length default := by simp [TE]
theorem TE_full (L : List Et) : TE L L.length = L := by simp [TE]
theorem TE_length (L : List Et) (j : Nat) (h : j ≤ L.length) : (TE L j).length = L.length := by simp [TE]; omega
theorem TE_set (L : List Et) (j : Nat) (t : Et) (h : L[j]? = some t) : (TE L j).set j t = TE L (j + 1) := by
  have hj := (List.getElem?_eq_some_iff.1 h).1
  have hl : (L.take j).length = j := by rw [List.length_take]; omega
  unfold TE
  rw [List.set_append_right _ _ (by omega), hl, Nat.sub_self, show L.length - j = (L.length - (j + 1)) + 1 by omega, List.replicate_succ, List.set_cons_zero, List.take_add_one, h, List.append_assoc]
  rfl
theorem madeE_get (Z : Array Value) (n k : Nat) (hk : k < n) : (madeCells Z n).toList[k]? = some (Z[k % Z.size]!) := by simp [madeCells, hk]
/-- A row of entries just made: all zero. -/
theorem zeroE (n : Nat) : (madeCells (Value.agg #[.int .i64 0, .int .i64 0, .slice none 0 0]).cells (n * 3)).toList = entC (List.replicate n (default : Et)) (List.replicate n (.slice none 0 0)) := by
  have hl1 : (madeCells (Value.agg #[.int .i64 0, .int .i64 0, .slice none 0 0]).cells (n * 3)).toList.length = n * 3 := by simp [size_madeCells]
  have hl2 := entC_len (List.replicate n (default : Et)) (List.replicate n (.slice none 0 0)) (by simp)
  rw [List.length_replicate] at hl2
  apply List.ext_getElem?
  intro k
  by_cases hk : k < n * 3
  · have e1 : k = k / 3 * 3 + k % 3 := by omega
    have hi : k / 3 < n := by omega
    obtain ⟨g0, g1, g2⟩ := entC_get (List.replicate n (default : Et)) (List.replicate n (.slice none 0 0)) (k / 3) default (.slice none 0 0) (List.getElem?_replicate_of_lt hi) (List.getElem?_replicate_of_lt hi)
    have hj : k % 3 = 0 ∨ k % 3 = 1 ∨ k % 3 = 2 := by omega
    rw [madeE_get _ _ _ hk]
    have hs3 : k % (Value.agg #[.int .i64 0, .int .i64 0, .slice none 0 0]).cells.size = k % 3 := rfl
    rw [hs3]
    conv => rhs; rw [e1]
    rcases hj with h | h | h <;> rw [h]
    · rw [Nat.add_zero, g0]; rfl
    · rw [g1]; rfl
    · rw [g2]; rfl
  · rw [List.getElem?_eq_none (by omega), List.getElem?_eq_none (by omega)]
/-- A slice of n entries just made is a call's own. -/
theorem InvF.madeE {W w w1 : World} {ss : List (List Row)} {n : Nat} (H : InvF W w ss) (hn : n ≤ 1073741824)
    (ho : w1.ownsRow w.heap.size 58 3 (.slice (some ⟨w.heap.size, 0, none⟩) n n) n (madeCells (Value.agg #[.int .i64 0, .int .i64 0, .slice none 0 0]).cells (n * 3)).toList) (hb : Below w.heap.size w w1) :
    InvF W w1 (segE (.slice (some ⟨w.heap.size, 0, none⟩) n n) (List.replicate n (.slice none 0 0)) (List.replicate n default) :: ss) := by
  have hl : (List.replicate n (Value.slice none 0 0)).length = (List.replicate n (default : Et)).length := by simp
  have hrow : GOwn w1 w.heap.size (58, sc3 (.slice (some ⟨w.heap.size, 0, none⟩) n n), entC (List.replicate n (default : Et)) (List.replicate n (.slice none 0 0))) := by
    unfold GOwn
    simp only
    rw [entC_len _ _ hl, List.length_replicate, ← zeroE]
    refine ⟨by simp [size_madeCells], ?_⟩
    rcases ho.2 with ⟨e, _⟩ | ⟨g, cap, cur, e, h1, h2, h3, h4, h5, h6⟩
    · simp at e
    · simp only [Value.slice.injEq, Option.some.injEq, Addr.mk.injEq, and_true, true_and] at e
      obtain ⟨rfl, rfl⟩ := e
      refine .inr ⟨_, n * 3, cur, rfl, h1, h2, Nat.le_refl _, by unfold maxLen; omega, by rw [h5, Nat.mul_one], by rw [Nat.mul_one]; exact h6⟩
  have hnil : ∀ q ∈ rowsS 5 (List.replicate n (.slice none 0 0)) (tagsE (List.replicate n default)), q = (5, .slice none 0 0, us []) := fun q hq => by
    unfold rowsS tagsE at hq
    rw [List.map_replicate, List.zipWith_replicate] at hq
    rw [List.eq_of_mem_replicate hq]
    rfl
  refine H.more (s := segE _ _ _) ⟨hb, fun q hq => ?_, ?_⟩
  · rcases List.mem_cons.1 hq with rfl | hq
    · exact hrow
    · rw [hnil q hq]
      exact World.ownsRow_nil _ _ _ _
  · refine List.pairwise_cons.2 ⟨fun q hq => ?_, ?_⟩
    · rw [hnil q hq]
      exact .inr (by simp [sc3, Value.ownBlock])
    · refine List.Pairwise.imp_of_mem (R := fun _ _ => True) (fun {a b} ha _ _ => ?_) (List.pairwise_of_forall (fun _ _ => trivial))
      rw [hnil a ha]
      exact .inl rfl
end Go.Proofs.YtickneafppbegaaDoor
