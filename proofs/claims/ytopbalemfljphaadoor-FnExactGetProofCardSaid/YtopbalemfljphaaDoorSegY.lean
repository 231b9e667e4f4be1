/- A slice of structs that is a call's own, its room no greater than its length's many: its row of cells taken as a row of single cells (scN), the rows behind its elements; an element taken out into segments of its own and put back. No program is named here. -/
import Derived.Test.YtopbalemfljphaaDoorRowsE
namespace Go.Proofs.YtopbalemfljphaaDoor
open Go.RowKit Go.ChangeShapes Go.WideShapes Go.ChangeAt

/-- The value of a slice of structs of s cells, taken as a row of single cells. -/
def scN (s : Nat) : Value → Value
  | .slice A n c => .slice A (n * s) (c * s)
  | v => v
/-- The elements es of a slice v of structs of type T and s cells. -/
def segY (T : TypeId) (s : Nat) (v : Value) (es : List Elt) : List Row := (T, scN s v, cellsE es) :: rowsE es
theorem elt_div {n c s : Nat} (hs : 0 < s) (h : n * s = c * s) : n = c := Nat.eq_of_mul_eq_mul_right hs h
theorem elt_le {n c s : Nat} (hs : 0 < s) (h : n * s ≤ c * s) : n ≤ c := Nat.le_of_mul_le_mul_right h hs
theorem le_mulr {c s : Nat} (hs : 0 < s) : c ≤ c * s := Nat.le_mul_of_pos_right c hs
theorem formY {w : World} {B s : Nat} {T : TypeId} {v : Value} {es : List Elt} (hs : 0 < s) (hl : ∀ e ∈ es, e.1.length = s) (h : GOwn w B (T, scN s v, cellsE es)) :
    ∃ A c, v = .slice A es.length c ∧ es.length ≤ c ∧ c ≤ maxLen ∧ (A = none → c = 0) ∧ (0 < es.length → ∃ g, A = some ⟨g, 0, none⟩ ∧ B ≤ g ∧ g < w.heap.size) := by
  have hlen := cellsE_len s es hl
  unfold GOwn at h
  simp only at h
  rw [hlen] at h
  cases v with
  | slice A n c =>
    rcases h.2 with ⟨e, h0⟩ | ⟨g, cap, cur, e, hb, hg, hn, hm, hsz, ht⟩
    · simp only [scN, Value.slice.injEq] at e
      obtain ⟨rfl, e1, e2⟩ := e
      have k1 : n = 0 := elt_div hs (by rw [e1, Nat.zero_mul])
      have k2 : c = 0 := elt_div hs (by rw [e2, Nat.zero_mul])
      have k3 : es.length = 0 := elt_div hs (by rw [h0, Nat.zero_mul])
      subst k1 k2
      exact ⟨none, 0, by rw [k3], by omega, by unfold maxLen; omega, fun _ => rfl, fun hp => by omega⟩
    · simp only [scN, Value.slice.injEq] at e
      obtain ⟨rfl, e1, e2⟩ := e
      have k1 := elt_div hs e1
      have k2 : es.length ≤ c := elt_le hs (by rw [e2]; exact hn)
      have k3 : c ≤ maxLen := Nat.le_trans (le_mulr hs) (by rw [e2]; exact hm)
      subst k1
      exact ⟨_, c, rfl, k2, k3, (fun e => by cases e), fun _ => ⟨g, rfl, hb, (Array.getElem?_eq_some_iff.1 hg).1⟩⟩
  | _ =>
    exfalso
    rcases h.2 with ⟨e, _⟩ | ⟨g, cap, cur, e, _⟩ <;> simp [scN] at e
theorem idx_lt {i n j s : Nat} (hi : i < n) (hj : j < s) : i * s + j < n * s := by
  have : (i + 1) * s ≤ n * s := Nat.mul_le_mul_right s hi
  rw [Nat.add_mul] at this
  omega
section
variable {W w w' : World} {ss : List (List Row)} {T : TypeId} {s g c i : Nat} {v : Value} {es : List Elt} {e e' : Elt}
theorem InvF.rowY (hl : ∀ e ∈ es, e.1.length = s) (H : InvF W w ss) {q : List Row} (h : ((T, scN s v, cellsE es) :: q) ∈ ss) (hv : v = .slice (some ⟨g, 0, none⟩) es.length c) :
    w.ownsRow W.heap.size T 1 (.slice (some ⟨g, 0, none⟩) (es.length * s) (c * s)) (es.length * s) (cellsE es) := by
  have h1 : GOwn w W.heap.size (T, scN s v, cellsE es) := H.2.1 _ (InvF.mem h (.head _))
  unfold GOwn at h1
  simp only at h1
  rw [cellsE_len s es hl, hv] at h1
  exact h1
/-- The cells of an element. -/
theorem InvF.cellY (hl : ∀ e ∈ es, e.1.length = s) (H : InvF W w ss) {q : List Row} (h : ((T, scN s v, cellsE es) :: q) ∈ ss) (hv : v = .slice (some ⟨g, 0, none⟩) es.length c) (he : es[i]? = some e) {j : Nat} (hj : j < s) :
    w.cell? ⟨g, i * s + j, none⟩ = e.1[j]? := by
  have hi := (List.getElem?_eq_some_iff.1 he).1
  have h1 := H.rowY hl h hv
  rw [World.ownsRow.cellAt h1 (i * s + j) (by have := idx_lt hi hj; omega), cellsE_get s es i j e hl he hj]
theorem InvF.frY (hl : ∀ e ∈ es, e.1.length = s) (H : InvF W w ss) {q : List Row} (h : ((T, scN s v, cellsE es) :: q) ∈ ss) (hv : v = .slice (some ⟨g, 0, none⟩) es.length c) (k : Nat) : w.frozen? ⟨g, k, none⟩ = false := World.ownsRow.frozenAt (H.rowY hl h hv) k
theorem InvF.formY (hs : 0 < s) (hl : ∀ e ∈ es, e.1.length = s) (H : InvF W w ss) {q : List Row} (h : ((T, scN s v, cellsE es) :: q) ∈ ss) :
    ∃ A c, v = .slice A es.length c ∧ es.length ≤ c ∧ c ≤ maxLen ∧ (A = none → c = 0) ∧ (0 < es.length → ∃ g, A = some ⟨g, 0, none⟩ ∧ W.heap.size ≤ g ∧ g < w.heap.size) :=
  Proofs.YtopbalemfljphaaDoor.formY hs hl (H.2.1 _ (InvF.mem h (.head _)))
theorem set_lens (hl : ∀ e ∈ es, e.1.length = s) (he : e'.1.length = s) : ∀ x ∈ es.set i e', x.1.length = s := fun x hx => by
  rcases List.mem_or_eq_of_mem_set hx with h | rfl
  · exact hl x h
  · exact he
/-- A cell of the row is written; the elements' rows stand apart or behind it (q). -/
theorem InvF.storeY (hl : ∀ e ∈ es, e.1.length = s) {q : List Row} (H : InvF W w (((T, scN s v, cellsE es) :: q) :: ss)) (hv : v = .slice (some ⟨g, 0, none⟩) es.length c) (he : es[i]? = some e) {j : Nat} (hj : j < s) (u : Value) :
    InvF W (w.setCell ⟨g, i * s + j, none⟩ u) (((T, scN s v, cellsE (es.set i (e.1.set j u, e.2))) :: q) :: ss) := by
  have hst := World.ownsRow.stored (H.rowY hl (.head _) hv) (i * s + j) u
  have h1 : GOwn (w.setCell ⟨g, i * s + j, none⟩ u) W.heap.size (T, scN s v, cellsE (es.set i (e.1.set j u, e.2))) := by
    unfold GOwn
    simp only
    rw [← cellsE_set s es i j e u hl he hj, List.length_set, cellsE_len s es hl, hv]
    exact hst.1
  have hg : w.grownBy (w.setCell ⟨g, i * s + j, none⟩ u) (scN s v).ownBlock := by rw [hv]; exact hst.2
  exact InvG.wrote (x := cellsE es) H h1 hg
/-- An element's rows as segments of their own. -/
theorem InvF.openY (H : InvF W w (segY T s v es :: ss)) (he : es[i]? = some e) {gs : List (List Row)} (hg : gs.flatten = e.2) :
    ∃ A B, (∀ e' : Elt, rowsE (es.set i e') = A ++ e'.2 ++ B) ∧ InvF W w ([(T, scN s v, cellsE es)] :: gs ++ ((A ++ B) :: ss)) := by
  obtain ⟨A, B, h2, h3⟩ := rowsE_split he
  refine ⟨A, B, h3, ?_⟩
  unfold InvF at H ⊢
  have e1 : ([(T, scN s v, cellsE es)] :: gs ++ ((A ++ B) :: ss)).flatten = (T, scN s v, cellsE es) :: (e.2 ++ (A ++ (B ++ ss.flatten))) := by
    rw [List.cons_append, List.flatten_cons, List.flatten_append, List.flatten_cons, hg, List.singleton_append, List.append_assoc A B]
  have e2 : (segY T s v es :: ss).flatten = (T, scN s v, cellsE es) :: (A ++ (e.2 ++ (B ++ ss.flatten))) := by
    unfold segY
    rw [List.flatten_cons, h2, List.cons_append, List.append_assoc, List.append_assoc]
  rw [e1]
  rw [e2] at H
  exact InvG.perm H (List.Perm.cons _ (List.perm_append_comm_assoc _ _ _))
/-- And back. -/
theorem InvF.closeY {A B : List Row} (h3 : ∀ e' : Elt, rowsE (es.set i e') = A ++ e'.2 ++ B) {gs : List (List Row)} (hg : gs.flatten = e'.2) (H : InvF W w ([(T, scN s v, cellsE (es.set i e'))] :: gs ++ ((A ++ B) :: ss))) : InvF W w (segY T s v (es.set i e') :: ss) := by
  unfold InvF at H ⊢
  have e1 : ([(T, scN s v, cellsE (es.set i e'))] :: gs ++ ((A ++ B) :: ss)).flatten = (T, scN s v, cellsE (es.set i e')) :: (e'.2 ++ (A ++ (B ++ ss.flatten))) := by
    rw [List.cons_append, List.flatten_cons, List.flatten_append, List.flatten_cons, hg, List.singleton_append, List.append_assoc A B]
  have e2 : (segY T s v (es.set i e') :: ss).flatten = (T, scN s v, cellsE (es.set i e')) :: (A ++ (e'.2 ++ (B ++ ss.flatten))) := by
    unfold segY
    rw [List.flatten_cons, h3 e', List.cons_append, List.append_assoc, List.append_assoc]
  rw [e1] at H
  rw [e2]
  exact InvG.perm H (List.Perm.cons _ (List.perm_append_comm_assoc _ _ _))
/-- An element is put over another one: its cells have been written, its rows waited. -/
theorem InvF.putY (he : es[i]? = some e) {gs : List (List Row)} {cs : List Value} (H : InvF W w (((T, scN s v, cellsE (es.set i (cs, e.2))) :: rowsE es) :: gs ++ ss)) : InvF W w (segY T s v (es.set i (cs, gs.flatten)) :: ss) := by
  obtain ⟨A, B, h2, h3⟩ := rowsE_split he
  have hc : cellsE (es.set i (cs, gs.flatten)) = cellsE (es.set i (cs, e.2)) := by
    obtain ⟨hlt, _⟩ := List.getElem?_eq_some_iff.1 he
    have e2 : ∀ r : List Row, es.set i (cs, r) = es.take i ++ (cs, r) :: es.drop (i + 1) := fun r => List.set_eq_take_append_cons_drop.trans (if_pos hlt)
    rw [e2, e2, cellsE_app, cellsE_app, cellsE_cons, cellsE_cons]
  unfold InvF at H ⊢
  unfold segY
  rw [List.flatten_cons, h3, hc]
  simp only
  rw [List.cons_append, List.flatten_cons, List.flatten_append, h2, List.cons_append] at H
  rw [List.cons_append]
  have hp : ((T, scN s v, cellsE (es.set i (cs, e.2))) :: (A ++ e.2 ++ B ++ (gs.flatten ++ ss.flatten))).Perm ((T, scN s v, cellsE (es.set i (cs, e.2))) :: (e.2 ++ (A ++ gs.flatten ++ B ++ ss.flatten))) := by
    refine List.Perm.cons _ ?_
    have p1 : (A ++ e.2 ++ B ++ (gs.flatten ++ ss.flatten)).Perm (e.2 ++ (A ++ (B ++ (gs.flatten ++ ss.flatten)))) := by
      rw [List.append_assoc, List.append_assoc]
      exact List.perm_append_comm_assoc _ _ _
    refine p1.trans (List.Perm.append_left _ ?_)
    rw [List.append_assoc, List.append_assoc]
    exact List.Perm.append_left _ (List.perm_append_comm_assoc _ _ _)
  refine InvG.sub (InvG.perm H hp) (List.Sublist.cons_cons _ ?_)
  exact List.sublist_append_right _ _
end
/-- A row of elements just made: all zero, no rows behind them. -/
theorem InvF.madeY {W w w1 : World} {ss : List (List Row)} {T : TypeId} {s n : Nat} {zs : List Value} (hz : zs.length = s) (H : InvF W w ss) (hn : n * s ≤ maxLen) {cs : List Value} (hcs : cs = cellsE (List.replicate n (zs, [])))
    (ho : w1.ownsRow w.heap.size T s (.slice (some ⟨w.heap.size, 0, none⟩) n n) n cs) (hb : Below w.heap.size w w1) :
    InvF W w1 (segY T s (.slice (some ⟨w.heap.size, 0, none⟩) n n) (List.replicate n (zs, [])) :: ss) := by
  have hl : ∀ e ∈ List.replicate n ((zs, []) : Elt), e.1.length = s := fun e he => by rw [List.eq_of_mem_replicate he]; exact hz
  have hrow : GOwn w1 w.heap.size (T, scN s (.slice (some ⟨w.heap.size, 0, none⟩) n n), cellsE (List.replicate n ((zs, []) : Elt))) := by
    unfold GOwn
    simp only
    rw [cellsE_len s _ hl, List.length_replicate, ← hcs]
    refine ⟨by rw [ho.1, Nat.mul_one], ?_⟩
    rcases ho.2 with ⟨e, _⟩ | ⟨g, cap, cur, e, h1, h2, h3, h4, h5, h6⟩
    · simp at e
    · simp only [Value.slice.injEq, Option.some.injEq, Addr.mk.injEq, and_true, true_and] at e
      obtain ⟨rfl, rfl⟩ := e
      exact .inr ⟨_, n * s, cur, rfl, h1, h2, Nat.le_refl _, hn, by rw [h5, Nat.mul_one], by rw [Nat.mul_one]; exact h6⟩
  have hr : rowsE (List.replicate n ((zs, []) : Elt)) = [] := by
    unfold rowsE
    rw [List.flatMap_eq_nil_iff]
    intro e he
    rw [List.eq_of_mem_replicate he]
  refine H.more (s := segY _ _ _ _) ?_
  unfold segY
  rw [hr]
  exact (InvG.start w).moreG hrow hb
theorem cellsE_rep (zs : List Value) (s n k : Nat) (hz : zs.length = s) (hs : 0 < s) (hk : k < n * s) : (cellsE (List.replicate n ((zs, []) : Elt)))[k]? = zs[k % s]? := by
  have e1 : k = k / s * s + k % s := by rw [Nat.mul_comm]; exact (Nat.div_add_mod k s).symm
  have hi : k / s < n := (Nat.div_lt_iff_lt_mul hs).2 hk
  have hl : ∀ e ∈ List.replicate n ((zs, []) : Elt), e.1.length = s := fun e he => by rw [List.eq_of_mem_replicate he]; exact hz
  conv => lhs; rw [e1]
  exact cellsE_get s _ (k / s) (k % s) (zs, []) hl (List.getElem?_replicate_of_lt hi) (Nat.mod_lt _ hs)
theorem madeY_get (Z : Array Value) (n k : Nat) (hk : k < n) : (madeCells Z n).toList[k]? = some (Z[k % Z.size]!) := by simp [madeCells, hk]
/-- What make lays. -/
theorem zeroY (Z : Array Value) (s n : Nat) (hz : Z.size = s) (hs : 0 < s) : (madeCells Z (n * s)).toList = cellsE (List.replicate n ((Z.toList, []) : Elt)) := by
  have hl : ∀ e ∈ List.replicate n ((Z.toList, []) : Elt), e.1.length = s := fun e he => by rw [List.eq_of_mem_replicate he]; simpa using hz
  have hl1 : (madeCells Z (n * s)).toList.length = n * s := by simp [size_madeCells]
  have hl2 := cellsE_len s _ hl
  rw [List.length_replicate] at hl2
  apply List.ext_getElem?
  intro k
  by_cases hk : k < n * s
  · rw [cellsE_rep Z.toList s n k (by simpa using hz) hs hk, madeY_get _ _ _ hk, hz]
    have hm : k % s < Z.size := by rw [hz]; exact Nat.mod_lt _ hs
    rw [Array.getElem?_toList, Array.getElem?_eq_getElem hm, getElem!_pos Z (k % s) hm]
  · rw [List.getElem?_eq_none (by omega), List.getElem?_eq_none (by omega)]
end Go.Proofs.YtopbalemfljphaaDoor
