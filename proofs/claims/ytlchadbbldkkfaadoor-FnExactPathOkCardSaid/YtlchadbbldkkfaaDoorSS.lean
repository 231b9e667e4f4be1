/- Words for slices of slices of bytes: what such a slice reads as (SlS), the rows that lie behind it (rowsS), and how they are kept. No program is named here. -/
import Derived.Test.YtlchadbbldkkfaaDoorInts
import Derived.Test.YtlchadbbldkkfaaDoorMoved
namespace Go.Proofs.YtlchadbbldkkfaaDoor
open Go.RowKit

/-- The slice v reads as the list of lists L, in blocks below B. -/
def SlS (w : World) (B : Nat) (v : Value) (L : List (List UInt8)) : Prop :=
  ∃ A c, v = .slice A L.length c ∧ L.length ≤ c ∧ c ≤ maxLen ∧ (A = none → c = 0) ∧
    (0 < L.length → ∃ b off, A = some ⟨b, off, none⟩ ∧ b < B ∧ ∀ k, k < L.length → ∃ u, w.cell? ⟨b, off + k, none⟩ = some u ∧ Sl w B u (L.getD k []))

section
variable {w w' : World} {B B' : Nat} {v : Value} {L : List (List UInt8)}
theorem SlS.nil_ : SlS w B (.slice none 0 0) [] := ⟨none, 0, rfl, Nat.le_refl _, by simp [maxLen], fun _ => rfl, fun h => absurd h (by simp)⟩
theorem SlS.mono (h : SlS w B v L) (hB : B ≤ B') : SlS w B' v L := by
  obtain ⟨A, c, rfl, h1, h2, h0, h3⟩ := h
  exact ⟨A, c, rfl, h1, h2, h0, fun hp => by
    obtain ⟨b, off, e, hb, hc⟩ := h3 hp
    exact ⟨b, off, e, by omega, fun k hk => by
      obtain ⟨u, hu, hs⟩ := hc k hk
      exact ⟨u, hu, hs.mono hB⟩⟩⟩
theorem SlS.below (h : SlS w B v L) (hb : Below B w w') : SlS w' B v L := by
  obtain ⟨A, c, rfl, h1, h2, h0, h3⟩ := h
  exact ⟨A, c, rfl, h1, h2, h0, fun hp => by
    obtain ⟨b, off, e, hbb, hc⟩ := h3 hp
    exact ⟨b, off, e, hbb, fun k hk => by
      obtain ⟨u, hu, hs⟩ := hc k hk
      exact ⟨u, (hb.cell (p := ⟨b, off + k, none⟩) hbb).trans hu, hs.below hb⟩⟩⟩
theorem SlS.up (h : SlS w w.heap.size v L) (hb : Below w.heap.size w w') : SlS w' w'.heap.size v L := (h.below hb).mono hb.size
theorem SlS.drewN (h : SlS w B v L) (n : Nat) : SlS (w.drewN n) B v L := h
theorem SlS.len (h : SlS w B v L) : L.length ≤ maxLen := by
  obtain ⟨A, c, rfl, h1, h2, h0, h3⟩ := h
  omega
end

theorem getD_drop {α : Type} (L : List α) (a k : Nat) (d : α) : (L.drop a).getD k d = L.getD (a + k) d := by simp [List.getD_eq_getElem?_getD]
theorem getD_take {α : Type} (L : List α) (n k : Nat) (d : α) (h : k < n) : (L.take n).getD k d = L.getD k d := by simp [List.getD_eq_getElem?_getD, List.getElem?_take_of_lt h]
theorem getD_app_lt {α : Type} (L M : List α) (k : Nat) (d : α) (h : k < L.length) : (L ++ M).getD k d = L.getD k d := by simp [List.getD_eq_getElem?_getD, List.getElem?_append_left h]
theorem getD_at {α : Type} (L : List α) (k : Nat) (d : α) (h : k < L.length) : L[k]? = some (L.getD k d) := by simp [List.getD_eq_getElem?_getD, List.getElem?_eq_getElem h]
theorem take_getD {α : Type} (L : List α) (k : Nat) (d : α) (h : k < L.length) : L.take (k + 1) = L.take k ++ [L.getD k d] := by
  rw [List.take_add_one, getD_at L k d h]
  rfl

/-- A cut of a slice of slices. -/
theorem slS_cut {w : World} {B b off c : Nat} {L : List (List UInt8)} (a n : Nat) (h2 : c ≤ maxLen) (h3 : b < B) (h4 : ∀ k, k < L.length → ∃ u, w.cell? ⟨b, off + k, none⟩ = some u ∧ Sl w B u (L.getD k [])) (han : a + n ≤ L.length) (off' c' : Nat) (ho : 0 < n → off' = off + a) (hc : n ≤ c') (hc' : c' ≤ c) :
    SlS w B (.slice (some ⟨b, off', none⟩) n c') ((L.drop a).take n) := by
  have hlen : ((L.drop a).take n).length = n := by simp; omega
  refine ⟨_, c', by rw [hlen], by rw [hlen]; exact hc, by omega, (fun e => by cases e), fun hp => ?_⟩
  rw [hlen] at hp ⊢
  refine ⟨b, off', rfl, h3, fun k hk => ?_⟩
  rw [ho hp, getD_take _ _ _ _ hk, getD_drop, Nat.add_assoc]
  exact h4 (a + k) (by omega)

/-- A finite family can be named. -/
theorem named {P : Nat → Value → Prop} : ∀ n : Nat, (∀ k, k < n → ∃ u, P k u) → ∃ vs : List Value, vs.length = n ∧ ∀ k u, vs[k]? = some u → P k u := by
  intro n
  induction n with
  | zero => exact fun _ => ⟨[], rfl, fun k u h => by simp at h⟩
  | succ n ih =>
    intro h
    obtain ⟨vs, hl, hv⟩ := ih fun k hk => h k (by omega)
    obtain ⟨x, hx⟩ := h n (by omega)
    refine ⟨vs ++ [x], by simp [hl], fun k u hu => ?_⟩
    rcases Nat.lt_or_ge k n with hk | hk
    · rw [List.getElem?_append_left (by omega)] at hu
      exact hv k u hu
    · rw [List.getElem?_append_right (by omega)] at hu
      have hkn : k = n := by
        rcases Nat.lt_or_ge (k - vs.length) 1 with h1 | h1
        · omega
        · rw [List.getElem?_eq_none (by simp; omega)] at hu
          cases hu
      subst hkn
      rw [hl, Nat.sub_self] at hu
      simp at hu
      subst hu
      exact hx

theorem Sl.one {w : World} {B : Nat} {v : Value} {l : List UInt8} (h : Sl w B v l) : v.oneCell' = true := by
  obtain ⟨A, c, rfl, _⟩ := h
  rfl

/-- The rows behind a slice of slices: its cells vs, each over its list. -/
def rowsS (E : TypeId) (vs : List Value) (L : List (List UInt8)) : List (TypeId × Value × List Value) := List.zipWith (fun v l => (E, v, us l)) vs L
theorem rowsS_nil (E : TypeId) : rowsS E [] [] = [] := rfl
theorem rowsS_len (E : TypeId) (vs : List Value) (L : List (List UInt8)) (h : vs.length = L.length) : (rowsS E vs L).length = L.length := by simp [rowsS, h]
theorem rowsS_snoc (E : TypeId) (vs : List Value) (L : List (List UInt8)) (v : Value) (l : List UInt8) (h : vs.length = L.length) : rowsS E (vs ++ [v]) (L ++ [l]) = rowsS E vs L ++ [(E, v, us l)] := by
  unfold rowsS
  rw [List.zipWith_append h]
  rfl
theorem rowsS_get (E : TypeId) (vs : List Value) (L : List (List UInt8)) (k : Nat) (v : Value) (hv : vs[k]? = some v) (h : k < L.length) : (rowsS E vs L)[k]? = some (E, v, us (L.getD k [])) := by
  unfold rowsS
  rw [List.getElem?_zipWith, hv, getD_at L k [] h]
theorem rowsS_mem (E : TypeId) (vs : List Value) (L : List (List UInt8)) (k : Nat) (v : Value) (hv : vs[k]? = some v) (h : k < L.length) : (E, v, us (L.getD k [])) ∈ rowsS E vs L := List.mem_of_getElem? (rowsS_get E vs L k v hv h)
theorem rowsS_set (E : TypeId) (vs : List Value) (L : List (List UInt8)) (k : Nat) (v : Value) (l : List UInt8) (hv : vs[k]? = some v) : (rowsS E vs L).set k (E, v, us l) = rowsS E vs (L.set k l) := by
  apply List.ext_getElem?
  intro j
  unfold rowsS
  rw [List.getElem?_set, List.getElem?_zipWith, List.getElem?_zipWith, List.getElem?_set]
  by_cases hj : k = j
  · subst hj
    simp only [if_true, hv]
    have hk2 : k < vs.length := (List.getElem?_eq_some_iff.1 hv).1
    by_cases hk : k < L.length
    · simp [hk]
      omega
    · simp [hk]
      omega
  · simp [hj]

section
variable {W w w' : World} {rs qs : List (TypeId × Value × List Value)}
/-- A call that began in w has made the rows qs. -/
theorem InvG.moreAll (H : InvG W w rs) (K : InvG w w' qs) : InvG W w' (qs ++ rs) := by
  have H' := H.up K.bel
  refine ⟨H'.1, fun p hp => ?_, List.pairwise_append.2 ⟨K.2.2, H'.2.2, fun p hp q hq => ?_⟩⟩
  · rcases List.mem_append.1 hp with hp | hp
    · exact (K.2.1 p hp).mono H.le
    · exact H'.2.1 p hp
  · rcases hv : p.2.1.ownBlock with _ | g
    · exact .inl rfl
    · refine .inr fun e => ?_
      have h1 := ((K.2.1 p hp).lt g hv).1
      have h2 := ((H.2.1 q hq).lt g e.symm).2
      omega
theorem GOwn.cells {B : Nat} {E2 : TypeId} {v : Value} {vs : List Value} (h : GOwn w B (E2, v, vs)) :
    ∃ A c, v = .slice A vs.length c ∧ vs.length ≤ c ∧ c ≤ maxLen ∧ (A = none → c = 0) ∧ (0 < vs.length → ∃ b, A = some ⟨b, 0, none⟩ ∧ b < w.heap.size ∧ ∀ k, k < vs.length → w.cell? ⟨b, k, none⟩ = vs[k]?) := by
  unfold GOwn at h
  rcases h.2 with ⟨e, h0⟩ | ⟨g, cap, cur, e, hb, hg, hn, hm, hs, ht⟩
  · simp only at e h0
    exact ⟨none, 0, by rw [e, h0], by omega, by simp [maxLen], fun _ => rfl, fun hp => by omega⟩
  · simp only at e hn h
    subst e
    exact ⟨_, cap, rfl, hn, hm, (fun e => by cases e), fun _ => ⟨g, rfl, (Array.getElem?_eq_some_iff.1 hg).1, fun k hk => World.ownsRow.cellAt (base := B) (e := E2) (size := 1) (n := vs.length) (xs := vs) h k (by omega)⟩⟩
theorem InvG.slS (H : InvG W w rs) (E E2 : TypeId) {v : Value} {vs : List Value} {L : List (List UInt8)} (hl : vs.length = L.length) (hm : (E2, v, vs) ∈ rs) (hs : ∀ p ∈ rowsS E vs L, p ∈ rs) : SlS w w.heap.size v L := by
  obtain ⟨A, c, rfl, h1, h2, h0, h3⟩ := (H.2.1 _ hm).cells
  rw [hl] at h1 h3 ⊢
  refine ⟨A, c, rfl, h1, h2, h0, fun hp => ?_⟩
  obtain ⟨b, rfl, hb, hc⟩ := h3 hp
  refine ⟨b, 0, rfl, hb, fun k hk => ?_⟩
  have hv : vs[k]? = some (vs.getD k (.bool false)) := getD_at vs k (.bool false) (by omega)
  refine ⟨vs.getD k (.bool false), ?_, H.sl E (hs _ (rowsS_mem E vs L k _ hv hk))⟩
  rw [Nat.zero_add, hc k hk, hv]
end

/-- The sum of the lengths. -/
def sumL : List (List UInt8) → Nat
  | [] => 0
  | l :: L => l.length + sumL L
theorem sumL_app (L M : List (List UInt8)) : sumL (L ++ M) = sumL L + sumL M := by
  induction L with
  | nil => simp [sumL]
  | cons l L ih => simp [sumL, ih]; omega
theorem sumL_take (L : List (List UInt8)) (k : Nat) (h : k < L.length) : sumL (L.take (k + 1)) = sumL (L.take k) + (L.getD k []).length := by
  rw [take_getD L k [] h, sumL_app]
  simp [sumL]
theorem sumL_le (L : List (List UInt8)) (k : Nat) : sumL (L.take k) ≤ sumL L := by
  have h := sumL_app (L.take k) (L.drop k)
  rw [List.take_append_drop] at h
  omega
theorem sumL_one (L : List (List UInt8)) (k : Nat) (h : k < L.length) : (L.getD k []).length ≤ sumL L := by
  have h1 := sumL_take L k h
  have h2 := sumL_le L (k + 1)
  omega

/-- What marks over all rows read as. -/
def marksS (k : Nat) : List (List UInt8) → List (List UInt8)
  | [] => []
  | l :: L => ((List.range l.length).map fun i => UInt8.ofNat (k + i)) :: marksS (k + l.length) L
theorem marksS_length (L : List (List UInt8)) : ∀ k, (marksS k L).length = L.length := by
  induction L with
  | nil => intro k; rfl
  | cons l L ih => intro k; simp [marksS, ih]
theorem marksS_get (L : List (List UInt8)) : ∀ k j, j < L.length → (marksS k L).getD j [] = (List.range (L.getD j []).length).map fun i => UInt8.ofNat (k + sumL (L.take j) + i) := by
  induction L with
  | nil => intro k j h; simp at h
  | cons l L ih =>
    intro k j h
    rcases j with _ | j
    · simp [marksS, sumL]
    · have := ih (k + l.length) j (by simpa using h)
      simp only [marksS, List.getD_cons_succ, List.take_succ_cons, sumL]
      rw [this]
      simp only [Nat.add_assoc]
theorem sumL_marksS (L : List (List UInt8)) : ∀ k, sumL (marksS k L) = sumL L := by
  induction L with
  | nil => intro k; rfl
  | cons l L ih => intro k; simp [marksS, sumL, ih]
/-- What markByteSS has written after j rows. -/
def MS (L : List (List UInt8)) (k j : Nat) : List (List UInt8) := (marksS k L).take j ++ L.drop j
theorem MS_zero (L : List (List UInt8)) (k : Nat) : MS L k 0 = L := by simp [MS]
theorem MS_full (L : List (List UInt8)) (k : Nat) : MS L k L.length = marksS k L := by
  unfold MS
  rw [List.drop_length, List.append_nil, List.take_of_length_le (by rw [marksS_length]; exact Nat.le_refl _)]
theorem MS_length (L : List (List UInt8)) (k j : Nat) (h : j ≤ L.length) : (MS L k j).length = L.length := by simp [MS, marksS_length]; omega
theorem MS_at (L : List (List UInt8)) (k j : Nat) (h : j < L.length) : (MS L k j).getD j [] = L.getD j [] := by
  have hl : ((marksS k L).take j).length = j := by rw [List.length_take, marksS_length]; omega
  simp only [MS, List.getD_eq_getElem?_getD]
  rw [List.getElem?_append_right (by omega), hl, Nat.sub_self, List.getElem?_drop, Nat.add_zero]
theorem MS_set (L : List (List UInt8)) (k j : Nat) (h : j < L.length) : (MS L k j).set j ((marksS k L).getD j []) = MS L k (j + 1) := by
  have hl : ((marksS k L).take j).length = j := by rw [List.length_take, marksS_length]; omega
  unfold MS
  rw [List.set_append_right _ _ (by omega), hl, Nat.sub_self, List.drop_eq_getElem_cons h, List.set_cons_zero, take_getD (marksS k L) j [] (by rw [marksS_length]; exact h), List.append_assoc]
  rfl

/-- Rows among blocks from B on, no two in one block. -/
def Rws (B : Nat) (w : World) (rs : List (TypeId × Value × List Value)) : Prop :=
  (∀ p ∈ rs, GOwn w B p) ∧ rs.Pairwise fun p q => p.2.1.ownBlock = none ∨ p.2.1.ownBlock ≠ q.2.1.ownBlock
section
variable {B : Nat} {w w' : World} {rs : List (TypeId × Value × List Value)}
theorem Rws.nil_ : Rws B w [] := ⟨(fun p hp => by cases hp), List.Pairwise.nil⟩
theorem Rws.inv {W : World} (H : Rws W.heap.size w rs) (hb : Below W.heap.size W w) : InvG W w rs := ⟨hb, H.1, H.2⟩
/-- Nothing of blocks from B on has turned. -/
theorem Rws.kept {row : Option Nat} (H : Rws B w rs) (hg : w.grownBy w' row) (hr : ∀ g, row = some g → g < B) : Rws B w' rs :=
  ⟨fun p hp => (H.1 p hp).kept hg (by
    rcases hv : p.2.1.ownBlock with _ | g
    · exact .inl rfl
    · refine .inr fun e => ?_
      have h1 := ((H.1 p hp).lt g hv).1
      have h2 := hr g e.symm
      omega), H.2⟩
theorem Rws.more (H : Rws B w rs) {p : TypeId × Value × List Value} {row : Option Nat} (ho : GOwn w' w.heap.size p) (hB : B ≤ w.heap.size) (hg : w.grownBy w' row) (hr : ∀ g, row = some g → g < B) : Rws B w' (p :: rs) := by
  have H' := H.kept hg hr
  refine ⟨fun q hq => ?_, List.pairwise_cons.2 ⟨fun q hq => ?_, H'.2⟩⟩
  · rcases List.mem_cons.1 hq with rfl | hq
    · exact ho.mono hB
    · exact H'.1 q hq
  · rcases hv : p.2.1.ownBlock with _ | g
    · exact .inl rfl
    · refine .inr fun e => ?_
      have h1 := (ho.lt g hv).1
      have h2 := ((H.1 q hq).lt g e.symm).2
      omega
theorem Rws.perm {qs : List (TypeId × Value × List Value)} (H : Rws B w rs) (h : rs.Perm qs) : Rws B w qs :=
  ⟨fun p hp => H.1 p (h.mem_iff.2 hp), (h.pairwise_iff (fun {p q} hpq => by
    rcases hpq with e | e
    · rcases hq : q.2.1.ownBlock with _ | g
      · exact .inl rfl
      · exact .inr (by rw [e]; simp)
    · rcases hq : q.2.1.ownBlock with _ | g
      · exact .inl rfl
      · exact .inr fun e' => e (by rw [← e', hq]))).1 H.2⟩
/-- The head row alone has been written, and it may lie in a new block. -/
theorem Rws.moved {E : TypeId} {v v' : Value} {x x' : List Value} (H : Rws B w ((E, v, x) :: rs)) (ho : GOwn w' B (E, v', x')) (hg : w.grownBy w' v.ownBlock) (hat : v'.ownBlock = v.ownBlock ∨ v'.ownBlock = some w.heap.size) : Rws B w' ((E, v', x') :: rs) := by
  obtain ⟨hr, hp⟩ := List.pairwise_cons.1 H.2
  refine ⟨fun p hpm => ?_, List.pairwise_cons.2 ⟨fun p hpm => ?_, hp⟩⟩
  · rcases List.mem_cons.1 hpm with rfl | hpm
    · exact ho
    · refine (H.1 p (.tail _ hpm)).kept hg ?_
      rcases hr p hpm with e | e
      · rcases hq : p.2.1.ownBlock with _ | g
        · exact .inl rfl
        · refine .inr ?_
          simp only at e
          rw [e]
          simp
      · rcases hq : p.2.1.ownBlock with _ | g
        · exact .inl rfl
        · exact .inr fun e' => e (by rw [← e', hq])
  · rcases hat with e | e
    · have := hr p hpm
      simp only at this ⊢
      rw [e]
      exact this
    · refine .inr fun e' => ?_
      simp only at e'
      rw [e] at e'
      have := ((H.1 p (.tail _ hpm)).lt _ e'.symm).2
      omega
end

/-- 'append(out, x)' for one slice x: out is the head of the rows. -/
theorem wpList_appS1 {P : Program} {w : World} {ops : Array Oper} {rest : List Oper} {o : Oper} {a : Act} {Q : Exit → Act → World → Prop} {rs : List (TypeId × Value × List Value)} (hgd : o.guard = none) (s x : Operand) (t : TypeId)
    (ho : o.op = .call { callee := .builtin .append, args := #[s, x], argTypes := #[t, t] }) (E2 : TypeId) (i : TypeInfo) (ht : P.underlying t = some (.slice E2)) (hi : P.info? E2 = some i)
    (hz : i.zero = some (.slice none 0 0)) (hsize : i.size = 1) (hby : i.bytes = 24) (B : Nat) (v : Value) (vs : List Value) (hs : a.eval s = v) (u : Value) (hu : u.oneCell' = true)
    (hx : a.eval x = .slice (some ⟨w.heap.size, 0, none⟩) 1 1) (hB : B ≤ w.heap.size) (H : Rws B w ((E2, v, vs) :: rs)) (hlen : vs.length ≤ 1073741824)
    (h : ∀ v' w', Rws B w' ((E2, v', vs ++ [u]) :: rs) → w.grownBy w' v.ownBlock → wpList P ops Q rest (a.put o.dst v') w') : wpList P ops Q (o :: rest) a (w.alloc (.cells #[u] E2)) := by
  have hga : w.grownBy (w.alloc (.cells #[u] E2)) none := World.grownBy_alloc w _ _
  have H' : Rws B (w.alloc (.cells #[u] E2)) ((E2, v, vs) :: rs) := H.kept hga (fun g e => by cases e)
  refine wpList_append_own_at _ hgd s x t ho B E2 i (.slice none 0 0) 1 24 ht hi hz hsize hby rfl (by omega) v vs.length vs hs (H'.1 _ (.head _)) ⟨w.heap.size, 0, none⟩ 1 1 [u] hx rfl (cell_one_new w u E2) (by simpa using hu) ?_ ?_ ?_ ?_
  · unfold maxLen; omega
  · omega
  · exact Nat.le_trans hB hga.size
  · intro v' w' h1 h2 _ h4
    refine h v' w' (H'.moved ?_ h2 h4) ((World.grownBy_alloc w _ _).trans h2)
    unfold GOwn
    simp only [List.length_append, List.length_singleton]
    exact h1
end Go.Proofs.YtlchadbbldkkfaaDoor
