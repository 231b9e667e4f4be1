/- Appends to one of several rows of a call's own: the row may move to a new block, the others stay. No program is named here. -/
import Derived.Test.YtlchadbbldkkfaaDoorMem
import Derived.Maps.AppendAt
namespace Go.Proofs.YtlchadbbldkkfaaDoor
open Go.RowKit

section
variable {E : TypeId} {W w w' : World} {rs : List (Value × List UInt8)}
/-- A call has written into the head row alone, and that row may lie in a new block. -/
theorem Inv.moved {v v' : Value} {l l' : List UInt8} (H : Inv E W w ((v, l) :: rs)) (ho : Own E w' W.heap.size v' l') (hg : w.grownBy w' v.ownBlock) (hat : v'.ownBlock = v.ownBlock ∨ v'.ownBlock = some w.heap.size) : Inv E W w' ((v', l') :: rs) := by
  obtain ⟨hr, hp⟩ := List.pairwise_cons.1 H.2.2
  refine ⟨H.1.grown hg H.le (fun k hk => ((H.own (.head _)).lt k hk).1), fun p hpm => ?_, List.pairwise_cons.2 ⟨fun p hpm => ?_, hp⟩⟩
  · rcases List.mem_cons.1 hpm with rfl | hpm
    · exact ho
    · refine (H.2.1 p (.tail _ hpm)).kept hg ?_
      rcases hr p hpm with e | e
      · rcases hq : p.1.ownBlock with _ | g
        · exact .inl rfl
        · refine .inr ?_
          simp only at e
          rw [e]
          simp
      · rcases hq : p.1.ownBlock with _ | g
        · exact .inl rfl
        · exact .inr fun e' => e (by rw [← e', hq])
  · rcases hat with e | e
    · have := hr p hpm
      simp only at this ⊢
      rw [e]
      exact this
    · refine .inr fun e' => ?_
      simp only at e'
      rw [e] at e'
      have := ((H.2.1 p (.tail _ hpm)).lt _ e'.symm).2
      omega
theorem Inv.swap {p q : Value × List UInt8} (H : Inv E W w (p :: q :: rs)) : Inv E W w (q :: p :: rs) := H.perm (List.Perm.swap _ _ _)
end

/-- 'append(out, c)' for one byte c: out is the head of the rows. -/
theorem wpList_app1I {P : Program} {W w : World} {ops : Array Oper} {rest : List Oper} {o : Oper} {a : Act} {Q : Exit → Act → World → Prop} {rs : List (Value × List UInt8)} (hgd : o.guard = none) (s x : Operand) (t : TypeId)
    (ho : o.op = .call { callee := .builtin .append, args := #[s, x], argTypes := #[t, t] }) (E : TypeId) (i : TypeInfo) (ht : P.underlying t = some (.slice E)) (hi : P.info? E = some i)
    (hz : i.zero = some (.int .u8 0)) (hsize : i.size = 1) (hby : i.bytes = 1) (v : Value) (l : List UInt8) (hs : a.eval s = v) (z : Int) (c : UInt8) (hzc : Hid (z = (c.toNat : Int)))
    (hx : a.eval x = .slice (some ⟨w.heap.size, 0, none⟩) 1 1) (H : Inv E W w ((v, l) :: rs)) (hlen : l.length ≤ 70368744177664)
    (h : ∀ v' w', Inv E W w' ((v', l ++ [c]) :: rs) → wpList P ops Q rest (a.put o.dst v') w') : wpList P ops Q (o :: rest) a (w.alloc (.cells #[.int .u8 z] E)) := by
  have hzc := hzc.out
  subst hzc
  have hba : Below w.heap.size w (w.alloc (.cells #[.int .u8 (c.toNat : Int)] E)) := (Below.refl _ _).alloc (Nat.le_refl _) _
  have H' := H.up hba
  refine wpList_append_own_at _ hgd s x t ho W.heap.size E i (.int .u8 0) 1 1 ht hi hz hsize hby rfl (by omega) v l.length (us l) hs (H'.own (.head _)) ⟨w.heap.size, 0, none⟩ 1 1 (us [c]) hx rfl ?_ (us_cell _) ?_ ?_ ?_ ?_
  · intro j u hj
    rcases j with _ | j
    · rw [us_one] at hj
      injection hj with hj
      subst hj
      simp [Addr.add]
    · simp [us_one] at hj
  · unfold maxLen; omega
  · omega
  · exact H'.le
  · intro v' w' h1 h2 _ h4
    refine h v' w' (H'.moved ?_ h2 h4)
    unfold Own
    rw [us_app, List.length_append]
    exact h1

/-- 'append(out, x...)' for a slice x of bytes: out is the head of the rows. -/
theorem wpList_appSI {P : Program} {W w : World} {ops : Array Oper} {rest : List Oper} {o : Oper} {a : Act} {Q : Exit → Act → World → Prop} {rs : List (Value × List UInt8)} (hgd : o.guard = none) (s x : Operand) (t : TypeId)
    (ho : o.op = .call { callee := .builtin .append, args := #[s, x], argTypes := #[t, t] }) (E : TypeId) (i : TypeInfo) (ht : P.underlying t = some (.slice E)) (hi : P.info? E = some i)
    (hz : i.zero = some (.int .u8 0)) (hsize : i.size = 1) (hby : i.bytes = 1) (v : Value) (l : List UInt8) (hs : a.eval s = v) (u : Value) (m : List UInt8)
    (hx : a.eval x = u) (hm : Sl w w.heap.size u m) (H : Inv E W w ((v, l) :: rs)) (hlen : l.length + m.length ≤ 70368744177664)
    (h : ∀ v' w', Inv E W w' ((v', l ++ m) :: rs) → wpList P ops Q rest (a.put o.dst v') w') : wpList P ops Q (o :: rest) a w := by
  have hown := H.own (.head _)
  obtain ⟨A, c, rfl, h1, h2, h0, h3⟩ := hm
  rcases A with _ | ad
  · have hm0 : m = [] := by
      rcases m with _ | ⟨y, m⟩
      · rfl
      · obtain ⟨b, off, e, _⟩ := h3 (by simp)
        cases e
    subst hm0
    obtain rfl := h0 rfl
    exact wpList_append_own_none hgd s x t ho W.heap.size E i 1 ht hi v l.length (us l) hs hown hx (by simpa using h v w (by simpa using H))
  · refine wpList_append_own_at _ hgd s x t ho W.heap.size E i (.int .u8 0) 1 1 ht hi hz hsize hby rfl (by omega) v l.length (us l) hs hown ad m.length c (us m) hx (by rw [us_length]; omega) ?_ (us_cell _) ?_ ?_ H.le (fun v' w' k1 k2 _ k4 => h v' w' (H.moved ?_ k2 k4))
    · intro j y hj
      have hjm : j < m.length := by
        rw [← us_length m]
        exact (List.getElem?_eq_some_iff.1 hj).1
      obtain ⟨b, off, e, _, hc⟩ := h3 (by omega)
      injection e with e
      subst e
      rw [us_get m j hjm] at hj
      injection hj with hj
      subst hj
      have := hc j hjm
      unfold Addr.add
      split
      · rename_i h0; subst h0; simpa using this
      · exact this
    · unfold maxLen; omega
    · omega
    · unfold Own
      rw [us_app, List.length_append]
      exact k1
end Go.Proofs.YtlchadbbldkkfaaDoor
