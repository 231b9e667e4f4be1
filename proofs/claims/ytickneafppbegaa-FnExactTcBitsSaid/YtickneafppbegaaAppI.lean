/- 'append(out, z)' of an int where out is the first of the segments of a call: the row may move, the others stay. No program is named here. -/
import Derived.Test.YtickneafppbegaaBox
import Derived.Maps.AppendAt
namespace Go.Proofs.Ytickneafppbegaa
open Go.RowKit Go.ChangeShapes Go.WideShapes Go.ChangeAt

section
variable {W w w' : World} {ss : List (List Row)}
/-- The row of ints of the first segment alone has turned; it may have moved to a new block. -/
theorem InvF.movedI {E : TypeId} {v v' : Value} {l l' : List Int} (H : InvF W w (segI E v l :: ss)) (ho : OwnI E w' W.heap.size v' l') (hg : w.grownBy w' v.ownBlock) (hat : v'.ownBlock = v.ownBlock ∨ v'.ownBlock = some w.heap.size) : InvF W w' (segI E v' l' :: ss) := by
  have hb : Below W.heap.size W w' := H.1.grown hg H.le (fun k hk => ((H.ownI E (.head _)).lt k hk).1)
  have hr : Rws W.heap.size w ((E, v, is l) :: ss.flatten) := ⟨H.2.1, H.2.2⟩
  have h := hr.moved (v' := v') (x' := is l') (GOwn.i.2 ho) hg hat
  exact h.inv hb
end
theorem wpList_appIF {P : Program} {W w : World} {ops : Array Oper} {rest : List Oper} {o : Oper} {a : Act} {Q : Exit → Act → World → Prop} {ss : List (List Row)} (hgd : o.guard = none) (s x : Operand) (t : TypeId)
    (ho : o.op = .call { callee := .builtin .append, args := #[s, x], argTypes := #[t, t] }) (E : TypeId) (i : TypeInfo) (ht : P.underlying t = some (.slice E)) (hi : P.info? E = some i)
    (hz : i.zero = some (.int .i64 0)) (hsize : i.size = 1) (hby : i.bytes = 8) (v : Value) (l : List Int) (hs : a.eval s = v) (z : Int)
    (hx : a.eval x = .slice (some ⟨w.heap.size, 0, none⟩) 1 1) (H : InvF W w (segI E v l :: ss)) (hlen : l.length ≤ 4398046511104)
    (h : ∀ v' w', InvF W w' (segI E v' (l ++ [z]) :: ss) → wpList P ops Q rest (a.put o.dst v') w') : wpList P ops Q (o :: rest) a (w.alloc (.cells #[.int .i64 z] E)) := by
  have Ha : InvF W (w.alloc (.cells #[.int .i64 z] E)) (segI E v l :: ss) := H.up ((Below.refl _ _).alloc (Nat.le_refl _) _)
  have hown := Ha.ownI E (.head _)
  refine wpList_append_own_at _ hgd s x t ho W.heap.size E i (.int .i64 0) 1 8 ht hi hz hsize hby rfl (by omega) v l.length (is l) hs hown ⟨w.heap.size, 0, none⟩ 1 1 (is [z]) hx rfl ?_ (is_cell _) ?_ ?_ Ha.le (fun v' w' k1 k2 _ k4 => h v' w' (Ha.movedI ?_ k2 k4))
  · intro j u hj
    rcases j with _ | j
    · rw [is_one] at hj
      injection hj with hj
      subst hj
      simp [Addr.add]
    · simp [is_one] at hj
  · unfold maxLen; omega
  · omega
  · unfold OwnI
    rw [is_app, List.length_append]
    exact k1
end Go.Proofs.Ytickneafppbegaa
