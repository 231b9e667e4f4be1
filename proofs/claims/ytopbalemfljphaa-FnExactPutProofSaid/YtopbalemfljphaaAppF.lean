/- 'append(out, x...)' of bytes where out is the first of the segments of a call: the row may move, the others stay. No program is named here. -/
import Derived.Test.YtopbalemfljphaaBox
import Derived.Maps.AppendAt
namespace Go.Proofs.Ytopbalemfljphaa
open Go.RowKit Go.ChangeShapes Go.WideShapes Go.ChangeAt

section
variable {W w w' : World} {ss : List (List Row)}
/-- The row of the first segment alone has turned; it may have moved to a new block. -/
theorem InvF.movedB {E : TypeId} {v v' : Value} {l l' : List UInt8} (H : InvF W w (segB E v l :: ss)) (ho : Own E w' W.heap.size v' l') (hg : w.grownBy w' v.ownBlock) (hat : v'.ownBlock = v.ownBlock ∨ v'.ownBlock = some w.heap.size) : InvF W w' (segB E v' l' :: ss) := by
  have hb : Below W.heap.size W w' := H.1.grown hg H.le (fun k hk => ((H.ownB E (.head _)).lt k hk).1)
  have hr : Rws W.heap.size w ((E, v, us l) :: ss.flatten) := ⟨H.2.1, H.2.2⟩
  have h := hr.moved (v' := v') (x' := us l') (GOwn.b.2 ho) hg hat
  exact h.inv hb
end

theorem app_news {w : World} {ad : Addr} {c : Nat} {m : List UInt8} (hm : Sl w w.heap.size (.slice (some ad) m.length c) m) : ∀ j y, (us m)[j]? = some y → w.cell? (ad.add j) = some y := by
  obtain ⟨A', c', he, h1, h2, h0, h3⟩ := hm
  intro j y hj
  have hjm : j < m.length := by
    rw [← us_length m]
    exact (List.getElem?_eq_some_iff.1 hj).1
  obtain ⟨b, off, e, _, hc⟩ := h3 (by omega)
  simp only [Value.slice.injEq] at he
  rw [← he.1] at e
  injection e with e
  subst e
  rw [us_get m j hjm] at hj
  injection hj with hj
  subst hj
  have := hc j hjm
  unfold Addr.add
  split
  · rename_i h0; subst h0; simpa using this
  · exact this

/-- Outside a drawn region; x may be nil or empty. -/
theorem wpList_appF {P : Program} {W w : World} {ops : Array Oper} {rest : List Oper} {o : Oper} {a : Act} {Q : Exit → Act → World → Prop} {ss : List (List Row)} (hgd : o.guard = none) (s x : Operand) (t : TypeId)
    (ho : o.op = .call { callee := .builtin .append, args := #[s, x], argTypes := #[t, t] }) (E : TypeId) (i : TypeInfo) (ht : P.underlying t = some (.slice E)) (hi : P.info? E = some i)
    (hz : i.zero = some (.int .u8 0)) (hsize : i.size = 1) (hby : i.bytes = 1) (v : Value) (l : List UInt8) (hs : a.eval s = v) (u : Value) (m : List UInt8)
    (hx : a.eval x = u) (hm : Sl w w.heap.size u m) (H : InvF W w (segB E v l :: ss)) (hlen : l.length + m.length ≤ 70368744177664)
    (h : ∀ v' w', InvF W w' (segB E v' (l ++ m) :: ss) → wpList P ops Q rest (a.put o.dst v') w') : wpList P ops Q (o :: rest) a w := by
  have hown := H.ownB E (.head _)
  have hm' := hm
  obtain ⟨A, c, rfl, h1, h2, h0, h3⟩ := hm
  rcases A with _ | ad
  · have hm0 : m = [] := by
      rcases m with _ | ⟨y, m⟩
      · rfl
      · obtain ⟨b, off, e, _⟩ := h3 (by simp)
        cases e
    subst hm0
    obtain rfl := h0 rfl
    exact wpList_append_own_none hgd s x t ho W.heap.size E i 1 ht hi v l.length (us l) hs hown hx (by simpa using h v w (by simpa using H))
  · refine wpList_append_own_at _ hgd s x t ho W.heap.size E i (.int .u8 0) 1 1 ht hi hz hsize hby rfl (by omega) v l.length (us l) hs hown ad m.length c (us m) hx (by rw [us_length]; omega) (app_news hm') (us_cell _) ?_ ?_ H.le (fun v' w' k1 k2 _ k4 => h v' w' (H.movedB ?_ k2 k4))
    · unfold maxLen; omega
    · omega
    · unfold Own
      rw [us_app, List.length_append]
      exact k1

/-- Within a drawn region; x is not empty. -/
theorem step_appF {P : Program} {W w : World} {ops : Array Oper} {o : Oper} {a : Act} {K : Act → World → Prop} {Q : Exit → Act → World → Prop} {F : Prop} {ss : List (List Row)} (hwt : Region.wanted o (yielded ops a.tmps) = true) (s x : Operand) (t : TypeId)
    (ho : o.op = .call { callee := .builtin .append, args := #[s, x], argTypes := #[t, t] }) (E : TypeId) (i : TypeInfo) (ht : P.underlying t = some (.slice E)) (hi : P.info? E = some i)
    (hz : i.zero = some (.int .u8 0)) (hsize : i.size = 1) (hby : i.bytes = 1) (v : Value) (l : List UInt8) (hs : a.eval s = v) (u : Value) (m : List UInt8)
    (hx : a.eval x = u) (hm : Sl w w.heap.size u m) (hp : 0 < m.length) (H : InvF W w (segB E v l :: ss)) (hlen : l.length + m.length ≤ 70368744177664)
    (h : ∀ v' w', InvF W w' (segB E v' (l ++ m) :: ss) → K (a.put o.dst v') w') :
    if Region.wanted o (yielded ops a.tmps) = true then Oper.wp P o a w K Q else F := by
  rw [if_pos hwt]
  have hown := H.ownB E (.head _)
  have hm' := hm
  obtain ⟨A, c, rfl, h1, h2, h0, h3⟩ := hm
  obtain ⟨b, off, rfl, hbb, hcell⟩ := h3 hp
  obtain ⟨v', w', hr, k1, k2, _, k4⟩ := run_append_own_at (P := P) w W.heap.size t o.type E i (.int .u8 0) 1 1 ht hi hz hsize hby rfl (by omega) v l.length (us l) hown ⟨b, off, none⟩ m.length c (us m) (by rw [us_length]; omega) (app_news hm') (us_cell _) (by unfold maxLen; omega) (by omega) H.le
  unfold Oper.wp execOp
  simp only [ho, resolve, invoke, builtin, Sem.run_bind, Sem.run_pure, Result.andThen_ok, List.map_toArray, List.map_cons, List.map_nil, hs, hx, hr]
  refine h v' w' (H.movedB ?_ k2 k4)
  unfold Own
  rw [us_app, List.length_append]
  exact k1
end Go.Proofs.Ytopbalemfljphaa
