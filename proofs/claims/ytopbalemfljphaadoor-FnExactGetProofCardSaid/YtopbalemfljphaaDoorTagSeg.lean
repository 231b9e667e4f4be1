/- A slice of slices of bytes over any row of a call's own (its own, or an array's places): how it reads; 'append(out, x)' for one slice x among segments. No program is named here. -/
import Derived.Test.YtopbalemfljphaaDoorBox
import Derived.Maps.AppendAt
namespace Go.Proofs.YtopbalemfljphaaDoor
open Go.RowKit Go.ChangeShapes Go.WideShapes Go.ChangeAt

/-- The cells of the slice s are vs as long as the row is the call's own. -/
def Reads0 (s : Value) (row : Row) (vs : List Value) : Prop :=
  ∃ A c, s = .slice A vs.length c ∧ vs.length ≤ c ∧ c ≤ maxLen ∧ (A = none → c = 0) ∧
    (0 < vs.length → ∃ b off, A = some ⟨b, off, none⟩ ∧ ∀ w B, GOwn w B row → b < w.heap.size ∧ ∀ k, k < vs.length → w.cell? ⟨b, off + k, none⟩ = vs[k]?)
theorem reads0_row {w : World} {B : Nat} {E : TypeId} {v : Value} {vs : List Value} (h : GOwn w B (E, v, vs)) : Reads0 v (E, v, vs) vs := by
  obtain ⟨A, c, e, h1, h2, h0, h3⟩ := h.cells
  refine ⟨A, c, e, h1, h2, h0, fun hp => ?_⟩
  obtain ⟨b, rfl, hb, hc⟩ := h3 hp
  refine ⟨b, 0, rfl, fun w' B' h' => ?_⟩
  obtain ⟨A', c', e', _, _, _, k3⟩ := h'.cells
  rw [e] at e'
  simp only [Value.slice.injEq] at e'
  obtain ⟨b', e2, hb', hc'⟩ := k3 hp
  rw [← e'.1] at e2
  simp only [Option.some.injEq, Addr.mk.injEq] at e2
  obtain ⟨rfl, _⟩ := e2
  exact ⟨hb', fun k hk => by rw [Nat.zero_add]; exact hc' k hk⟩
/-- The first n places of a box. -/
theorem reads0_box {T : TypeId} {g n : Nat} {xs : List Value} (hn : n ≤ xs.length) (hm : n ≤ maxLen) : Reads0 (.slice (some ⟨g, 0, none⟩) n n) (T, .slice (some ⟨g, 0, none⟩) xs.length xs.length, xs) (xs.take n) := by
  have hl : (xs.take n).length = n := by rw [List.length_take]; omega
  unfold Reads0
  rw [hl]
  refine ⟨_, n, rfl, Nat.le_refl _, hm, (fun e => by cases e), fun hp => ⟨g, 0, rfl, fun w B h => ⟨(h.lt g rfl).2, fun k hk => ?_⟩⟩⟩
  rw [Nat.zero_add, List.getElem?_take_of_lt hk]
  unfold GOwn at h
  exact World.ownsRow.cellAt h k (by rw [Nat.mul_one]; show k < xs.length; omega)
section
variable {W w w' : World} {ss : List (List Row)} {E E2 : TypeId} {s u : Value} {row : Row} {vs : List Value} {L : List (List UInt8)}
theorem InvF.slT (H : InvF W w ss) (hv : vs.length = L.length) (hr : Reads0 s row vs) (h : (row :: rowsS E vs L) ∈ ss) : SlS w w.heap.size s L := by
  obtain ⟨A, c, rfl, h1, h2, h0, h3⟩ := hr
  rw [hv] at h1 h3 ⊢
  refine ⟨A, c, rfl, h1, h2, h0, fun hp => ?_⟩
  obtain ⟨b, off, rfl, hc⟩ := h3 hp
  obtain ⟨hb, hc⟩ := hc w W.heap.size (H.2.1 _ (InvF.mem h (.head _)))
  refine ⟨b, off, rfl, hb, fun k hk => ?_⟩
  have hx : vs[k]? = some (vs.getD k (.bool false)) := getD_at vs k (.bool false) (by omega)
  exact ⟨_, (hc k hk).trans hx, InvG.sl H E (InvF.mem h (.tail _ (rowsS_mem E vs L k _ hx hk)))⟩
theorem InvF.openT (_ : InvF W w ss) (hv : vs.length = L.length) (hr : Reads0 s row vs) : ∃ A c, s = .slice A L.length c := by
  obtain ⟨A, c, e, _⟩ := hr
  exact ⟨A, c, by rw [e, hv]⟩
/-- A row more behind rows. -/
theorem InvF.snocRows {q : List Row} {r : List UInt8} (hv : vs.length = L.length) (H : InvF W w (q :: segB E u r :: rowsS E vs L :: ss)) : InvF W w (q :: rowsS E (vs ++ [u]) (L ++ [r]) :: ss) := by
  have H1 : InvF W w (q :: rowsS E vs L :: segB E u r :: ss) := H.perm (List.Perm.cons _ (List.Perm.swap _ _ _))
  unfold InvF at H1 ⊢
  rw [rowsS_snoc E vs L u r hv]
  simpa [segB] using H1
/-- A row and the rows behind it become one segment. -/
theorem InvF.joinRows {q : List Row} {p : Row} (H : InvF W w ([p] :: q :: ss)) : InvF W w ((p :: q) :: ss) := by
  unfold InvF at H ⊢
  simpa using H

/-- 'append(out, x)' for one slice x of bytes, within a drawn region: out and x are the first segments. -/
theorem step_appFS {P : Program} {ops : Array Oper} {o : Oper} {a : Act} {K : Act → World → Prop} {Q : Exit → Act → World → Prop} {F : Prop} {r : List UInt8} (hwt : Region.wanted o (yielded ops a.tmps) = true) (x y : Operand) (t : TypeId)
    (ho : o.op = .call { callee := .builtin .append, args := #[x, y], argTypes := #[t, t] }) (i : TypeInfo) (ht : P.underlying t = some (.slice E2)) (hi : P.info? E2 = some i)
    (hz : i.zero = some (.slice none 0 0)) (hsize : i.size = 1) (hby : i.bytes = 24) (hs : a.eval x = s) (hx : a.eval y = .slice (some ⟨w.heap.size, 0, none⟩) 1 1) (hu : u.oneCell' = true) (hv : vs.length = L.length)
    (H : InvF W w (segS E2 E s vs L :: segB E u r :: ss)) (hlen : L.length ≤ 1073741824)
    (h : ∀ v' w', InvF W w' (segS E2 E v' (vs ++ [u]) (L ++ [r]) :: ss) → K (a.put o.dst v') w') :
    if Region.wanted o (yielded ops a.tmps) = true then Oper.wp P o a (w.alloc (.cells #[u] E2)) K Q else F := by
  rw [if_pos hwt]
  have Ha : InvF W (w.alloc (.cells #[u] E2)) (segS E2 E s vs L :: segB E u r :: ss) := H.up ((Below.refl _ _).alloc (Nat.le_refl _) _)
  have hown : GOwn (w.alloc (.cells #[u] E2)) W.heap.size (E2, s, vs) := Ha.2.1 _ (InvF.mem (.head _) (.head _))
  unfold GOwn at hown
  obtain ⟨v', w', hr, k1, k2, _, k4⟩ := run_append_own_at (P := P) (w.alloc (.cells #[u] E2)) W.heap.size t o.type E2 i (.slice none 0 0) 1 24 ht hi hz hsize hby rfl (by omega) s vs.length vs hown ⟨w.heap.size, 0, none⟩ 1 1 [u] rfl (cell_one_new w u E2) (by simpa using hu) (by unfold maxLen; omega) (by omega) Ha.le
  unfold Oper.wp execOp
  simp only [ho, resolve, invoke, builtin, Sem.run_bind, Sem.run_pure, Result.andThen_ok, List.map_toArray, List.map_cons, List.map_nil, hs, hx, hr]
  refine h v' w' ?_
  have hb : Below W.heap.size W w' := Ha.1.grown k2 Ha.le (fun k hk => (hown.lt k hk).1)
  have hrw : Rws W.heap.size (w.alloc (.cells #[u] E2)) ((E2, s, vs) :: (rowsS E vs L ++ ((E, u, us r) :: ss.flatten))) := by
    have h2 : InvG W (w.alloc (.cells #[u] E2)) (segS E2 E s vs L :: segB E u r :: ss).flatten := Ha
    simp only [segS, segB, List.flatten_cons, List.cons_append] at h2
    exact ⟨h2.2.1, h2.2.2⟩
  have h3 := hrw.moved (v' := v') (x' := vs ++ [u]) (by unfold GOwn; simp only [List.length_append, List.length_singleton]; exact k1) k2 k4
  have h4 := h3.inv hb
  unfold InvF
  simp only [segS, List.flatten_cons, List.cons_append]
  rw [rowsS_snoc E vs L u r hv, List.append_assoc]
  exact h4
end
end Go.Proofs.YtopbalemfljphaaDoor
