/- Slices of entries that a call appends to: they are its own (OwnY); an entry appended. -/
import Derived.Test.YtickneafppbegaaDoorRowsE
import Derived.Test.YtickneafppbegaaDoorEnt
namespace Go.Proofs.YtickneafppbegaaDoor
open Go.RowKit Go.ChangeShapes Go.WideShapes Go.ChangeAt

def eltY (t : Et) (p : Value) : Elt := ([.int .i64 t.x, .int .i64 t.y, p], [(5, p, us t.k)])
def eltsY (L : List Et) (ps : List Value) : List Elt := List.zipWith eltY L ps
/-- The slice v is the call's own and has the entries L. -/
def OwnY (S : Nat → Prop) (w : World) (v : Value) (L : List Et) (ps : List Value) : Prop := ps.length = L.length ∧ OwnE S 58 3 w v (eltsY L ps)
section
variable {S S' : Nat → Prop} {w w' : World} {v : Value} {L : List Et} {ps : List Value}
theorem eltsY_len (h : ps.length = L.length) : (eltsY L ps).length = L.length := by simp [eltsY, h]
theorem eltsY_get {i : Nat} {t : Et} {p : Value} (ht : L[i]? = some t) (hp : ps[i]? = some p) : (eltsY L ps)[i]? = some (eltY t p) := by
  unfold eltsY
  rw [List.getElem?_zipWith, ht, hp]
theorem eltsY_snoc (h : ps.length = L.length) (t : Et) (p : Value) : eltsY (L ++ [t]) (ps ++ [p]) = eltsY L ps ++ [eltY t p] := by
  unfold eltsY
  rw [List.zipWith_append h.symm]
  rfl
theorem OwnY.nil_ (S : Nat → Prop) (w : World) : OwnY S w (.slice none 0 0) [] [] := ⟨rfl, OwnE.nil_ _ _ _ _⟩
theorem OwnY.sl (H : OwnY S w v L ps) : SlE w w.heap.size v L := by
  obtain ⟨hl, H⟩ := H
  have hle := eltsY_len hl
  obtain ⟨A, c, e, h1, h2, h0, h3⟩ := H.form
  rw [hle] at e h1 h3
  refine ⟨A, c, e, h1, h2, h0, fun hp => ?_⟩
  obtain ⟨b, rfl, hb⟩ := h3 hp
  refine ⟨b, 0, rfl, hb, fun i t ht => ?_⟩
  have hi := (List.getElem?_eq_some_iff.1 ht).1
  obtain ⟨p, hpp⟩ : ∃ p, ps[i]? = some p := ⟨ps[i]'(by omega), List.getElem?_eq_getElem (by omega)⟩
  have hget := eltsY_get ht hpp
  have hv : v = .slice (some ⟨b, 0, none⟩) (eltsY L ps).length c := by rw [e, hle]
  rw [Nat.zero_add]
  exact ⟨p, H.cellE (j := 0) hv hget (by decide), H.cellE (j := 1) hv hget (by decide), H.cellE (j := 2) hv hget (by decide), H.slB (E := 5) hget (.head _)⟩
theorem OwnY.kept (H : OwnY S w v L ps) (hk : ∀ b, S b → b < w.heap.size → w'.heap[b]? = w.heap[b]?) : OwnY S w' v L ps := ⟨H.1, H.2.kept hk⟩
theorem OwnY.mono (H : OwnY S w v L ps) (h : ∀ b, b < w.heap.size → S b → S' b) : OwnY S' w v L ps := ⟨H.1, H.2.mono h⟩
/-- A row waits that lies in newer blocks. -/
theorem OwnE.pendB {T E : TypeId} {s B : Nat} {L : List Elt} {u : Value} {l : List UInt8} (H : OwnE S T s w v L) (ho : Own E w 0 u l) (hu : ∀ b, u.ownBlock = some b → B ≤ b ∧ S' b) (hB : ∀ b, S b → b < B) (hS : ∀ b, S b → S' b) :
    OwnP S' T s w v L [(E, u, us l)] := by
  refine ⟨H.mono (fun b _ h => hS b h), fun p hp => ?_, ?_⟩
  · rw [List.mem_singleton] at hp
    subst hp
    exact ⟨GOwn.b.2 ho, fun g hg => (hu g hg).2⟩
  · rw [← List.cons_append]
    refine List.pairwise_append.2 ⟨H.apart, List.pairwise_singleton _ _, fun p hp q hq => ?_⟩
    rw [List.mem_singleton] at hq
    subst hq
    rcases hv : p.2.1.ownBlock with _ | g
    · exact .inl hv
    · refine .inr fun e => ?_
      have h1 : S g := by
        rcases List.mem_cons.1 hp with rfl | hp
        · exact H.at_ g hv
        · exact (H.sub p hp).2 g hv
      have h2 := hB g h1
      have h3 := (hu g (by rw [hv] at e; exact e.symm)).1
      omega
/-- An entry more. -/
theorem OwnY.snoc {t : Et} {p : Value} (hl : ps.length = L.length) (H : OwnE S 58 3 w v (eltsY L ps ++ [([.int .i64 t.x, .int .i64 t.y, p], [(5, p, us t.k)])])) : OwnY S w v (L ++ [t]) (ps ++ [p]) :=
  ⟨by simp [hl], by rw [eltsY_snoc hl]; exact H⟩
end
theorem Frm.mono {S S' : Nat → Prop} {w w' : World} (h : Frm S w w') (hS : ∀ b, S b → S' b) : Frm S' w w' := ⟨h.os, h.tape, h.output, h.size, fun b hb hn => h.block b hb (fun hs => hn (hS b hs))⟩

/-- 'append(out, x)' for one struct x: out is the call's own, the rows behind x wait. -/
theorem wpList_appE {P : Program} {w : World} {S : Nat → Prop} {T : TypeId} {s : Nat} {v : Value} {L : List Elt} {rs : List Row} {ops : Array Oper} {rest : List Oper} {o : Oper} {a : Act} {Q : Exit → Act → World → Prop} (hgd : o.guard = none) (x y : Operand) (t : TypeId)
    (ho : o.op = .call { callee := .builtin .append, args := #[x, y], argTypes := #[t, t] }) (i : TypeInfo) (z : Value) (bytes : Nat) (ht : P.underlying t = some (.slice T)) (hi : P.info? T = some i)
    (hz : i.zero = some z) (hzs : z.cells.size = s) (hsize : i.size = s) (hby : i.bytes = bytes) (hbb : bytes ≤ 1000) (hs0 : 0 < s) (cs : List Value) (hcs : cs.length = s) (hone : ∀ u ∈ cs, u.oneCell' = true)
    (hs : a.eval x = v) (hx : a.eval y = .slice (some ⟨w.heap.size, 0, none⟩) 1 1) (H : OwnP S T s w v L rs) (hS : ∀ b, w.heap.size ≤ b → S b) (hlen : L.length ≤ 1073741824)
    (h : ∀ v' w', OwnE S T s w' v' (L ++ [(cs, rs)]) → Frm S w w' → wpList P ops Q rest (a.put o.dst v') w') : wpList P ops Q (o :: rest) a (w.alloc (.cells cs.toArray T)) := by
  refine wpList_plain hgd fun K hK => ?_
  have hwt : Region.wanted o (yielded (#[] : Array Oper) a.tmps) = true := by
    unfold Region.wanted
    rw [hgd]
  have h1 := step_appE (F := True) (Q := fun e a w' => Q e a w') (K := K) hwt x y t ho i z bytes ht hi hz hzs hsize hby hbb hs0 cs hcs hone hs hx H hS hlen (fun v' w' k1 k2 => hK _ _ (h v' w' k1 k2))
  rw [if_pos hwt] at h1
  exact h1
end Go.Proofs.YtickneafppbegaaDoor
