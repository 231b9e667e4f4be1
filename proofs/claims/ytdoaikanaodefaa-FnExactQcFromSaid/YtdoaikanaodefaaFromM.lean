/- What QcFrom answers; lists of votes compared; an int appended among segments. -/
import Derived.Test.YtdoaikanaodefaaQcVotes
import Derived.Test.YtdoaikanaodefaaQcOk
import Derived.Test.YtdoaikanaodefaaVoteOk
import Derived.Test.YtdoaikanaodefaaTagSeg
import Derived.Test.YtdoaikanaodefaaOf
namespace Go.Proofs.Ytdoaikanaodefaa
open Go.ChangeShapes Go.WideShapes Go.ChangeAt Go.RowKit

def zsV (V : List Vt) : List Int := V.map (·.z)
def ksV (V : List Vt) : List (List UInt8) := V.map (·.k)
def sameT (t u : Vt) : Bool := sameVB t.x t.y t.z t.l t.k u.x u.y u.z u.l u.k
theorem sameT_symm (t u : Vt) : sameT t u = sameT u t := by
  unfold sameT sameVB
  rw [Bool.beq_comm (a := t.x), Bool.beq_comm (a := t.y), Bool.beq_comm (a := t.z), Bool.beq_comm (a := t.l), Bool.beq_comm (a := t.k)]
noncomputable def eqVs (V W : List Vt) : Bool := @decide (V.length = W.length ∧ ∀ (i : Nat) (t u : Vt), V[i]? = some t → W[i]? = some u → sameT t u = true) (Classical.propDecidable _)
theorem eqVs_yes {V W : List Vt} (hl : V.length = W.length) (h : ∀ (i : Nat) (t u : Vt), V[i]? = some t → W[i]? = some u → sameT t u = true) : eqVs V W = true := by
  unfold eqVs
  exact @decide_eq_true _ (Classical.propDecidable _) ⟨hl, h⟩
theorem eqVs_len {V W : List Vt} (hl : V.length ≠ W.length) : eqVs V W = false := by
  unfold eqVs
  exact @decide_eq_false _ (Classical.propDecidable _) fun h => hl h.1
theorem eqVs_no {V W : List Vt} {i : Nat} {t u : Vt} (ht : V[i]? = some t) (hu : W[i]? = some u) (h : sameT t u = false) : eqVs V W = false := by
  unfold eqVs
  exact @decide_eq_false _ (Classical.propDecidable _) fun k => by rw [k.2 i t u ht hu] at h; cases h
theorem eqVs_symm (V W : List Vt) : eqVs V W = eqVs W V := by
  unfold eqVs
  congr 1
  apply propext
  constructor <;> rintro ⟨h1, h2⟩ <;> exact ⟨h1.symm, fun i t u ht hu => by rw [sameT_symm]; exact h2 i u t hu ht⟩
/-- The certificate of the votes t :: .. : its bits. -/
def bitsV (V : List Vt) (a : Int) : List UInt8 := ofL (zsV V) a
noncomputable def fromB (a b c d e : Int) (V : List Vt) : Bool :=
  match V with
  | [] => false
  | t :: _ => limB a b c d e && (ofB (zsV V) a && (qcB a b c d e t.x t.y t.l (bitsV V a) (ksV V) && eqVs V (qcV t.x t.y t.l (bitsV V a) (ksV V))))
theorem okB_nil {a : Int} (h : cntOk a) : okB [] a = false := by
  unfold okB
  refine decide_eq_false fun hp => ?_
  have h1 := sizeB_ok h
  have h2 : (([] : List UInt8).length : Int) = sizeB a := by unfold okP at hp; exact_mod_cast hp.2.1
  simp at h2
  omega
/-- As the program has it: ok of the bits is not asked for, for where it is false the bits are nil. -/
theorem fromB_impl (a b c d e : Int) (t : Vt) (V : List Vt) : fromB a b c d e (t :: V) = (qcB a b c d e t.x t.y t.l (bitsV (t :: V) a) (ksV (t :: V)) && eqVs (qcV t.x t.y t.l (bitsV (t :: V) a) (ksV (t :: V))) (t :: V)) := by
  unfold fromB
  simp only
  rw [eqVs_symm]
  by_cases hb : limB a b c d e = true
  · rw [hb, Bool.true_and]
    by_cases ho : ofB (zsV (t :: V)) a = true
    · rw [ho, Bool.true_and]
    · have hno : bitsV (t :: V) a = [] := by
        unfold bitsV ofL
        rw [if_neg]
        intro h
        exact ho (decide_eq_true h)
      have hq : qcB a b c d e t.x t.y t.l (bitsV (t :: V) a) (ksV (t :: V)) = false := by
        rw [hno]
        unfold qcB
        rw [okB_nil (limB_yes hb).1]
        simp
      rw [hq, Bool.not_eq_true _ |>.mp ho]
      rfl
  · have hb' : limB a b c d e = false := by simpa using hb
    have hq : qcB a b c d e t.x t.y t.l (bitsV (t :: V) a) (ksV (t :: V)) = false := by
      unfold qcB
      rw [hb']
      rfl
    rw [hb', hq]
    rfl

/-- What QcFrom returns where the answer is B. -/
def fI (B : Bool) (x : Int) : Int := if B then x else 0
def fL {α : Type} (B : Bool) (l : List α) : List α := if B then l else []
def hdV (V : List Vt) : Vt := V.headD default
def GotFrom (w : World) (B : Bool) (a : Int) (V : List Vt) (e : Ending) (w' : World) : Prop :=
  ∃ u v s vs, e = .returned (.tuple #[.agg #[.int .i64 (fI B (hdV V).x), .int .i64 (fI B (hdV V).y), u, v, s], .bool B]) ∧ vs.length = (fL B (ksV V)).length ∧
    InvF w w' [segB 5 u (fL B (hdV V).l), segB 5 v (fL B (bitsV V a)), segS 26 5 s vs (fL B (ksV V))]
theorem inv_nils {w w' : World} (hb : Below w.heap.size w w') : InvF w w' [segB 5 (.slice none 0 0) [], segB 5 (.slice none 0 0) [], segS 26 5 (.slice none 0 0) [] []] := by
  refine ⟨hb, fun p hp => ?_, ?_⟩
  · simp [segB, segS, rowsS, us] at hp
    rcases hp with rfl | rfl <;> exact World.ownsRow_nil _ _ _ _
  · simp [segB, segS, rowsS, Value.ownBlock]
theorem gotFrom_no {w w' : World} {B : Bool} {a : Int} {V : List Vt} {e : Ending} (hB : B = false) (he : e = .returned (.tuple #[.agg #[.int .i64 0, .int .i64 0, .slice none 0 0, .slice none 0 0, .slice none 0 0], .bool false])) (H : Below w.heap.size w w') : GotFrom w B a V e w' := by
  subst hB
  exact ⟨_, _, _, [], he, rfl, inv_nils H⟩
theorem gotFrom_yes {w w' : World} {B : Bool} {a : Int} {V : List Vt} {e : Ending} {u v s : Value} {vs : List Value} (hB : B = true) (he : e = .returned (.tuple #[.agg #[.int .i64 (hdV V).x, .int .i64 (hdV V).y, u, v, s], .bool true])) (hv : vs.length = (ksV V).length)
    (H : InvF w w' [segB 5 u (hdV V).l, segB 5 v (bitsV V a), segS 26 5 s vs (ksV V)]) : GotFrom w B a V e w' := by
  subst hB
  exact ⟨u, v, s, vs, he, hv, H⟩

theorem zsV_len (V : List Vt) : (zsV V).length = V.length := by simp [zsV]
theorem ksV_len (V : List Vt) : (ksV V).length = V.length := by simp [ksV]
theorem zsV_take (V : List Vt) (j : Nat) (t : Vt) (h : V[j]? = some t) : zsV (V.take (j + 1)) = zsV (V.take j) ++ [t.z] := by
  rw [List.take_add_one, h]
  simp [zsV]
theorem ksV_take (V : List Vt) (j : Nat) (t : Vt) (h : V[j]? = some t) : ksV (V.take (j + 1)) = ksV (V.take j) ++ [t.k] := by
  rw [List.take_add_one, h]
  simp [ksV]
theorem ksV_sum (V : List Vt) : sumL (ksV V) ≤ volV V := by
  induction V with
  | nil => simp [ksV, sumL]
  | cons t V ih =>
    unfold volV
    have : ksV (t :: V) = t.k :: ksV V := rfl
    rw [this]
    unfold sumL
    omega
theorem volV_mem {V : List Vt} {t : Vt} (h : t ∈ V) : t.l.length + t.k.length ≤ volV V := by
  induction V with
  | nil => cases h
  | cons u V ih =>
    unfold volV
    rcases List.mem_cons.1 h with rfl | h
    · omega
    · have := ih h
      omega

section
variable {W w w' : World} {ss : List (List Row)}
/-- The row of ints of the first segment alone has turned; it may have moved to a new block. -/
theorem InvF.movedI {E : TypeId} {v v' : Value} {l l' : List Int} (H : InvF W w (segI E v l :: ss)) (ho : OwnI E w' W.heap.size v' l') (hg : w.grownBy w' v.ownBlock) (hat : v'.ownBlock = v.ownBlock ∨ v'.ownBlock = some w.heap.size) : InvF W w' (segI E v' l' :: ss) := by
  have hb : Below W.heap.size W w' := H.1.grown hg H.le (fun k hk => ((H.ownI E (.head _)).lt k hk).1)
  have hr : Rws W.heap.size w ((E, v, is l) :: ss.flatten) := ⟨H.2.1, H.2.2⟩
  have h := hr.moved (v' := v') (x' := is l') (GOwn.i.2 ho) hg hat
  exact h.inv hb
end
theorem wpList_appIF {P : Program} {W w : World} {ops : Array Oper} {rest : List Oper} {o : Oper} {a : Act} {Q : Exit → Act → World → Prop} {ss : List (List Row)} (hgd : o.guard = none) (s x : Operand) (t : TypeId)
    (ho : o.op = .call { callee := .builtin .append, args := #[s, x], argTypes := #[t, t] }) (E : TypeId) (i : TypeInfo) (ht : P.underlying t = some (.slice E)) (hi : P.info? E = some i)
    (hz : i.zero = some (.int .i64 0)) (hsize : i.size = 1) (hby : i.bytes = 8) (v : Value) (l : List Int) (hs : a.eval s = v) (z : Int)
    (hx : a.eval x = .slice (some ⟨w.heap.size, 0, none⟩) 1 1) (H : InvF W w (segI E v l :: ss)) (hlen : l.length ≤ 4398046511104)
    (h : ∀ v' w', InvF W w' (segI E v' (l ++ [z]) :: ss) → wpList P ops Q rest (a.put o.dst v') w') : wpList P ops Q (o :: rest) a (w.alloc (.cells #[.int .i64 z] E)) := by
  have Ha : InvF W (w.alloc (.cells #[.int .i64 z] E)) (segI E v l :: ss) := H.up ((Below.refl _ _).alloc (Nat.le_refl _) _)
  have hown := Ha.ownI E (.head _)
  refine wpList_append_own_at _ hgd s x t ho W.heap.size E i (.int .i64 0) 1 8 ht hi hz hsize hby rfl (by omega) v l.length (is l) hs hown ⟨w.heap.size, 0, none⟩ 1 1 (is [z]) hx rfl ?_ (is_cell _) ?_ ?_ Ha.le (fun v' w' k1 k2 _ k4 => h v' w' (Ha.movedI ?_ k2 k4))
  · intro j u hj
    rcases j with _ | j
    · rw [is_one] at hj
      injection hj with hj
      subst hj
      simp [Addr.add]
    · simp [is_one] at hj
  · unfold maxLen; omega
  · omega
  · unfold OwnI
    rw [is_app, List.length_append]
    exact k1
end Go.Proofs.Ytdoaikanaodefaa
