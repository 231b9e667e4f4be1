/- InvF, and beside it that since a world a only blocks have turned of which S holds. -/
import Derived.Test.YtopbalemfljphaaDoorDecF
import Derived.Test.YtopbalemfljphaaDoorMid
import Derived.Test.YtopbalemfljphaaDoorTagSeg
namespace Go.Proofs.YtopbalemfljphaaDoor
open Go.RowKit Go.ChangeShapes Go.WideShapes Go.ChangeAt

structure InvK (S : Nat → Prop) (a W w : World) (ss : List (List Row)) : Prop where
  h : InvF W w ss
  f : Frm S a w
theorem Frm.monoK {S S' : Nat → Prop} {w w' : World} (h : Frm S w w') (hS : ∀ b, b < w.heap.size → S b → S' b) : Frm S' w w' := ⟨h.os, h.tape, h.output, h.size, fun b hb hn => h.block b hb (fun hs => hn (hS b hb hs))⟩
theorem Frm.setsL {W : World} {ss : List (List Row)} {T : TypeId} {g : Nat} {S : Nat → Prop} {a : World} (hg : S g) : ∀ (vs : List Value) (o : Nat) (w : World) (xs : List Value), InvF W w (segX T g xs :: ss) → Frm S a w → Frm S a (w.setCells g o vs)
  | [], _, _, _, _, F => F
  | v :: r, o, _, _, H, F => Frm.setsL hg r (o + 1) _ _ (H.setX o v) (F.setF H v hg)
section
variable {S : Nat → Prop} {a W w w' : World} {ss qs : List (List Row)} {s : List Row} {T : TypeId} {g : Nat}
theorem InvK.newX (T : TypeId) (c : Array Value) (H : InvK S a W w ss) (hc : c.size ≤ 4096 := by simp) : InvK S a W (w.alloc (.cells c T)) (segX T w.heap.size c.toList :: ss) := ⟨H.h.newX T c hc, H.f.trans (Frm.of_below ((Below.refl _ _).alloc (Nat.le_refl _) _))⟩
theorem InvK.newG (T : TypeId) (c : Array Value) (g : Nat) (H : InvK S a W w ss) (hg : g = w.heap.size := by simp) (hc : c.size ≤ 4096 := by simp) : InvK S a W (w.alloc (.cells c T)) (segX T g c.toList :: ss) := ⟨H.h.newG T c g hg hc, H.f.trans (Frm.of_below ((Below.refl _ _).alloc (Nat.le_refl _) _))⟩
theorem InvK.front (i : Nat) (hi : ss[i]? = some s) (H : InvK S a W w ss) : InvK S a W w (s :: ss.eraseIdx i) := ⟨H.h.front i hi, H.f⟩
theorem InvK.perm (H : InvK S a W w ss) (h : ss.Perm qs) : InvK S a W w qs := ⟨H.h.perm h, H.f⟩
theorem InvK.sub (H : InvK S a W w ss) (h : qs.Sublist ss) : InvK S a W w qs := ⟨H.h.sub h, H.f⟩
theorem InvK.up (H : InvK S a W w ss) (hb : Below w.heap.size w w') : InvK S a W w' ss := ⟨H.h.up hb, H.f.trans (Frm.of_below hb)⟩
theorem InvK.drew1 (H : InvK S a W w ss) : InvK S a W w.drew ss := ⟨H.h.drew1, H.f.drewN 1⟩
theorem InvK.more (H : InvK S a W w ss) (K : InvG w w' s) : InvK S a W w' (s :: ss) := ⟨H.h.more K, H.f.trans (Frm.of_below K.1)⟩
theorem InvK.moreB {E : TypeId} {v : Value} {l : List UInt8} (H : InvK S a W w ss) (ho : Own E w' w.heap.size v l) (hb : Below w.heap.size w w') : InvK S a W w' (segB E v l :: ss) := ⟨H.h.moreB ho hb, H.f.trans (Frm.of_below hb)⟩
theorem InvK.setX {xs : List Value} (H : InvK S a W w (segX T g xs :: ss)) (hg : S g) (j : Nat) (v : Value) : InvK S a W (w.setCell ⟨g, j, none⟩ v) (segX T g (xs.set j v) :: ss) := ⟨H.h.setX j v, H.f.setF H.h v hg⟩
theorem InvK.over5 {a0 b c d e : Value} (H : InvK S a W w (segX T g [a0, b, c, d, e] :: ss)) (hg : S g) (a' b' c' d' e' : Value) :
    InvK S a W (((((w.setCell ⟨g, 0, none⟩ a').setCell ⟨g, 1, none⟩ b').setCell ⟨g, 2, none⟩ c').setCell ⟨g, 3, none⟩ d').setCell ⟨g, 4, none⟩ e') (segX T g [a', b', c', d', e'] :: ss) :=
  ((((H.setX hg 0 a').setX hg 1 b').setX hg 2 c').setX hg 3 d').setX hg 4 e'
theorem InvK.sets10 {a0 b c d e f i j k m : Value} (H : InvK S a W w (segX T g [a0, b, c, d, e, f, i, j, k, m] :: ss)) (hg : S g) (a' b' c' d' e' f' i' j' k' m' : Value) :
    InvK S a W (w.setCells g 0 [a', b', c', d', e', f', i', j', k', m']) (segX T g [a', b', c', d', e', f', i', j', k', m'] :: ss) := ⟨H.h.sets10 a' b' c' d' e' f' i' j' k' m', Frm.setsL hg _ 0 w _ H.h H.f⟩
theorem InvK.sets5 {a0 b c d e f i j k m : Value} (H : InvK S a W w (segX T g [a0, b, c, d, e, f, i, j, k, m] :: ss)) (hg : S g) (f' i' j' k' m' : Value) :
    InvK S a W (w.setCells g 5 [f', i', j', k', m']) (segX T g [a0, b, c, d, e, f', i', j', k', m'] :: ss) := ⟨H.h.sets5 f' i' j' k' m', Frm.setsL hg _ 5 w _ H.h H.f⟩
end
section
variable {S : Nat → Prop} {b W w w' : World} {ss : List (List Row)} {E E2 : TypeId} {s u : Value} {vs : List Value} {L : List (List UInt8)}
/-- 'append(out, x)' for one slice x of bytes, within a drawn region: out and x are the first segments; out's block is one that S holds. -/
theorem step_appKS {P : Program} {ops : Array Oper} {o : Oper} {a : Act} {K : Act → World → Prop} {Q : Exit → Act → World → Prop} {F : Prop} {r : List UInt8} (hwt : Region.wanted o (yielded ops a.tmps) = true) (x y : Operand) (t : TypeId)
    (ho : o.op = .call { callee := .builtin .append, args := #[x, y], argTypes := #[t, t] }) (i : TypeInfo) (ht : P.underlying t = some (.slice E2)) (hi : P.info? E2 = some i)
    (hz : i.zero = some (.slice none 0 0)) (hsize : i.size = 1) (hby : i.bytes = 24) (hs : a.eval x = s) (hx : a.eval y = .slice (some ⟨w.heap.size, 0, none⟩) 1 1) (hu : u.oneCell' = true) (hv : vs.length = L.length)
    (H : InvK S b W w (segS E2 E s vs L :: segB E u r :: ss)) (hlen : L.length ≤ 1073741824) (hS : ∀ g, s.ownBlock = some g → S g) (hN : ∀ g, b.heap.size ≤ g → S g)
    (h : ∀ v' w', InvK S b W w' (segS E2 E v' (vs ++ [u]) (L ++ [r]) :: ss) → (∀ g, v'.ownBlock = some g → S g) → K (a.put o.dst v') w') :
    if Region.wanted o (yielded ops a.tmps) = true then Oper.wp P o a (w.alloc (.cells #[u] E2)) K Q else F := by
  rw [if_pos hwt]
  have hba : Below w.heap.size w (w.alloc (.cells #[u] E2)) := (Below.refl _ _).alloc (Nat.le_refl _) _
  have Ha : InvF W (w.alloc (.cells #[u] E2)) (segS E2 E s vs L :: segB E u r :: ss) := H.h.up hba
  have hown : GOwn (w.alloc (.cells #[u] E2)) W.heap.size (E2, s, vs) := Ha.2.1 _ (InvF.mem (.head _) (.head _))
  unfold GOwn at hown
  obtain ⟨v', w', hr, k1, k2, _, k4⟩ := run_append_own_at (P := P) (w.alloc (.cells #[u] E2)) W.heap.size t o.type E2 i (.slice none 0 0) 1 24 ht hi hz hsize hby rfl (by omega) s vs.length vs hown ⟨w.heap.size, 0, none⟩ 1 1 [u] rfl (cell_one_new w u E2) (by simpa using hu) (by unfold maxLen; omega) (by omega) Ha.le
  unfold Oper.wp execOp
  simp only [ho, resolve, invoke, builtin, Sem.run_bind, Sem.run_pure, Result.andThen_ok, List.map_toArray, List.map_cons, List.map_nil, hs, hx, hr]
  have hf : Frm S b w' := (H.f.trans (Frm.of_below hba)).trans (Frm.grown k2 hS)
  refine h v' w' ⟨?_, hf⟩ (fun g hg => ?_)
  · have hb : Below W.heap.size W w' := Ha.1.grown k2 Ha.le (fun k hk => (hown.lt k hk).1)
    have hrw : Rws W.heap.size (w.alloc (.cells #[u] E2)) ((E2, s, vs) :: (rowsS E vs L ++ ((E, u, us r) :: ss.flatten))) := by
      have h2 : InvG W (w.alloc (.cells #[u] E2)) (segS E2 E s vs L :: segB E u r :: ss).flatten := Ha
      simp only [segS, segB, List.flatten_cons, List.cons_append] at h2
      exact ⟨h2.2.1, h2.2.2⟩
    have h3 := hrw.moved (v' := v') (x' := vs ++ [u]) (by unfold GOwn; simp only [List.length_append, List.length_singleton]; exact k1) k2 k4
    have h4 := h3.inv hb
    unfold InvF
    simp only [segS, List.flatten_cons, List.cons_append]
    rw [rowsS_snoc E vs L u r hv, List.append_assoc]
    exact h4
  · rcases k4 with e | e
    · exact hS g (by rw [← e]; exact hg)
    · rw [e] at hg
      injection hg with hg
      refine hN g ?_
      have h5 := H.f.size
      simp at hg
      omega
end

theorem l11Var_K (S : Nat → Prop) (a W w : World) (g : Nat) (v : Value) (l : List UInt8) (p e : Int) (ss : List (List Row)) (H : InvK S a W w (segX 51 g [v, .int .i64 p, .int .i64 e] :: ss)) (hg : S g) (hv : Sp W W.heap.size v l) (hl : l.length ≤ 4294967296) :
    Calls Tryd.prog 37 #[.pointer (some ⟨g, 0, none⟩)] w (fun ev w' => ev = .returned (.int .i64 (nV l p e)) ∧ InvK S a W w' (segX 51 g [v, .int .i64 (nP l p e), .int .i64 (nE l p e)] :: ss)) :=
  (l11Var_F W w g v l p e ss H.h hv hl).mono (fun ev w' hh => ⟨hh.1, hh.2.1, H.f.trans (hh.2.2.monoK (fun b _ hb => by subst hb; exact hg))⟩)
theorem l11Raw_K (S : Nat → Prop) (a W w : World) (g : Nat) (v : Value) (l : List UInt8) (p e : Int) (ss : List (List Row)) (H : InvK S a W w (segX 51 g [v, .int .i64 p, .int .i64 e] :: ss)) (hg : S g) (hv : Sp W W.heap.size v l) (hl : l.length ≤ 4294967296) :
    Calls Tryd.prog 53 #[.pointer (some ⟨g, 0, none⟩)] w (fun ev w' => ∃ u, ev = .returned u ∧ InvK S a W w' (segX 51 g [v, .int .i64 (rP l 32 p e), .int .i64 (rE l 32 p e)] :: segB 5 u (rV l 32 p e) :: ss)) :=
  (l11Raw_F W w g v l p e ss H.h hv hl).mono (fun ev w' hh => by
    obtain ⟨u, h1, _, h2, h3⟩ := hh
    exact ⟨u, h1, h2, H.f.trans (h3.monoK (fun b _ hb => by subst hb; exact hg))⟩)
theorem l11Fail_K (S : Nat → Prop) (a W w : World) (g : Nat) (v : Value) (p e c : Int) (bad : Bool) (ss : List (List Row)) (H : InvK S a W w (segX 51 g [v, .int .i64 p, .int .i64 e] :: ss)) (hg : S g) :
    Calls Tryd.prog 38 #[.pointer (some ⟨g, 0, none⟩), .bool bad, .int .i64 c] w (fun ev w' => ev = .returned (.tuple #[]) ∧ InvK S a W w' (segX 51 g [v, .int .i64 p, .int .i64 (fE e (!bad) c)] :: ss)) :=
  (l11Fail_F W w g v p e c bad ss H.h).mono (fun ev w' hh => ⟨hh.1, hh.2.1, H.f.trans (hh.2.2.monoK (fun b _ hb => by subst hb; exact hg))⟩)
end Go.Proofs.YtopbalemfljphaaDoor
