/- The contract of StackPush as its model has it. -/
import Derived.Test.YtdoaikanaodefaaDoorStackPush
namespace Go.Proofs.YtdoaikanaodefaaDoor
open Go.ChangeShapes Go.WideShapes Go.ChangeAt Go.RowKit

/-- Block k is a variable that holds the struct of a and s. -/
def VarK (w : World) (k : Nat) (a s : Value) : Prop := w.heap[k]? = some (.cells #[a, s] 27)
section
variable {w w' : World} {k : Nat} {a s : Value}
theorem VarK.lt (h : VarK w k a s) : k < w.heap.size := (Array.getElem?_eq_some_iff.1 h).1
theorem VarK.c0 (h : VarK w k a s) : w.cell? ⟨k, 0, none⟩ = some a := by simp [World.cell?, show w.heap[k]? = _ from h]
theorem VarK.c1 (h : VarK w k a s) : w.cell? ⟨k, 1, none⟩ = some s := by simp [World.cell?, show w.heap[k]? = _ from h]
theorem VarK.f0 (h : VarK w k a s) : w.frozen? ⟨k, 0, none⟩ = false := by simp [World.frozen?, show w.heap[k]? = _ from h]
theorem VarK.f1 (h : VarK w k a s) : w.frozen? ⟨k, 1, none⟩ = false := by simp [World.frozen?, show w.heap[k]? = _ from h]
theorem VarK.kept {row : Option Nat} (h : VarK w k a s) (hg : w.grownBy w' row) (hne : some k ≠ row) : VarK w' k a s := (hg.block k h.lt hne).trans h
theorem VarK.up (h : VarK w k a s) (hb : Below w.heap.size w w') : VarK w' k a s := (hb.block k h.lt).trans h
theorem VarK.set0 (h : VarK w k a s) (v : Value) : VarK (w.setCell ⟨k, 0, none⟩ v) k v s := by
  obtain ⟨hlt, hk⟩ := Array.getElem?_eq_some_iff.1 h
  show (w.heap.modify k _)[k]? = _
  rw [Array.getElem?_eq_getElem (by rw [Array.size_modify]; exact hlt), Array.getElem_modify_self, hk]
  rfl
theorem VarK.set1 (h : VarK w k a s) (v : Value) : VarK (w.setCell ⟨k, 1, none⟩ v) k a v := by
  obtain ⟨hlt, hk⟩ := Array.getElem?_eq_some_iff.1 h
  show (w.heap.modify k _)[k]? = _
  rw [Array.getElem?_eq_getElem (by rw [Array.size_modify]; exact hlt), Array.getElem_modify_self, hk]
  rfl
end
theorem GOwn.apart {w : World} {B B' : Nat} {p q : Row} (h : GOwn w B p) (h' : GOwn w B' q) (hT : p.1 ≠ q.1) : p.2.1.ownBlock = none ∨ p.2.1.ownBlock ≠ q.2.1.ownBlock := by
  rcases h'.2 with ⟨e, _⟩ | ⟨g, cap, cur, e, _, hg, _⟩
  · rcases h.2 with ⟨e1, _⟩ | ⟨g1, cap1, cur1, e1, _, _⟩
    · rw [e1]
      exact .inl rfl
    · rw [e, e1]
      exact .inr (by simp [Value.ownBlock])
  · have := h.not_at hg (fun e => hT e)
    rw [e]
    exact this

/-- Between two rounds of the model's loop. -/
def MrgS (w w1 wr : World) (H : List Int) (L : List (List UInt8)) (M : Nat × Nat × List UInt8) (l h r : Value) : Prop :=
  ∃ (n up : Nat) (x : List UInt8), l = .int .i64 (n : Int) ∧ h = .int .i64 (up : Int) ∧ n + up ≤ H.length ∧ x.length = 32 ∧ Own 5 wr w.heap.size r x ∧ Below w1.heap.size w1 wr ∧ Below w.heap.size w wr ∧ mrg H L n up x = M

/-- 'append(out, z)' for one cell: out is the head of the rows. -/
theorem wpList_appR1 {P : Program} {w : World} {ops : Array Oper} {rest : List Oper} {o : Oper} {a : Act} {Q : Exit → Act → World → Prop} {rs : List Row} (hgd : o.guard = none) (s x : Operand) (t : TypeId)
    (ho : o.op = .call { callee := .builtin .append, args := #[s, x], argTypes := #[t, t] }) (E2 : TypeId) (i : TypeInfo) (ht : P.underlying t = some (.slice E2)) (hi : P.info? E2 = some i) (z : Value) (b : Nat)
    (hz : i.zero = some z) (hsize : i.size = 1) (hby : i.bytes = b) (hz1 : z.cells = #[z]) (hb1 : b ≤ 24) (B : Nat) (v : Value) (vs : List Value) (hs : a.eval s = v) (u : Value) (hu : u.oneCell' = true)
    (hx : a.eval x = .slice (some ⟨w.heap.size, 0, none⟩) 1 1) (hB : B ≤ w.heap.size) (H : Rws B w ((E2, v, vs) :: rs)) (hlen : vs.length ≤ 1073741823)
    (h : ∀ v' w', Rws B w' ((E2, v', vs ++ [u]) :: rs) → w.grownBy w' v.ownBlock → wpList P ops Q rest (a.put o.dst v') w') : wpList P ops Q (o :: rest) a (w.alloc (.cells #[u] E2)) := by
  have hga : w.grownBy (w.alloc (.cells #[u] E2)) none := World.grownBy_alloc w _ _
  have H' : Rws B (w.alloc (.cells #[u] E2)) ((E2, v, vs) :: rs) := H.kept hga (fun g e => by cases e)
  have hmul : (vs.length + 1) * b ≤ 140737488355328 := by
    have : (vs.length + 1) * b ≤ 1073741824 * 24 := Nat.mul_le_mul (by omega) hb1
    omega
  refine wpList_append_own_at _ hgd s x t ho B E2 i z 1 b ht hi hz hsize hby (by rw [hz1]; rfl) (by omega) v vs.length vs hs (H'.1 _ (.head _)) ⟨w.heap.size, 0, none⟩ 1 1 [u] hx rfl (cell_one_new w u E2) (by simpa using hu) ?_ hmul ?_ ?_
  · unfold maxLen; omega
  · exact Nat.le_trans hB hga.size
  · intro v' w' h1 h2 _ h4
    refine h v' w' (H'.moved ?_ h2 h4) ((World.grownBy_alloc w _ _).trans h2)
    unfold GOwn
    simp only [List.length_append, List.length_singleton]
    exact h1

/-- 'append([]T{}, x...)': nothing that was there turns. -/
theorem run_append_lit {P : Program} (w : World) (t ty e : TypeId) (i : TypeInfo) (z : Value) (b : Nat) (ht : P.underlying t = some (.slice e)) (hi : P.info? e = some i) (hz : i.zero = some z) (hsize : i.size = 1) (hby : i.bytes = b) (hz1 : z.cells = #[z]) (hb1 : b ≤ 24)
    (g B : Nat) (hg : w.heap[g]? = some (.cells #[] e)) (hgB : B ≤ g) (u : Value) (ys : List Value) (hm : RdC w w.heap.size u ys) (hlen : ys.length ≤ 1073741824) (hB : B ≤ w.heap.size) :
    ∃ v' w', (Builtin.append_ #[t, t] ty #[.slice (some ⟨g, 0, none⟩) 0 0, u]).run P w = .ok v' w' ∧ Below w.heap.size w w' ∧ GOwn w' B (e, v', ys) := by
  have hown : w.ownsRow B e 1 (.slice (some ⟨g, 0, none⟩) 0 0) 0 [] := ⟨by simp, .inr ⟨g, 0, #[], rfl, hgB, hg, Nat.le_refl _, by simp [maxLen], by simp, by simp⟩⟩
  obtain ⟨A, c, rfl, h1, h2, h0, h4, h3⟩ := hm
  rcases Nat.eq_zero_or_pos ys.length with hy0 | hp
  · have hy : ys = [] := List.eq_nil_of_length_eq_zero hy0
    subst hy
    refine ⟨.slice (some ⟨g, 0, none⟩) 0 0, w, ?_, Below.refl _ _, hown⟩
    cases A with
    | none =>
      obtain rfl := h0 rfl
      exact run_append_owned_none w B t ty e i 1 ht hi _ 0 [] hown
    | some a => simp [Builtin.append_, run_underlying ht, sizeOf, typeInfo, hi, Builtin.lenOf, Builtin.firstCells, loadCells, loadCellsFrom, storeCells]
  · obtain ⟨bb, off, rfl, hbb, hc⟩ := h3 hp
    have hbs : i.bytes * ys.length ≤ 1073741824 * 24 := by rw [Nat.mul_comm, hby]; exact Nat.mul_le_mul hlen hb1
    have hr := run_append_grow (P := P) w t ty e i z ht hi hz ⟨g, 0, none⟩ 0 0 [] (by simp) (fun j v h => by simp at h) ⟨bb, off, none⟩ ys.length c ys (by rw [hsize, Nat.mul_one]) (fun j v h => by
      have hj := (List.getElem?_eq_some_iff.1 h).1
      have := (hc j hj).trans h
      unfold Addr.add
      split
      · rename_i h0; subst h0; simpa using this
      · exact this) (by omega) (by omega) (by rw [Nat.zero_add, nextslicecap_zero hp, Nat.mul_comm]; omega)
    rw [Nat.zero_add] at hr
    have hge := grownCap_ge w ys.length 0 e
    have hle := grownCap_le_maxLen w ys.length 0 e (by unfold maxLen; omega)
    generalize grownCap w ys.length 0 e = G at hr hge hle
    refine ⟨_, _, hr, (below_drewN (Below.refl w.heap.size w) 1).alloc (Nat.le_refl _) _, ?_⟩
    refine ⟨by simp, .inr ⟨w.heap.size, G, _, rfl, hB, heap_alloc_new w.drew _, hge, hle, ?_, ?_⟩⟩
    · rw [Array.size_append, Array.size_append, size_zeroCells, hz1]
      simp
      omega
    · simp

theorem push_openI {B : Nat} {w : World} {v : Value} {H H' : List Int} {z : Int} {rs : List Row} (he : H' = H ++ [z]) (hR : Rws B w ((3, v, is H ++ [.int .i64 z]) :: rs)) :
    ∃ A c, v = .slice A H'.length c ∧ Rws B w ((3, v, is H') :: rs) := by
  have e : is H ++ [.int .i64 z] = is H' := by rw [he, is_app]; rfl
  rw [e] at hR
  obtain ⟨A, c, hv, _, _, _, _⟩ := (hR.1 _ (.head _)).cells
  exact ⟨A, c, by rw [is_length] at hv; exact hv, hR⟩
theorem push_openS {B : Nat} {w : World} {v r : Value} {us : List Value} {L' : List (List UInt8)} {rs : List Row} (hl : us.length + 1 = L'.length) (hR : Rws B w ((22, v, us ++ [r]) :: rs)) :
    ∃ A c, v = .slice A L'.length c ∧ Rws B w ((22, v, us ++ [r]) :: rs) := by
  obtain ⟨A, c, hv, _, _, _, _⟩ := (hR.1 _ (.head _)).cells
  exact ⟨A, c, by rw [List.length_append, List.length_singleton, hl] at hv; exact hv, hR⟩
theorem row_ne {k : Nat} {v : Value} (h : v.ownBlock = none ∨ v.ownBlock ≠ some k) : some k ≠ v.ownBlock := by
  rcases h with h | h
  · rw [h]
    simp
  · exact h.symm
theorem push_types {T E1 E2 E : TypeId} {u v : Value} {xs ys us : List Value} {L : List (List UInt8)} (h1 : E1 ≠ T) (h2 : E2 ≠ T) (h3 : E ≠ T) : ∀ p ∈ ((E1, u, xs) :: (E2, v, ys) :: rowsS E us L : List Row), p.1 ≠ T := fun p hp => by
  rcases List.mem_cons.1 hp with rfl | hp
  · exact h1
  rcases List.mem_cons.1 hp with rfl | hp
  · exact h2
  · rw [rowsS_type hp]
    exact h3
/-- What each operation of the model's region yields. -/
def PushSpS (w4 : World) (g : Nat) (A : Option Addr) (c : Nat) (A' : Option Addr) (c' : Nat) (H : List Int) (L : List (List UInt8)) (lf : Nat) : Nat → World → (Nat → Value) → Prop
  | 0, w, vs => ∃ k, vs 0 = .slice (some ⟨k, 0, none⟩) 0 0 ∧ w4.heap.size ≤ k ∧ w.heap[k]? = some (.cells #[] 3)
  | 1, _, vs => vs 1 = .pointer (some ⟨g, 0, none⟩)
  | 2, _, vs => vs 2 = .slice A H.length c
  | 3, _, vs => vs 3 = .int .i64 (lf : Int)
  | 4, _, vs => vs 4 = .slice A lf c
  | 5, w, vs => GOwn w w4.heap.size (3, vs 5, is (H.take lf))
  | 6, _, vs => vs 6 = .pointer (some ⟨g, 1, none⟩)
  | 7, _, vs => vs 7 = .slice A' L.length c'
  | 8, _, vs => vs 8 = .int .i64 (lf : Int)
  | 9, _, vs => vs 9 = .slice A' lf c'
  | 10, w, vs => ∃ us, us.length = (L.take lf).length ∧ Rws w4.heap.size w ((22, vs 10, us) :: rowsS 5 us (L.take lf))
  | 11, w, vs => vs 11 = .agg #[vs 5, vs 10] ∧ ∃ us, us.length = (L.take lf).length ∧ Rws w4.heap.size w ((3, vs 5, is (H.take lf)) :: (22, vs 10, us) :: rowsS 5 us (L.take lf))
  | 12, w, vs => ∃ k, vs 12 = .pointer (some ⟨k, 0, none⟩) ∧ w4.heap.size ≤ k ∧ w.heap[k]? = some (.cells #[.slice none 0 0, .slice none 0 0] 27)
  | _, _, _ => True
theorem PushSpS.up {w4 : World} {g : Nat} {A : Option Addr} {c : Nat} {A' : Option Addr} {c' : Nat} {H : List Int} {L : List (List UInt8)} {lf : Nat} {w w' : World} {vs vs' : Nat → Value} :
    ∀ i, PushSpS w4 g A c A' c' H L lf i w vs → Below w.heap.size w w' → vs i = vs' i → (i = 11 → vs 5 = vs' 5 ∧ vs 10 = vs' 10) → PushSpS w4 g A c A' c' H L lf i w' vs'
  | 0, h, hb, e, _ => by
    simp only [PushSpS] at h ⊢
    rw [← e]
    obtain ⟨k, h1, h2, h3⟩ := h
    exact ⟨k, h1, h2, (hb.block k (Array.getElem?_eq_some_iff.1 h3).1).trans h3⟩
  | 1, h, _, e, _ => e.symm.trans h
  | 2, h, _, e, _ => e.symm.trans h
  | 3, h, _, e, _ => e.symm.trans h
  | 4, h, _, e, _ => e.symm.trans h
  | 5, h, hb, e, _ => by
    simp only [PushSpS] at h ⊢
    rw [← e]
    exact h.up hb
  | 6, h, _, e, _ => e.symm.trans h
  | 7, h, _, e, _ => e.symm.trans h
  | 8, h, _, e, _ => e.symm.trans h
  | 9, h, _, e, _ => e.symm.trans h
  | 10, h, hb, e, _ => by
    simp only [PushSpS] at h ⊢
    rw [← e]
    obtain ⟨us, hl, hr⟩ := h
    exact ⟨us, hl, hr.up hb⟩
  | 11, h, hb, e, e2 => by
    simp only [PushSpS] at h ⊢
    rw [← e, ← (e2 rfl).1, ← (e2 rfl).2]
    obtain ⟨h1, us, hl, hr⟩ := h
    exact ⟨h1, us, hl, hr.up hb⟩
  | 12, h, hb, e, _ => by
    simp only [PushSpS] at h ⊢
    rw [← e]
    obtain ⟨k, h1, h2, h3⟩ := h
    exact ⟨k, h1, h2, (hb.block k (Array.getElem?_eq_some_iff.1 h3).1).trans h3⟩
  | _ + 13, _, _, _, _ => trivial

set_option maxRecDepth 100000 in
set_option maxHeartbeats 4000000 in
theorem specStackPush_any (v u : Value) (H : List Int) (L : List (List UInt8)) (x : List UInt8) (w : World) (h : SlK w w.heap.size v H L) (hx : Sl w w.heap.size u x) :
    Calls Tryd.prog 17 #[v, u] w (FreshKB w (psH H L x) (psS H L x) (pushB H L x)) := by
  have hK := h
  obtain ⟨a, s, rfl, hIs, hS⟩ := h
  obtain ⟨A, c, rfl, p1, p2, p0, p3⟩ := hIs
  obtain ⟨A', c', rfl, q1, q2, q0, q3⟩ := hS
  have HX := Lib.hid hx
  obtain ⟨A2, c2, rfl, m1, m2, m0, m3⟩ := hx
  unfold maxLen at p2 q2 m2
  clear m0 m3 p0 q0
  have hb : Below w.heap.size w ((w.alloc (.cells #[.slice A H.length c, .slice A' L.length c'] 27)).alloc (.cells #[.slice none 0 0, .slice none 0 0] 27)) := ((Below.refl _ w).alloc (Nat.le_refl _) _).alloc (by simp) _
  cases hok : okS H L with
  | false =>
    have hpb := pushB_ok (x := x) hok
    rw [psH_no hpb, psS_no hpb, hpb]
    have HO := Lib.hid hok
    clear hok hpb
    go_enter Tryd.func17, Tryd.ntmps17
    go_wp2_with fail
    refine (specStackOk_any _ H L _ (hK.up hb)).mono ?_
    rw [HO.out]
    rintro e w2 ⟨rfl, hb2⟩
    obtain ⟨hc2, hf2⟩ := bcell hb2
    have hz2 : w.heap.size + 1 < w2.heap.size := by have := hb2.size; simp at this; omega
    go_wp2
    refine bodyPost_ret (v := .tuple #[.agg #[.slice none 0 0, .slice none 0 0], .bool false]) (by simp [results, Tryd.results17, go_sem, hc2]) rfl (FreshKB.nil_ ?_)
    exact ((hb.trans (hb2.mono hb.size)).setCell (by simp) _).setCell (by simp) _
  | true =>
    by_cases hxl : x.length = 32
    case neg =>
      have hpb := pushB_hash (H := H) (L := L) hxl
      rw [psH_no hpb, psS_no hpb, hpb]
      have HO := Lib.hid hok
      have hlh2 := hash_no hxl
      clear hok hpb hxl
      go_enter Tryd.func17, Tryd.ntmps17
      go_wp2_with fail
      refine (specStackOk_any _ H L _ (hK.up hb)).mono ?_
      rw [HO.out]
      rintro e w2 ⟨rfl, hb2⟩
      obtain ⟨hc2, hf2⟩ := bcell hb2
      have hz2 : w.heap.size + 1 < w2.heap.size := by have := hb2.size; simp at this; omega
      have hb3 := hb.trans (hb2.mono hb.size)
      go_wp2_with fail
      refine (l07Hash_any _ x _ (HX.out.up hb3)).mono ?_
      rw [hlh2]
      rintro e w' ⟨rfl, rfl⟩
      go_wp2
      refine bodyPost_ret (v := .tuple #[.agg #[.slice none 0 0, .slice none 0 0], .bool false]) (by simp [results, Tryd.results17, go_sem, hc2]) rfl (FreshKB.nil_ ?_)
      exact (hb3.setCell (by simp) _).setCell (by simp) _
    case pos =>
      have HO := Lib.hid hok
      have hlh2 := hash_yes hxl
      have HXL := Lib.hid hxl
      obtain ⟨M, hM⟩ : ∃ M, pushM H L x = M := ⟨_, rfl⟩
      have HMB : Hid (M.1 ≤ H.length ∧ M.2.1 ≤ H.length ∧ M.2.2.length = 32) := Lib.hid (by
        have := mrg_bound H L H.length 0 x hxl
        rw [show mrg H L H.length 0 x = M from hM] at this
        exact ⟨this.1, by have := this.2.1; simpa using this, this.2.2⟩)
      have HPH : Hid (pushH H L x = H.take M.1 ++ [(M.2.1 : Int)]) := Lib.hid (by unfold pushH; rw [hM])
      have HPS : Hid (pushS H L x = L.take M.1 ++ [M.2.2]) := Lib.hid (by unfold pushS; rw [hM])
      have HM := Lib.hid hM
      have HPL := Lib.hid (pushB_last hok hxl)
      have HLN := Lib.hid (okS_iff hok).1
      have hmany := ok_len (okS_iff hok).2
      have HSUM := Lib.hid (okS_sum hok)
      have HH := Lib.hid (fun k (hk : k < L.length) => ok_hash hok hk)
      have hx32 : x.length ≤ 4294967296 := by omega
      clear hM hok hxl
      go_enter Tryd.func17, Tryd.ntmps17
      go_wp2_with fail
      refine (specStackOk_any _ H L _ (hK.up hb)).mono ?_
      rw [HO.out]
      rintro e w2 ⟨rfl, hb2⟩
      obtain ⟨hc2, hf2⟩ := bcell hb2
      have hz2 : w.heap.size + 1 < w2.heap.size := by have := hb2.size; simp at this; omega
      have hb3 := hb.trans (hb2.mono hb.size)
      go_wp2_with fail
      refine (l07Hash_any _ x _ (HX.out.up hb3)).mono ?_
      rw [hlh2]
      rintro e w' ⟨rfl, rfl⟩
      go_wp2_with fail
      refine (l01Copy_any _ x _ (HX.out.up hb3) hx32).mono ?_
      rintro e w3 ⟨r3, rfl, hr3, hb4⟩
      have hr3' := hr3.mono hb3.size
      have hb5 := hb3.trans (hb4.mono hb3.size)
      -- what the walk reads: the argument's box and the result's cell, in w2
      have HC2 : Hid ((w2.cell? ⟨w.heap.size, 0, none⟩ = some (.slice A H.length c) ∧ w2.cell? ⟨w.heap.size, 1, none⟩ = some (.slice A' L.length c')) ∧ VarK w2 (w.heap.size + 1) (.slice none 0 0) (.slice none 0 0)) := Lib.hid (by
        refine ⟨⟨?_, ?_⟩, ?_⟩
        · rw [hc2 _ _ (by simp; omega)]; simp
        · rw [hc2 _ _ (by simp; omega)]; simp
        · unfold VarK
          rw [hb2.block _ (by simp)]
          have := heap_alloc_new (w.alloc (.cells #[.slice A H.length c, .slice A' L.length c'] 27)) (.cells #[.slice none 0 0, .slice none 0 0] 27)
          simpa using this)
      have hd3 := keep2 HC2.out.1 (by omega) hb4
      obtain ⟨hd0, hd1⟩ := hd3
      obtain ⟨A3, c3, rfl, n1, n2, n0, n3⟩ := hr3.sl
      clear n1 n2 n0 n3 hc2 hf2
      have HR3 := Lib.hid hr3'
      clear hr3 hr3'
      go_wp2
      go_loopw [6, 7, 8] (fun l h r wr => MrgS w w2 wr H L M l h r)
        (fun l _ _ _ => (intOf l).toNat)
      case atStart => exact ⟨H.length, 0, x, rfl, rfl, by omega, HXL.out, HR3.out, hb4, hb5, HM.out⟩
      case round =>
        clear hd0 hd1
        obtain ⟨n, up, y, rfl, rfl, hnu, hyl, hy, hbx, hbw, hmrg⟩ := hrel
        have HY := Lib.hid hy
        obtain ⟨A5, c5, rfl, n1, n2, n0, n3⟩ := hy.sl
        have hbox := keep2 HC2.out.1 (by omega) hbx
        obtain ⟨hd0, hd1⟩ := hbox
        have hsz : w.heap.size < wr.heap.size := by have := hbx.size; omega
        have HB := Lib.hid hbw
        have HBX := Lib.hid hbx
        have HR := Lib.hid hmrg
        have HYL := Lib.hid hyl
        clear n1 n2 n0 n3 hmrg hyl hy
        by_cases hgo : ∃ m, n = m + 1 ∧ it H m = (up : Int)
        case pos =>
          obtain ⟨n, rfl, he⟩ := hgo
          have hnH : n < H.length := by omega
          have hnL : n < L.length := by have := HLN.out; omega
          obtain ⟨b, off, rfl, hbb, hcell⟩ := p3 (by omega)
          obtain ⟨b', off', rfl, hbb', hcell'⟩ := q3 (by omega)
          have hd2 := (hbw.cell (p := ⟨b, off + n, none⟩) hbb).trans (hcell n hnH)
          obtain ⟨z, hz0, hz⟩ := hcell' n hnL
          have hd3 := (hbw.cell (p := ⟨b', off' + n, none⟩) hbb').trans hz0
          have hzs := hz.up hbw
          have hzl := HH.out n hnL
          have hM1 := HR.out
          rw [mrg_go he] at hM1
          have HM1 := Lib.hid hM1
          rw [he] at hd2
          have HZL := Lib.hid hzl
          generalize L.getD n [] = zl at hzs HM1 HZL
          clear hcell hcell' hz0 hz hM1 he hzl hbx hbw
          go_wp2_with fail
          refine (specNodeHash_any z _ zl y _ hzs HY.out.sl (by rw [HZL.out]; omega) (by rw [HYL.out]; omega)).mono ?_
          rintro e w4 ⟨u4, rfl, ho4, hb6⟩
          have HO4 := Lib.hid (ho4.mono HB.out.size)
          have HBX4 := Lib.hid (HBX.out.trans (hb6.mono HBX.out.size))
          have HBW4 := Lib.hid (HB.out.trans (hb6.mono HB.out.size))
          clear ho4 hb6
          go_wp2
          go_roundw
          case rel => exact ⟨n, up + 1, nodeL zl y, by go_num, by go_num, by omega, nodeL_length _ _, HO4.out, HBX4.out, HBW4.out, HM1.out⟩
          case measure => simp [intOf]
        case neg =>
          have hMM : M = (n, up, y) := by
            have hM1 := HR.out
            rcases n with _ | n
            · rw [mrg_zero] at hM1
              exact hM1.symm
            · rw [mrg_stop (fun e => hgo ⟨n, rfl, e⟩)] at hM1
              exact hM1.symm
          subst hMM
          obtain ⟨i0, hi, hz0, hz1, hz2⟩ := info_parts i64info
          obtain ⟨i1, hi', hz0', hz1', hz2'⟩ := info_parts sbinfo
          have hvr : VarK wr (w.heap.size + 1) (.slice none 0 0) (.slice none 0 0) := HC2.out.2.up HBX.out
          have HVR := Lib.hid hvr
          have HCB : Hid (wr.cell? ⟨w.heap.size, 0, none⟩ = some (.slice A H.length c) ∧ wr.cell? ⟨w.heap.size, 1, none⟩ = some (.slice A' L.length c')) := Lib.hid ⟨hd0, hd1⟩
          have hg4 := hsz
          have hz4 : w.heap.size + 1 < wr.heap.size := hvr.lt
          have hKr := hK.up HB.out
          obtain ⟨_, _, e, hSI, hSS⟩ := hKr
          obtain ⟨rfl, rfl⟩ : _ = Value.slice A H.length c ∧ _ = Value.slice A' L.length c' := by simpa using e.symm
          have h5b : n ≤ H.length := HMB.out.1
          have h5c : n ≤ L.length := by have := HLN.out; omega
          have hl1 : (H.take n).length = n := by rw [List.length_take]; omega
          have hl2 : (L.take n).length = n := by rw [List.length_take]; omega
          have HTI := Lib.hid (hSI.take n h5b).rdC
          have HTS := Lib.hid (hSS.take n h5c)
          have HL1 := Lib.hid hl1
          have HL2 := Lib.hid hl2
          have HL8 : Hid ((L.take n).length ≤ 1048576 ∧ sumL (L.take n) ≤ 1048576) := Lib.hid (by
            have h1 := sumL_le L n
            have h2 := HSUM.out
            have h3 := HLN.out
            rw [hl2]
            omega)
          have HN21 : Hid (n ≤ 21) := Lib.hid (by omega)
          have h5a : (0 : Int) ≤ (n : Int) := by omega
          have h5d : n ≤ c := by omega
          have h5e : n ≤ c' := by omega
          have h5f : (n : Int) ≤ (c : Int) := by omega
          have h5g : (n : Int) ≤ (c' : Int) := by omega
          have HREST : Hid (∀ (a : Act) (Kq : Act → World → Prop), True) := Lib.hid (fun _ _ => trivial)
          clear hSI hSS e hvr HREST hbx hbw hl1 hl2
          by_cases h0 : 0 < n
          case' pos =>
            obtain ⟨b, off, rfl, hbb, hcell⟩ := p3 (by omega)
            have hd2 := (HB.out.cell (p := ⟨b, off + (n - 1), none⟩) hbb).trans (hcell (n - 1) (by omega))
            have hbe : (it H (n - 1) == (up : Int)) = false := by
              rw [beq_eq_false_iff_ne]
              exact fun e => hgo ⟨n - 1, by omega, e⟩
            have hsub : (n : Int) - 1 = ((n - 1 : Nat) : Int) := by omega
            have hpi : 0 < (n : Int) := by omega
            have hlt : n - 1 < H.length := by omega
            generalize n - 1 = m at hd2 hbe hsub hlt
            clear hcell hgo h0
            go_wp2
            clear hd2 hb p3 hbb hbe hsub hlt hpi
            generalize (some ⟨b, off, none⟩ : Option Addr) = A at hK HC2 HCB hd0 HTI ⊢
          case' neg =>
            have hpi : ¬ (0 < (n : Int)) := by omega
            clear hgo h0
            go_wp2
            clear hb p3 hpi
          all_goals
            refine wp_region_head 13 (PushSpS wr w.heap.size A c A' c' H L n) (by kernel_rfl) (by kernel_rfl) ?hup ?hstep ?hend
            case hup =>
              intro i w5 w6 vs vs' hi h hb6 hv
              refine PushSpS.up i h hb6 (hv i (.inl rfl)) (fun hi => ?_)
              subst hi
              exact ⟨hv 5 (.inr (by kernel_rfl)), hv 10 (.inr (by kernel_rfl))⟩
            case hstep =>
              intro i o hi0 ho vs w5 hb6 hp
              obtain ⟨hcb2, hcb3⟩ := keep2 HCB.out hg4 hb6
              simp only [putAll, dstOf, Option.bind_some, Act.put, List.getElem?_toArray, List.getElem?_cons_zero, List.getElem?_cons_succ, List.setIfInBounds_toArray, List.set_cons_zero, List.set_cons_succ]
              rcases i with _ | _ | _ | _ | _ | _ | _ | _ | _ | _ | _ | _ | _ | i
              all_goals (first | (exfalso; omega; done) | skip)
              all_goals simp only [List.getElem?_toArray, List.getElem?_cons_zero, List.getElem?_cons_succ, Option.some.injEq] at ho
              all_goals subst ho
              all_goals unfold Oper.wp
              · go_simp
                refine ⟨(Below.refl _ _).alloc (Nat.le_refl _) _, w5.heap.size, ?_, hb6.size, heap_alloc_new w5 _⟩
                simp [upd, valOf]
              · go_simp
                exact ⟨Below.refl _ _, by simp [PushSpS, upd, valOf]⟩
              · have h1 : vs 1 = _ := hp 1 (by kernel_rfl)
                go_simp
                exact ⟨Below.refl _ _, by simp [PushSpS, upd, valOf]⟩
              · go_simp
                exact ⟨Below.refl _ _, by simp [PushSpS, upd, valOf]⟩
              · have h2 : vs 2 = _ := hp 2 (by kernel_rfl)
                have h3 : vs 3 = _ := hp 3 (by kernel_rfl)
                go_simp
                exact ⟨Below.refl _ _, by simp [PushSpS, upd, valOf]⟩
              · have h0 : ∃ k, vs 0 = .slice (some ⟨k, 0, none⟩) 0 0 ∧ wr.heap.size ≤ k ∧ w5.heap[k]? = some (.cells #[] 3) := hp 0 (by kernel_rfl)
                have h4 : vs 4 = _ := hp 4 (by kernel_rfl)
                obtain ⟨k, e0, hk0, hk1⟩ := h0
                obtain ⟨v', w', hr, hbe, hG⟩ := run_append_lit w5 25 25 3 i0 (.int .i64 0) 8 Tryd.underlying25 hi hz0 hz1 hz2 rfl (by omega) k wr.heap.size hk1 hk0 _ _ (HTI.out.up hb6) (by rw [is_length, HL1.out]; have := HN21.out; omega) hb6.size
                exact Lib.wp_append_run w5 (.tmp 48) (.tmp 52) 25 25 rfl _ _ e0 h4 v' w' hr ⟨rfl, hbe, by simpa [PushSpS, upd, valOf, Act.put] using hG⟩
              · go_simp
                exact ⟨Below.refl _ _, by simp [PushSpS, upd, valOf]⟩
              · have h6 : vs 6 = _ := hp 6 (by kernel_rfl)
                go_simp
                exact ⟨Below.refl _ _, by simp [PushSpS, upd, valOf]⟩
              · go_simp
                exact ⟨Below.refl _ _, by simp [PushSpS, upd, valOf]⟩
              · have h7 : vs 7 = _ := hp 7 (by kernel_rfl)
                have h8 : vs 8 = _ := hp 8 (by kernel_rfl)
                go_simp
                exact ⟨Below.refl _ _, by simp [PushSpS, upd, valOf]⟩
              · have h9 : vs 9 = _ := hp 9 (by kernel_rfl)
                go_simp
                refine (l06Copy_any _ (L.take n) w5 (HTS.out.up hb6) HL8.out.1 HL8.out.2).mono ?_
                rintro e w6 ⟨u, us, rfl, hvl, hK6⟩
                refine ⟨hK6.bel, us, hvl, ?_⟩
                have := hK6.rws.mono hb6.size
                simpa [upd, valOf] using this
              · have h5 : GOwn w5 wr.heap.size (3, vs 5, is (H.take n)) := hp 5 (by kernel_rfl)
                have h10 : ∃ us, us.length = (L.take n).length ∧ Rws wr.heap.size w5 ((22, vs 10, us) :: rowsS 5 us (L.take n)) := hp 10 (by kernel_rfl)
                obtain ⟨us, hul, hR⟩ := h10
                have hall : Rws wr.heap.size w5 ((3, vs 5, is (H.take n)) :: (22, vs 10, us) :: rowsS 5 us (L.take n)) := by
                  refine ⟨fun p hp => ?_, List.pairwise_cons.2 ⟨fun q hq => h5.apart (hR.1 q hq) ?_, hR.2⟩⟩
                  · rcases List.mem_cons.1 hp with rfl | hp
                    · exact h5
                    · exact hR.1 p hp
                  · rcases List.mem_cons.1 hq with rfl | hq
                    · exact (by decide : 3 ≠ 22)
                    · rw [rowsS_type hq]; exact (by decide : 3 ≠ 5)
                have HALL := Lib.hid hall
                obtain ⟨A7, c7, e7, _⟩ := h5.cells
                obtain ⟨A8, c8, e8, _⟩ := (hR.1 _ (.head _)).cells
                have HUL := Lib.hid hul
                rw [is_length, HL1.out] at e7
                rw [hul, HL2.out] at e8
                clear hR hall h5 hul
                go_simp
                refine ⟨Below.refl _ _, ?_, us, HUL.out, ?_⟩
                · simp [upd, valOf, e7, e8]
                · simpa [upd, e7, e8] using HALL.out
              · go_simp
                refine ⟨(Below.refl _ _).alloc (Nat.le_refl _) _, w5.heap.size, ?_, hb6.size, heap_alloc_new w5 _⟩
                simp [upd, valOf]
            case hend =>
              intro vs w5 hb6 hp
              have h11 : vs 11 = .agg #[vs 5, vs 10] ∧ ∃ us, us.length = (L.take n).length ∧ Rws wr.heap.size w5 ((3, vs 5, is (H.take n)) :: (22, vs 10, us) :: rowsS 5 us (L.take n)) := hp 11 (by omega)
              have h12 : ∃ k, vs 12 = .pointer (some ⟨k, 0, none⟩) ∧ wr.heap.size ≤ k ∧ w5.heap[k]? = some (.cells #[.slice none 0 0, .slice none 0 0] 27) := hp 12 (by omega)
              obtain ⟨e11, us, hul, hR⟩ := h11
              obtain ⟨k, e12, hk4, hk⟩ := h12
              obtain ⟨A7, c7, e7, _, _, _, _⟩ := (hR.1 _ (.head _)).cells
              obtain ⟨A8, c8, e8, _, _, _, _⟩ := (hR.1 _ (.tail _ (.head _))).cells
              have e7 : vs 5 = .slice A7 n c7 := by rw [is_length, HL1.out] at e7; exact e7
              have e8 : vs 10 = .slice A8 n c8 := by rw [hul, HL2.out] at e8; exact e8
              rw [e7, e8] at hR e11
              have hV5 : VarK w5 k (.slice none 0 0) (.slice none 0 0) := hk
              have hoff := hR.not_at hk (push_types (by decide) (by decide) (by decide))
              have hR6 := (hR.cellOff hoff 0 (.slice A7 n c7)).cellOff hoff 1 (.slice A8 n c8)
              have hV6 := (hV5.set0 (.slice A7 n c7)).set1 (.slice A8 n c8)
              have hB6 : Below wr.heap.size wr ((w5.setCell ⟨k, 0, none⟩ (.slice A7 n c7)).setCell ⟨k, 1, none⟩ (.slice A8 n c8)) := (hb6.setCell (p := ⟨k, 0, none⟩) hk4 _).setCell (p := ⟨k, 1, none⟩) hk4 _
              have hkc0 := hV5.c0
              have hkc1 := hV5.c1
              have hkf0 := hV5.f0
              have hkf1 := hV5.f1
              clear hp hR hk hoff
              simp only [putAll, dstOf, Option.bind_some, Act.put, List.getElem?_toArray, List.getElem?_cons_zero, List.getElem?_cons_succ, List.setIfInBounds_toArray, List.set_cons_zero, List.set_cons_succ]
              refine wpAny_one (i := 13) (by kernel_rfl) rfl rfl ?_
              unfold Oper.wp
              go_simp
              refine wpAny_done (by kernel_rfl) ?_ _
              generalize (w5.setCell ⟨k, 0, none⟩ (.slice A7 n c7)).setCell ⟨k, 1, none⟩ (.slice A8 n c8) = W6 at hR6 hV6 hB6 ⊢
              clear hkc0 hkc1 hkf0 hkf1 hV5 hb6
              have hle6 := hB6.size
              have hd6 := hV6.c0
              have hoff6 := hR6.not_at (show W6.heap[k]? = _ from hV6) (push_types (by decide) (by decide) (by decide))
              have HOFF0 := Lib.hid (hoff6 _ (.head _))
              have HOFF1 := Lib.hid (hoff6 _ (.tail _ (.head _)))
              have HUL := Lib.hid hul
              have hn6 : (is (H.take n)).length ≤ 1073741823 := by rw [is_length, HL1.out]; have := HN21.out; omega
              have hn7 : us.length ≤ 1073741823 := by rw [hul, HL2.out]; have := HN21.out; omega
              have HV6 := Lib.hid hV6
              have HB6 := Lib.hid hB6
              have HR6 := Lib.hid hR6
              clear hoff6 hul hV6 hB6 hR6
              have HLS : Hid (us.length + 1 = (pushS H L x).length) := Lib.hid (by rw [HPS.out, List.length_append, HUL.out]; rfl)
              go_upto_region 12 with (first
                | (at_builtin; refine wpList_appR1 (w := W6) rfl _ _ 25 rfl 3 i0 Tryd.underlying25 hi (.int .i64 0) 8 hz0 hz1 hz2 rfl (by omega) wr.heap.size _ (is (H.take n)) (by rfl) (.int .i64 (up : Int)) rfl rfl hle6 HR6.out hn6 ?_; intro v7 w7 hR7 hg7;
                   obtain ⟨A9, c9, rfl, hR7⟩ := push_openI HPH.out hR7;
                   have hV7 := HV6.out.kept hg7 (row_ne HOFF0.out);
                   have hB7 := HB6.out.grown hg7 hle6 (fun j e => ((HR6.out.1 _ (.head _)).lt j e).1);
                   have hoff7 := hR7.not_at (show w7.heap[k]? = _ from hV7) (push_types (by decide) (by decide) (by decide));
                   have HOFF7 := Lib.hid (hoff7 _ (.tail _ (.head _)));
                   have HR8 := Lib.hid ((hR7.cellOff hoff7 0 (.slice A9 (pushH H L x).length c9)).perm (List.Perm.swap _ _ _));
                   have HV8 := Lib.hid (hV7.set0 (.slice A9 (pushH H L x).length c9));
                   have HB8 := Lib.hid (hB7.setCell (p := ⟨k, 0, none⟩) hk4 (.slice A9 (pushH H L x).length c9));
                   have HS8 : Hid ((w7.setCell ⟨k, 0, none⟩ (.slice A9 (pushH H L x).length c9)).heap.size = w7.heap.size) := Lib.hid (by simp);
                   have hle8 : wr.heap.size ≤ (w7.setCell ⟨k, 0, none⟩ (.slice A9 (pushH H L x).length c9)).heap.size := HB8.out.size;
                   have hkc0 := hV7.c0;
                   have hkc1 := hV7.c1;
                   have hkf0 := hV7.f0;
                   have hkf1 := hV7.f1;
                   clear hd6 hR7 hg7 hoff7 hB7 hV7))
              have hkd1 := HV8.out.c1
              generalize w7.setCell ⟨k, 0, none⟩ (.slice A9 (pushH H L x).length c9) = W8 at HR8 HV8 HB8 HS8 hle8 hkd1 ⊢
              clear hkc0 hkc1 hkf0 hkf1 HS8
              go_wp2_with (first
                | (at_builtin; refine wpList_appR1 rfl _ _ 23 rfl 22 i1 Tryd.underlying23 hi' (.slice none 0 0) 24 hz0' hz1' hz2' rfl (by omega) wr.heap.size _ us (by rfl) (.slice A5 y.length c5) rfl rfl hle8 HR8.out hn7 ?_; intro v10 w10 hR10 hg10;
                   obtain ⟨A11, c11, rfl, hR10⟩ := push_openS HLS.out hR10;
                   have hV10 := HV8.out.kept hg10 (row_ne HOFF7.out);
                   have hB10 := HB8.out.grown hg10 hle8 (fun j e => ((HR8.out.1 _ (.head _)).lt j e).1);
                   have hoff10 := hR10.not_at (show w10.heap[k]? = _ from hV10) (push_types (by decide) (by decide) (by decide));
                   have HR11 := Lib.hid ((hR10.cellOff hoff10 1 (.slice A11 (pushS H L x).length c11)).perm (List.Perm.swap _ _ _));
                   have HV11 := Lib.hid (hV10.set1 (.slice A11 (pushS H L x).length c11));
                   have HB11 := Lib.hid (hB10.setCell (p := ⟨k, 1, none⟩) hk4 (.slice A11 (pushS H L x).length c11));
                   have hkc0 := hV10.c0;
                   have hkc1 := hV10.c1;
                   have hkf0 := hV10.f0;
                   have hkf1 := hV10.f1;
                   clear hR10 hg10 hoff10 hB10 hV10))
              -- all the rows, with the root's own
              have hO := HY.out.up HB11.out
              have hOlt := HY.out.lt
              have hall : Rws w.heap.size (w10.setCell ⟨k, 1, none⟩ (.slice A11 (pushS H L x).length c11)) ((3, .slice A9 (pushH H L x).length c9, is (pushH H L x)) :: (22, .slice A11 (pushS H L x).length c11, us ++ [.slice A5 y.length c5]) :: rowsS 5 (us ++ [.slice A5 y.length c5]) (pushS H L x)) := by
                have h1 : Rws w.heap.size (w10.setCell ⟨k, 1, none⟩ (.slice A11 (pushS H L x).length c11)) ((5, .slice A5 y.length c5, Go.Proofs.YtdoaikanaodefaaDoor.us y) :: (3, .slice A9 (pushH H L x).length c9, is (pushH H L x)) :: (22, .slice A11 (pushS H L x).length c11, us ++ [.slice A5 y.length c5]) :: rowsS 5 us (L.take n)) := by
                  refine ⟨fun p hp => ?_, List.pairwise_cons.2 ⟨fun q hq => ?_, HR11.out.2⟩⟩
                  · rcases List.mem_cons.1 hp with rfl | hp
                    · exact GOwn.b.2 hO
                    · exact (HR11.out.1 p hp).mono HB.out.size
                  · rcases hv : (Value.slice A5 y.length c5).ownBlock with _ | g
                    · exact .inl rfl
                    · refine .inr fun e => ?_
                      have h2 := (hOlt g hv).2
                      have h3 := ((HR11.out.1 q hq).lt g e.symm).1
                      omega
                rw [show rowsS 5 (us ++ [.slice A5 y.length c5]) (pushS H L x) = rowsS 5 us (L.take n) ++ [(5, .slice A5 y.length c5, Go.Proofs.YtdoaikanaodefaaDoor.us y)] from by rw [HPS.out, rowsS_snoc _ _ _ _ _ HUL.out]]
                exact h1.perm (List.perm_append_singleton _ _).symm
              have hVk := HV11.out
              have hVr := HVR.out.up HB11.out
              have hB11 := HB.out.trans (HB11.out.mono HB.out.size)
              have hvl : (us ++ [Value.slice A5 y.length c5]).length = (pushS H L x).length := by rw [List.length_append]; exact HLS.out
              have hinv := hall.inv hB11
              have HS : Hid (SlK (w10.setCell ⟨k, 1, none⟩ (.slice A11 (pushS H L x).length c11)) (w10.setCell ⟨k, 1, none⟩ (.slice A11 (pushS H L x).length c11)).heap.size (.agg #[.slice A9 (pushH H L x).length c9, .slice A11 (pushS H L x).length c11]) (pushH H L x) (pushS H L x)) :=
                Lib.hid ⟨_, _, rfl, hinv.slI 3 (.head _), hinv.slS 5 22 hvl (.tail _ (.head _)) (fun _ hp => .tail _ (.tail _ hp))⟩
              have HOFF := Lib.hid (hall.not_at (k := w.heap.size + 1) (cs := #[.slice none 0 0, .slice none 0 0]) (T := 27) hVr (push_types (by decide) (by decide) (by decide)))
              have HALL := Lib.hid hall
              have HVL := Lib.hid hvl
              have HB12 := Lib.hid hB11
              have HVK := Lib.hid hVk
              have HVR2 := Lib.hid hVr
              have hkd0 := hVk.c0
              have hkd1' := hVk.c1
              clear hO hOlt hall hinv hvl hB11 hVk hVr hkc0 hkc1 hkf0 hkf1 hkd1
              generalize w10.setCell ⟨k, 1, none⟩ (.slice A11 (pushS H L x).length c11) = W11 at HS HOFF HALL HB12 HVK HVR2 HR11 HV11 HB11 hkd0 hkd1' ⊢
              go_wp2_with fail
              refine (specStackOk_any _ (pushH H L x) (pushS H L x) _ HS.out).mono ?_
              rw [← HPL.out]
              rintro e w12 ⟨rfl, hb12⟩
              have hVk := HVK.out.up hb12
              have hVr := HVR2.out.up hb12
              have hB13 := HB12.out.trans (hb12.mono HB12.out.size)
              have hc0 := hVk.c0
              have hc1 := hVk.c1
              have hrc0 := hVr.c0
              have hrc1 := hVr.c1
              have hrf0 := hVr.f0
              have hrf1 := hVr.f1
              cases hpb : pushB H L x with
              | false =>
                have HPB := Lib.hid hpb
                clear hpb
                go_wp2
                refine bodyPost_ret (v := .tuple #[.agg #[.slice none 0 0, .slice none 0 0], .bool false]) (by simp [results, Tryd.results17, go_sem, hrc0, hrc1]) rfl ?_
                rw [psH_no HPB.out, psS_no HPB.out, HPB.out]
                exact FreshKB.nil_ ((hB13.setCell (by simp) _).setCell (by simp) _)
              | true =>
                have HPB := Lib.hid hpb
                clear hpb
                have hR7 := ((HALL.out.up hb12).cellOff HOFF.out 0 (.slice A9 (pushH H L x).length c9)).cellOff HOFF.out 1 (.slice A11 (pushS H L x).length c11)
                have HR7 := Lib.hid hR7
                have HB7 := Lib.hid ((hB13.setCell (p := ⟨w.heap.size + 1, 0, none⟩) (by simp) (.slice A9 (pushH H L x).length c9)).setCell (p := ⟨w.heap.size + 1, 1, none⟩) (by simp) (.slice A11 (pushS H L x).length c11))
                clear hR7
                go_wp2
                refine bodyPost_ret (v := .tuple #[.agg #[.slice A9 (pushH H L x).length c9, .slice A11 (pushS H L x).length c11], .bool true]) (by simp [results, Tryd.results17, go_sem, hrc0, hrc1]) rfl ?_
                rw [psH_yes HPB.out, psS_yes HPB.out, HPB.out]
                refine ⟨_, _, _, rfl, HVL.out, ?_⟩
                have := HR7.out.inv HB7.out
                simpa [InvF, segI, segS] using this
end Go.Proofs.YtdoaikanaodefaaDoor
