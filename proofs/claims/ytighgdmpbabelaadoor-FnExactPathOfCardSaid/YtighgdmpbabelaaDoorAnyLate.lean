/- Regions that draw their order, some of whose operations (an extract, a move) may come up behind a store: such an operation, which yields the same in every world, is taken as soon as it may come up. No program is named here. -/
import Derived.Test.YtighgdmpbabelaaDoorAnyOrder
import Derived.Deep.RegionHeld3
namespace Go.Proofs.YtighgdmpbabelaaDoor
open Go.RowKit

/-- Operation i may be taken first: every other one waits for it or is apart from it. -/
def lateAt (md : Region.Mode) (ops : Array Oper) (i : Nat) : Bool :=
  match ops[i]? with
  | none => false
  | some oi => (List.range ops.size).all fun j => j == i || match ops[j]? with
    | none => true
    | some oj => preq md ops ops.size i j || (waitsOn md oj i || oi.apart ops oj)
/-- Operation j of the tail waits for all of the head, or comes behind whatever an early one of the head waits for. -/
def tailLate (md : Region.Mode) (ops : Array Oper) (m : Nat) (E : Nat → Bool) (j : Nat) : Bool :=
  (List.range m).all fun i => preq md ops ops.size j i || (E i && match ops[i]? with
    | none => false
    | some oi => oi.after.all fun e => !Region.binds md e || preq md ops ops.size j e.on)
def headLate (md : Region.Mode) (ops : Array Oper) (m N : Nat) (E : Nat → Bool) : Bool :=
  decide (m ≤ ops.size) && ((List.range m).all fun i => headAt md ops m N i && (!E i || lateAt md ops i)) && ((List.range ops.size).all fun j => decide (j < m) || tailLate md ops m E j) && Region.noSelect ops

section
variable {P : Program} {ops : Array Oper} {Q : Exit → Act → World → Prop} {md : Region.Mode}
theorem headLate_spec {m N : Nat} {E : Nat → Bool} (h : headLate md ops m N E = true) :
    m ≤ ops.size ∧ (∀ i, i < m → headAt md ops m N i = true) ∧ (∀ i, i < m → E i = true → lateAt md ops i = true) ∧ (∀ j, j < ops.size → m ≤ j → tailLate md ops m E j = true) ∧ Region.noSelect ops = true := by
  unfold headLate at h
  simp only [Bool.and_eq_true, decide_eq_true_eq, List.all_eq_true, List.mem_range, Bool.or_eq_true, Bool.not_eq_true'] at h
  exact ⟨h.1.1.1, fun i hi => (h.1.1.2 i hi).1, fun i hi hE => (h.1.1.2 i hi).2.resolve_left (by simp [hE]), fun j h1 h2 => (h.1.2 j h1).resolve_left (by omega), h.2⟩

section
variable {m : Nat} {a0 : Act} {w0 : World} {Sp : Nat → World → (Nat → Value) → Prop}
theorem listed_lt {listed : Array Bool} (hsz : listed.size = ops.size) (htl : ∀ j, m ≤ j → j < ops.size → listed.getD j true = false) : ∀ j, listed.getD j false = true → j < m := by
  intro j h2
  rcases Nat.lt_or_ge j m with h | h
  · exact h
  · have hjs : j < ops.size := by
      rcases Nat.lt_or_ge j ops.size with h' | h'
      · exact h'
      · rw [Array.getD_eq_getD_getElem?, Array.getElem?_eq_none (by omega)] at h2
        cases h2
    have h3 := htl j h hjs
    rw [Array.getD_eq_getD_getElem?] at h2 h3
    rw [Array.getElem?_eq_getElem (by omega)] at h2 h3
    rw [Option.getD_some] at h2 h3
    rw [h2] at h3
    cases h3
theorem preq_listed {listed : Array Bool} (hcl : ∀ j o, ops[j]? = some o → listed.getD j false = true → ∀ e ∈ o.after, Region.binds md e = true → listed.getD e.on false = true) :
    ∀ f i j, (∀ o, ops[i]? = some o → ∀ e ∈ o.after, Region.binds md e = true → listed.getD e.on false = true) → preq md ops f i j = true → listed.getD j false = true := by
  intro f
  induction f with
  | zero => intro i' j _ h; cases h
  | succ f ihf =>
    intro i' j hi' h
    unfold preq at h
    cases ho' : ops[i']? with
    | none => rw [ho'] at h; cases h
    | some o' =>
      rw [ho'] at h
      obtain ⟨e, he, hb⟩ := Array.any_eq_true'.1 h
      simp only [Bool.and_eq_true, Bool.or_eq_true, beq_iff_eq] at hb
      have h2 := hi' o' ho' e he hb.1
      rcases hb.2 with rfl | h3
      · exact h2
      · exact ihf e.on j (fun o'' ho'' => hcl e.on o'' ho'' h2) h3
/-- An operation of the head has come up. -/
theorem HeadInv.put {i : Nat} {o : Oper} {listed : Array Bool} {a : Act} {w w' : World} {v : Value} (hI : HeadInv md ops m a0 w0 Sp listed a w) (him : i < m) (hh : headAt md ops m a0.tmps.size i = true) (hi : i ∈ Region.ready md ops listed) (ho : ops[i]? = some o)
    (hup : ∀ i w w' vs vs', i < m → Sp i w vs → Below w.heap.size w w' → (∀ k, (k = i ∨ preq md ops ops.size i k = true) → vs k = vs' k) → Sp i w' vs')
    (hdf' : (a.put o.dst v).defers = a0.defers) (hb : Below w.heap.size w w') (hv : Sp i w' (upd (fun j => valOf a (dstOf ops j)) i v)) (hov : ∀ d, o.dst = some d → valOf (a.put o.dst v) o.dst = v) (hon : o.dst = none → v = undef) :
    HeadInv md ops m a0 w0 Sp (listed.setIfInBounds i true) (a.put o.dst v) w' := by
  obtain ⟨hsz, htl, hdf, hts, hfr, hbel, hsp, hcl⟩ := hI
  obtain ⟨hun, o2, ho2, haft⟩ := mem_ready.1 hi
  rw [ho] at ho2
  cases ho2
  have hilt : i < ops.size := (Array.getElem?_eq_some_iff.1 ho).1
  unfold headAt at hh
  rw [ho] at hh
  simp only [Bool.and_eq_true, Option.isNone_iff_eq_none] at hh
  have hlm := listed_lt hsz htl
  have hafti : ∀ o', ops[i]? = some o' → ∀ e ∈ o'.after, Region.binds md e = true → listed.getD e.on false = true := fun o' ho' => by
    rw [ho] at ho'
    cases ho'
    exact haft
  have hun2 : listed.getD i false = false := by
    rw [Array.getD_eq_getD_getElem?, Array.getElem?_eq_getElem (by omega)] at hun ⊢
    exact hun
  have hdi : dstOf ops i = o.dst := by unfold dstOf; rw [ho]; rfl
  have hsame : ∀ k, k < m → k ≠ i → valOf (a.put o.dst v) (dstOf ops k) = valOf a (dstOf ops k) := by
    intro j hj hij
    cases hdj : dstOf ops j with
    | none => rfl
    | some d =>
      have hne : o.dst ≠ some d := by
        intro hd
        have h2 := hh.2
        rw [hd] at h2
        simp only [Bool.and_eq_true, List.all_eq_true, List.mem_range] at h2
        have h3 := h2.2 j hj
        rw [hdj] at h3
        simp at h3
        omega
      simp only [valOf]
      rw [Array.getD_eq_getD_getElem?, Array.getD_eq_getD_getElem?, put_at_ne _ _ _ _ hne]
  have hpm : ∀ j k, (∀ o', ops[j]? = some o' → ∀ e ∈ o'.after, Region.binds md e = true → listed.getD e.on false = true) → preq md ops ops.size j k = true → k < m ∧ k ≠ i := fun j k hj hk => by
    have h2 := preq_listed hcl _ j k hj hk
    exact ⟨hlm k h2, fun e => by subst e; rw [hun2] at h2; cases h2⟩
  refine ⟨by rw [Array.size_setIfInBounds]; exact hsz, fun j hj hjs => ?_, hdf', by rw [put_tmps_size]; exact hts, fun k hk => ?_, hbel.trans (hb.mono hbel.size), fun j hj hlj => ?_, fun j o' ho' hlj e he hb' => ?_⟩
  · rw [getD_set_ne true (by omega)]
    exact htl j hj hjs
  · rw [put_at_ne _ _ _ _ (by have := hk i him; rw [hdi] at this; exact this)]
    exact hfr k hk
  · by_cases hij : i = j
    · subst hij
      refine hup _ _ _ _ _ him hv (Below.refl _ _) fun k hk => ?_
      rcases hk with rfl | hk
      · rw [upd_at, hdi]
        cases hd : o.dst with
        | none => exact hon hd
        | some d => have := hov d hd; rw [hd] at this; exact this.symm
      · obtain ⟨h1, h2⟩ := hpm i k hafti hk
        rw [upd_ne _ _ h2, hsame k h1 h2]
    · rw [getD_set_ne false hij] at hlj
      refine hup _ _ _ _ _ hj (hsp j hj hlj) hb fun k hk => ?_
      rcases hk with rfl | hk
      · rw [hsame _ hj (fun e => hij e.symm)]
      · obtain ⟨h1, h2⟩ := hpm j k (fun o' ho' => hcl j o' ho' hlj) hk
        rw [hsame k h1 h2]
  · by_cases hij : i = j
    · subst hij
      exact getD_set_true (hafti o' ho' e he hb')
    · rw [getD_set_ne false hij] at hlj
      exact getD_set_true (hcl j o' ho' hlj e he hb')
theorem count_put {listed : Array Bool} {i fuel : Nat} (hlt : i < listed.size) (hun : listed.getD i true = false) (hc : listed.toList.count false = fuel + 1) : (listed.setIfInBounds i true).toList.count false = fuel := by
  have hl1 : listed[i]'hlt = false := by
    rw [Array.getD_eq_getD_getElem?, Array.getElem?_eq_getElem hlt] at hun
    exact hun
  rw [Array.toList_setIfInBounds, List.count_set (by simpa using hlt)]
  simp [hl1, hc]
end

theorem wpAny_late (m : Nat) (E : Nat → Bool) (a0 : Act) (w0 : World) (Sp : Nat → World → (Nat → Value) → Prop) (hck : headLate md ops m a0.tmps.size E = true) (hQ : ∀ c a d v w, Q (.panic c) (Act.put a d v) w → Q (.panic c) a w)
    (hup : ∀ i w w' vs vs', i < m → Sp i w vs → Below w.heap.size w w' → (∀ k, (k = i ∨ preq md ops ops.size i k = true) → vs k = vs' k) → Sp i w' vs')
    (hearly : ∀ i o, i < m → E i = true → ops[i]? = some o → ∀ (vs : Nat → Value) (w : World), Below w0.heap.size w0 w → (∀ j, preq md ops ops.size i j = true → Sp j w vs) → ∃ v, (∀ w, (execOp (putAll ops vs m a0).eval o).run P w = .ok (.value v) w) ∧ (∃ d, o.dst = some d) ∧ Sp i w (upd vs i v))
    (hstep : ∀ i o, i < m → E i = false → ops[i]? = some o → ∀ (vs : Nat → Value) (w : World), Below w0.heap.size w0 w → (∀ j, preq md ops ops.size i j = true → Sp j w vs) →
      o.wp P (putAll ops vs m a0) w (fun b' w' => b'.defers = a0.defers ∧ Below w.heap.size w w' ∧ Sp i w' (upd vs i (valOf b' o.dst))) (fun _ _ _ => False))
    (hend : ∀ (vs : Nat → Value) (w : World), Below w0.heap.size w0 w → (∀ j, j < m → Sp j w vs) → wpAny P md ops Q (ops.size - m) (doneB m ops.size) (putAll ops vs m a0) w) :
    ∀ (fuel : Nat) (listed : Array Bool) (a : Act) (w : World), listed.toList.count false = fuel → HeadInv md ops m a0 w0 Sp listed a w → wpAny P md ops Q fuel listed a w := by
  obtain ⟨hm, hhead, hlate, htail, hsel⟩ := headLate_spec hck
  -- what an operation of the head that has not come up says
  have hready : ∀ (listed : Array Bool), listed.size = ops.size → ∀ i, i < m → listed.getD i true = false → ∃ k, k < m ∧ k ∈ Region.ready md ops listed := by
    intro listed hsz i
    induction i using Nat.strongRecOn with
    | ind i ih =>
      intro hi hl
      have hh := hhead i hi
      unfold headAt at hh
      cases ho : ops[i]? with
      | none => rw [ho] at hh; cases hh
      | some o =>
        rw [ho] at hh
        simp only [Bool.and_eq_true, Bool.or_eq_true, Bool.not_eq_true', decide_eq_true_eq, Array.all_eq_true_iff_forall_mem] at hh
        by_cases hall : ∀ e ∈ o.after, Region.binds md e = true → listed.getD e.on false = true
        · exact ⟨i, hi, mem_ready.2 ⟨hl, o, ho, hall⟩⟩
        · obtain ⟨e, he⟩ := Classical.not_forall.1 hall
          simp only [Classical.not_imp] at he
          obtain ⟨he, hb, hn⟩ := he
          have hlt : e.on < i := (hh.1.2 e he).resolve_left (by simp [hb])
          refine ih e.on hlt (by omega) ?_
          have : e.on < listed.size := by omega
          rw [Array.getD_eq_getD_getElem?, Array.getElem?_eq_getElem this] at hn ⊢
          simpa using hn
  -- all of the head have come up
  have hfin : ∀ (fuel : Nat) (listed : Array Bool) (a : Act) (w : World), listed.toList.count false = fuel → HeadInv md ops m a0 w0 Sp listed a w → (∀ i, i < m → listed.getD i true = true) → wpAny P md ops Q fuel listed a w := by
    intro fuel listed a w hc hI hdone
    obtain ⟨hsz, htl, hdf, hts, hfr, hbel, hsp, hcl⟩ := hI
    have hl : listed = doneB m ops.size := by
      apply Array.ext_getElem?
      intro k
      have hdsz : (doneB m ops.size).size = ops.size := by simp [doneB]; omega
      rcases Nat.lt_or_ge k ops.size with hk | hk
      · have h1 : listed.getD k true = listed[k]'(by omega) := by rw [Array.getD_eq_getD_getElem?, Array.getElem?_eq_getElem (by omega)]; rfl
        rw [Array.getElem?_eq_getElem (by omega)]
        unfold doneB
        rw [List.getElem?_toArray]
        rcases Nat.lt_or_ge k m with hkm | hkm
        · rw [List.getElem?_append_left (by simpa using hkm), List.getElem?_replicate, if_pos hkm, ← h1, hdone k hkm]
        · rw [List.getElem?_append_right (by simpa using hkm), List.getElem?_replicate, if_pos (by simp; omega), ← h1, htl k hkm hk]
      · rw [Array.getElem?_eq_none (by omega), Array.getElem?_eq_none (by omega)]
    subst hl
    have hf : fuel = ops.size - m := by
      rw [← hc]
      simp [doneB, List.count_append, List.count_replicate]
    subst hf
    rw [← putAll_self (ops := ops) a0 a m hts hdf hfr]
    refine hend _ w hbel fun j hj => hsp j hj ?_
    have := hdone j hj
    rw [Array.getD_eq_getD_getElem?] at this ⊢
    rw [Array.getElem?_eq_getElem (by omega)] at this ⊢
    exact this
  intro fuel
  induction fuel with
  | zero =>
    intro listed a w hc hI
    refine hfin 0 listed a w hc hI fun i hi => ?_
    have hlt : i < listed.size := by have := hI.1; omega
    rw [Array.getD_eq_getD_getElem?, Array.getElem?_eq_getElem hlt, Option.getD_some]
    cases hb : listed[i] with
    | true => rfl
    | false =>
      have := List.count_eq_zero.1 hc
      exact absurd (by rw [← hb]; exact Array.getElem_mem_toList hlt) this
  | succ fuel ih =>
    intro listed a w hc hI
    by_cases hdone : ∀ i, i < m → listed.getD i true = true
    · exact hfin _ listed a w hc hI hdone
    · have hI' := hI
      obtain ⟨hsz, htl, hdf, hts, hfr, hbel, hsp, hcl⟩ := hI
      have hlm := listed_lt hsz htl
      have hself := putAll_self (ops := ops) a0 a m hts hdf hfr
      have hpre : ∀ i o, ops[i]? = some o → (∀ e ∈ o.after, Region.binds md e = true → listed.getD e.on false = true) → ∀ j, preq md ops ops.size i j = true → Sp j w (fun j => valOf a (dstOf ops j)) := fun i o ho haft j hj => by
        have h2 := preq_listed hcl _ i j (fun o' ho' => by rw [ho] at ho'; cases ho'; exact haft) hj
        exact hsp j (hlm j h2) h2
      have hval : ∀ i o d v, i < m → ops[i]? = some o → o.dst = some d → valOf (a.put o.dst v) o.dst = v := fun i o d v him ho hd => by
        have hh := hhead i him
        unfold headAt at hh
        rw [ho] at hh
        simp only [Bool.and_eq_true, hd, decide_eq_true_eq] at hh
        rw [hd]
        simp only [valOf, Act.put]
        rw [Array.getD_eq_getD_getElem?, Array.getElem?_setIfInBounds_self_of_lt (by rw [hts]; exact hh.2.1)]
        rfl
      by_cases heag : ∃ i, i < m ∧ E i = true ∧ i ∈ Region.ready md ops listed
      · -- an early one may come up: it is taken
        obtain ⟨i, him, hE, hi⟩ := heag
        obtain ⟨hun, o, ho, haft⟩ := mem_ready.1 hi
        have hlt : i < listed.size := by rw [hsz]; exact (Array.getElem?_eq_some_iff.1 ho).1
        obtain ⟨v, hrun, ⟨d, hd⟩, hSp⟩ := hearly i o him hE ho (fun j => valOf a (dstOf ops j)) w hbel (hpre i o ho haft)
        rw [hself] at hrun
        have hg : o.guard = none := by
          have hh := hhead i him
          unfold headAt at hh
          rw [ho] at hh
          simp only [Bool.and_eq_true, Option.isNone_iff_eq_none] at hh
          exact hh.1.1
        refine wpAny_first ho (Region.noSelect_spec hsel) (fun c a w h => hQ c a _ _ w h) fuel listed a w (fun j oj hj hne hunj hno => ?_) hi (.inl ⟨by unfold Region.wanted; rw [hg], hrun⟩) (ih _ _ _ (count_put hlt hun hc) (hI'.put him (hhead i him) hi ho hup (by rw [hd]; exact hdf) (Below.refl _ _) hSp (fun d hd => hval i o d v him ho hd) (fun hn => by rw [hd] at hn; cases hn)))
        have hl := hlate i him hE
        unfold lateAt at hl
        rw [ho] at hl
        simp only [List.all_eq_true, List.mem_range] at hl
        have h1 := hl j (Array.getElem?_eq_some_iff.1 hj).1
        rw [hj] at h1
        simp only [Bool.or_eq_true, beq_iff_eq, hne, false_or] at h1
        rcases h1 with h1 | h1 | h1
        · have h2 := preq_listed hcl _ i j (fun o' ho' => by rw [ho] at ho'; cases ho'; exact haft) h1
          have hjs : j < listed.size := by rw [hsz]; exact (Array.getElem?_eq_some_iff.1 hj).1
          rw [Array.getD_eq_getD_getElem?, Array.getElem?_eq_getElem hjs] at h2 hunj
          rw [Option.getD_some] at h2 hunj
          rw [h2] at hunj
          cases hunj
        · unfold waitsOn at h1
          obtain ⟨e, he, hb⟩ := Array.any_eq_true'.1 h1
          simp only [Bool.and_eq_true, beq_iff_eq] at hb
          exact absurd hb.2 (hno e he hb.1)
        · exact h1
      · obtain ⟨i0, hi0⟩ := Classical.not_forall.1 hdone
        simp only [Classical.not_imp, Bool.not_eq_true] at hi0
        obtain ⟨k, hkm, hk⟩ := hready listed hsz i0 hi0.1 hi0.2
        have hne : Region.ready md ops listed ≠ [] := by
          intro h0
          rw [h0] at hk
          cases hk
        refine ⟨fun h0 => absurd h0 hne, fun i hi => ?_⟩
        obtain ⟨hun, o, ho, haft⟩ := mem_ready.1 hi
        have hilt : i < ops.size := (Array.getElem?_eq_some_iff.1 ho).1
        have hlt : i < listed.size := by omega
        have hafti : ∀ o', ops[i]? = some o' → ∀ e ∈ o'.after, Region.binds md e = true → listed.getD e.on false = true := fun o' ho' => by
          rw [ho] at ho'
          cases ho'
          exact haft
        have hno0 : listed.getD i0 false = false := by
          have h3 := hi0.2
          rw [Array.getD_eq_getD_getElem?, Array.getElem?_eq_getElem (by omega)] at h3 ⊢
          exact h3
        have him : i < m := by
          rcases Nat.lt_or_ge i m with h | h
          · exact h
          · have ht := htail i hilt h
            unfold tailLate at ht
            simp only [List.all_eq_true, List.mem_range, Bool.or_eq_true, Bool.and_eq_true] at ht
            rcases ht i0 hi0.1 with h1 | ⟨hE, h1⟩
            · have h2 := preq_listed hcl _ i i0 hafti h1
              rw [hno0] at h2
              cases h2
            · cases ho0 : ops[i0]? with
              | none => rw [ho0] at h1; cases h1
              | some oi =>
                rw [ho0] at h1
                simp only [Array.all_eq_true_iff_forall_mem, Bool.or_eq_true, Bool.not_eq_true'] at h1
                refine absurd ⟨i0, hi0.1, hE, mem_ready.2 ⟨hi0.2, oi, ho0, fun e he hb => ?_⟩⟩ heag
                exact preq_listed hcl _ i e.on hafti ((h1 e he).resolve_left (by simp [hb]))
        have hE : E i = false := by
          cases hEi : E i with
          | false => rfl
          | true => exact absurd ⟨i, him, hEi, hi⟩ heag
        have hst := hstep i o him hE ho (fun j => valOf a (dstOf ops j)) w hbel (hpre i o ho haft)
        rw [hself] at hst
        have hg : o.guard = none := by
          have hh := hhead i him
          unfold headAt at hh
          rw [ho] at hh
          simp only [Bool.and_eq_true, Option.isNone_iff_eq_none] at hh
          exact hh.1.1
        unfold wpOp
        rw [ho]
        have hw : Region.wanted o (yielded ops a.tmps) = true := by unfold Region.wanted; rw [hg]
        simp only [hw, if_true]
        refine .inl (wp_lift hst (fun a' w' h => h.1.trans hdf.symm) fun v w' h => ?_)
        have hvv : a.put o.dst v = a.put o.dst (valOf (a.put o.dst v) o.dst) := by
          cases hd : o.dst with
          | none => rfl
          | some d =>
            have := hval i o d v him ho hd
            rw [hd] at this
            rw [this]
        rw [hvv]
        refine ih _ _ _ (count_put hlt hun hc) (hI'.put him (hhead i him) hi ho hup (by rw [← hvv]; exact h.1) h.2.1 h.2.2 (fun d hd => ?_) (fun hn => by rw [hn]; rfl))
        rw [← hvv]

/-- **A region that draws its order, with early operations.** -/
theorem wp_region_late {id : Nat} {a0 : Act} {w0 : World} (m : Nat) (E : Nat → Bool) (Sp : Nat → World → (Nat → Value) → Prop) (hm : P.follows .mixedOrders = true) (hck : headLate .any ops m a0.tmps.size E = true)
    (hup : ∀ i w w' vs vs', i < m → Sp i w vs → Below w.heap.size w w' → (∀ k, (k = i ∨ preq .any ops ops.size i k = true) → vs k = vs' k) → Sp i w' vs')
    (hearly : ∀ i o, i < m → E i = true → ops[i]? = some o → ∀ (vs : Nat → Value) (w : World), Below w0.heap.size w0 w → (∀ j, preq .any ops ops.size i j = true → Sp j w vs) → ∃ v, (∀ w, (execOp (putAll ops vs m a0).eval o).run P w = .ok (.value v) w) ∧ (∃ d, o.dst = some d) ∧ Sp i w (upd vs i v))
    (hstep : ∀ i o, i < m → E i = false → ops[i]? = some o → ∀ (vs : Nat → Value) (w : World), Below w0.heap.size w0 w → (∀ j, preq .any ops ops.size i j = true → Sp j w vs) →
      o.wp P (putAll ops vs m a0) w (fun b' w' => b'.defers = a0.defers ∧ Below w.heap.size w w' ∧ Sp i w' (upd vs i (valOf b' o.dst))) (fun _ _ _ => False))
    (hend : ∀ (vs : Nat → Value) (w : World), Below w0.heap.size w0 w → (∀ j, j < m → Sp j w vs) → wpAny P .any ops (NoPanic Q) (ops.size - m) (doneB m ops.size) (putAll ops vs m a0) w) :
    (Code.region id ops true).wp P Q a0 w0 := by
  refine wp_region_noPanic (wp_region_any hm (wpAny_late m E a0 w0 Sp hck (fun _ _ _ _ _ h => h) hup hearly hstep hend ops.size _ a0 _ (by simp) ?_))
  have hl : ∀ j d, (Array.replicate ops.size false).getD j d = if j < ops.size then false else d := fun j d => by
    rw [Array.getD_eq_getD_getElem?, Array.getElem?_replicate]
    split <;> rfl
  refine ⟨by simp, fun j _ hj => by rw [hl, if_pos hj], rfl, rfl, fun _ _ => rfl, below_drewN (Below.refl _ _) 1, fun j hj hlj => ?_, fun j o _ hlj => ?_⟩
  all_goals
    rw [hl] at hlj
    split at hlj <;> cases hlj
end
end Go.Proofs.YtighgdmpbabelaaDoor
