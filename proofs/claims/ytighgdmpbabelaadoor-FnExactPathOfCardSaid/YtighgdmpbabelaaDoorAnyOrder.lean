/- Regions that draw their order, by a specification of each operation's value: one step for each operation, whatever the order. No program is named here. -/
import Derived.Test.YtighgdmpbabelaaDoorMem
import Derived.Orders
namespace Go.Proofs.YtighgdmpbabelaaDoor
open Go.RowKit

/-- What the operation's slot holds. -/
def valOf (a : Act) : Option Tmp → Value
  | some d => a.tmps.getD d undef
  | none => undef
/-- Where operation j writes. -/
def dstOf (ops : Array Oper) (j : Nat) : Option Tmp := (ops[j]?).bind (·.dst)
/-- The frame with the values vs in the slots of the first m operations. -/
def putAll (ops : Array Oper) (vs : Nat → Value) : Nat → Act → Act
  | 0, a => a
  | k + 1, a => (putAll ops vs k a).put (dstOf ops k) (vs k)
/-- Operation o waits for operation j. -/
def waitsOn (md : Region.Mode) (o : Oper) (j : Nat) : Bool := o.after.any fun e => Region.binds md e && e.on == j
/-- Operation i waits, by way of others too, for operation j. -/
def preq (md : Region.Mode) (ops : Array Oper) : Nat → Nat → Nat → Bool
  | 0, _, _ => false
  | f + 1, i, j => match ops[i]? with
    | none => false
    | some o => o.after.any fun e => Region.binds md e && (e.on == j || preq md ops f e.on j)
/-- The values, with v at i. -/
def upd (vs : Nat → Value) (i : Nat) (v : Value) : Nat → Value := fun k => if k = i then v else vs k
theorem upd_at (vs : Nat → Value) (i : Nat) (v : Value) : upd vs i v i = v := if_pos rfl
theorem upd_ne (vs : Nat → Value) {i k : Nat} (v : Value) (h : k ≠ i) : upd vs i v k = vs k := if_neg h
/-- Operation i of the head is as it must be: no guard, waits for earlier ones alone, writes where no other one of the head writes. -/
def headAt (md : Region.Mode) (ops : Array Oper) (m N i : Nat) : Bool :=
  match ops[i]? with
  | none => false
  | some o => o.guard.isNone && (o.after.all fun e => !Region.binds md e || decide (e.on < i)) &&
      match o.dst with
      | none => true
      | some d => decide (d < N) && (List.range m).all fun j => j == i || !(dstOf ops j == some d)
/-- Operation j of the tail waits for all of the head. -/
def tailAt (md : Region.Mode) (ops : Array Oper) (m j : Nat) : Bool :=
  match ops[j]? with
  | none => false
  | some o => (List.range m).all fun i => waitsOn md o i
def headOk (md : Region.Mode) (ops : Array Oper) (m N : Nat) : Bool :=
  decide (m ≤ ops.size) && ((List.range m).all fun i => headAt md ops m N i) && (List.range ops.size).all fun j => decide (j < m) || tailAt md ops m j
/-- The first m of n have come up. -/
def doneB (m n : Nat) : Array Bool := (List.replicate m true ++ List.replicate (n - m) false).toArray

section
variable {P : Program} {ops : Array Oper} {Q : Exit → Act → World → Prop} {md : Region.Mode}
theorem put_tmps_size (a : Act) (d : Option Tmp) (v : Value) : (a.put d v).tmps.size = a.tmps.size := by
  cases d <;> simp [Act.put]
theorem put_at_ne (a : Act) (d : Option Tmp) (v : Value) (k : Nat) (h : d ≠ some k) : (a.put d v).tmps[k]? = a.tmps[k]? := by
  cases d with
  | none => rfl
  | some d =>
    have hne : d ≠ k := fun e => h (by rw [e])
    simp [Act.put, Array.getElem?_setIfInBounds_ne hne]
theorem putAll_size (vs : Nat → Value) (a0 : Act) : ∀ m, (putAll ops vs m a0).tmps.size = a0.tmps.size := by
  intro m
  induction m with
  | zero => rfl
  | succ m ih => rw [putAll, put_tmps_size, ih]
theorem putAll_defers (vs : Nat → Value) (a0 : Act) : ∀ m, (putAll ops vs m a0).defers = a0.defers := by
  intro m
  induction m with
  | zero => rfl
  | succ m ih =>
    rw [putAll]
    cases dstOf ops m <;> simpa [Act.put] using ih
theorem putAll_at (vs : Nat → Value) (a0 a : Act) (hs : a.tmps.size = a0.tmps.size) (hv : ∀ j k, dstOf ops j = some k → vs j = a.tmps.getD k undef) :
    ∀ m k, ((∃ j, j < m ∧ dstOf ops j = some k) ∨ a0.tmps[k]? = a.tmps[k]?) → (putAll ops vs m a0).tmps[k]? = a.tmps[k]? := by
  intro m
  induction m with
  | zero =>
    intro k h
    rcases h with ⟨j, hj, _⟩ | h
    · omega
    · exact h
  | succ m ih =>
    intro k h
    rw [putAll]
    by_cases hk : dstOf ops m = some k
    · rw [hk, hv m k hk]
      simp only [Act.put]
      rcases Nat.lt_or_ge k a0.tmps.size with hlt | hge
      · rw [Array.getElem?_setIfInBounds_self_of_lt (by rw [putAll_size]; exact hlt)]
        rw [Array.getD_eq_getD_getElem?, Array.getElem?_eq_getElem (by omega)]
        rfl
      · rw [Array.getElem?_eq_none (by rw [Array.size_setIfInBounds, putAll_size]; exact hge), Array.getElem?_eq_none (by omega)]
    · rw [put_at_ne _ _ _ _ hk]
      refine ih k ?_
      rcases h with ⟨j, hj, he⟩ | h
      · refine .inl ⟨j, ?_, he⟩
        rcases Nat.lt_or_ge j m with h1 | h1
        · exact h1
        · obtain rfl : j = m := by omega
          exact absurd he hk
      · exact .inr h
theorem putAll_self (a0 a : Act) (m : Nat) (hs : a.tmps.size = a0.tmps.size) (hd : a.defers = a0.defers) (ha : ∀ k, (∀ j, j < m → dstOf ops j ≠ some k) → a.tmps[k]? = a0.tmps[k]?) :
    putAll ops (fun j => valOf a (dstOf ops j)) m a0 = a := by
  have ht : (putAll ops (fun j => valOf a (dstOf ops j)) m a0).tmps = a.tmps := by
    apply Array.ext_getElem?
    intro k
    refine putAll_at _ a0 a hs (fun j k h => by rw [h]; rfl) m k ?_
    by_cases h : ∃ j, j < m ∧ dstOf ops j = some k
    · exact .inl h
    · exact .inr (ha k fun j hj he => h ⟨j, hj, he⟩).symm
  have hd' := putAll_defers (ops := ops) (fun j => valOf a (dstOf ops j)) a0 m
  generalize putAll ops (fun j => valOf a (dstOf ops j)) m a0 = b at ht hd'
  obtain ⟨t, d⟩ := b
  obtain ⟨t', d'⟩ := a
  simp only at ht hd' hd
  rw [ht, hd', hd]

theorem wp_lift {o : Oper} {a : Act} {w : World} {K K' : Act → World → Prop} (h : o.wp P a w K (fun _ _ _ => False)) (hd : ∀ a' w', K a' w' → a'.defers = a.defers)
    (hK : ∀ v w', K (a.put o.dst v) w' → K' (a.put o.dst v) w') : o.wp P a w K' Q := by
  unfold Oper.wp at *
  generalize (execOp a.eval o).run P w = r at *
  cases r with
  | ok n w' =>
    cases n <;> simp only [Oper.upon] at h ⊢
    case value v => exact hK _ _ h
    case skip => exact hK _ _ h
    case defer d =>
      have h1 := hd _ _ h
      have h2 : (({ a with defers := d :: a.defers } : Act).put o.dst undef).defers = d :: a.defers := by cases o.dst <;> rfl
      rw [h2] at h1
      exact absurd (congrArg List.length h1) (by simp)
    case enter f args =>
      refine Calls.mono h fun e w'' he => ?_
      cases e with
      | returned v => exact hK _ _ he
      | panicked c => exact he.elim
      | outgrown => obtain ⟨_, _, h0⟩ := he; exact h0.elim
    case row r args => exact Rows.mono h fun v w'' he => hK _ _ he
  | halt x w' => cases x <;> simp only [Oper.upon] at h

theorem headOk_spec {m N : Nat} (h : headOk md ops m N = true) : m ≤ ops.size ∧ (∀ i, i < m → headAt md ops m N i = true) ∧ ∀ j, j < ops.size → m ≤ j → tailAt md ops m j = true := by
  unfold headOk at h
  simp only [Bool.and_eq_true, decide_eq_true_eq, List.all_eq_true, List.mem_range, Bool.or_eq_true] at h
  exact ⟨h.1.1, h.1.2, fun j h1 h2 => (h.2 j h1).resolve_left (by omega)⟩

/-- The state between two operations of the head. -/
def HeadInv (md : Region.Mode) (ops : Array Oper) (m : Nat) (a0 : Act) (w0 : World) (Sp : Nat → World → (Nat → Value) → Prop) (listed : Array Bool) (a : Act) (w : World) : Prop :=
  listed.size = ops.size ∧ (∀ j, m ≤ j → j < ops.size → listed.getD j true = false) ∧ a.defers = a0.defers ∧ a.tmps.size = a0.tmps.size ∧
    (∀ k, (∀ j, j < m → dstOf ops j ≠ some k) → a.tmps[k]? = a0.tmps[k]?) ∧ Below w0.heap.size w0 w ∧ (∀ j, j < m → listed.getD j false = true → Sp j w (fun k => valOf a (dstOf ops k))) ∧
    ∀ j o, ops[j]? = some o → listed.getD j false = true → ∀ e ∈ o.after, Region.binds md e = true → listed.getD e.on false = true

theorem wpAny_head (m : Nat) (a0 : Act) (w0 : World) (Sp : Nat → World → (Nat → Value) → Prop) (hck : headOk md ops m a0.tmps.size = true) (hup : ∀ i w w' vs vs', i < m → Sp i w vs → Below w.heap.size w w' → (∀ k, (k = i ∨ preq md ops ops.size i k = true) → vs k = vs' k) → Sp i w' vs')
    (hstep : ∀ i o, i < m → ops[i]? = some o → ∀ (vs : Nat → Value) (w : World), Below w0.heap.size w0 w → (∀ j, preq md ops ops.size i j = true → Sp j w vs) →
      o.wp P (putAll ops vs m a0) w (fun b' w' => b'.defers = a0.defers ∧ Below w.heap.size w w' ∧ Sp i w' (upd vs i (valOf b' o.dst))) (fun _ _ _ => False))
    (hend : ∀ (vs : Nat → Value) (w : World), Below w0.heap.size w0 w → (∀ j, j < m → Sp j w vs) → wpAny P md ops Q (ops.size - m) (doneB m ops.size) (putAll ops vs m a0) w) :
    ∀ (fuel : Nat) (listed : Array Bool) (a : Act) (w : World), listed.toList.count false = fuel → HeadInv md ops m a0 w0 Sp listed a w → wpAny P md ops Q fuel listed a w := by
  obtain ⟨hm, hhead, htail⟩ := headOk_spec hck
  -- what an operation of the head that has not come up says
  have hready : ∀ (listed : Array Bool), listed.size = ops.size → ∀ i, i < m → listed.getD i true = false → ∃ k, k < m ∧ k ∈ Region.ready md ops listed := by
    intro listed hsz i
    induction i using Nat.strongRecOn with
    | ind i ih =>
      intro hi hl
      have hh := hhead i hi
      unfold headAt at hh
      cases ho : ops[i]? with
      | none => rw [ho] at hh; cases hh
      | some o =>
        rw [ho] at hh
        simp only [Bool.and_eq_true, Bool.or_eq_true, Bool.not_eq_true', decide_eq_true_eq, Array.all_eq_true_iff_forall_mem] at hh
        by_cases hall : ∀ e ∈ o.after, Region.binds md e = true → listed.getD e.on false = true
        · exact ⟨i, hi, mem_ready.2 ⟨hl, o, ho, hall⟩⟩
        · obtain ⟨e, he⟩ := Classical.not_forall.1 hall
          simp only [Classical.not_imp] at he
          obtain ⟨he, hb, hn⟩ := he
          have hlt : e.on < i := (hh.1.2 e he).resolve_left (by simp [hb])
          refine ih e.on hlt (by omega) ?_
          have : e.on < listed.size := by omega
          rw [Array.getD_eq_getD_getElem?, Array.getElem?_eq_getElem this] at hn ⊢
          simpa using hn
  -- all of the head have come up
  have hfin : ∀ (fuel : Nat) (listed : Array Bool) (a : Act) (w : World), listed.toList.count false = fuel → HeadInv md ops m a0 w0 Sp listed a w → (∀ i, i < m → listed.getD i true = true) → wpAny P md ops Q fuel listed a w := by
    intro fuel listed a w hc hI hdone
    obtain ⟨hsz, htl, hdf, hts, hfr, hbel, hsp, hcl⟩ := hI
    have hl : listed = doneB m ops.size := by
      apply Array.ext_getElem?
      intro k
      have hdsz : (doneB m ops.size).size = ops.size := by simp [doneB]; omega
      rcases Nat.lt_or_ge k ops.size with hk | hk
      · have h1 : listed.getD k true = listed[k]'(by omega) := by rw [Array.getD_eq_getD_getElem?, Array.getElem?_eq_getElem (by omega)]; rfl
        rw [Array.getElem?_eq_getElem (by omega)]
        unfold doneB
        rw [List.getElem?_toArray]
        rcases Nat.lt_or_ge k m with hkm | hkm
        · rw [List.getElem?_append_left (by simpa using hkm), List.getElem?_replicate, if_pos hkm, ← h1, hdone k hkm]
        · rw [List.getElem?_append_right (by simpa using hkm), List.getElem?_replicate, if_pos (by simp; omega), ← h1, htl k hkm hk]
      · rw [Array.getElem?_eq_none (by omega), Array.getElem?_eq_none (by omega)]
    subst hl
    have hf : fuel = ops.size - m := by
      rw [← hc]
      simp [doneB, List.count_append, List.count_replicate]
    subst hf
    rw [← putAll_self (ops := ops) a0 a m hts hdf hfr]
    refine hend _ w hbel fun j hj => hsp j hj ?_
    have := hdone j hj
    rw [Array.getD_eq_getD_getElem?] at this ⊢
    rw [Array.getElem?_eq_getElem (by omega)] at this ⊢
    exact this
  intro fuel
  induction fuel with
  | zero =>
    intro listed a w hc hI
    refine hfin 0 listed a w hc hI fun i hi => ?_
    have hlt : i < listed.size := by have := hI.1; omega
    rw [Array.getD_eq_getD_getElem?, Array.getElem?_eq_getElem hlt, Option.getD_some]
    cases hb : listed[i] with
    | true => rfl
    | false =>
      have := List.count_eq_zero.1 hc
      exact absurd (by rw [← hb]; exact Array.getElem_mem_toList hlt) this
  | succ fuel ih =>
    intro listed a w hc hI
    by_cases hdone : ∀ i, i < m → listed.getD i true = true
    · exact hfin _ listed a w hc hI hdone
    · obtain ⟨i0, hi0⟩ := Classical.not_forall.1 hdone
      simp only [Classical.not_imp, Bool.not_eq_true] at hi0
      obtain ⟨k, hkm, hk⟩ := hready listed hI.1 i0 hi0.1 hi0.2
      have hne : Region.ready md ops listed ≠ [] := by
        intro h0
        rw [h0] at hk
        cases hk
      refine ⟨fun h0 => absurd h0 hne, fun i hi => ?_⟩
      obtain ⟨hsz, htl, hdf, hts, hfr, hbel, hsp, hcl⟩ := hI
      obtain ⟨hun, o, ho, haft⟩ := mem_ready.1 hi
      have hilt : i < ops.size := (Array.getElem?_eq_some_iff.1 ho).1
      have him : i < m := by
        rcases Nat.lt_or_ge i m with h | h
        · exact h
        · have ht := htail i hilt h
          unfold tailAt at ht
          rw [ho] at ht
          simp only [List.all_eq_true, List.mem_range] at ht
          have h1 := ht i0 hi0.1
          unfold waitsOn at h1
          obtain ⟨e, he, hb⟩ := Array.any_eq_true'.1 h1
          simp only [Bool.and_eq_true, beq_iff_eq] at hb
          have h2 := haft e he hb.1
          rw [hb.2, Array.getD_eq_getD_getElem?] at h2
          have h3 := hi0.2
          rw [Array.getD_eq_getD_getElem?] at h3
          rw [Array.getElem?_eq_getElem (by omega)] at h2 h3
          rw [Option.getD_some] at h2 h3
          rw [h2] at h3
          cases h3
      have hh := hhead i him
      unfold headAt at hh
      rw [ho] at hh
      simp only [Bool.and_eq_true, Option.isNone_iff_eq_none] at hh
      have hself := putAll_self (ops := ops) a0 a m hts hdf hfr
      -- what is waited for has come up, and lies in the head
      have hpre : ∀ f i' j, (∀ o, ops[i']? = some o → ∀ e ∈ o.after, Region.binds md e = true → listed.getD e.on false = true) → preq md ops f i' j = true → listed.getD j false = true := by
        intro f
        induction f with
        | zero => intro i' j _ h; cases h
        | succ f ihf =>
          intro i' j hi' h
          unfold preq at h
          cases ho' : ops[i']? with
          | none => rw [ho'] at h; cases h
          | some o' =>
            rw [ho'] at h
            obtain ⟨e, he, hb⟩ := Array.any_eq_true'.1 h
            simp only [Bool.and_eq_true, Bool.or_eq_true, beq_iff_eq] at hb
            have h2 := hi' o' ho' e he hb.1
            rcases hb.2 with rfl | h3
            · exact h2
            · exact ihf e.on j (fun o'' ho'' => hcl e.on o'' ho'' h2) h3
      have hlm : ∀ j, listed.getD j false = true → j < m := by
        intro j h2
        rcases Nat.lt_or_ge j m with h | h
        · exact h
        · have hjs : j < ops.size := by
            rcases Nat.lt_or_ge j ops.size with h' | h'
            · exact h'
            · rw [Array.getD_eq_getD_getElem?, Array.getElem?_eq_none (by omega)] at h2
              cases h2
          have h3 := htl j h hjs
          rw [Array.getD_eq_getD_getElem?] at h2 h3
          rw [Array.getElem?_eq_getElem (by omega)] at h2 h3
          rw [Option.getD_some] at h2 h3
          rw [h2] at h3
          cases h3
      have hafti : ∀ o', ops[i]? = some o' → ∀ e ∈ o'.after, Region.binds md e = true → listed.getD e.on false = true := fun o' ho' => by
        rw [ho] at ho'
        cases ho'
        exact haft
      have hst := hstep i o him ho (fun j => valOf a (dstOf ops j)) w hbel (fun j hj => by
        have h2 := hpre _ i j hafti hj
        exact hsp j (hlm j h2) h2)
      rw [hself] at hst
      unfold wpOp
      rw [ho]
      have hw : Region.wanted o (yielded ops a.tmps) = true := by unfold Region.wanted; rw [hh.1.1]
      simp only [hw, if_true]
      refine .inl (wp_lift hst (fun a' w' h => h.1.trans hdf.symm) fun v w' h => ih _ _ _ ?_ ?_)
      · have hl1 : listed[i]'(by omega) = false := by
          rw [Array.getD_eq_getD_getElem?, Array.getElem?_eq_getElem (by omega)] at hun
          exact hun
        rw [Array.toList_setIfInBounds, List.count_set (by simpa using (by omega : i < listed.size))]
        simp [hl1, hc]
      · have hun2 : listed.getD i false = false := by
          rw [Array.getD_eq_getD_getElem?, Array.getElem?_eq_getElem (by omega)] at hun ⊢
          exact hun
        have hdi : dstOf ops i = o.dst := by unfold dstOf; rw [ho]; rfl
        -- the other values are as they were
        have hsame : ∀ k, k < m → k ≠ i → valOf (a.put o.dst v) (dstOf ops k) = valOf a (dstOf ops k) := by
          intro j hj hij
          cases hdj : dstOf ops j with
          | none => rfl
          | some d =>
            have hne : o.dst ≠ some d := by
              intro hd
              have h2 := hh.2
              rw [hd] at h2
              simp only [Bool.and_eq_true, List.all_eq_true, List.mem_range] at h2
              have h3 := h2.2 j hj
              rw [hdj] at h3
              simp at h3
              omega
            simp only [valOf]
            rw [Array.getD_eq_getD_getElem?, Array.getD_eq_getD_getElem?, put_at_ne _ _ _ _ hne]
        have hpm : ∀ j k, (∀ o', ops[j]? = some o' → ∀ e ∈ o'.after, Region.binds md e = true → listed.getD e.on false = true) → preq md ops ops.size j k = true → k < m ∧ k ≠ i := fun j k hj hk => by
          have h2 := hpre _ j k hj hk
          exact ⟨hlm k h2, fun e => by subst e; rw [hun2] at h2; cases h2⟩
        refine ⟨by rw [Array.size_setIfInBounds]; exact hsz, fun j hj hjs => ?_, h.1, by rw [put_tmps_size]; exact hts, fun k hk => ?_, hbel.trans (h.2.1.mono hbel.size), fun j hj hlj => ?_, fun j o' ho' hlj e he hb => ?_⟩
        · rw [getD_set_ne true (by omega)]
          exact htl j hj hjs
        · rw [put_at_ne _ _ _ _ (by have := hk i him; rw [hdi] at this; exact this)]
          exact hfr k hk
        · by_cases hij : i = j
          · subst hij
            refine hup _ _ _ _ _ him h.2.2 (Below.refl _ _) fun k hk => ?_
            rcases hk with rfl | hk
            · rw [upd_at, hdi]
            · obtain ⟨h1, h2⟩ := hpm i k hafti hk
              rw [upd_ne _ _ h2, hsame k h1 h2]
          · rw [getD_set_ne false hij] at hlj
            refine hup _ _ _ _ _ hj (hsp j hj hlj) h.2.1 fun k hk => ?_
            rcases hk with rfl | hk
            · rw [hsame _ hj (fun e => hij e.symm)]
            · obtain ⟨h1, h2⟩ := hpm j k (fun o' ho' => hcl j o' ho' hlj) hk
              rw [hsame k h1 h2]
        · by_cases hij : i = j
          · subst hij
            exact getD_set_true (hafti o' ho' e he hb)
          · rw [getD_set_ne false hij] at hlj
            exact getD_set_true (hcl j o' ho' hlj e he hb)

/-- **A region that draws its order.** The head: the first m operations, each by its own specification; the tail waits for all of them. -/
theorem wp_region_head {id : Nat} {a0 : Act} {w0 : World} (m : Nat) (Sp : Nat → World → (Nat → Value) → Prop) (hm : P.follows .mixedOrders = true) (hck : headOk .any ops m a0.tmps.size = true) (hup : ∀ i w w' vs vs', i < m → Sp i w vs → Below w.heap.size w w' → (∀ k, (k = i ∨ preq .any ops ops.size i k = true) → vs k = vs' k) → Sp i w' vs')
    (hstep : ∀ i o, i < m → ops[i]? = some o → ∀ (vs : Nat → Value) (w : World), Below w0.heap.size w0 w → (∀ j, preq .any ops ops.size i j = true → Sp j w vs) →
      o.wp P (putAll ops vs m a0) w (fun b' w' => b'.defers = a0.defers ∧ Below w.heap.size w w' ∧ Sp i w' (upd vs i (valOf b' o.dst))) (fun _ _ _ => False))
    (hend : ∀ (vs : Nat → Value) (w : World), Below w0.heap.size w0 w → (∀ j, j < m → Sp j w vs) → wpAny P .any ops Q (ops.size - m) (doneB m ops.size) (putAll ops vs m a0) w) :
    (Code.region id ops true).wp P Q a0 w0 := by
  refine wp_region_any hm (wpAny_head m a0 w0 Sp hck hup hstep hend ops.size _ a0 _ (by simp) ?_)
  have hl : ∀ j d, (Array.replicate ops.size false).getD j d = if j < ops.size then false else d := fun j d => by
    rw [Array.getD_eq_getD_getElem?, Array.getElem?_replicate]
    split <;> rfl
  refine ⟨by simp, fun j _ hj => by rw [hl, if_pos hj], rfl, rfl, fun _ _ => rfl, below_drewN (Below.refl _ _) 1, fun j hj hlj => ?_, fun j o _ hlj => ?_⟩
  all_goals
    rw [hl] at hlj
    split at hlj <;> cases hlj

/-- One operation alone may come up. -/
theorem wpAny_one {i : Nat} {o : Oper} {fuel : Nat} {listed : Array Bool} {a : Act} {w : World} (hr : Region.ready md ops listed = [i]) (hi : ops[i]? = some o) (hg : o.guard = none)
    (h : o.wp P a w (wpAny P md ops Q fuel (listed.setIfInBounds i true)) Q) : wpAny P md ops Q (fuel + 1) listed a w := by
  refine wpAny_all hr (by simp) fun j hj => ?_
  obtain rfl : j = i := by simpa using hj
  unfold wpOp
  rw [hi]
  have hw : Region.wanted o (yielded ops a.tmps) = true := by unfold Region.wanted; rw [hg]
  simp only [hw, if_true]
  exact .inl h
end
end Go.Proofs.YtighgdmpbabelaaDoor
