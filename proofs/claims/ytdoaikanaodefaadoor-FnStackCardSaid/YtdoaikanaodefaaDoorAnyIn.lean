/- AnyIn: AnyOrder, AnyLate, AnyIn, RangeAll. -/
import Derived.Test.YtdoaikanaodefaaDoorMem
import Derived.Orders
import Derived.Deep.RegionHeld3
import Derived.OrdersIn
import Derived.RangeFuncCalls
import Derived.RangeFuncNested
import Derived.RangeFuncBound
import Derived.RangeFuncLeaves

/- Regions that draw their order, by a specification of each operation's value: one step for each operation, whatever the order. No program is named here. -/
namespace Go.Proofs.YtdoaikanaodefaaDoor
open Go.RowKit

/-- What the operation's slot holds. -/
def valOf (a : Act) : Option Tmp → Value
  | some d => a.tmps.getD d undef
  | none => undef
/-- Where operation j writes. -/
def dstOf (ops : Array Oper) (j : Nat) : Option Tmp := (ops[j]?).bind (·.dst)
/-- The frame with the values vs in the slots of the first m operations. -/
def putAll (ops : Array Oper) (vs : Nat → Value) : Nat → Act → Act
  | 0, a => a
  | k + 1, a => (putAll ops vs k a).put (dstOf ops k) (vs k)
/-- Operation o waits for operation j. -/
def waitsOn (md : Region.Mode) (o : Oper) (j : Nat) : Bool := o.after.any fun e => Region.binds md e && e.on == j
/-- Operation i waits, by way of others too, for operation j. -/
def preq (md : Region.Mode) (ops : Array Oper) : Nat → Nat → Nat → Bool
  | 0, _, _ => false
  | f + 1, i, j => match ops[i]? with
    | none => false
    | some o => o.after.any fun e => Region.binds md e && (e.on == j || preq md ops f e.on j)
/-- The values, with v at i. -/
def upd (vs : Nat → Value) (i : Nat) (v : Value) : Nat → Value := fun k => if k = i then v else vs k
theorem upd_at (vs : Nat → Value) (i : Nat) (v : Value) : upd vs i v i = v := if_pos rfl
theorem upd_ne (vs : Nat → Value) {i k : Nat} (v : Value) (h : k ≠ i) : upd vs i v k = vs k := if_neg h
/-- Operation i of the head is as it must be: no guard, waits for earlier ones alone, writes where no other one of the head writes. -/
def headAt (md : Region.Mode) (ops : Array Oper) (m N i : Nat) : Bool :=
  match ops[i]? with
  | none => false
  | some o => o.guard.isNone && (o.after.all fun e => !Region.binds md e || decide (e.on < i)) &&
      match o.dst with
      | none => true
      | some d => decide (d < N) && (List.range m).all fun j => j == i || !(dstOf ops j == some d)
/-- Operation j of the tail waits for all of the head. -/
def tailAt (md : Region.Mode) (ops : Array Oper) (m j : Nat) : Bool :=
  match ops[j]? with
  | none => false
  | some o => (List.range m).all fun i => waitsOn md o i
def headOk (md : Region.Mode) (ops : Array Oper) (m N : Nat) : Bool :=
  decide (m ≤ ops.size) && ((List.range m).all fun i => headAt md ops m N i) && (List.range ops.size).all fun j => decide (j < m) || tailAt md ops m j
/-- The first m of n have come up. -/
def doneB (m n : Nat) : Array Bool := (List.replicate m true ++ List.replicate (n - m) false).toArray

section
variable {P : Program} {ops : Array Oper} {Q : Exit → Act → World → Prop} {md : Region.Mode}
theorem put_tmps_size (a : Act) (d : Option Tmp) (v : Value) : (a.put d v).tmps.size = a.tmps.size := by
  cases d <;> simp [Act.put]
theorem put_at_ne (a : Act) (d : Option Tmp) (v : Value) (k : Nat) (h : d ≠ some k) : (a.put d v).tmps[k]? = a.tmps[k]? := by
  cases d with
  | none => rfl
  | some d =>
    have hne : d ≠ k := fun e => h (by rw [e])
    simp [Act.put, Array.getElem?_setIfInBounds_ne hne]
theorem putAll_size (vs : Nat → Value) (a0 : Act) : ∀ m, (putAll ops vs m a0).tmps.size = a0.tmps.size := by
  intro m
  induction m with
  | zero => rfl
  | succ m ih => rw [putAll, put_tmps_size, ih]
theorem putAll_defers (vs : Nat → Value) (a0 : Act) : ∀ m, (putAll ops vs m a0).defers = a0.defers := by
  intro m
  induction m with
  | zero => rfl
  | succ m ih =>
    rw [putAll]
    cases dstOf ops m <;> simpa [Act.put] using ih
theorem putAll_at (vs : Nat → Value) (a0 a : Act) (hs : a.tmps.size = a0.tmps.size) (hv : ∀ j k, dstOf ops j = some k → vs j = a.tmps.getD k undef) :
    ∀ m k, ((∃ j, j < m ∧ dstOf ops j = some k) ∨ a0.tmps[k]? = a.tmps[k]?) → (putAll ops vs m a0).tmps[k]? = a.tmps[k]? := by
  intro m
  induction m with
  | zero =>
    intro k h
    rcases h with ⟨j, hj, _⟩ | h
    · omega
    · exact h
  | succ m ih =>
    intro k h
    rw [putAll]
    by_cases hk : dstOf ops m = some k
    · rw [hk, hv m k hk]
      simp only [Act.put]
      rcases Nat.lt_or_ge k a0.tmps.size with hlt | hge
      · rw [Array.getElem?_setIfInBounds_self_of_lt (by rw [putAll_size]; exact hlt)]
        rw [Array.getD_eq_getD_getElem?, Array.getElem?_eq_getElem (by omega)]
        rfl
      · rw [Array.getElem?_eq_none (by rw [Array.size_setIfInBounds, putAll_size]; exact hge), Array.getElem?_eq_none (by omega)]
    · rw [put_at_ne _ _ _ _ hk]
      refine ih k ?_
      rcases h with ⟨j, hj, he⟩ | h
      · refine .inl ⟨j, ?_, he⟩
        rcases Nat.lt_or_ge j m with h1 | h1
        · exact h1
        · obtain rfl : j = m := by omega
          exact absurd he hk
      · exact .inr h
theorem putAll_self (a0 a : Act) (m : Nat) (hs : a.tmps.size = a0.tmps.size) (hd : a.defers = a0.defers) (ha : ∀ k, (∀ j, j < m → dstOf ops j ≠ some k) → a.tmps[k]? = a0.tmps[k]?) :
    putAll ops (fun j => valOf a (dstOf ops j)) m a0 = a := by
  have ht : (putAll ops (fun j => valOf a (dstOf ops j)) m a0).tmps = a.tmps := by
    apply Array.ext_getElem?
    intro k
    refine putAll_at _ a0 a hs (fun j k h => by rw [h]; rfl) m k ?_
    by_cases h : ∃ j, j < m ∧ dstOf ops j = some k
    · exact .inl h
    · exact .inr (ha k fun j hj he => h ⟨j, hj, he⟩).symm
  have hd' := putAll_defers (ops := ops) (fun j => valOf a (dstOf ops j)) a0 m
  generalize putAll ops (fun j => valOf a (dstOf ops j)) m a0 = b at ht hd'
  obtain ⟨t, d⟩ := b
  obtain ⟨t', d'⟩ := a
  simp only at ht hd' hd
  rw [ht, hd', hd]

theorem wp_lift {o : Oper} {a : Act} {w : World} {K K' : Act → World → Prop} (h : o.wp P a w K (fun _ _ _ => False)) (hd : ∀ a' w', K a' w' → a'.defers = a.defers)
    (hK : ∀ v w', K (a.put o.dst v) w' → K' (a.put o.dst v) w') : o.wp P a w K' Q := by
  unfold Oper.wp at *
  generalize (execOp a.eval o).run P w = r at *
  cases r with
  | ok n w' =>
    cases n <;> simp only [Oper.upon] at h ⊢
    case value v => exact hK _ _ h
    case skip => exact hK _ _ h
    case defer d =>
      have h1 := hd _ _ h
      have h2 : (({ a with defers := d :: a.defers } : Act).put o.dst undef).defers = d :: a.defers := by cases o.dst <;> rfl
      rw [h2] at h1
      exact absurd (congrArg List.length h1) (by simp)
    case enter f args =>
      refine Calls.mono h fun e w'' he => ?_
      cases e with
      | returned v => exact hK _ _ he
      | panicked c => exact he.elim
      | outgrown => obtain ⟨_, _, h0⟩ := he; exact h0.elim
    case row r args => exact Rows.mono h fun v w'' he => hK _ _ he
  | halt x w' => cases x <;> simp only [Oper.upon] at h

theorem headOk_spec {m N : Nat} (h : headOk md ops m N = true) : m ≤ ops.size ∧ (∀ i, i < m → headAt md ops m N i = true) ∧ ∀ j, j < ops.size → m ≤ j → tailAt md ops m j = true := by
  unfold headOk at h
  simp only [Bool.and_eq_true, decide_eq_true_eq, List.all_eq_true, List.mem_range, Bool.or_eq_true] at h
  exact ⟨h.1.1, h.1.2, fun j h1 h2 => (h.2 j h1).resolve_left (by omega)⟩

/-- The state between two operations of the head. -/
def HeadInv (md : Region.Mode) (ops : Array Oper) (m : Nat) (a0 : Act) (w0 : World) (Sp : Nat → World → (Nat → Value) → Prop) (listed : Array Bool) (a : Act) (w : World) : Prop :=
  listed.size = ops.size ∧ (∀ j, m ≤ j → j < ops.size → listed.getD j true = false) ∧ a.defers = a0.defers ∧ a.tmps.size = a0.tmps.size ∧
    (∀ k, (∀ j, j < m → dstOf ops j ≠ some k) → a.tmps[k]? = a0.tmps[k]?) ∧ Below w0.heap.size w0 w ∧ (∀ j, j < m → listed.getD j false = true → Sp j w (fun k => valOf a (dstOf ops k))) ∧
    ∀ j o, ops[j]? = some o → listed.getD j false = true → ∀ e ∈ o.after, Region.binds md e = true → listed.getD e.on false = true

theorem wpAny_head (m : Nat) (a0 : Act) (w0 : World) (Sp : Nat → World → (Nat → Value) → Prop) (hck : headOk md ops m a0.tmps.size = true) (hup : ∀ i w w' vs vs', i < m → Sp i w vs → Below w.heap.size w w' → (∀ k, (k = i ∨ preq md ops ops.size i k = true) → vs k = vs' k) → Sp i w' vs')
    (hstep : ∀ i o, i < m → ops[i]? = some o → ∀ (vs : Nat → Value) (w : World), Below w0.heap.size w0 w → (∀ j, preq md ops ops.size i j = true → Sp j w vs) →
      o.wp P (putAll ops vs m a0) w (fun b' w' => b'.defers = a0.defers ∧ Below w.heap.size w w' ∧ Sp i w' (upd vs i (valOf b' o.dst))) (fun _ _ _ => False))
    (hend : ∀ (vs : Nat → Value) (w : World), Below w0.heap.size w0 w → (∀ j, j < m → Sp j w vs) → wpAny P md ops Q (ops.size - m) (doneB m ops.size) (putAll ops vs m a0) w) :
    ∀ (fuel : Nat) (listed : Array Bool) (a : Act) (w : World), listed.toList.count false = fuel → HeadInv md ops m a0 w0 Sp listed a w → wpAny P md ops Q fuel listed a w := by
  obtain ⟨hm, hhead, htail⟩ := headOk_spec hck
  -- what an operation of the head that has not come up says
  have hready : ∀ (listed : Array Bool), listed.size = ops.size → ∀ i, i < m → listed.getD i true = false → ∃ k, k < m ∧ k ∈ Region.ready md ops listed := by
    intro listed hsz i
    induction i using Nat.strongRecOn with
    | ind i ih =>
      intro hi hl
      have hh := hhead i hi
      unfold headAt at hh
      cases ho : ops[i]? with
      | none => rw [ho] at hh; cases hh
      | some o =>
        rw [ho] at hh
        simp only [Bool.and_eq_true, Bool.or_eq_true, Bool.not_eq_true', decide_eq_true_eq, Array.all_eq_true_iff_forall_mem] at hh
        by_cases hall : ∀ e ∈ o.after, Region.binds md e = true → listed.getD e.on false = true
        · exact ⟨i, hi, mem_ready.2 ⟨hl, o, ho, hall⟩⟩
        · obtain ⟨e, he⟩ := Classical.not_forall.1 hall
          simp only [Classical.not_imp] at he
          obtain ⟨he, hb, hn⟩ := he
          have hlt : e.on < i := (hh.1.2 e he).resolve_left (by simp [hb])
          refine ih e.on hlt (by omega) ?_
          have : e.on < listed.size := by omega
          rw [Array.getD_eq_getD_getElem?, Array.getElem?_eq_getElem this] at hn ⊢
          simpa using hn
  -- all of the head have come up
  have hfin : ∀ (fuel : Nat) (listed : Array Bool) (a : Act) (w : World), listed.toList.count false = fuel → HeadInv md ops m a0 w0 Sp listed a w → (∀ i, i < m → listed.getD i true = true) → wpAny P md ops Q fuel listed a w := by
    intro fuel listed a w hc hI hdone
    obtain ⟨hsz, htl, hdf, hts, hfr, hbel, hsp, hcl⟩ := hI
    have hl : listed = doneB m ops.size := by
      apply Array.ext_getElem?
      intro k
      have hdsz : (doneB m ops.size).size = ops.size := by simp [doneB]; omega
      rcases Nat.lt_or_ge k ops.size with hk | hk
      · have h1 : listed.getD k true = listed[k]'(by omega) := by rw [Array.getD_eq_getD_getElem?, Array.getElem?_eq_getElem (by omega)]; rfl
        rw [Array.getElem?_eq_getElem (by omega)]
        unfold doneB
        rw [List.getElem?_toArray]
        rcases Nat.lt_or_ge k m with hkm | hkm
        · rw [List.getElem?_append_left (by simpa using hkm), List.getElem?_replicate, if_pos hkm, ← h1, hdone k hkm]
        · rw [List.getElem?_append_right (by simpa using hkm), List.getElem?_replicate, if_pos (by simp; omega), ← h1, htl k hkm hk]
      · rw [Array.getElem?_eq_none (by omega), Array.getElem?_eq_none (by omega)]
    subst hl
    have hf : fuel = ops.size - m := by
      rw [← hc]
      simp [doneB, List.count_append, List.count_replicate]
    subst hf
    rw [← putAll_self (ops := ops) a0 a m hts hdf hfr]
    refine hend _ w hbel fun j hj => hsp j hj ?_
    have := hdone j hj
    rw [Array.getD_eq_getD_getElem?] at this ⊢
    rw [Array.getElem?_eq_getElem (by omega)] at this ⊢
    exact this
  intro fuel
  induction fuel with
  | zero =>
    intro listed a w hc hI
    refine hfin 0 listed a w hc hI fun i hi => ?_
    have hlt : i < listed.size := by have := hI.1; omega
    rw [Array.getD_eq_getD_getElem?, Array.getElem?_eq_getElem hlt, Option.getD_some]
    cases hb : listed[i] with
    | true => rfl
    | false =>
      have := List.count_eq_zero.1 hc
      exact absurd (by rw [← hb]; exact Array.getElem_mem_toList hlt) this
  | succ fuel ih =>
    intro listed a w hc hI
    by_cases hdone : ∀ i, i < m → listed.getD i true = true
    · exact hfin _ listed a w hc hI hdone
    · obtain ⟨i0, hi0⟩ := Classical.not_forall.1 hdone
      simp only [Classical.not_imp, Bool.not_eq_true] at hi0
      obtain ⟨k, hkm, hk⟩ := hready listed hI.1 i0 hi0.1 hi0.2
      have hne : Region.ready md ops listed ≠ [] := by
        intro h0
        rw [h0] at hk
        cases hk
      refine ⟨fun h0 => absurd h0 hne, fun i hi => ?_⟩
      obtain ⟨hsz, htl, hdf, hts, hfr, hbel, hsp, hcl⟩ := hI
      obtain ⟨hun, o, ho, haft⟩ := mem_ready.1 hi
      have hilt : i < ops.size := (Array.getElem?_eq_some_iff.1 ho).1
      have him : i < m := by
        rcases Nat.lt_or_ge i m with h | h
        · exact h
        · have ht := htail i hilt h
          unfold tailAt at ht
          rw [ho] at ht
          simp only [List.all_eq_true, List.mem_range] at ht
          have h1 := ht i0 hi0.1
          unfold waitsOn at h1
          obtain ⟨e, he, hb⟩ := Array.any_eq_true'.1 h1
          simp only [Bool.and_eq_true, beq_iff_eq] at hb
          have h2 := haft e he hb.1
          rw [hb.2, Array.getD_eq_getD_getElem?] at h2
          have h3 := hi0.2
          rw [Array.getD_eq_getD_getElem?] at h3
          rw [Array.getElem?_eq_getElem (by omega)] at h2 h3
          rw [Option.getD_some] at h2 h3
          rw [h2] at h3
          cases h3
      have hh := hhead i him
      unfold headAt at hh
      rw [ho] at hh
      simp only [Bool.and_eq_true, Option.isNone_iff_eq_none] at hh
      have hself := putAll_self (ops := ops) a0 a m hts hdf hfr
      -- what is waited for has come up, and lies in the head
      have hpre : ∀ f i' j, (∀ o, ops[i']? = some o → ∀ e ∈ o.after, Region.binds md e = true → listed.getD e.on false = true) → preq md ops f i' j = true → listed.getD j false = true := by
        intro f
        induction f with
        | zero => intro i' j _ h; cases h
        | succ f ihf =>
          intro i' j hi' h
          unfold preq at h
          cases ho' : ops[i']? with
          | none => rw [ho'] at h; cases h
          | some o' =>
            rw [ho'] at h
            obtain ⟨e, he, hb⟩ := Array.any_eq_true'.1 h
            simp only [Bool.and_eq_true, Bool.or_eq_true, beq_iff_eq] at hb
            have h2 := hi' o' ho' e he hb.1
            rcases hb.2 with rfl | h3
            · exact h2
            · exact ihf e.on j (fun o'' ho'' => hcl e.on o'' ho'' h2) h3
      have hlm : ∀ j, listed.getD j false = true → j < m := by
        intro j h2
        rcases Nat.lt_or_ge j m with h | h
        · exact h
        · have hjs : j < ops.size := by
            rcases Nat.lt_or_ge j ops.size with h' | h'
            · exact h'
            · rw [Array.getD_eq_getD_getElem?, Array.getElem?_eq_none (by omega)] at h2
              cases h2
          have h3 := htl j h hjs
          rw [Array.getD_eq_getD_getElem?] at h2 h3
          rw [Array.getElem?_eq_getElem (by omega)] at h2 h3
          rw [Option.getD_some] at h2 h3
          rw [h2] at h3
          cases h3
      have hafti : ∀ o', ops[i]? = some o' → ∀ e ∈ o'.after, Region.binds md e = true → listed.getD e.on false = true := fun o' ho' => by
        rw [ho] at ho'
        cases ho'
        exact haft
      have hst := hstep i o him ho (fun j => valOf a (dstOf ops j)) w hbel (fun j hj => by
        have h2 := hpre _ i j hafti hj
        exact hsp j (hlm j h2) h2)
      rw [hself] at hst
      unfold wpOp
      rw [ho]
      have hw : Region.wanted o (yielded ops a.tmps) = true := by unfold Region.wanted; rw [hh.1.1]
      simp only [hw, if_true]
      refine .inl (wp_lift hst (fun a' w' h => h.1.trans hdf.symm) fun v w' h => ih _ _ _ ?_ ?_)
      · have hl1 : listed[i]'(by omega) = false := by
          rw [Array.getD_eq_getD_getElem?, Array.getElem?_eq_getElem (by omega)] at hun
          exact hun
        rw [Array.toList_setIfInBounds, List.count_set (by simpa using (by omega : i < listed.size))]
        simp [hl1, hc]
      · have hun2 : listed.getD i false = false := by
          rw [Array.getD_eq_getD_getElem?, Array.getElem?_eq_getElem (by omega)] at hun ⊢
          exact hun
        have hdi : dstOf ops i = o.dst := by unfold dstOf; rw [ho]; rfl
        -- the other values are as they were
        have hsame : ∀ k, k < m → k ≠ i → valOf (a.put o.dst v) (dstOf ops k) = valOf a (dstOf ops k) := by
          intro j hj hij
          cases hdj : dstOf ops j with
          | none => rfl
          | some d =>
            have hne : o.dst ≠ some d := by
              intro hd
              have h2 := hh.2
              rw [hd] at h2
              simp only [Bool.and_eq_true, List.all_eq_true, List.mem_range] at h2
              have h3 := h2.2 j hj
              rw [hdj] at h3
              simp at h3
              omega
            simp only [valOf]
            rw [Array.getD_eq_getD_getElem?, Array.getD_eq_getD_getElem?, put_at_ne _ _ _ _ hne]
        have hpm : ∀ j k, (∀ o', ops[j]? = some o' → ∀ e ∈ o'.after, Region.binds md e = true → listed.getD e.on false = true) → preq md ops ops.size j k = true → k < m ∧ k ≠ i := fun j k hj hk => by
          have h2 := hpre _ j k hj hk
          exact ⟨hlm k h2, fun e => by subst e; rw [hun2] at h2; cases h2⟩
        refine ⟨by rw [Array.size_setIfInBounds]; exact hsz, fun j hj hjs => ?_, h.1, by rw [put_tmps_size]; exact hts, fun k hk => ?_, hbel.trans (h.2.1.mono hbel.size), fun j hj hlj => ?_, fun j o' ho' hlj e he hb => ?_⟩
        · rw [getD_set_ne true (by omega)]
          exact htl j hj hjs
        · rw [put_at_ne _ _ _ _ (by have := hk i him; rw [hdi] at this; exact this)]
          exact hfr k hk
        · by_cases hij : i = j
          · subst hij
            refine hup _ _ _ _ _ him h.2.2 (Below.refl _ _) fun k hk => ?_
            rcases hk with rfl | hk
            · rw [upd_at, hdi]
            · obtain ⟨h1, h2⟩ := hpm i k hafti hk
              rw [upd_ne _ _ h2, hsame k h1 h2]
          · rw [getD_set_ne false hij] at hlj
            refine hup _ _ _ _ _ hj (hsp j hj hlj) h.2.1 fun k hk => ?_
            rcases hk with rfl | hk
            · rw [hsame _ hj (fun e => hij e.symm)]
            · obtain ⟨h1, h2⟩ := hpm j k (fun o' ho' => hcl j o' ho' hlj) hk
              rw [hsame k h1 h2]
        · by_cases hij : i = j
          · subst hij
            exact getD_set_true (hafti o' ho' e he hb)
          · rw [getD_set_ne false hij] at hlj
            exact getD_set_true (hcl j o' ho' hlj e he hb)

/-- **A region that draws its order.** The head: the first m operations, each by its own specification; the tail waits for all of them. -/
theorem wp_region_head {id : Nat} {a0 : Act} {w0 : World} (m : Nat) (Sp : Nat → World → (Nat → Value) → Prop) (hm : P.follows .mixedOrders = true) (hck : headOk .any ops m a0.tmps.size = true) (hup : ∀ i w w' vs vs', i < m → Sp i w vs → Below w.heap.size w w' → (∀ k, (k = i ∨ preq .any ops ops.size i k = true) → vs k = vs' k) → Sp i w' vs')
    (hstep : ∀ i o, i < m → ops[i]? = some o → ∀ (vs : Nat → Value) (w : World), Below w0.heap.size w0 w → (∀ j, preq .any ops ops.size i j = true → Sp j w vs) →
      o.wp P (putAll ops vs m a0) w (fun b' w' => b'.defers = a0.defers ∧ Below w.heap.size w w' ∧ Sp i w' (upd vs i (valOf b' o.dst))) (fun _ _ _ => False))
    (hend : ∀ (vs : Nat → Value) (w : World), Below w0.heap.size w0 w → (∀ j, j < m → Sp j w vs) → wpAny P .any ops Q (ops.size - m) (doneB m ops.size) (putAll ops vs m a0) w) :
    (Code.region id ops true).wp P Q a0 w0 := by
  refine wp_region_any hm (wpAny_head m a0 w0 Sp hck hup hstep hend ops.size _ a0 _ (by simp) ?_)
  have hl : ∀ j d, (Array.replicate ops.size false).getD j d = if j < ops.size then false else d := fun j d => by
    rw [Array.getD_eq_getD_getElem?, Array.getElem?_replicate]
    split <;> rfl
  refine ⟨by simp, fun j _ hj => by rw [hl, if_pos hj], rfl, rfl, fun _ _ => rfl, below_drewN (Below.refl _ _) 1, fun j hj hlj => ?_, fun j o _ hlj => ?_⟩
  all_goals
    rw [hl] at hlj
    split at hlj <;> cases hlj

/-- One operation alone may come up. -/
theorem wpAny_one {i : Nat} {o : Oper} {fuel : Nat} {listed : Array Bool} {a : Act} {w : World} (hr : Region.ready md ops listed = [i]) (hi : ops[i]? = some o) (hg : o.guard = none)
    (h : o.wp P a w (wpAny P md ops Q fuel (listed.setIfInBounds i true)) Q) : wpAny P md ops Q (fuel + 1) listed a w := by
  refine wpAny_all hr (by simp) fun j hj => ?_
  obtain rfl : j = i := by simpa using hj
  unfold wpOp
  rw [hi]
  have hw : Region.wanted o (yielded ops a.tmps) = true := by unfold Region.wanted; rw [hg]
  simp only [hw, if_true]
  exact .inl h
end
end Go.Proofs.YtdoaikanaodefaaDoor

/- Regions that draw their order, some of whose operations (an extract, a move) may come up behind a store: such an operation, which yields the same in every world, is taken as soon as it may come up. No program is named here. -/
namespace Go.Proofs.YtdoaikanaodefaaDoor
open Go.RowKit

/-- Operation i may be taken first: every other one waits for it or is apart from it. -/
def lateAt (md : Region.Mode) (ops : Array Oper) (i : Nat) : Bool :=
  match ops[i]? with
  | none => false
  | some oi => (List.range ops.size).all fun j => j == i || match ops[j]? with
    | none => true
    | some oj => preq md ops ops.size i j || (waitsOn md oj i || oi.apart ops oj)
/-- Operation j of the tail waits for all of the head, or comes behind whatever an early one of the head waits for. -/
def tailLate (md : Region.Mode) (ops : Array Oper) (m : Nat) (E : Nat → Bool) (j : Nat) : Bool :=
  (List.range m).all fun i => preq md ops ops.size j i || (E i && match ops[i]? with
    | none => false
    | some oi => oi.after.all fun e => !Region.binds md e || preq md ops ops.size j e.on)
def headLate (md : Region.Mode) (ops : Array Oper) (m N : Nat) (E : Nat → Bool) : Bool :=
  decide (m ≤ ops.size) && ((List.range m).all fun i => headAt md ops m N i && (!E i || lateAt md ops i)) && ((List.range ops.size).all fun j => decide (j < m) || tailLate md ops m E j) && Region.noSelect ops

section
variable {P : Program} {ops : Array Oper} {Q : Exit → Act → World → Prop} {md : Region.Mode}
theorem headLate_spec {m N : Nat} {E : Nat → Bool} (h : headLate md ops m N E = true) :
    m ≤ ops.size ∧ (∀ i, i < m → headAt md ops m N i = true) ∧ (∀ i, i < m → E i = true → lateAt md ops i = true) ∧ (∀ j, j < ops.size → m ≤ j → tailLate md ops m E j = true) ∧ Region.noSelect ops = true := by
  unfold headLate at h
  simp only [Bool.and_eq_true, decide_eq_true_eq, List.all_eq_true, List.mem_range, Bool.or_eq_true, Bool.not_eq_true'] at h
  exact ⟨h.1.1.1, fun i hi => (h.1.1.2 i hi).1, fun i hi hE => (h.1.1.2 i hi).2.resolve_left (by simp [hE]), fun j h1 h2 => (h.1.2 j h1).resolve_left (by omega), h.2⟩

section
variable {m : Nat} {a0 : Act} {w0 : World} {Sp : Nat → World → (Nat → Value) → Prop}
theorem listed_lt {listed : Array Bool} (hsz : listed.size = ops.size) (htl : ∀ j, m ≤ j → j < ops.size → listed.getD j true = false) : ∀ j, listed.getD j false = true → j < m := by
  intro j h2
  rcases Nat.lt_or_ge j m with h | h
  · exact h
  · have hjs : j < ops.size := by
      rcases Nat.lt_or_ge j ops.size with h' | h'
      · exact h'
      · rw [Array.getD_eq_getD_getElem?, Array.getElem?_eq_none (by omega)] at h2
        cases h2
    have h3 := htl j h hjs
    rw [Array.getD_eq_getD_getElem?] at h2 h3
    rw [Array.getElem?_eq_getElem (by omega)] at h2 h3
    rw [Option.getD_some] at h2 h3
    rw [h2] at h3
    cases h3
theorem preq_listed {listed : Array Bool} (hcl : ∀ j o, ops[j]? = some o → listed.getD j false = true → ∀ e ∈ o.after, Region.binds md e = true → listed.getD e.on false = true) :
    ∀ f i j, (∀ o, ops[i]? = some o → ∀ e ∈ o.after, Region.binds md e = true → listed.getD e.on false = true) → preq md ops f i j = true → listed.getD j false = true := by
  intro f
  induction f with
  | zero => intro i' j _ h; cases h
  | succ f ihf =>
    intro i' j hi' h
    unfold preq at h
    cases ho' : ops[i']? with
    | none => rw [ho'] at h; cases h
    | some o' =>
      rw [ho'] at h
      obtain ⟨e, he, hb⟩ := Array.any_eq_true'.1 h
      simp only [Bool.and_eq_true, Bool.or_eq_true, beq_iff_eq] at hb
      have h2 := hi' o' ho' e he hb.1
      rcases hb.2 with rfl | h3
      · exact h2
      · exact ihf e.on j (fun o'' ho'' => hcl e.on o'' ho'' h2) h3
/-- An operation of the head has come up. -/
theorem HeadInv.put {i : Nat} {o : Oper} {listed : Array Bool} {a : Act} {w w' : World} {v : Value} (hI : HeadInv md ops m a0 w0 Sp listed a w) (him : i < m) (hh : headAt md ops m a0.tmps.size i = true) (hi : i ∈ Region.ready md ops listed) (ho : ops[i]? = some o)
    (hup : ∀ i w w' vs vs', i < m → Sp i w vs → Below w.heap.size w w' → (∀ k, (k = i ∨ preq md ops ops.size i k = true) → vs k = vs' k) → Sp i w' vs')
    (hdf' : (a.put o.dst v).defers = a0.defers) (hb : Below w.heap.size w w') (hv : Sp i w' (upd (fun j => valOf a (dstOf ops j)) i v)) (hov : ∀ d, o.dst = some d → valOf (a.put o.dst v) o.dst = v) (hon : o.dst = none → v = undef) :
    HeadInv md ops m a0 w0 Sp (listed.setIfInBounds i true) (a.put o.dst v) w' := by
  obtain ⟨hsz, htl, hdf, hts, hfr, hbel, hsp, hcl⟩ := hI
  obtain ⟨hun, o2, ho2, haft⟩ := mem_ready.1 hi
  rw [ho] at ho2
  cases ho2
  have hilt : i < ops.size := (Array.getElem?_eq_some_iff.1 ho).1
  unfold headAt at hh
  rw [ho] at hh
  simp only [Bool.and_eq_true, Option.isNone_iff_eq_none] at hh
  have hlm := listed_lt hsz htl
  have hafti : ∀ o', ops[i]? = some o' → ∀ e ∈ o'.after, Region.binds md e = true → listed.getD e.on false = true := fun o' ho' => by
    rw [ho] at ho'
    cases ho'
    exact haft
  have hun2 : listed.getD i false = false := by
    rw [Array.getD_eq_getD_getElem?, Array.getElem?_eq_getElem (by omega)] at hun ⊢
    exact hun
  have hdi : dstOf ops i = o.dst := by unfold dstOf; rw [ho]; rfl
  have hsame : ∀ k, k < m → k ≠ i → valOf (a.put o.dst v) (dstOf ops k) = valOf a (dstOf ops k) := by
    intro j hj hij
    cases hdj : dstOf ops j with
    | none => rfl
    | some d =>
      have hne : o.dst ≠ some d := by
        intro hd
        have h2 := hh.2
        rw [hd] at h2
        simp only [Bool.and_eq_true, List.all_eq_true, List.mem_range] at h2
        have h3 := h2.2 j hj
        rw [hdj] at h3
        simp at h3
        omega
      simp only [valOf]
      rw [Array.getD_eq_getD_getElem?, Array.getD_eq_getD_getElem?, put_at_ne _ _ _ _ hne]
  have hpm : ∀ j k, (∀ o', ops[j]? = some o' → ∀ e ∈ o'.after, Region.binds md e = true → listed.getD e.on false = true) → preq md ops ops.size j k = true → k < m ∧ k ≠ i := fun j k hj hk => by
    have h2 := preq_listed hcl _ j k hj hk
    exact ⟨hlm k h2, fun e => by subst e; rw [hun2] at h2; cases h2⟩
  refine ⟨by rw [Array.size_setIfInBounds]; exact hsz, fun j hj hjs => ?_, hdf', by rw [put_tmps_size]; exact hts, fun k hk => ?_, hbel.trans (hb.mono hbel.size), fun j hj hlj => ?_, fun j o' ho' hlj e he hb' => ?_⟩
  · rw [getD_set_ne true (by omega)]
    exact htl j hj hjs
  · rw [put_at_ne _ _ _ _ (by have := hk i him; rw [hdi] at this; exact this)]
    exact hfr k hk
  · by_cases hij : i = j
    · subst hij
      refine hup _ _ _ _ _ him hv (Below.refl _ _) fun k hk => ?_
      rcases hk with rfl | hk
      · rw [upd_at, hdi]
        cases hd : o.dst with
        | none => exact hon hd
        | some d => have := hov d hd; rw [hd] at this; exact this.symm
      · obtain ⟨h1, h2⟩ := hpm i k hafti hk
        rw [upd_ne _ _ h2, hsame k h1 h2]
    · rw [getD_set_ne false hij] at hlj
      refine hup _ _ _ _ _ hj (hsp j hj hlj) hb fun k hk => ?_
      rcases hk with rfl | hk
      · rw [hsame _ hj (fun e => hij e.symm)]
      · obtain ⟨h1, h2⟩ := hpm j k (fun o' ho' => hcl j o' ho' hlj) hk
        rw [hsame k h1 h2]
  · by_cases hij : i = j
    · subst hij
      exact getD_set_true (hafti o' ho' e he hb')
    · rw [getD_set_ne false hij] at hlj
      exact getD_set_true (hcl j o' ho' hlj e he hb')
theorem count_put {listed : Array Bool} {i fuel : Nat} (hlt : i < listed.size) (hun : listed.getD i true = false) (hc : listed.toList.count false = fuel + 1) : (listed.setIfInBounds i true).toList.count false = fuel := by
  have hl1 : listed[i]'hlt = false := by
    rw [Array.getD_eq_getD_getElem?, Array.getElem?_eq_getElem hlt] at hun
    exact hun
  rw [Array.toList_setIfInBounds, List.count_set (by simpa using hlt)]
  simp [hl1, hc]
end

theorem wpAny_late (m : Nat) (E : Nat → Bool) (a0 : Act) (w0 : World) (Sp : Nat → World → (Nat → Value) → Prop) (hck : headLate md ops m a0.tmps.size E = true) (hQ : ∀ c a d v w, Q (.panic c) (Act.put a d v) w → Q (.panic c) a w)
    (hup : ∀ i w w' vs vs', i < m → Sp i w vs → Below w.heap.size w w' → (∀ k, (k = i ∨ preq md ops ops.size i k = true) → vs k = vs' k) → Sp i w' vs')
    (hearly : ∀ i o, i < m → E i = true → ops[i]? = some o → ∀ (vs : Nat → Value) (w : World), Below w0.heap.size w0 w → (∀ j, preq md ops ops.size i j = true → Sp j w vs) → ∃ v, (∀ w, (execOp (putAll ops vs m a0).eval o).run P w = .ok (.value v) w) ∧ (∃ d, o.dst = some d) ∧ Sp i w (upd vs i v))
    (hstep : ∀ i o, i < m → E i = false → ops[i]? = some o → ∀ (vs : Nat → Value) (w : World), Below w0.heap.size w0 w → (∀ j, preq md ops ops.size i j = true → Sp j w vs) →
      o.wp P (putAll ops vs m a0) w (fun b' w' => b'.defers = a0.defers ∧ Below w.heap.size w w' ∧ Sp i w' (upd vs i (valOf b' o.dst))) (fun _ _ _ => False))
    (hend : ∀ (vs : Nat → Value) (w : World), Below w0.heap.size w0 w → (∀ j, j < m → Sp j w vs) → wpAny P md ops Q (ops.size - m) (doneB m ops.size) (putAll ops vs m a0) w) :
    ∀ (fuel : Nat) (listed : Array Bool) (a : Act) (w : World), listed.toList.count false = fuel → HeadInv md ops m a0 w0 Sp listed a w → wpAny P md ops Q fuel listed a w := by
  obtain ⟨hm, hhead, hlate, htail, hsel⟩ := headLate_spec hck
  -- what an operation of the head that has not come up says
  have hready : ∀ (listed : Array Bool), listed.size = ops.size → ∀ i, i < m → listed.getD i true = false → ∃ k, k < m ∧ k ∈ Region.ready md ops listed := by
    intro listed hsz i
    induction i using Nat.strongRecOn with
    | ind i ih =>
      intro hi hl
      have hh := hhead i hi
      unfold headAt at hh
      cases ho : ops[i]? with
      | none => rw [ho] at hh; cases hh
      | some o =>
        rw [ho] at hh
        simp only [Bool.and_eq_true, Bool.or_eq_true, Bool.not_eq_true', decide_eq_true_eq, Array.all_eq_true_iff_forall_mem] at hh
        by_cases hall : ∀ e ∈ o.after, Region.binds md e = true → listed.getD e.on false = true
        · exact ⟨i, hi, mem_ready.2 ⟨hl, o, ho, hall⟩⟩
        · obtain ⟨e, he⟩ := Classical.not_forall.1 hall
          simp only [Classical.not_imp] at he
          obtain ⟨he, hb, hn⟩ := he
          have hlt : e.on < i := (hh.1.2 e he).resolve_left (by simp [hb])
          refine ih e.on hlt (by omega) ?_
          have : e.on < listed.size := by omega
          rw [Array.getD_eq_getD_getElem?, Array.getElem?_eq_getElem this] at hn ⊢
          simpa using hn
  -- all of the head have come up
  have hfin : ∀ (fuel : Nat) (listed : Array Bool) (a : Act) (w : World), listed.toList.count false = fuel → HeadInv md ops m a0 w0 Sp listed a w → (∀ i, i < m → listed.getD i true = true) → wpAny P md ops Q fuel listed a w := by
    intro fuel listed a w hc hI hdone
    obtain ⟨hsz, htl, hdf, hts, hfr, hbel, hsp, hcl⟩ := hI
    have hl : listed = doneB m ops.size := by
      apply Array.ext_getElem?
      intro k
      have hdsz : (doneB m ops.size).size = ops.size := by simp [doneB]; omega
      rcases Nat.lt_or_ge k ops.size with hk | hk
      · have h1 : listed.getD k true = listed[k]'(by omega) := by rw [Array.getD_eq_getD_getElem?, Array.getElem?_eq_getElem (by omega)]; rfl
        rw [Array.getElem?_eq_getElem (by omega)]
        unfold doneB
        rw [List.getElem?_toArray]
        rcases Nat.lt_or_ge k m with hkm | hkm
        · rw [List.getElem?_append_left (by simpa using hkm), List.getElem?_replicate, if_pos hkm, ← h1, hdone k hkm]
        · rw [List.getElem?_append_right (by simpa using hkm), List.getElem?_replicate, if_pos (by simp; omega), ← h1, htl k hkm hk]
      · rw [Array.getElem?_eq_none (by omega), Array.getElem?_eq_none (by omega)]
    subst hl
    have hf : fuel = ops.size - m := by
      rw [← hc]
      simp [doneB, List.count_append, List.count_replicate]
    subst hf
    rw [← putAll_self (ops := ops) a0 a m hts hdf hfr]
    refine hend _ w hbel fun j hj => hsp j hj ?_
    have := hdone j hj
    rw [Array.getD_eq_getD_getElem?] at this ⊢
    rw [Array.getElem?_eq_getElem (by omega)] at this ⊢
    exact this
  intro fuel
  induction fuel with
  | zero =>
    intro listed a w hc hI
    refine hfin 0 listed a w hc hI fun i hi => ?_
    have hlt : i < listed.size := by have := hI.1; omega
    rw [Array.getD_eq_getD_getElem?, Array.getElem?_eq_getElem hlt, Option.getD_some]
    cases hb : listed[i] with
    | true => rfl
    | false =>
      have := List.count_eq_zero.1 hc
      exact absurd (by rw [← hb]; exact Array.getElem_mem_toList hlt) this
  | succ fuel ih =>
    intro listed a w hc hI
    by_cases hdone : ∀ i, i < m → listed.getD i true = true
    · exact hfin _ listed a w hc hI hdone
    · have hI' := hI
      obtain ⟨hsz, htl, hdf, hts, hfr, hbel, hsp, hcl⟩ := hI
      have hlm := listed_lt hsz htl
      have hself := putAll_self (ops := ops) a0 a m hts hdf hfr
      have hpre : ∀ i o, ops[i]? = some o → (∀ e ∈ o.after, Region.binds md e = true → listed.getD e.on false = true) → ∀ j, preq md ops ops.size i j = true → Sp j w (fun j => valOf a (dstOf ops j)) := fun i o ho haft j hj => by
        have h2 := preq_listed hcl _ i j (fun o' ho' => by rw [ho] at ho'; cases ho'; exact haft) hj
        exact hsp j (hlm j h2) h2
      have hval : ∀ i o d v, i < m → ops[i]? = some o → o.dst = some d → valOf (a.put o.dst v) o.dst = v := fun i o d v him ho hd => by
        have hh := hhead i him
        unfold headAt at hh
        rw [ho] at hh
        simp only [Bool.and_eq_true, hd, decide_eq_true_eq] at hh
        rw [hd]
        simp only [valOf, Act.put]
        rw [Array.getD_eq_getD_getElem?, Array.getElem?_setIfInBounds_self_of_lt (by rw [hts]; exact hh.2.1)]
        rfl
      by_cases heag : ∃ i, i < m ∧ E i = true ∧ i ∈ Region.ready md ops listed
      · -- an early one may come up: it is taken
        obtain ⟨i, him, hE, hi⟩ := heag
        obtain ⟨hun, o, ho, haft⟩ := mem_ready.1 hi
        have hlt : i < listed.size := by rw [hsz]; exact (Array.getElem?_eq_some_iff.1 ho).1
        obtain ⟨v, hrun, ⟨d, hd⟩, hSp⟩ := hearly i o him hE ho (fun j => valOf a (dstOf ops j)) w hbel (hpre i o ho haft)
        rw [hself] at hrun
        have hg : o.guard = none := by
          have hh := hhead i him
          unfold headAt at hh
          rw [ho] at hh
          simp only [Bool.and_eq_true, Option.isNone_iff_eq_none] at hh
          exact hh.1.1
        refine wpAny_first ho (Region.noSelect_spec hsel) (fun c a w h => hQ c a _ _ w h) fuel listed a w (fun j oj hj hne hunj hno => ?_) hi (.inl ⟨by unfold Region.wanted; rw [hg], hrun⟩) (ih _ _ _ (count_put hlt hun hc) (hI'.put him (hhead i him) hi ho hup (by rw [hd]; exact hdf) (Below.refl _ _) hSp (fun d hd => hval i o d v him ho hd) (fun hn => by rw [hd] at hn; cases hn)))
        have hl := hlate i him hE
        unfold lateAt at hl
        rw [ho] at hl
        simp only [List.all_eq_true, List.mem_range] at hl
        have h1 := hl j (Array.getElem?_eq_some_iff.1 hj).1
        rw [hj] at h1
        simp only [Bool.or_eq_true, beq_iff_eq, hne, false_or] at h1
        rcases h1 with h1 | h1 | h1
        · have h2 := preq_listed hcl _ i j (fun o' ho' => by rw [ho] at ho'; cases ho'; exact haft) h1
          have hjs : j < listed.size := by rw [hsz]; exact (Array.getElem?_eq_some_iff.1 hj).1
          rw [Array.getD_eq_getD_getElem?, Array.getElem?_eq_getElem hjs] at h2 hunj
          rw [Option.getD_some] at h2 hunj
          rw [h2] at hunj
          cases hunj
        · unfold waitsOn at h1
          obtain ⟨e, he, hb⟩ := Array.any_eq_true'.1 h1
          simp only [Bool.and_eq_true, beq_iff_eq] at hb
          exact absurd hb.2 (hno e he hb.1)
        · exact h1
      · obtain ⟨i0, hi0⟩ := Classical.not_forall.1 hdone
        simp only [Classical.not_imp, Bool.not_eq_true] at hi0
        obtain ⟨k, hkm, hk⟩ := hready listed hsz i0 hi0.1 hi0.2
        have hne : Region.ready md ops listed ≠ [] := by
          intro h0
          rw [h0] at hk
          cases hk
        refine ⟨fun h0 => absurd h0 hne, fun i hi => ?_⟩
        obtain ⟨hun, o, ho, haft⟩ := mem_ready.1 hi
        have hilt : i < ops.size := (Array.getElem?_eq_some_iff.1 ho).1
        have hlt : i < listed.size := by omega
        have hafti : ∀ o', ops[i]? = some o' → ∀ e ∈ o'.after, Region.binds md e = true → listed.getD e.on false = true := fun o' ho' => by
          rw [ho] at ho'
          cases ho'
          exact haft
        have hno0 : listed.getD i0 false = false := by
          have h3 := hi0.2
          rw [Array.getD_eq_getD_getElem?, Array.getElem?_eq_getElem (by omega)] at h3 ⊢
          exact h3
        have him : i < m := by
          rcases Nat.lt_or_ge i m with h | h
          · exact h
          · have ht := htail i hilt h
            unfold tailLate at ht
            simp only [List.all_eq_true, List.mem_range, Bool.or_eq_true, Bool.and_eq_true] at ht
            rcases ht i0 hi0.1 with h1 | ⟨hE, h1⟩
            · have h2 := preq_listed hcl _ i i0 hafti h1
              rw [hno0] at h2
              cases h2
            · cases ho0 : ops[i0]? with
              | none => rw [ho0] at h1; cases h1
              | some oi =>
                rw [ho0] at h1
                simp only [Array.all_eq_true_iff_forall_mem, Bool.or_eq_true, Bool.not_eq_true'] at h1
                refine absurd ⟨i0, hi0.1, hE, mem_ready.2 ⟨hi0.2, oi, ho0, fun e he hb => ?_⟩⟩ heag
                exact preq_listed hcl _ i e.on hafti ((h1 e he).resolve_left (by simp [hb]))
        have hE : E i = false := by
          cases hEi : E i with
          | false => rfl
          | true => exact absurd ⟨i, him, hEi, hi⟩ heag
        have hst := hstep i o him hE ho (fun j => valOf a (dstOf ops j)) w hbel (hpre i o ho haft)
        rw [hself] at hst
        have hg : o.guard = none := by
          have hh := hhead i him
          unfold headAt at hh
          rw [ho] at hh
          simp only [Bool.and_eq_true, Option.isNone_iff_eq_none] at hh
          exact hh.1.1
        unfold wpOp
        rw [ho]
        have hw : Region.wanted o (yielded ops a.tmps) = true := by unfold Region.wanted; rw [hg]
        simp only [hw, if_true]
        refine .inl (wp_lift hst (fun a' w' h => h.1.trans hdf.symm) fun v w' h => ?_)
        have hvv : a.put o.dst v = a.put o.dst (valOf (a.put o.dst v) o.dst) := by
          cases hd : o.dst with
          | none => rfl
          | some d =>
            have := hval i o d v him ho hd
            rw [hd] at this
            rw [this]
        rw [hvv]
        refine ih _ _ _ (count_put hlt hun hc) (hI'.put him (hhead i him) hi ho hup (by rw [← hvv]; exact h.1) h.2.1 h.2.2 (fun d hd => ?_) (fun hn => by rw [hn]; rfl))
        rw [← hvv]

/-- **A region that draws its order, with early operations.** -/
theorem wp_region_late {id : Nat} {a0 : Act} {w0 : World} (m : Nat) (E : Nat → Bool) (Sp : Nat → World → (Nat → Value) → Prop) (hm : P.follows .mixedOrders = true) (hck : headLate .any ops m a0.tmps.size E = true)
    (hup : ∀ i w w' vs vs', i < m → Sp i w vs → Below w.heap.size w w' → (∀ k, (k = i ∨ preq .any ops ops.size i k = true) → vs k = vs' k) → Sp i w' vs')
    (hearly : ∀ i o, i < m → E i = true → ops[i]? = some o → ∀ (vs : Nat → Value) (w : World), Below w0.heap.size w0 w → (∀ j, preq .any ops ops.size i j = true → Sp j w vs) → ∃ v, (∀ w, (execOp (putAll ops vs m a0).eval o).run P w = .ok (.value v) w) ∧ (∃ d, o.dst = some d) ∧ Sp i w (upd vs i v))
    (hstep : ∀ i o, i < m → E i = false → ops[i]? = some o → ∀ (vs : Nat → Value) (w : World), Below w0.heap.size w0 w → (∀ j, preq .any ops ops.size i j = true → Sp j w vs) →
      o.wp P (putAll ops vs m a0) w (fun b' w' => b'.defers = a0.defers ∧ Below w.heap.size w w' ∧ Sp i w' (upd vs i (valOf b' o.dst))) (fun _ _ _ => False))
    (hend : ∀ (vs : Nat → Value) (w : World), Below w0.heap.size w0 w → (∀ j, j < m → Sp j w vs) → wpAny P .any ops (NoPanic Q) (ops.size - m) (doneB m ops.size) (putAll ops vs m a0) w) :
    (Code.region id ops true).wp P Q a0 w0 := by
  refine wp_region_noPanic (wp_region_any hm (wpAny_late m E a0 w0 Sp hck (fun _ _ _ _ _ h => h) hup hearly hstep hend ops.size _ a0 _ (by simp) ?_))
  have hl : ∀ j d, (Array.replicate ops.size false).getD j d = if j < ops.size then false else d := fun j d => by
    rw [Array.getD_eq_getD_getElem?, Array.getElem?_replicate]
    split <;> rfl
  refine ⟨by simp, fun j _ hj => by rw [hl, if_pos hj], rfl, rfl, fun _ _ => rfl, below_drewN (Below.refl _ _) 1, fun j hj hlj => ?_, fun j o _ hlj => ?_⟩
  all_goals
    rw [hl] at hlj
    split at hlj <;> cases hlj
end
end Go.Proofs.YtdoaikanaodefaaDoor

/- Regions that draw their order within a round of a range over a function: what holds of such a region outside holds of it there, if nothing is deferred. No program is named here. -/
namespace Go.Proofs.YtdoaikanaodefaaDoor
open Go.RowKit

/-- What is asked of the normal end alone. -/
def OnlyN (Q : Exit → Act → World → Prop) : Exit → Act → World → Prop
  | .normal, a, w => Q .normal a w
  | _, _, _ => False
theorem OnlyN.imp {Q : Exit → Act → World → Prop} : ∀ (e : Exit) (a : Act) (w : World), OnlyN Q e a w → Q e a w := fun e a w h => by
  cases e <;> first | exact h | exact (h : False).elim
def noDefer (ops : Array Oper) : Bool := ops.all fun o => match o.op with
  | .defer _ => false
  | _ => true

section
variable {P : Program} {ops : Array Oper} {Q : Exit → Act → World → Prop} {md : Region.Mode} {l n : Nat}
theorem noDefer_spec (h : noDefer ops = true) {o : Oper} {i : Nat} (ho : ops[i]? = some o) : ∀ c, o.op ≠ .defer c := by
  intro c hc
  unfold noDefer at h
  rw [Array.all_eq_true_iff_forall_mem] at h
  have := h o (Array.mem_of_getElem? ho)
  rw [hc] at this
  cases this

theorem operIn_of {o : Oper} (hnd : ∀ c, o.op ≠ .defer c) {a : Act} {w : World} {K K' : Act → World → Prop} (hK : ∀ a w, K a w → K' a w) (h : o.wp P a w K (OnlyN Q)) : o.wpIn (Fence.wide.inRound l) n P a w K' (OnlyN Q) := by
  unfold Oper.wpIn
  refine ⟨fun _ _ => trivial, ?_⟩
  rw [Fence.inRound_round, Oper.semAt_some l _ _ hnd]
  unfold Oper.wp at h
  generalize (execOp a.eval o).run P w = r at h ⊢
  cases r with
  | ok x w' =>
    cases x with
    | value v => exact hK _ _ h
    | skip => exact hK _ _ h
    | defer d => exact hK _ _ h
    | enter f args =>
      refine ⟨(fun e => by cases e), CallsIn.inRound l ((callsIn_wide (n := n - 1)).2 ?_)⟩
      exact Calls.mono h fun e w'' he => by
        cases e with
        | returned v => exact hK _ _ he
        | panicked c => exact he
        | outgrown => exact he
    | row row args =>
      refine ⟨(fun e => by cases e), fun c cs _ => ?_⟩
      obtain ⟨v, w2, hr, hs⟩ := h c cs
      exact ⟨v, w2, hK _ _ hr, stepsIn_wide.2 hs⟩
    | _ => exact (h : False).elim
  | halt x w' => cases x <;> exact h

theorem wpOpIn_of {i : Nat} (hnd : noDefer ops = true) {a : Act} {w : World} {K K' : Act → World → Prop} (hK : ∀ a w, K a w → K' a w) (h : wpOp P ops (OnlyN Q) i K a w) : wpOpIn (Fence.wide.inRound l) n P ops (OnlyN Q) i K' a w := by
  unfold wpOp at h
  unfold wpOpIn
  cases ho : ops[i]? with
  | none => rw [ho] at h; exact hK _ _ h
  | some o =>
    rw [ho] at h
    simp only at h ⊢
    split
    · rename_i hw
      rw [if_pos hw] at h
      rcases h with h | ⟨_, a', w', h⟩
      · exact operIn_of (noDefer_spec hnd ho) hK h
      · exact (h : False).elim
    · rename_i hw
      rw [if_neg hw] at h
      exact ⟨fun _ _ => trivial, hK _ _ h⟩

theorem wpAnyIn_of (hnd : noDefer ops = true) : ∀ (fuel : Nat) (listed : Array Bool) (a : Act) (w : World), wpAny P md ops (OnlyN Q) fuel listed a w → wpAnyIn (Fence.wide.inRound l) n P md ops (OnlyN Q) fuel listed a w := by
  intro fuel
  induction fuel with
  | zero => exact fun _ _ _ h => h
  | succ fuel ih => exact fun listed a w h => ⟨h.1, fun i hi => wpOpIn_of hnd (ih _) (h.2 i hi)⟩

/-- **A region that draws its order, within a round.** The head: the first m operations, each by its own specification; the tail waits for all of them. -/
theorem wpIn_region_head {id : Nat} {a0 : Act} {w0 : World} (m : Nat) (Sp : Nat → World → (Nat → Value) → Prop) (hm : P.follows .mixedOrders = true) (hck : headLate .any ops m a0.tmps.size (fun _ => false) = true) (hnd : noDefer ops = true)
    (hup : ∀ i w w' vs vs', i < m → Sp i w vs → Below w.heap.size w w' → (∀ k, (k = i ∨ preq .any ops ops.size i k = true) → vs k = vs' k) → Sp i w' vs')
    (hstep : ∀ i o, i < m → ops[i]? = some o → ∀ (vs : Nat → Value) (w : World), Below w0.heap.size w0 w → (∀ j, preq .any ops ops.size i j = true → Sp j w vs) →
      o.wp P (putAll ops vs m a0) w (fun b' w' => b'.defers = a0.defers ∧ Below w.heap.size w w' ∧ Sp i w' (upd vs i (valOf b' o.dst))) (fun _ _ _ => False))
    (hend : ∀ (vs : Nat → Value) (w : World), Below w0.heap.size w0 w → (∀ j, j < m → Sp j w vs) → wpAny P .any ops (OnlyN Q) (ops.size - m) (doneB m ops.size) (putAll ops vs m a0) w) :
    (Code.region id ops true).wpIn (Fence.wide.inRound l) n P Q a0 w0 := by
  refine wpIn_mono (wpIn_region_any hm (wpAnyIn_of hnd _ _ _ _ (wpAny_late (Q := OnlyN Q) m (fun _ => false) a0 w0 Sp hck (fun _ _ _ _ _ h => h.elim) hup (fun _ _ _ h => by cases h) (fun i o hi _ ho => hstep i o hi ho) hend ops.size _ a0 _ (by simp) ?_))) OnlyN.imp
  have hl : ∀ j d, (Array.replicate ops.size false).getD j d = if j < ops.size then false else d := fun j d => by
    rw [Array.getD_eq_getD_getElem?, Array.getElem?_replicate]
    split <;> rfl
  refine ⟨by simp, fun j _ hj => by rw [hl, if_pos hj], rfl, rfl, fun _ _ => rfl, below_drewN (Below.refl _ _) 1, fun j hj hlj => ?_, fun j o _ hlj => ?_⟩
  all_goals
    rw [hl] at hlj
    split at hlj <;> cases hlj
end
end Go.Proofs.YtdoaikanaodefaaDoor

/- A range over a function whose body always goes on, over an iterator that ranges over a function itself: between two rounds such an iterator turns blocks that are no cells (its own loop's record), all laid since it was called. No program is named here. -/
namespace Go.Proofs.YtdoaikanaodefaaDoor
open Go.RowKit

section
variable {F : Fence} {n : Nat} {P : Program}

/-- The iterator g with what it has captured, called where the heap has B blocks, hands over zs, element by element, to every body that goes on and keeps Kp. J k: k rounds are over. -/
def Gives {α : Type} (F : Fence) (n : Nat) (P : Program) (g : Nat) (lb : Array Value) (encs : α → Array Value) (Kp : World → World → Prop) (zs : List α) (B : Nat) (w : World) : Prop :=
  ∀ (l : Nat) (J : Nat → World → Prop) (W : World), W.heap.size = B → Below w.heap.size w W → OwnFrom B J →
    (∀ k x W1, zs[k]? = some x → J k W1 → YieldAt F (n - 1) P l (encs x) W1 fun e W' => e = .returned (.bool true) ∧ J (k + 1) W' ∧ Kp W1 W') →
    J 0 W → CallsIn F n P g (#[.func (.yield l) #[] #[]] ++ lb) W fun e W' => (∃ v, e = .returned v) ∧ J zs.length W'

/-- How the body ends: it goes on. -/
def goesOn (B : Nat) (Kp : World → World → Prop) (I : Nat → World → Prop) (k : Nat) (W : World) : Exit → Act → World → Prop
  | .normal, _, W' => KeepsFrom B W W' ∧ Kp W W' ∧ I k W'
  | _, _, _ => False

theorem own_turned {β : Type} {B : Nat} {I : β → World → Prop} (hI : OwnFrom B I) {s : β} {W : World} {l : Nat} {r : Loop} (o : Obj) (h : I s W) (hl : B ≤ l) (hr : W.heap[l]? = some (.loop r)) : I s (W.putObj l o) := hI.putObj o h hl hr rfl

theorem wpIn_range_gives {α : Type} {g : Operand} {ps : Array Tmp} {assign body : Code} {Q : Exit → Act → World → Prop} {a : Act} {w : World} (hro : F.round = none) (h1 : 1 ≤ n) {gf : Nat} {lb : Array Value}
    (hg : a.eval g = .func (.func gf) #[] lb) (hFg : F.fn gf) (eg : ∀ args w, (callFunc gf args).run P w = .ok (.enter gf args) w) {encs : α → Array Value} {Kp : World → World → Prop} {zs : List α}
    (hseq : Gives F (n - 1) P gf lb encs Kp zs (w.heap.size + 2) w) (hKt : ∀ {A B C : World}, Kp A B → Kp B C → Kp A C)
    (hKb : ∀ (W : World) (o o' : Obj), W.heap[w.heap.size + 1]? = some o → o.isCells = false → Kp W (W.putObj (w.heap.size + 1) o')) (hps : ∀ x, (encs x).size = ps.size)
    (I : Nat → World → Prop) (hI : OwnFrom w.heap.size I) (h0 : I 0 w) (Ax : α → Act → World → Prop) (hAx : ∀ x a', OwnFrom w.heap.size (fun (_ : Unit) W => Ax x a' W))
    (hassign : ∀ (l k : Nat) (x : α) (W : World) (K : Act → World → Prop), I k W → (∀ a' W', KeepsFrom w.heap.size W W' → Kp W W' → I k W' → Ax x a' W' → K a' W') →
      assign.wpIn (F.inRound l) (n - 1 - 1) P (Exit.then K (fun _ _ _ => False)) { tmps := (ps.zip (encs x)).foldl (fun t (p, v) => t.setIfInBounds p v) a.tmps, defers := [] } W)
    (hbody : ∀ (l k : Nat) (x : α) (a' : Act) (W : World), w.heap.size ≤ l → zs[k]? = some x → I k W → Ax x a' W → body.wpIn (F.inRound l) (n - 1 - 1) P (goesOn w.heap.size Kp I (k + 1) W) a' W)
    (hdone : ∀ (D : Nat) (W : World), w.heap.size ≤ D → I zs.length W → W.heap[D]? = some (.deferred (some [])) → Q .normal { a with defers := { target := .collected D, args := #[] } :: a.defers } W) :
    (Code.rangeFunc g ps assign body).wpIn F n P Q a w := by
  refine wpIn_rangeFunc fun fn hfn => ?_
  rw [hro]
  obtain ⟨B, hB⟩ : ∃ B, B = w.heap.size := ⟨_, rfl⟩
  have henter := run_enterLoop_outer (P := P) (w := w) fn a.tmps ps assign body
  rw [← hB] at henter hseq hKb hI hAx hassign hbody hdone
  obtain ⟨rec, hrec⟩ : ∃ rec : LoopState → Loop, rec = fun st => { state := st, pending := none, fn, tmps := a.tmps, params := ps, assign, body, defers := B } := ⟨_, rfl⟩
  have hready : rec .ready = { state := .ready, pending := none, fn, tmps := a.tmps, params := ps, assign, body, defers := B } := by rw [hrec]
  rw [← hready] at henter
  have hturn : ∀ st st', { rec st with state := st' } = rec st' := fun st st' => by rw [hrec]
  have hpend : ∀ st, (rec st).pending = none := fun st => by rw [hrec]
  have hstate : ∀ st, (rec st).state = st := fun st => by rw [hrec]
  have hparams : (rec .ready).params = ps := by rw [hrec]
  obtain ⟨W1, hW1⟩ : ∃ W1, W1 = (w.alloc (.deferred (some []))).alloc (.loop (rec .ready)) := ⟨_, rfl⟩
  rw [← hW1] at henter
  have hs1 : W1.heap.size = B + 2 := by rw [hW1, hB]; simp
  have hl1 : W1.heap[B + 1]? = some (.loop (rec .ready)) := by
    have := World.alloc_heap_new (w.alloc (.deferred (some []))) (.loop (rec .ready))
    rwa [World.size_alloc, ← hB, ← hW1] at this
  have hd1 : W1.heap[B]? = some (.deferred (some [])) := by
    rw [hW1, hB]
    exact (Below.heap_alloc _ _ _ (by simp)).trans (World.alloc_heap_new w _)
  have hI1 : I 0 W1 := by rw [hW1]; exact hI.alloc _ (hI.alloc _ h0)
  have hb1 : Below w.heap.size w W1 := by rw [hW1]; exact ((Below.refl _ w).alloc (Nat.le_refl _) _).alloc (by simp) _
  refine ⟨B + 1, [{ target := .collected B, args := #[] }], W1, { target := .fn (.func gf) lb, args := #[.func (.yield (B + 1)) #[] #[]] }, W1, gf, #[.func (.yield (B + 1)) #[] #[]] ++ lb, W1, henter, ?_, ?_, ?_, fun _ => h1, ?_⟩
  · simp only [resolve, hg]
    simp [go_sem]
  · intro f' hf'
    simp [Target.leads] at hf'
    subst hf'
    exact hFg
  · simp [invoke, go_sem, eg]
  have hlow : ∀ {X Y : World} {row : Option Nat} {k : Nat} {o : Obj}, X.grownBy Y row → (∀ r, row = some r → B + 2 ≤ r ∧ ∃ o : Obj, X.heap[r]? = some o ∧ o.isCells = false) → k ≤ B + 1 → X.heap[k]? = some o → Y.heap[k]? = some o := fun hgr hr hk h =>
    (hgr.block _ (Array.getElem?_eq_some_iff.1 h).1 (fun e => by have := (hr _ e.symm).1; omega)).trans h
  refine (hseq (B + 1) (fun k W => I k W ∧ W.heap[B + 1]? = some (.loop (rec .ready)) ∧ W.heap[B]? = some (.deferred (some []))) W1 hs1 hb1 ?_ ?_ ⟨hI1, hl1, hd1⟩).mono ?_
  · rintro s X Y row ⟨h2, h3, h4⟩ hgr hr
    exact ⟨hI s X Y row h2 hgr fun r e => ⟨by have := (hr r e).1; omega, (hr r e).2⟩, hlow hgr hr (Nat.le_refl _) h3, hlow hgr hr (by omega) h4⟩
  · rintro k x W hlen ⟨hi, hl, hd⟩
    have hy := run_yield (P := P) (args := encs x) hl (by rw [hparams]; exact hps x)
    rw [hrec] at hy
    refine ⟨fn, _, assign, body, hy, roundIn_of_wpIn hfn (hassign _ k x W _ hi fun a' Wa hka hpa hia hax => ?_)⟩
    have hla := hka.same _ _ (by omega) hl rfl
    have hda := hka.same _ _ (Nat.le_refl _) hd rfl
    have hlt := (Array.getElem?_eq_some_iff.1 hla).1
    refine ⟨_, run_beginRound hla (hstate _), ?_⟩
    rw [hturn]
    have hlb : (Wa.putObj (B + 1) (.loop (rec .busy))).heap[B + 1]? = some (.loop (rec .busy)) := World.putObj_heap_same hlt
    have hdb : (Wa.putObj (B + 1) (.loop (rec .busy))).heap[B]? = some (.deferred (some [])) := (World.putObj_heap_other (by omega)).trans hda
    refine wpIn_mono (hbody _ k x a' _ (by omega) hlen (own_turned hI _ hia (by omega) hla) (own_turned (s := ()) (hAx x a') _ hax (by omega) hla)) ?_
    rintro e a3 W3 hp
    cases e with
    | normal =>
      obtain ⟨hk3, hp3, hi3⟩ := hp
      have hl3 := hk3.same _ _ (by omega) hlb rfl
      have hd3 := hk3.same _ _ (Nat.le_refl _) hdb rfl
      have hend := run_endRound (P := P) none hl3
      have heq : ({ rec .busy with state := if (none : Option Code).isNone then .ready else .done, pending := none } : Loop) = rec .ready := by rw [hrec]; rfl
      rw [heq] at hend
      refine ⟨_, _, hend, rfl, ⟨own_turned hI _ hi3 (by omega) hl3, World.putObj_heap_same (Array.getElem?_eq_some_iff.1 hl3).1, (World.putObj_heap_other (by omega)).trans hd3⟩, ?_⟩
      exact hKt hpa (hKt (hKt (hKb _ _ _ hla rfl) hp3) (hKb _ _ _ hl3 rfl))
    | ret => exact hp.elim
    | exit id => exact hp.elim
    | goto t => exact hp.elim
    | panic ch => exact hp.elim
    | outgrown => exact hp.elim
  · rintro e W2 ⟨⟨v, rfl⟩, hi, hl, hd⟩
    have hend := run_endLoop (P := P) hl (by rw [hstate]; simp)
    rw [hpend] at hend
    exact ⟨none, _, hend, hdone _ _ (Nat.le_refl _) (own_turned hI _ hi (by omega) hl) ((World.putObj_heap_other (by omega)).trans hd)⟩
end
end Go.Proofs.YtdoaikanaodefaaDoor
