/- Stacks of perfect subtrees over lists, without a program: when a stack is valid (okS), its size, how a leaf is merged (mrg), what is pushed (pushH, pushS, pushB), the root (rootS), the stack of a list (stK, skB). -/
import Derived.Test.YtlchadbbldkkfaaDoorTreeMath
namespace Go.Proofs.YtlchadbbldkkfaaDoor
open Go.RowKit

/-- Subtree i is in order. -/
def OkAt (H : List Int) (L : List (List UInt8)) (i : Nat) : Prop :=
  0 ≤ it H i ∧ it H i ≤ 20 ∧ (L.getD i []).length = 32 ∧ (0 < i → it H i < it H (i - 1))
/-- The first k subtrees are in order. -/
def OkK (H : List Int) (L : List (List UInt8)) (k : Nat) : Prop := ∀ i, i < k → OkAt H L i
theorem OkK.zero (H : List Int) (L : List (List UInt8)) : OkK H L 0 := fun _ h => absurd h (by omega)
theorem OkK.succ {H : List Int} {L : List (List UInt8)} {k : Nat} (h : OkK H L k) (h1 : OkAt H L k) : OkK H L (k + 1) := fun i hi => by
  rcases Nat.lt_or_ge i k with hk | hk
  · exact h i hk
  · obtain rfl : i = k := by omega
    exact h1
/-- The stack is valid. -/
noncomputable def okS (H : List Int) (L : List (List UInt8)) : Bool := @decide (H.length = L.length ∧ OkK H L H.length) (Classical.propDecidable _)
theorem okS_true {H : List Int} {L : List (List UInt8)} (h : H.length = L.length) (h1 : OkK H L H.length) : okS H L = true := @decide_eq_true _ (Classical.propDecidable _) ⟨h, h1⟩
theorem okS_len {H : List Int} {L : List (List UInt8)} (h : H.length ≠ L.length) : okS H L = false := @decide_eq_false _ (Classical.propDecidable _) fun e => h e.1
theorem okS_at {H : List Int} {L : List (List UInt8)} {k : Nat} (hk : k < H.length) (h : ¬ OkAt H L k) : okS H L = false := @decide_eq_false _ (Classical.propDecidable _) fun e => h (e.2 k hk)
theorem okS_iff {H : List Int} {L : List (List UInt8)} (h : okS H L = true) : H.length = L.length ∧ OkK H L H.length := @of_decide_eq_true _ (Classical.propDecidable _) h
/-- The bound below which the height of subtree k must lie. -/
def limK (H : List Int) (k : Nat) : Int := if k = 0 then 21 else it H (k - 1)
theorem limK_zero (H : List Int) : limK H 0 = 21 := rfl
theorem limK_succ (H : List Int) (k : Nat) : limK H (k + 1) = it H k := by simp [limK]
theorem limK_bound {H : List Int} {L : List (List UInt8)} {k : Nat} (h : OkK H L k) : 0 ≤ limK H k ∧ limK H k ≤ 21 := by
  rcases k with _ | k
  · rw [limK_zero]; omega
  · rw [limK_succ]
    have := h k (by omega)
    unfold OkAt at this
    omega
theorem okAt_lim {H : List Int} {L : List (List UInt8)} {k : Nat} (h : OkK H L k) (h0 : 0 ≤ it H k) (h1 : it H k < limK H k) (h2 : (L.getD k []).length = 32) : OkAt H L k := by
  rcases k with _ | k
  · rw [limK_zero] at h1
    exact ⟨h0, by omega, h2, fun h => absurd h (by omega)⟩
  · rw [limK_succ] at h1
    have := h k (by omega)
    unfold OkAt at this
    exact ⟨h0, by omega, h2, fun _ => h1⟩
theorem not_okAt_neg {H : List Int} {L : List (List UInt8)} {k : Nat} (h : it H k < 0) : ¬ OkAt H L k := fun e => by unfold OkAt at e; omega
theorem not_okAt_lim {H : List Int} {L : List (List UInt8)} {k : Nat} (h : limK H k ≤ it H k) : ¬ OkAt H L k := fun e => by
  unfold OkAt at e
  rcases k with _ | k
  · rw [limK_zero] at h; omega
  · rw [limK_succ] at h
    have := e.2.2.2 (by omega)
    simp at this
    omega
theorem not_okAt_hash {H : List Int} {L : List (List UInt8)} {k : Nat} (h : (L.getD k []).length ≠ 32) : ¬ OkAt H L k := fun e => h e.2.2.1
theorem ok_few {H : List Int} {L : List (List UInt8)} {k : Nat} (h : OkK H L k) : ∀ i, i < k → it H i + (i : Int) ≤ 20 := by
  intro i
  induction i with
  | zero => intro hi; have := h 0 hi; unfold OkAt at this; omega
  | succ i ih =>
    intro hi
    have h1 := ih (by omega)
    have := (h (i + 1) hi).2.2.2 (by omega)
    simp at this
    omega
theorem ok_len {H : List Int} {L : List (List UInt8)} (h : OkK H L H.length) : H.length ≤ 21 := by
  rcases Nat.lt_or_ge 0 H.length with h0 | h0
  · have h1 := ok_few h (H.length - 1) (by omega)
    have h2 := h (H.length - 1) (by omega)
    unfold OkAt at h2
    omega
  · omega
theorem ok_sum {L : List (List UInt8)} {k : Nat} (h : ∀ i, i < k → (L.getD i []).length = 32) (hk : k ≤ L.length) : sumL (L.take k) = 32 * k := by
  induction k with
  | zero => simp [sumL]
  | succ k ih =>
    rw [sumL_take L k (by omega), ih (fun i hi => h i (by omega)) (by omega), h k (by omega)]
    omega
theorem okS_sum {H : List Int} {L : List (List UInt8)} (h : okS H L = true) : sumL L = 32 * L.length := by
  obtain ⟨h1, h2⟩ := okS_iff h
  have := ok_sum (L := L) (k := L.length) (fun i hi => (h2 i (by omega)).2.2.1) (Nat.le_refl _)
  rwa [List.take_length] at this

/-- The number of leaves of the first k subtrees. -/
def szK (H : List Int) : Nat → Nat
  | 0 => 0
  | k + 1 => szK H k + 2 ^ (it H k).toNat
theorem szK_le {H : List Int} {L : List (List UInt8)} {k : Nat} (h : OkK H L k) : szK H k ≤ k * 1048576 := by
  induction k with
  | zero => simp [szK]
  | succ k ih =>
    have h1 := ih fun i hi => h i (by omega)
    have h2 := h k (by omega)
    unfold OkAt at h2
    have h3 : 2 ^ (it H k).toNat ≤ 2 ^ 20 := Nat.pow_le_pow_right (by omega) (by omega)
    have h4 : (2 : Nat) ^ 20 = 1048576 := rfl
    unfold szK
    omega
noncomputable def sizeS (H : List Int) (L : List (List UInt8)) : Int := if okS H L = true then (szK H H.length : Int) else 0

/-- A leaf with the hash x, of height up, merged with the last of the first n subtrees: how many are left, its height, its root. -/
def mrg (H : List Int) (L : List (List UInt8)) : Nat → Nat → List UInt8 → Nat × Nat × List UInt8
  | 0, up, x => (0, up, x)
  | n + 1, up, x => if it H n = (up : Int) then mrg H L n (up + 1) (nodeL (L.getD n []) x) else (n + 1, up, x)
theorem mrg_zero (H : List Int) (L : List (List UInt8)) (up : Nat) (x : List UInt8) : mrg H L 0 up x = (0, up, x) := rfl
theorem mrg_stop {H : List Int} {L : List (List UInt8)} {n up : Nat} {x : List UInt8} (h : ¬ it H n = (up : Int)) : mrg H L (n + 1) up x = (n + 1, up, x) := if_neg h
theorem mrg_go {H : List Int} {L : List (List UInt8)} {n up : Nat} {x : List UInt8} (h : it H n = (up : Int)) : mrg H L (n + 1) up x = mrg H L n (up + 1) (nodeL (L.getD n []) x) := if_pos h
theorem mrg_bound (H : List Int) (L : List (List UInt8)) : ∀ (n up : Nat) (x : List UInt8), x.length = 32 → (mrg H L n up x).1 ≤ n ∧ (mrg H L n up x).2.1 ≤ up + n ∧ (mrg H L n up x).2.2.length = 32 := by
  intro n
  induction n with
  | zero => intro up x h; rw [mrg_zero]; exact ⟨Nat.le_refl _, by show up ≤ up + 0; omega, h⟩
  | succ n ih =>
    intro up x h
    by_cases he : it H n = (up : Int)
    · rw [mrg_go he]
      have := ih (up + 1) (nodeL (L.getD n []) x) (nodeL_length _ _)
      omega
    · rw [mrg_stop he]
      exact ⟨Nat.le_refl _, by show up ≤ up + (n + 1); omega, h⟩
/-- What lies behind a push. -/
def pushM (H : List Int) (L : List (List UInt8)) (x : List UInt8) : Nat × Nat × List UInt8 := mrg H L H.length 0 x
def pushH (H : List Int) (L : List (List UInt8)) (x : List UInt8) : List Int := H.take (pushM H L x).1 ++ [((pushM H L x).2.1 : Int)]
def pushS (H : List Int) (L : List (List UInt8)) (x : List UInt8) : List (List UInt8) := L.take (pushM H L x).1 ++ [(pushM H L x).2.2]
noncomputable def pushB (H : List Int) (L : List (List UInt8)) (x : List UInt8) : Bool := okS H L && x.length == 32 && okS (pushH H L x) (pushS H L x)
theorem pushB_ok {H : List Int} {L : List (List UInt8)} {x : List UInt8} (h : okS H L = false) : pushB H L x = false := by simp [pushB, h]
theorem pushB_hash {H : List Int} {L : List (List UInt8)} {x : List UInt8} (h : x.length ≠ 32) : pushB H L x = false := by simp [pushB, h]
theorem pushB_last {H : List Int} {L : List (List UInt8)} {x : List UInt8} (h : okS H L = true) (h1 : x.length = 32) : pushB H L x = okS (pushH H L x) (pushS H L x) := by simp [pushB, h, h1]
/-- What StackPush answers. -/
noncomputable def psH (H : List Int) (L : List (List UInt8)) (x : List UInt8) : List Int := if pushB H L x = true then pushH H L x else []
noncomputable def psS (H : List Int) (L : List (List UInt8)) (x : List UInt8) : List (List UInt8) := if pushB H L x = true then pushS H L x else []
theorem psH_yes {H : List Int} {L : List (List UInt8)} {x : List UInt8} (h : pushB H L x = true) : psH H L x = pushH H L x := if_pos h
theorem psS_yes {H : List Int} {L : List (List UInt8)} {x : List UInt8} (h : pushB H L x = true) : psS H L x = pushS H L x := if_pos h
theorem psH_no {H : List Int} {L : List (List UInt8)} {x : List UInt8} (h : pushB H L x = false) : psH H L x = [] := if_neg (by simp [h])
theorem psS_no {H : List Int} {L : List (List UInt8)} {x : List UInt8} (h : pushB H L x = false) : psS H L x = [] := if_neg (by simp [h])
theorem pushB_okS {H : List Int} {L : List (List UInt8)} {x : List UInt8} (h : pushB H L x = true) : okS (pushH H L x) (pushS H L x) = true := by
  unfold pushB at h
  simp only [Bool.and_eq_true] at h
  exact h.2
theorem ps_small (H : List Int) (L : List (List UInt8)) (x : List UInt8) : (psH H L x).length ≤ 21 ∧ (psS H L x).length ≤ 21 ∧ sumL (psS H L x) ≤ 672 := by
  cases h : pushB H L x with
  | true =>
    rw [psH_yes h, psS_yes h]
    have h0 := pushB_okS h
    have h1 := okS_iff h0
    have h2 := ok_len h1.2
    have h3 := okS_sum h0
    omega
  | false =>
    rw [psH_no h, psS_no h]
    simp [sumL]

/-- v, met by the roots of the first k subtrees, the last first. -/
def downL (L : List (List UInt8)) : Nat → List UInt8 → List UInt8
  | 0, v => v
  | k + 1, v => downL L k (nodeL (L.getD k []) v)
theorem downL_zero (L : List (List UInt8)) (v : List UInt8) : downL L 0 v = v := rfl
theorem downL_succ (L : List (List UInt8)) (k : Nat) (v : List UInt8) : downL L (k + 1) v = downL L k (nodeL (L.getD k []) v) := rfl
theorem downL_len (L : List (List UInt8)) : ∀ (k : Nat) (v : List UInt8), v.length = 32 → (downL L k v).length = 32 := by
  intro k
  induction k with
  | zero => intro v h; exact h
  | succ k ih => intro v h; exact ih _ (nodeL_length _ _)
/-- The root of a stack that is valid. -/
def rootL (L : List (List UInt8)) : List UInt8 := if L.length = 0 then shaL [] else downL L (L.length - 1) (L.getD (L.length - 1) [])
noncomputable def rootS (H : List Int) (L : List (List UInt8)) : List UInt8 := if okS H L = true then rootL L else []
theorem rootS_no {H : List Int} {L : List (List UInt8)} (h : okS H L = false) : rootS H L = [] := if_neg (by simp [h])
theorem rootS_nil {H : List Int} {L : List (List UInt8)} (h : okS H L = true) (h1 : L.length = 0) : rootS H L = shaL [] := by
  unfold rootS rootL
  rw [if_pos h, if_pos h1]
theorem rootS_some {H : List Int} {L : List (List UInt8)} (h : okS H L = true) (h1 : L.length ≠ 0) : rootS H L = downL L (L.length - 1) (L.getD (L.length - 1) []) := by
  unfold rootS rootL
  rw [if_pos h, if_neg h1]
theorem rootS_len (H : List Int) (L : List (List UInt8)) : (rootS H L).length ≤ 32 := by
  cases h : okS H L with
  | false => rw [rootS_no h]; simp
  | true =>
    rcases Nat.eq_zero_or_pos L.length with h0 | h0
    · rw [rootS_nil h h0, shaL_length]
      exact Nat.le_refl _
    · rw [rootS_some h (by omega), downL_len]
      · exact Nat.le_refl _
      · have := okS_iff h
        exact (this.2 (L.length - 1) (by omega)).2.2.1

/-- The stack behind the first k leaves. -/
def stK (M : List (List UInt8)) : Nat → List Int × List (List UInt8)
  | 0 => ([], [])
  | k + 1 => (pushH (stK M k).1 (stK M k).2 (leafL (M.getD k [])), pushS (stK M k).1 (stK M k).2 (leafL (M.getD k [])))
theorem stK_zero (M : List (List UInt8)) : stK M 0 = ([], []) := rfl
theorem stK_succ (M : List (List UInt8)) (k : Nat) : stK M (k + 1) = (pushH (stK M k).1 (stK M k).2 (leafL (M.getD k [])), pushS (stK M k).1 (stK M k).2 (leafL (M.getD k []))) := rfl
/-- The first k pushes succeed. -/
def OfK (M : List (List UInt8)) (k : Nat) : Prop := ∀ j, j < k → pushB (stK M j).1 (stK M j).2 (leafL (M.getD j [])) = true
theorem OfK.zero (M : List (List UInt8)) : OfK M 0 := fun _ h => absurd h (by omega)
theorem OfK.succ {M : List (List UInt8)} {k : Nat} (h : OfK M k) (h1 : pushB (stK M k).1 (stK M k).2 (leafL (M.getD k [])) = true) : OfK M (k + 1) := fun j hj => by
  rcases Nat.lt_or_ge j k with hk | hk
  · exact h j hk
  · obtain rfl : j = k := by omega
    exact h1
noncomputable def skB (M : List (List UInt8)) : Bool := @decide (OfK M M.length) (Classical.propDecidable _)
theorem skB_yes {M : List (List UInt8)} (h : OfK M M.length) : skB M = true := @decide_eq_true _ (Classical.propDecidable _) h
theorem skB_no {M : List (List UInt8)} {k : Nat} (hk : k < M.length) (h : pushB (stK M k).1 (stK M k).2 (leafL (M.getD k [])) = false) : skB M = false := @decide_eq_false _ (Classical.propDecidable _) fun e => by
  have := e k hk
  rw [h] at this
  cases this
noncomputable def skH (M : List (List UInt8)) : List Int := if skB M = true then (stK M M.length).1 else []
noncomputable def skS (M : List (List UInt8)) : List (List UInt8) := if skB M = true then (stK M M.length).2 else []
theorem skH_yes {M : List (List UInt8)} (h : skB M = true) : skH M = (stK M M.length).1 := if_pos h
theorem skS_yes {M : List (List UInt8)} (h : skB M = true) : skS M = (stK M M.length).2 := if_pos h
theorem skH_no {M : List (List UInt8)} (h : skB M = false) : skH M = [] := if_neg (by simp [h])
theorem skS_no {M : List (List UInt8)} (h : skB M = false) : skS M = [] := if_neg (by simp [h])
theorem okS_nil : okS [] [] = true := okS_true rfl (OkK.zero _ _)
theorem stK_ok {M : List (List UInt8)} {k : Nat} (h : OfK M k) : okS (stK M k).1 (stK M k).2 = true := by
  rcases k with _ | k
  · exact okS_nil
  · rw [stK_succ]
    exact pushB_okS (h k (by omega))
theorem stK_small {M : List (List UInt8)} {k : Nat} (h : OfK M k) : (stK M k).1.length ≤ 21 ∧ (stK M k).2.length ≤ 21 ∧ sumL (stK M k).2 ≤ 672 := by
  have h0 := stK_ok h
  have h1 := okS_iff h0
  have h2 := ok_len h1.2
  have h3 := okS_sum h0
  omega
theorem sk_small (M : List (List UInt8)) : (skH M).length ≤ 21 ∧ (skS M).length ≤ 21 ∧ sumL (skS M) ≤ 672 := by
  cases h : skB M with
  | true =>
    rw [skH_yes h, skS_yes h]
    exact stK_small (@of_decide_eq_true _ (Classical.propDecidable _) h)
  | false =>
    rw [skH_no h, skS_no h]
    simp [sumL]
end Go.Proofs.YtlchadbbldkkfaaDoor
