/- When entries are valid and in order (entB, nextB, entsB, tcB). No program is named here. -/
import Derived.Test.YtickneafppbegaaDoorEntM
import Derived.Test.YtickneafppbegaaDoorVoteOk
namespace Go.Proofs.YtickneafppbegaaDoor
open Go.ChangeShapes Go.WideShapes Go.ChangeAt Go.RowKit

/-- Is an entry valid by itself, under n signers and in view x? -/
def entB (n x : Int) (t : Et) : Bool := isIn t.x n && (decide (0 ≤ t.y) && (decide (t.y < x) && hashLB t.k))
/-- Does z lie behind the last one of M? -/
def nextB (M : List Et) (z : Int) : Bool := match M.getLast? with
  | none => true
  | some t => decide (t.x < z)
theorem nextB_nil (z : Int) : nextB [] z = true := rfl
theorem nextB_take {L : List Et} {k : Nat} {t : Et} (h : L[k]? = some t) (z : Int) : nextB (L.take (k + 1)) z = decide (t.x < z) := by
  have e : (L.take (k + 1)).getLast? = some t := by
    rw [List.take_add_one, h]
    simp
  unfold nextB
  rw [e]
theorem nextB_zero (L : List Et) (z : Int) : nextB (L.take 0) z = true := rfl
/-- In ascending order. -/
def Asc (M : List Et) : Prop := ∀ i t t', M[i]? = some t → M[i + 1]? = some t' → t.x < t'.x
theorem Asc.le {M : List Et} (h : Asc M) : ∀ (n i : Nat) (t t' : Et), M[i]? = some t → M[i + n]? = some t' → t.x ≤ t'.x
  | 0, i, t, t', h1, h2 => by
    rw [Nat.add_zero, h1] at h2
    cases h2
    exact Int.le_refl _
  | n + 1, i, t, t', h1, h2 => by
    have hlt := (List.getElem?_eq_some_iff.1 h2).1
    obtain ⟨s, hs⟩ : ∃ s, M[i + n]? = some s := ⟨M[i + n], List.getElem?_eq_getElem (by omega)⟩
    have h3 := h.le n i t s h1 hs
    have h4 := h (i + n) s t' hs (by rw [Nat.add_assoc]; exact h2)
    omega
theorem Asc.take {L : List Et} {k : Nat} (h : ∀ i t t', i + 1 < k → L[i]? = some t → L[i + 1]? = some t' → t.x < t'.x) : Asc (L.take k) := fun i t t' h1 h2 => by
  have hlt := (List.getElem?_eq_some_iff.1 h2).1
  rw [List.length_take] at hlt
  rw [List.getElem?_take_of_lt (by omega)] at h1 h2
  exact h i t t' (by omega) h1 h2
/-- Where a binary search for z ends in a list in order: it ends behind the list if z lies behind it. -/
theorem place_last {M : List Et} {r : Nat} {z : Int} (hr : r ≤ M.length) (h1 : ∀ t, 0 < r → M[r - 1]? = some t → t.x < z) (h2 : ∀ t, M[r]? = some t → z ≤ t.x) (ha : Asc M) : decide ((r : Int) = (M.length : Int)) = nextB M z := by
  rcases Nat.lt_or_ge r M.length with hlt | hge
  · have hl : M.length - 1 + 1 = M.length := by omega
    have e : nextB M z = nextB (M.take (M.length - 1 + 1)) z := by rw [hl, List.take_length]
    obtain ⟨t, ht⟩ : ∃ t, M[M.length - 1]? = some t := ⟨M[M.length - 1], List.getElem?_eq_getElem (by omega)⟩
    rw [e, nextB_take ht, decide_eq_false (by omega), decide_eq_false]
    obtain ⟨s, hs⟩ : ∃ s, M[r]? = some s := ⟨M[r], List.getElem?_eq_getElem hlt⟩
    have h3 := h2 s hs
    have h4 := ha.le (M.length - 1 - r) r s t hs (by rw [show r + (M.length - 1 - r) = M.length - 1 by omega]; exact ht)
    omega
  · obtain rfl : r = M.length := by omega
    rw [decide_eq_true rfl]
    by_cases h0 : M.length = 0
    · rw [List.eq_nil_of_length_eq_zero h0]
      rfl
    · have hl : M.length - 1 + 1 = M.length := by omega
      have e : nextB M z = nextB (M.take (M.length - 1 + 1)) z := by rw [hl, List.take_length]
      obtain ⟨t, ht⟩ : ∃ t, M[M.length - 1]? = some t := ⟨M[M.length - 1], List.getElem?_eq_getElem (by omega)⟩
      rw [e, nextB_take ht, decide_eq_true (h1 t (by omega) ht)]
/-- Are all entries valid and in order? -/
noncomputable def entsB (n x : Int) (L : List Et) : Bool := @decide (∀ (i : Nat) (t : Et), L[i]? = some t → entB n x t = true ∧ nextB (L.take i) t.x = true) (Classical.propDecidable _)
theorem entsB_no {n x : Int} {L : List Et} {k : Nat} {t : Et} (h : L[k]? = some t) (hb : (entB n x t && nextB (L.take k) t.x) = false) : entsB n x L = false :=
  @decide_eq_false _ (Classical.propDecidable _) fun g => by
    rw [(g k t h).1, (g k t h).2] at hb
    cases hb
theorem entsB_yes {n x : Int} {L : List Et} (h : ∀ (i : Nat) (t : Et), i < L.length → L[i]? = some t → entB n x t = true ∧ nextB (L.take i) t.x = true) : entsB n x L = true :=
  @decide_eq_true _ (Classical.propDecidable _) fun i t ht => h i t (List.getElem?_eq_some_iff.1 ht).1 ht
theorem entsB_all {n x : Int} {L : List Et} (h : entsB n x L = true) : ∀ (i : Nat) (t : Et), L[i]? = some t → entB n x t = true ∧ nextB (L.take i) t.x = true := @of_decide_eq_true _ (Classical.propDecidable _) h
/-- The first k entries are valid and in order. -/
def EntsTo (n x : Int) (L : List Et) (k : Nat) : Prop := ∀ (i : Nat) (t : Et), i < k → L[i]? = some t → entB n x t = true ∧ nextB (L.take i) t.x = true
theorem EntsTo.zero {n x : Int} {L : List Et} : EntsTo n x L 0 := fun _ _ h => absurd h (Nat.not_lt_zero _)
theorem EntsTo.succ {n x : Int} {L : List Et} {k : Nat} {t : Et} (h : EntsTo n x L k) (ht : L[k]? = some t) (h1 : entB n x t = true) (h2 : nextB (L.take k) t.x = true) : EntsTo n x L (k + 1) := fun i s hi hs => by
  by_cases hik : i < k
  · exact h i s hik hs
  · obtain rfl : i = k := by omega
    rw [ht] at hs
    cases hs
    exact ⟨h1, h2⟩
theorem EntsTo.asc {n x : Int} {L : List Et} {k : Nat} (h : EntsTo n x L k) : Asc (L.take k) := Asc.take fun i t t' hi h1 h2 => by
  have h3 := (h (i + 1) t' hi h2).2
  rw [nextB_take h1] at h3
  exact of_decide_eq_true h3
/-- Is a timeout certificate valid under limits? -/
noncomputable def tcB (a b c d e x : Int) (L : List Et) : Bool := limB a b c d e && (isNumB x && (decide ((L.length : Int) ≤ a) && entsB a x L))
theorem tcB_yes {a b c d e x : Int} {L : List Et} (h : tcB a b c d e x L = true) : limB a b c d e = true ∧ isNumB x = true ∧ (L.length : Int) ≤ a ∧ entsB a x L = true := by
  unfold tcB at h
  rw [Bool.and_eq_true, Bool.and_eq_true, Bool.and_eq_true] at h
  exact ⟨h.1, h.2.1, of_decide_eq_true h.2.2.1, h.2.2.2⟩
theorem entB_yes {n x : Int} {t : Et} (h : entB n x t = true) : 0 ≤ t.x ∧ t.x < n ∧ 0 ≤ t.y ∧ t.y < x ∧ t.k.length = 32 := by
  unfold entB isIn hashLB at h
  rw [Bool.and_eq_true, Bool.and_eq_true, Bool.and_eq_true] at h
  have h1 := of_decide_eq_true h.1
  have h2 := of_decide_eq_true h.2.1
  have h3 := of_decide_eq_true h.2.2.1
  have h4 := beq_iff_eq.1 h.2.2.2
  exact ⟨h1.1, h1.2, h2, h3, by omega⟩
end Go.Proofs.YtickneafppbegaaDoor
