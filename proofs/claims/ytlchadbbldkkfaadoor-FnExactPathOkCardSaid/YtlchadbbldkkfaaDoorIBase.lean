/- The contracts of the helpers on slices of ints that exact laws call: toIntS, eqIntS, markIntS, heldIntS. -/
import Derived.Test.YtlchadbbldkkfaaDoorList
namespace Go.Proofs.YtlchadbbldkkfaaDoor
open Go.ChangeShapes Go.WideShapes Go.ChangeAt Go.RowKit

/-- What toIntS has made after k rounds. -/
def TBI (l : List Int) (k : Nat) : List Int := l.take k ++ List.replicate (l.length - k) 0
theorem TBI_length (l : List Int) (k : Nat) (h : k ≤ l.length) : (TBI l k).length = l.length := by simp [TBI]; omega
theorem TBI_zero (l : List Int) : is (TBI l 0) = List.replicate l.length (.int .i64 0) := by simp [TBI, is]
theorem TBI_full (l : List Int) : TBI l l.length = l := by simp [TBI]
theorem TBI_set (l : List Int) (k : Nat) (h : k < l.length) : (is (TBI l k)).set k (.int .i64 (it l k)) = is (TBI l (k + 1)) := by
  have e : it l k = l[k] := by simp [it, List.getD_eq_getElem?_getD, List.getElem?_eq_getElem h]
  rw [e, is_set]
  congr 1
  apply List.ext_getElem?
  intro j
  simp only [TBI, List.getElem?_set, List.length_append, List.length_take, List.length_replicate]
  rcases Nat.lt_trichotomy j k with hj | hj | hj
  · rw [if_neg (by omega), List.getElem?_append_left (by simp; omega), List.getElem?_append_left (by simp; omega), List.getElem?_take_of_lt (by omega), List.getElem?_take_of_lt (by omega)]
  · subst hj
    rw [if_pos rfl, if_pos (by omega), List.getElem?_append_left (by simp; omega), List.getElem?_take_of_lt (by omega), List.getElem?_eq_getElem h]
  · rw [if_neg (by omega), List.getElem?_append_right (by simp; omega), List.getElem?_append_right (by simp; omega), List.getElem?_replicate, List.getElem?_replicate]
    simp only [List.length_take]
    by_cases hjl : j < l.length
    · rw [if_pos (by omega), if_pos (by omega)]
    · rw [if_neg (by omega), if_neg (by omega)]

/-- The numbers that markIntS writes: k, k + 1, .. -/
def marksI (k n : Nat) : List Int := (List.range n).map fun (i : Nat) => ((k : Int) + (i : Int))
theorem marksI_length (k n : Nat) : (marksI k n).length = n := by simp [marksI]
theorem marksI_succ (k n : Nat) : marksI k (n + 1) = marksI k n ++ [((k : Int) + (n : Int))] := by simp [marksI, List.range_succ]
theorem it_marks (k n j : Nat) (h : j < n) : it (marksI k n) j = (k : Int) + (j : Int) := by
  simp [it, marksI, List.getD_eq_getElem?_getD, h]
/-- What markIntS has written after j rounds. -/
def MKI (l : List Int) (k j : Nat) : List Int := marksI k j ++ l.drop j
theorem MKI_zero (l : List Int) (k : Nat) : MKI l k 0 = l := by simp [MKI, marksI]
theorem MKI_full (l : List Int) (k : Nat) : MKI l k l.length = marksI k l.length := by simp [MKI]
theorem MKI_length (l : List Int) (k j : Nat) (h : j ≤ l.length) : (MKI l k j).length = l.length := by simp [MKI, marksI]; omega
theorem MKI_set (l : List Int) (k j : Nat) (h : j < l.length) : (is (MKI l k j)).set j (.int .i64 ((k : Int) + (j : Int))) = is (MKI l k (j + 1)) := by
  rw [is_set]
  congr 1
  unfold MKI
  rw [marksI_succ, List.set_append_right _ _ (by simp [marksI]), List.append_assoc]
  congr 1
  rw [marksI_length, Nat.sub_self, List.drop_eq_getElem_cons h]
  rfl

/-- Every number of v has been written over, and nothing else. -/
def MarkedI (v : Value) (l : List Int) (k B : Nat) (w : World) (e : Ending) (w' : World) : Prop :=
  e = .returned (.int .i64 ((k : Int) + (l.length : Int))) ∧ OwnI 3 w' B v (marksI k l.length) ∧ w.grownBy w' v.ownBlock

/-! The same at any spelling of k. -/
/-- A slice of ints that came in reads as a list of ints. -/
theorem slI_of_row {w : World} {a : Option Addr} {len cap : Nat} {zs : List Int}
    (h : (a = none ∧ len = 0 ∧ cap = 0 ∧ zs = []) ∨
      ∃ x, a = some x ∧ len ≤ cap ∧ cap ≤ maxLen ∧ zs.length = cap ∧ (∀ i, i < zs.length → w.cell? (x.add i) = some (.int .i64 (zs.getD i 0))) ∧ ∀ n ∈ zs, (Lit.int .i64 n).wf = true) :
    ∃ l : List Int, l.length = len ∧ SlI w w.heap.size (.slice a len cap) l := by
  rcases h with ⟨rfl, rfl, rfl, rfl⟩ | ⟨x, rfl, h1, h2, h3, h4, h5⟩
  · exact ⟨[], rfl, SlI.nil_⟩
  · have hlen : (zs.take len).length = len := by simp; omega
    refine ⟨zs.take len, hlen, some x, cap, by rw [hlen], by rw [hlen]; exact h1, h2, (fun e => by cases e), fun hp => ?_⟩
    rw [hlen] at hp ⊢
    obtain ⟨b, off, spot⟩ := x
    have hc0 := h4 0 (by omega)
    have hspot : spot = none := by simpa [Addr.add] using World.cell?_spot hc0
    subst hspot
    refine ⟨b, off, rfl, lt_of_cell (off := off) (by simpa [Addr.add] using hc0), fun k hk => ?_⟩
    have hck := h4 k (by omega)
    have hz : (zs.getD k 0) = it (zs.take len) k := by
      simp [it, List.getD_eq_getElem?_getD, List.getElem?_take_of_lt hk]
    rw [hz] at hck
    have e : (⟨b, off, none⟩ : Addr).add k = ⟨b, off + k, none⟩ := by
      unfold Addr.add
      split
      · rename_i h0; subst h0; rfl
      · rfl
    rw [e] at hck
    exact hck
end Go.Proofs.YtlchadbbldkkfaaDoor
