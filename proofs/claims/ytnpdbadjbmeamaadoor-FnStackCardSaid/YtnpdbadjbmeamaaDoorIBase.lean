/- The contracts of the helpers on slices of ints that exact laws call: toIntS, eqIntS, markIntS, heldIntS. -/
import Derived.Test.YtnpdbadjbmeamaaDoorList
namespace Go.Proofs.YtnpdbadjbmeamaaDoor
open Go.ChangeShapes Go.WideShapes Go.ChangeAt Go.RowKit

/-- What toIntS has made after k rounds. -/
def TBI (l : List Int) (k : Nat) : List Int := l.take k ++ List.replicate (l.length - k) 0
theorem TBI_length (l : List Int) (k : Nat) (h : k ≤ l.length) : (TBI l k).length = l.length := by simp [TBI]; omega
theorem TBI_zero (l : List Int) : is (TBI l 0) = List.replicate l.length (.int .i64 0) := by simp [TBI, is]
theorem TBI_full (l : List Int) : TBI l l.length = l := by simp [TBI]
theorem TBI_set (l : List Int) (k : Nat) (h : k < l.length) : (is (TBI l k)).set k (.int .i64 (it l k)) = is (TBI l (k + 1)) := by
  have e : it l k = l[k] := by simp [it, List.getD_eq_getElem?_getD, List.getElem?_eq_getElem h]
  rw [e, is_set]
  congr 1
  apply List.ext_getElem?
  intro j
  simp only [TBI, List.getElem?_set, List.length_append, List.length_take, List.length_replicate]
  rcases Nat.lt_trichotomy j k with hj | hj | hj
  · rw [if_neg (by omega), List.getElem?_append_left (by simp; omega), List.getElem?_append_left (by simp; omega), List.getElem?_take_of_lt (by omega), List.getElem?_take_of_lt (by omega)]
  · subst hj
    rw [if_pos rfl, if_pos (by omega), List.getElem?_append_left (by simp; omega), List.getElem?_take_of_lt (by omega), List.getElem?_eq_getElem h]
  · rw [if_neg (by omega), List.getElem?_append_right (by simp; omega), List.getElem?_append_right (by simp; omega), List.getElem?_replicate, List.getElem?_replicate]
    simp only [List.length_take]
    by_cases hjl : j < l.length
    · rw [if_pos (by omega), if_pos (by omega)]
    · rw [if_neg (by omega), if_neg (by omega)]

set_option maxHeartbeats 400000 in
theorem toIntS_any (v : Value) (l : List Int) (w : World) (h : SlI w w.heap.size v l) (hl : l.length ≤ 4294967296) :
    Calls Tryd.prog 53 #[v] w (FreshI w l) := by
  obtain ⟨A, c, rfl, h1, h2, h0, h3⟩ := h
  obtain ⟨i0, hi, hz0, hz1, hz2⟩ := info_parts i64info
  have hby : i0.bytes * l.length ≤ 281474976710656 := by rw [hz2]; omega
  have hml : l.length ≤ maxLen := by unfold maxLen; omega
  unfold maxLen at h2
  clear h0
  go_enter Tryd.func53, Tryd.ntmps53
  go_wp2_with (at_make; refine wpList_make_full _ rfl _ _ _ rfl w.heap.size 3 i0 (.int .i64 0) 1 Tryd.underlying25 hi hz0 hz1 .i64 .i64 _ _ l.length rfl rfl rfl rfl hby hml (Nat.le_refl _) ?_; intro w1 hown1 hg1)
  have hb1 : Below w.heap.size w w1 := (Below.refl _ _).grown hg1 (Nat.le_refl _) (by simp)
  have ho1 : w1.ownsRow w.heap.size 3 1 (.slice (some ⟨w.heap.size, 0, none⟩) l.length l.length) l.length (is (TBI l 0)) := by
    rw [TBI_zero]
    have e : (madeCells (Value.int .i64 0).cells (l.length * 1)).toList = List.replicate l.length (.int .i64 0) := by
      rw [Nat.mul_one]
      exact toList_madeCells_one _ _
    rw [← e]
    exact hown1
  clear hown1 hg1
  go_loopw [4] (fun i wr => ∃ k : Nat, k ≤ l.length ∧ i = .int .i64 k ∧ wr.ownsRow w.heap.size 3 1 (.slice (some ⟨w.heap.size, 0, none⟩) l.length l.length) l.length (is (TBI l k)) ∧ Below w.heap.size w wr)
    (fun i _ => l.length - (intOf i).toNat)
  case atStart => exact ⟨0, Nat.zero_le _, rfl, ho1, hb1⟩
  case round =>
    obtain ⟨k, hk, rfl, hown, hbel⟩ := hrel
    by_cases hlt : k < l.length
    · obtain ⟨b, off, rfl, hbb, hcell⟩ := h3 (by omega)
      have hc0 := (hbel.cell (p := ⟨b, off + k, none⟩) hbb).trans (hcell k hlt)
      have hc1 := (World.ownsRow.cellAt hown k (by omega)).trans (is_get (TBI l k) k (by rw [TBI_length l k hk]; exact hlt))
      have hf1 := World.ownsRow.frozenAt hown k
      clear hcell
      have hst := World.ownsRow.stored hown k (.int .i64 (it l k))
      have hst1 := Lib.hid hst
      clear hst
      go_wp2
      go_roundw
      case rel => exact ⟨k + 1, by omega, by go_num, by rw [← TBI_set l k hlt]; exact hst1.out.1, hbel.setCell (Nat.le_refl _) _⟩
      case measure => simp [intOf]; omega
    · obtain rfl : k = l.length := by omega
      go_wp2
      go_ret
      exact ⟨_, rfl, by rw [TBI_full] at hown; exact hown, hbel⟩

set_option maxHeartbeats 400000 in
theorem eqIntS_any (v u : Value) (l : List Int) (w : World) (h : SlI w w.heap.size v l) (h' : SlI w w.heap.size u l) :
    Calls Tryd.prog 54 #[v, u] w (Quiet (.bool true) w) := by
  obtain ⟨A, c, rfl, h1, h2, h0, h3⟩ := h
  obtain ⟨A', c', rfl, h1', h2', h0', h3'⟩ := h'
  unfold maxLen at h2 h2'
  clear h0 h0'
  have hne : ((l.length : Int) != (l.length : Int)) = false := by simp
  go_enter Tryd.func54, Tryd.ntmps54
  go_wp2
  go_loopw [5] (fun i wr => ∃ k : Nat, k ≤ l.length ∧ i = .int .i64 k ∧ ∃ n, wr = w.drewN n)
    (fun i _ => l.length - (intOf i).toNat)
  case atStart => exact ⟨0, Nat.zero_le _, rfl, 0, rfl⟩
  case round =>
    obtain ⟨k, hk, rfl, n, rfl⟩ := hrel
    by_cases hlt : k < l.length
    · obtain ⟨b, off, rfl, hbb, hcell⟩ := h3 (by omega)
      obtain ⟨b', off', rfl, hbb', hcell'⟩ := h3' (by omega)
      have hc0 := hcell k hlt
      have hc1 := hcell' k hlt
      have hbn : ((it l k) != (it l k)) = false := by simp
      clear hcell hcell'
      go_wp2
      go_quiet (fail)
      go_wp2
      go_roundw
      case rel => exact ⟨k + 1, by omega, by go_num, n + nq, rfl⟩
      case measure => simp [intOf]; omega
    · obtain rfl : k = l.length := by omega
      go_wp2
      go_ret
      exact ⟨rfl, n, rfl⟩

/-- The numbers that markIntS writes: k, k + 1, .. -/
def marksI (k n : Nat) : List Int := (List.range n).map fun (i : Nat) => ((k : Int) + (i : Int))
theorem marksI_length (k n : Nat) : (marksI k n).length = n := by simp [marksI]
theorem marksI_succ (k n : Nat) : marksI k (n + 1) = marksI k n ++ [((k : Int) + (n : Int))] := by simp [marksI, List.range_succ]
theorem it_marks (k n j : Nat) (h : j < n) : it (marksI k n) j = (k : Int) + (j : Int) := by
  simp [it, marksI, List.getD_eq_getElem?_getD, h]
/-- What markIntS has written after j rounds. -/
def MKI (l : List Int) (k j : Nat) : List Int := marksI k j ++ l.drop j
theorem MKI_zero (l : List Int) (k : Nat) : MKI l k 0 = l := by simp [MKI, marksI]
theorem MKI_full (l : List Int) (k : Nat) : MKI l k l.length = marksI k l.length := by simp [MKI]
theorem MKI_length (l : List Int) (k j : Nat) (h : j ≤ l.length) : (MKI l k j).length = l.length := by simp [MKI, marksI]; omega
theorem MKI_set (l : List Int) (k j : Nat) (h : j < l.length) : (is (MKI l k j)).set j (.int .i64 ((k : Int) + (j : Int))) = is (MKI l k (j + 1)) := by
  rw [is_set]
  congr 1
  unfold MKI
  rw [marksI_succ, List.set_append_right _ _ (by simp [marksI]), List.append_assoc]
  congr 1
  rw [marksI_length, Nat.sub_self, List.drop_eq_getElem_cons h]
  rfl

/-- Every number of v has been written over, and nothing else. -/
def MarkedI (v : Value) (l : List Int) (k B : Nat) (w : World) (e : Ending) (w' : World) : Prop :=
  e = .returned (.int .i64 ((k : Int) + (l.length : Int))) ∧ OwnI 3 w' B v (marksI k l.length) ∧ w.grownBy w' v.ownBlock

set_option maxHeartbeats 400000 in
theorem markIntS_any (v : Value) (l : List Int) (k B : Nat) (w : World) (h : OwnI 3 w B v l) (hk : k ≤ 4294967296) (hl : l.length ≤ 4294967296) :
    Calls Tryd.prog 55 #[v, .int .i64 (k : Int)] w (MarkedI v l k B w) := by
  rcases h.2 with ⟨rfl, h0⟩ | ⟨g, cap, cur, rfl, hb, hg, hn, hm, hs, ht⟩
  · have : l = [] := List.eq_nil_of_length_eq_zero h0
    subst this
    go_enter Tryd.func55, Tryd.ntmps55
    go_wp2
    refine wp_loop_rounds 1 ?_
    rw [rounds_succ]
    go_wp2
    go_ret
    exact ⟨by simp, h, World.grownBy.refl _ _⟩
  · have hcap : l.length ≤ 9223372036854775807 := by omega
    clear hg hs ht hm
    go_enter Tryd.func55, Tryd.ntmps55
    go_wp2
    go_loopw [1, 5] (fun q i wr => ∃ j : Nat, j ≤ l.length ∧ i = .int .i64 j ∧ q = .int .i64 ((k : Int) + (j : Int)) ∧ wr.ownsRow B 3 1 (.slice (some ⟨g, 0, none⟩) l.length cap) l.length (is (MKI l k j)) ∧ w.grownBy wr (some g))
      (fun _ i _ => l.length - (intOf i).toNat)
    case atStart => exact ⟨0, Nat.zero_le _, rfl, by simp, by rw [MKI_zero]; exact h, World.grownBy.refl _ _⟩
    case round =>
      obtain ⟨j, hj, rfl, rfl, hown, hgr⟩ := hrel
      by_cases hlt : j < l.length
      · have hc1 := (World.ownsRow.cellAt hown j (by omega)).trans (is_get (MKI l k j) j (by rw [MKI_length l k j hj]; exact hlt))
        have hf1 := World.ownsRow.frozenAt hown j
        have hst := World.ownsRow.stored hown j (.int .i64 ((k : Int) + (j : Int)))
        have hst1 := Lib.hid hst
        clear hst
        go_wp2
        go_roundw
        case rel => exact ⟨j + 1, by omega, by go_num, by go_num, by rw [← MKI_set l k j hlt]; exact hst1.out.1, gtrans hgr hst1.out.2⟩
        case measure => simp [intOf]; omega
      · obtain rfl : j = l.length := by omega
        go_wp2
        go_ret
        exact ⟨rfl, by rw [MKI_full] at hown; unfold OwnI; rw [marksI_length]; exact hown, hgr⟩

set_option maxHeartbeats 400000 in
theorem heldIntS_any (v : Value) (k n : Nat) (w : World) (h : SlI w w.heap.size v (marksI k n)) (hk : k ≤ 4294967296) (hl : n ≤ 4294967296) :
    Calls Tryd.prog 56 #[v, .int .i64 (k : Int)] w (Quiet (.int .i64 ((k : Int) + (n : Int))) w) := by
  obtain ⟨A, c, rfl, h1, h2, h0, h3⟩ := h
  rw [marksI_length] at h1 h3 ⊢
  unfold maxLen at h2
  clear h0
  go_enter Tryd.func56, Tryd.ntmps56
  go_wp2
  go_loopw [1, 5] (fun q i wr => ∃ j : Nat, j ≤ n ∧ i = .int .i64 j ∧ q = .int .i64 ((k : Int) + (j : Int)) ∧ ∃ m, wr = w.drewN m)
    (fun _ i _ => n - (intOf i).toNat)
  case atStart => exact ⟨0, Nat.zero_le _, rfl, by simp, 0, rfl⟩
  case round =>
    obtain ⟨j, hj, rfl, rfl, m, rfl⟩ := hrel
    by_cases hlt : j < n
    · obtain ⟨b, off, rfl, hbb, hcell⟩ := h3 (by omega)
      have hc0 := hcell j hlt
      rw [it_marks k n j hlt] at hc0
      have hbn : (((k : Int) + (j : Int)) != ((k : Int) + (j : Int))) = false := by simp
      clear hcell
      go_wp2
      go_roundw
      case rel => exact ⟨j + 1, by omega, by go_num, by go_num, m, rfl⟩
      case measure => simp [intOf]; omega
    · obtain rfl : j = n := by omega
      go_wp2
      go_ret
      exact ⟨rfl, m, rfl⟩

/-! The same at any spelling of k. -/
theorem markIntS_z (v : Value) (l : List Int) (k B : Nat) (kz : Int) (w : World) (h : OwnI 3 w B v l) (hz : kz = (k : Int)) (hk : k ≤ 4294967296) (hl : l.length ≤ 4294967296) :
    Calls Tryd.prog 55 #[v, .int .i64 kz] w fun e w' => e = .returned (.int .i64 (kz + (l.length : Int))) ∧ OwnI 3 w' B v (marksI k l.length) ∧ w.grownBy w' v.ownBlock := by
  subst hz
  exact markIntS_any v l k B w h hk hl
theorem heldIntS_z (v : Value) (k n : Nat) (kz : Int) (w : World) (h : SlI w w.heap.size v (marksI k n)) (hz : kz = (k : Int)) (hk : k ≤ 4294967296) (hl : n ≤ 4294967296) :
    Calls Tryd.prog 56 #[v, .int .i64 kz] w (Quiet (.int .i64 (kz + (n : Int))) w) := by
  subst hz
  exact heldIntS_any v k n w h hk hl

/-- A slice of ints that came in reads as a list of ints. -/
theorem slI_of_row {w : World} {a : Option Addr} {len cap : Nat} {zs : List Int}
    (h : (a = none ∧ len = 0 ∧ cap = 0 ∧ zs = []) ∨
      ∃ x, a = some x ∧ len ≤ cap ∧ cap ≤ maxLen ∧ zs.length = cap ∧ (∀ i, i < zs.length → w.cell? (x.add i) = some (.int .i64 (zs.getD i 0))) ∧ ∀ n ∈ zs, (Lit.int .i64 n).wf = true) :
    ∃ l : List Int, l.length = len ∧ SlI w w.heap.size (.slice a len cap) l := by
  rcases h with ⟨rfl, rfl, rfl, rfl⟩ | ⟨x, rfl, h1, h2, h3, h4, h5⟩
  · exact ⟨[], rfl, SlI.nil_⟩
  · have hlen : (zs.take len).length = len := by simp; omega
    refine ⟨zs.take len, hlen, some x, cap, by rw [hlen], by rw [hlen]; exact h1, h2, (fun e => by cases e), fun hp => ?_⟩
    rw [hlen] at hp ⊢
    obtain ⟨b, off, spot⟩ := x
    have hc0 := h4 0 (by omega)
    have hspot : spot = none := by simpa [Addr.add] using World.cell?_spot hc0
    subst hspot
    refine ⟨b, off, rfl, lt_of_cell (off := off) (by simpa [Addr.add] using hc0), fun k hk => ?_⟩
    have hck := h4 k (by omega)
    have hz : (zs.getD k 0) = it (zs.take len) k := by
      simp [it, List.getD_eq_getElem?_getD, List.getElem?_take_of_lt hk]
    rw [hz] at hck
    have e : (⟨b, off, none⟩ : Addr).add k = ⟨b, off + k, none⟩ := by
      unfold Addr.add
      split
      · rename_i h0; subst h0; rfl
      · rfl
    rw [e] at hck
    exact hck
end Go.Proofs.YtnpdbadjbmeamaaDoor
