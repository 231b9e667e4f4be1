/- Put: Base, Put, Str, Hash32, SplitS. -/
import Derived.Test.YtopbalemfljphaaDoorRows
import Derived.Test.YtopbalemfljphaaDoorMem
import Derived.WalkKit
import Derived.ProofKit
import Derived.OpenShut
import Derived.LoopTactic
import Derived.Outline
import Derived.Handy
import Derived.BigQuiet
import Derived.Deep.QuietTactic
import Derived.OwnWalk
import Derived.Lib.Hide
import Derived.KernelRfl
import Derived.Laws.BytesArg

/- The contracts of the helpers that every exact law calls: toByteS, eqByteS, markByteS, heldByteS. -/
namespace Go.Proofs.YtopbalemfljphaaDoor
open Go.ChangeShapes Go.WideShapes Go.ChangeAt Go.RowKit

theorem u8info : (Tryd.prog.info? 5).map (fun i => (i.zero, i.size, i.bytes)) = some (some (.int .u8 0), 1, 1) := by kernel_rfl

/-- The call returns a new row that reads as l; nothing that was there has turned. -/
def Fresh (w : World) (l : List UInt8) (e : Ending) (w' : World) : Prop :=
  ∃ u, e = .returned u ∧ Own 5 w' w.heap.size u l ∧ Below w.heap.size w w'

/-- What toByteS has made after k rounds. -/
def TB (l : List UInt8) (k : Nat) : List UInt8 := l.take k ++ List.replicate (l.length - k) 0
theorem TB_length (l : List UInt8) (k : Nat) (h : k ≤ l.length) : (TB l k).length = l.length := by simp [TB]; omega
theorem TB_zero (l : List UInt8) : us (TB l 0) = List.replicate l.length (.int .u8 0) := by simp [TB, us]
theorem TB_full (l : List UInt8) : TB l l.length = l := by simp [TB]
theorem TB_set (l : List UInt8) (k : Nat) (h : k < l.length) : (us (TB l k)).set k (.int .u8 (bt l k)) = us (TB l (k + 1)) := by
  have e : bt l k = ((l[k]).toNat : Int) := by simp [bt, List.getD_eq_getElem?_getD, List.getElem?_eq_getElem h]
  rw [e, us_set]
  congr 1
  apply List.ext_getElem?
  intro j
  simp only [TB, List.getElem?_set, List.length_append, List.length_take, List.length_replicate]
  rcases Nat.lt_trichotomy j k with hj | hj | hj
  · rw [if_neg (by omega), List.getElem?_append_left (by simp; omega), List.getElem?_append_left (by simp; omega), List.getElem?_take_of_lt (by omega), List.getElem?_take_of_lt (by omega)]
  · subst hj
    rw [if_pos rfl, if_pos (by omega), List.getElem?_append_left (by simp; omega), List.getElem?_take_of_lt (by omega), List.getElem?_eq_getElem h]
  · rw [if_neg (by omega), List.getElem?_append_right (by simp; omega), List.getElem?_append_right (by simp; omega), List.getElem?_replicate, List.getElem?_replicate]
    simp only [List.length_take]
    by_cases hjl : j < l.length
    · rw [if_pos (by omega), if_pos (by omega)]
    · rw [if_neg (by omega), if_neg (by omega)]

set_option maxHeartbeats 400000 in
theorem toByteS_any (v : Value) (l : List UInt8) (w : World) (h : Sl w w.heap.size v l) (hl : l.length ≤ 4294967296) :
    Calls Tryd.prog 7 #[v] w (Fresh w l) := by
  obtain ⟨A, c, rfl, h1, h2, h0, h3⟩ := h
  obtain ⟨i0, hi, hz0, hz1, hz2⟩ := info_parts u8info
  have hby : i0.bytes * l.length ≤ 281474976710656 := by rw [hz2]; omega
  have hml : l.length ≤ maxLen := by unfold maxLen; omega
  unfold maxLen at h2
  clear h0
  go_enter Tryd.func7, Tryd.ntmps7
  go_wp2_with (at_make; refine wpList_make_full _ rfl _ _ _ rfl w.heap.size 5 i0 (.int .u8 0) 1 Tryd.underlying24 hi hz0 hz1 .i64 .i64 _ _ l.length rfl rfl rfl rfl hby hml (Nat.le_refl _) ?_; intro w1 hown1 hg1)
  have hb1 : Below w.heap.size w w1 := (Below.refl _ _).grown hg1 (Nat.le_refl _) (by simp)
  have ho1 : w1.ownsRow w.heap.size 5 1 (.slice (some ⟨w.heap.size, 0, none⟩) l.length l.length) l.length (us (TB l 0)) := by
    rw [TB_zero]
    have e : (madeCells (Value.int .u8 0).cells (l.length * 1)).toList = List.replicate l.length (.int .u8 0) := by
      rw [Nat.mul_one]
      exact toList_madeCells_one _ _
    rw [← e]
    exact hown1
  clear hown1 hg1
  go_loopw [4] (fun i wr => ∃ k : Nat, k ≤ l.length ∧ i = .int .i64 k ∧ wr.ownsRow w.heap.size 5 1 (.slice (some ⟨w.heap.size, 0, none⟩) l.length l.length) l.length (us (TB l k)) ∧ Below w.heap.size w wr)
    (fun i _ => l.length - (intOf i).toNat)
  case atStart => exact ⟨0, Nat.zero_le _, rfl, ho1, hb1⟩
  case round =>
    obtain ⟨k, hk, rfl, hown, hbel⟩ := hrel
    by_cases hlt : k < l.length
    · obtain ⟨b, off, rfl, hbb, hcell⟩ := h3 (by omega)
      have hc0 := (hbel.cell (p := ⟨b, off + k, none⟩) hbb).trans (hcell k hlt)
      have hc1 := (World.ownsRow.cellAt hown k (by omega)).trans (us_get (TB l k) k (by rw [TB_length l k hk]; exact hlt))
      have hf1 := World.ownsRow.frozenAt hown k
      clear hcell
      have hst := World.ownsRow.stored hown k (.int .u8 (bt l k))
      have hst1 := Lib.hid hst
      clear hst
      go_wp2
      go_roundw
      case rel => exact ⟨k + 1, by omega, by go_num, by rw [← TB_set l k hlt]; exact hst1.out.1, hbel.setCell (Nat.le_refl _) _⟩
      case measure => simp [intOf]; omega
    · obtain rfl : k = l.length := by omega
      go_wp2
      go_ret
      exact ⟨_, rfl, by rw [TB_full] at hown; exact hown, hbel⟩

/-- a and b read alike: true; the call only reads. -/
def Quiet (x : Value) (w : World) (e : Ending) (w' : World) : Prop := e = .returned x ∧ ∃ n, w' = w.drewN n

set_option maxHeartbeats 400000 in
theorem eqByteS_any (v u : Value) (l : List UInt8) (w : World) (h : Sl w w.heap.size v l) (h' : Sl w w.heap.size u l) :
    Calls Tryd.prog 10 #[v, u] w (Quiet (.bool true) w) := by
  obtain ⟨A, c, rfl, h1, h2, h0, h3⟩ := h
  obtain ⟨A', c', rfl, h1', h2', h0', h3'⟩ := h'
  unfold maxLen at h2 h2'
  clear h0 h0'
  have hne : ((l.length : Int) != (l.length : Int)) = false := by simp
  go_enter Tryd.func10, Tryd.ntmps10
  go_wp2
  go_loopw [5] (fun i wr => ∃ k : Nat, k ≤ l.length ∧ i = .int .i64 k ∧ ∃ n, wr = w.drewN n)
    (fun i _ => l.length - (intOf i).toNat)
  case atStart => exact ⟨0, Nat.zero_le _, rfl, 0, rfl⟩
  case round =>
    obtain ⟨k, hk, rfl, n, rfl⟩ := hrel
    by_cases hlt : k < l.length
    · obtain ⟨b, off, rfl, hbb, hcell⟩ := h3 (by omega)
      obtain ⟨b', off', rfl, hbb', hcell'⟩ := h3' (by omega)
      have hc0 := hcell k hlt
      have hc1 := hcell' k hlt
      have hbn : ((bt l k) != (bt l k)) = false := by simp
      clear hcell hcell'
      go_wp2
      go_quiet (fail)
      go_wp2
      go_roundw
      case rel => exact ⟨k + 1, by omega, by go_num, n + nq, rfl⟩
      case measure => simp [intOf]; omega
    · obtain rfl : k = l.length := by omega
      go_wp2
      go_ret
      exact ⟨rfl, n, rfl⟩

/-- The bytes that markByteS writes: k, k + 1, .. -/
def marks (k n : Nat) : List UInt8 := (List.range n).map fun i => UInt8.ofNat (k + i)
theorem marks_length (k n : Nat) : (marks k n).length = n := by simp [marks]
theorem marks_succ (k n : Nat) : marks k (n + 1) = marks k n ++ [UInt8.ofNat (k + n)] := by simp [marks, List.range_succ]
theorem bt_marks (k n j : Nat) (h : j < n) : bt (marks k n) j = (((k + j) % 256 : Nat) : Int) := by
  simp [bt, marks, List.getD_eq_getElem?_getD, h]
/-- What markByteS has written after j rounds. -/
def MK (l : List UInt8) (k j : Nat) : List UInt8 := marks k j ++ l.drop j
theorem MK_zero (l : List UInt8) (k : Nat) : MK l k 0 = l := by simp [MK, marks]
theorem MK_full (l : List UInt8) (k : Nat) : MK l k l.length = marks k l.length := by simp [MK]
theorem MK_length (l : List UInt8) (k j : Nat) (h : j ≤ l.length) : (MK l k j).length = l.length := by simp [MK, marks]; omega
theorem MK_set (l : List UInt8) (k j : Nat) (h : j < l.length) : (us (MK l k j)).set j (.int .u8 (((k : Int) + (j : Int)) % 256)) = us (MK l k (j + 1)) := by
  have e : (((k : Int) + (j : Int)) % 256) = ((UInt8.ofNat (k + j)).toNat : Int) := by simp
  rw [e, us_set]
  congr 1
  unfold MK
  rw [marks_succ, List.set_append_right _ _ (by simp [marks]), List.append_assoc]
  congr 1
  rw [marks_length, Nat.sub_self, List.drop_eq_getElem_cons h]
  rfl

/-- Every byte of v has been written over, and nothing else. -/
def Marked (v : Value) (l : List UInt8) (k B : Nat) (w : World) (e : Ending) (w' : World) : Prop :=
  e = .returned (.int .i64 ((k : Int) + (l.length : Int))) ∧ Own 5 w' B v (marks k l.length) ∧ w.grownBy w' v.ownBlock

set_option maxHeartbeats 400000 in
theorem markByteS_any (v : Value) (l : List UInt8) (k B : Nat) (w : World) (h : Own 5 w B v l) (hk : k ≤ 1099511627776) (hl : l.length ≤ 4294967296) :
    Calls Tryd.prog 11 #[v, .int .i64 (k : Int)] w (Marked v l k B w) := by
  rcases h.2 with ⟨rfl, h0⟩ | ⟨g, cap, cur, rfl, hb, hg, hn, hm, hs, ht⟩
  · have : l = [] := List.eq_nil_of_length_eq_zero h0
    subst this
    go_enter Tryd.func11, Tryd.ntmps11
    go_wp2
    refine wp_loop_rounds 1 ?_
    rw [rounds_succ]
    go_wp2
    go_ret
    exact ⟨by simp, h, World.grownBy.refl _ _⟩
  · have hcap : l.length ≤ 9223372036854775807 := by omega
    clear hg hs ht hm
    go_enter Tryd.func11, Tryd.ntmps11
    go_wp2
    go_loopw [1, 5] (fun q i wr => ∃ j : Nat, j ≤ l.length ∧ i = .int .i64 j ∧ q = .int .i64 ((k : Int) + (j : Int)) ∧ wr.ownsRow B 5 1 (.slice (some ⟨g, 0, none⟩) l.length cap) l.length (us (MK l k j)) ∧ w.grownBy wr (some g))
      (fun _ i _ => l.length - (intOf i).toNat)
    case atStart => exact ⟨0, Nat.zero_le _, rfl, by simp, by rw [MK_zero]; exact h, World.grownBy.refl _ _⟩
    case round =>
      obtain ⟨j, hj, rfl, rfl, hown, hgr⟩ := hrel
      by_cases hlt : j < l.length
      · have hc1 := (World.ownsRow.cellAt hown j (by omega)).trans (us_get (MK l k j) j (by rw [MK_length l k j hj]; exact hlt))
        have hf1 := World.ownsRow.frozenAt hown j
        have hst := World.ownsRow.stored hown j (.int .u8 (((k : Int) + (j : Int)) % 256))
        have hst1 := Lib.hid hst
        clear hst
        go_wp2
        go_roundw
        case rel => exact ⟨j + 1, by omega, by go_num, by go_num, by rw [← MK_set l k j hlt]; exact hst1.out.1, gtrans hgr hst1.out.2⟩
        case measure => simp [intOf]; omega
      · obtain rfl : j = l.length := by omega
        go_wp2
        go_ret
        exact ⟨rfl, by rw [MK_full] at hown; unfold Own; rw [marks_length]; exact hown, hgr⟩

set_option maxHeartbeats 400000 in
theorem heldByteS_any (v : Value) (k n : Nat) (w : World) (h : Sl w w.heap.size v (marks k n)) (hk : k ≤ 1099511627776) (hl : n ≤ 4294967296) :
    Calls Tryd.prog 34 #[v, .int .i64 (k : Int)] w (Quiet (.int .i64 ((k : Int) + (n : Int))) w) := by
  obtain ⟨A, c, rfl, h1, h2, h0, h3⟩ := h
  rw [marks_length] at h1 h3 ⊢
  unfold maxLen at h2
  clear h0
  go_enter Tryd.func34, Tryd.ntmps34
  go_wp2
  go_loopw [1, 5] (fun q i wr => ∃ j : Nat, j ≤ n ∧ i = .int .i64 j ∧ q = .int .i64 ((k : Int) + (j : Int)) ∧ ∃ m, wr = w.drewN m)
    (fun _ i _ => n - (intOf i).toNat)
  case atStart => exact ⟨0, Nat.zero_le _, rfl, by simp, 0, rfl⟩
  case round =>
    obtain ⟨j, hj, rfl, rfl, m, rfl⟩ := hrel
    by_cases hlt : j < n
    · obtain ⟨b, off, rfl, hbb, hcell⟩ := h3 (by omega)
      have hc0 := hcell j hlt
      rw [bt_marks k n j hlt] at hc0
      have hbn : ((((k + j) % 256 : Nat) : Int) != ((k : Int) + (j : Int)) % 256) = false := by simp
      clear hcell
      go_wp2
      go_roundw
      case rel => exact ⟨j + 1, by omega, by go_num, by go_num, m, rfl⟩
      case measure => simp [intOf]; omega
    · obtain rfl : j = n := by omega
      go_wp2
      go_ret
      exact ⟨rfl, m, rfl⟩

/-! The same at any spelling of k. -/
theorem markByteS_z (v : Value) (l : List UInt8) (k B : Nat) (kz : Int) (w : World) (h : Own 5 w B v l) (hz : kz = (k : Int)) (hk : k ≤ 1099511627776) (hl : l.length ≤ 4294967296) :
    Calls Tryd.prog 11 #[v, .int .i64 kz] w fun e w' => e = .returned (.int .i64 (kz + (l.length : Int))) ∧ Own 5 w' B v (marks k l.length) ∧ w.grownBy w' v.ownBlock := by
  subst hz
  exact markByteS_any v l k B w h hk hl
theorem heldByteS_z (v : Value) (k n : Nat) (kz : Int) (w : World) (h : Sl w w.heap.size v (marks k n)) (hz : kz = (k : Int)) (hk : k ≤ 1099511627776) (hl : n ≤ 4294967296) :
    Calls Tryd.prog 34 #[v, .int .i64 kz] w (Quiet (.int .i64 (kz + (n : Int))) w) := by
  subst hz
  exact heldByteS_any v k n w h hk hl

/-- What a law answers: true; nothing that was there has turned. -/
def Yes (w : World) (e : Ending) (w' : World) : Prop := e = .returned (.bool true) ∧ Below w.heap.size w w'

theorem lt_of_cell {w : World} {b off : Nat} {u : Value} (h : w.cell? ⟨b, off, none⟩ = some u) : b < w.heap.size := by
  rcases Nat.lt_or_ge b w.heap.size with hlt | hge
  · exact hlt
  · simp [World.cell?, Array.getElem?_eq_none hge] at h

/-- A slice of bytes that came in reads as a list of bytes. -/
theorem sl_of_row {w : World} {a : Option Addr} {len cap : Nat} {zs : List Int}
    (h : (a = none ∧ len = 0 ∧ cap = 0 ∧ zs = []) ∨
      ∃ x, a = some x ∧ len ≤ cap ∧ cap ≤ maxLen ∧ zs.length = cap ∧ (∀ i, i < zs.length → w.cell? (x.add i) = some (.int .u8 (zs.getD i 0))) ∧ ∀ n ∈ zs, (Lit.int .u8 n).wf = true) :
    ∃ l : List UInt8, l.length = len ∧ Sl w w.heap.size (.slice a len cap) l := by
  rcases h with ⟨rfl, rfl, rfl, rfl⟩ | ⟨x, rfl, h1, h2, h3, h4, h5⟩
  · exact ⟨[], rfl, Sl.nil_⟩
  · have hlen : ((zs.take len).map fun z => UInt8.ofNat z.toNat).length = len := by simp; omega
    refine ⟨(zs.take len).map fun z => UInt8.ofNat z.toNat, hlen, ?_⟩
    refine ⟨some x, cap, by rw [hlen], by rw [hlen]; exact h1, h2, (fun e => by cases e), fun hp => ?_⟩
    rw [hlen] at hp ⊢
    obtain ⟨b, off, spot⟩ := x
    have hc0 := h4 0 (by omega)
    have hspot : spot = none := by simpa [Addr.add] using World.cell?_spot hc0
    subst hspot
    refine ⟨b, off, rfl, lt_of_cell (off := off) (by simpa [Addr.add] using hc0), fun k hk => ?_⟩
    have hck := h4 k (by omega)
    have hz : (zs.getD k 0) = bt ((zs.take len).map fun z => UInt8.ofNat z.toNat) k := by
      have hw := h5 (zs[k]) (List.getElem_mem (by omega))
      have hw' : 0 ≤ zs[k] ∧ zs[k] ≤ 255 := by
        simp [Lit.wf, IntKind.min, IntKind.max, IntKind.signed, IntKind.bits] at hw
        omega
      simp [bt, List.getD_eq_getElem?_getD, List.getElem?_take_of_lt hk, List.getElem?_eq_getElem (show k < zs.length by omega)]
      omega
    rw [hz] at hck
    have e : (⟨b, off, none⟩ : Addr).add k = ⟨b, off + k, none⟩ := by
      unfold Addr.add
      split
      · rename_i h0; subst h0; rfl
      · rfl
    rw [e] at hck
    exact hck
end Go.Proofs.YtopbalemfljphaaDoor

/- The contracts of the functions that write numbers: PutVar, VarSize and what they call, as the program has them and as their model has them. -/
namespace Go.Proofs.YtopbalemfljphaaDoor
open Go.ChangeShapes Go.WideShapes Go.ChangeAt Go.RowKit

/-- The call returns a new row that reads as l, and x beside it; nothing that was there has turned. -/
def Fresh2 (w : World) (l : List UInt8) (x : Value) (e : Ending) (w' : World) : Prop :=
  ∃ u, e = .returned (.tuple #[u, x]) ∧ Own 5 w' w.heap.size u l ∧ Below w.heap.size w w'

/-- spec.l01In. -/
theorem l01In_yes (n a b : Int) (w : World) (h0 : a ≤ n) (h1 : n ≤ b) :
    Calls Tryd.prog 60 #[.int .i64 n, .int .i64 a, .int .i64 b] w fun e w' => e = .returned (.bool true) ∧ w = w' := by
  go_enter Tryd.func60, Tryd.ntmps60
  go_wp2
  go_ret
  exact ⟨rfl, rfl⟩
theorem l01In_no (n a b : Int) (w : World) (h : ¬ (a ≤ n ∧ n ≤ b)) :
    Calls Tryd.prog 60 #[.int .i64 n, .int .i64 a, .int .i64 b] w fun e w' => e = .returned (.bool false) ∧ w = w' := by
  by_cases h0 : a ≤ n
  · have h1 : b < n := by omega
    clear h
    go_enter Tryd.func60, Tryd.ntmps60
    go_wp2
    go_ret
    exact ⟨by simp; omega, rfl⟩
  · have h1 : n < a := by omega
    clear h h0
    go_enter Tryd.func60, Tryd.ntmps60
    go_wp2
    go_ret
    exact ⟨rfl, rfl⟩
set_option maxHeartbeats 400000 in
theorem l01Copy_any (v : Value) (l : List UInt8) (w : World) (h : Sl w w.heap.size v l) (hl : l.length ≤ 4294967296) :
    Calls Tryd.prog 96 #[v] w (Fresh w l) := by
  obtain ⟨i0, hi, hz0, hz1, hz2⟩ := info_parts u8info
  have hown : Own 5 (w.alloc (.cells #[] 5)) w.heap.size (.slice (some ⟨w.heap.size, 0, none⟩) 0 0) [] :=
    World.ownsRow_lit w #[] 0 (Nat.le_refl _) (by simp [maxLen]) rfl
  have hb : Below w.heap.size w (w.alloc (.cells #[] 5)) := (Below.refl _ _).alloc (Nat.le_refl _) _
  have hs := h.up hb
  go_enter Tryd.func96, Tryd.ntmps96
  go_wp2_with (at_builtin; refine wpList_appS (W := w) rfl _ _ 24 rfl 5 i0 Tryd.underlying24 hi hz0 hz1 hz2 _ [] rfl _ l rfl hs hown hb (by simp; omega) ?_; intro v1 w1 hown1 hb1)
  go_ret
  exact ⟨v1, rfl, by simpa using hown1, hb1⟩

set_option maxHeartbeats 400000 in
theorem joined_any (v u : Value) (l m : List UInt8) (w : World) (h : Sl w w.heap.size v l) (h' : Sl w w.heap.size u m) (hl : l.length ≤ 4294967296) (hm : m.length ≤ 4294967296) :
    Calls Tryd.prog 99 #[v, u] w (Fresh w (l ++ m)) := by
  obtain ⟨i0, hi, hz0, hz1, hz2⟩ := info_parts u8info
  have k := h
  have k' := h'
  obtain ⟨A, c, rfl, h1, h2, h0, h3⟩ := h
  obtain ⟨A', c', rfl, h1', h2', h0', h3'⟩ := h'
  have hby : i0.bytes * (l.length + m.length) ≤ 281474976710656 := by rw [hz2]; omega
  have hml : l.length + m.length ≤ maxLen := by unfold maxLen; omega
  unfold maxLen at h2 h2'
  clear h0 h0' h3 h3'
  go_enter Tryd.func99, Tryd.ntmps99
  go_wp2_with (first
    | (at_make
       refine wpList_make_own _ rfl _ _ _ rfl w.heap.size 5 i0 (.int .u8 0) 1 Tryd.underlying24 hi hz0 hz1 .i64 .i64 _ (l.length + m.length) rfl rfl (by simp) hby hml (Nat.le_refl _) ?_
       intro w1 hown1 hg1
       have hb1 : Below w.heap.size w w1 := (Below.refl _ _).grown hg1 (Nat.le_refl _) (by simp)
       have ks := k.up hb1
       have tok1 : True := trivial)
    | (at_builtin
       have _t := tok1
       refine wpList_appS (W := w) rfl _ _ 24 rfl 5 i0 Tryd.underlying24 hi hz0 hz1 hz2 _ [] rfl _ l rfl ks hown1 hb1 (by simp; omega) ?_
       intro v2 w2 hown2 hb2
       clear tok1
       have ks' := k'.up hb2)
    | (at_builtin
       refine wpList_appS (W := w) rfl _ _ 24 rfl 5 i0 Tryd.underlying24 hi hz0 hz1 hz2 _ ([] ++ l) rfl _ m rfl ks' hown2 hb2 (by simp; omega) ?_
       intro v3 w3 hown3 hb3))
  go_ret
  exact ⟨v3, rfl, by simpa using hown3, hb3⟩

/-- How many bytes PutVar writes. -/
def sizeV (n : Int) : Nat := (putVarL [] n).length
end Go.Proofs.YtopbalemfljphaaDoor

/- The contracts of the functions on strings and bytes: SameBytes, ErName. -/
namespace Go.Proofs.YtopbalemfljphaaDoor
open Go.ChangeShapes Go.WideShapes Go.ChangeAt Go.RowKit

/-- The string of a list of bytes. -/
def ba (l : List UInt8) : ByteArray := ⟨l.toArray⟩
theorem ba_inj {l m : List UInt8} (h : ba l = ba m) : l = m := by
  have := congrArg (fun s : ByteArray => s.data.toList) h
  simpa [ba] using this
theorem ba_toList (l : List UInt8) : (ba l).data.toList = l := by simp [ba]
theorem ba_size (l : List UInt8) : (ba l).size = l.length := by simp [ba, ByteArray.size]

theorem ba_bytes (l : List UInt8) : (ba l).toList = l := by rw [ByteArray.toList_eq, ba_toList]

/-- 'string(b)'. -/
theorem run_conv {P : Program} {w : World} {B : Nat} {v : Value} {l : List UInt8} (src e dst : TypeId) (hs : P.underlying src = some (.slice e)) (he : P.underlying e = some (.int .u8)) (hd : P.underlying dst = some .string)
    (h : Sl w B v l) : (convert src dst v).run P w = .ok (.string (ba l)) w := by
  obtain ⟨A, c, rfl, h1, h2, h0, h3⟩ := h
  rcases A with _ | ad
  · have hm0 : l = [] := by
      rcases l with _ | ⟨y, m⟩
      · rfl
      · obtain ⟨b, off, e, _⟩ := h3 (by simp)
        cases e
    subst hm0
    exact run_convert_bytes_nil w src e hs he _ _ dst hd
  · rw [run_convert_bytes_string w src dst e _ _ c hs he hd]
    have hl : (loadCells ad l.length).run P w = .ok ((l.map fun c => (c.toNat : Int)).map (Value.int .u8)).toArray w := by
      have := run_loadCells_list (P := P) w ad (us l) (fun j v hj => by
        have hjm : j < l.length := by
          rw [← us_length l]
          exact (List.getElem?_eq_some_iff.1 hj).1
        obtain ⟨b, off, e, _, hc⟩ := h3 (by omega)
        injection e with e
        subst e
        rw [us_get l j hjm] at hj
        injection hj with hj
        subst hj
        have := hc j hjm
        unfold Addr.add
        split
        · rename_i h0; subst h0; simpa using this
        · exact this)
      rw [us_length] at this
      rw [this]
      simp [us]
    rw [run_bytesToString w ad l.length c _ hl, foldl_push_bytes]
    congr 2
    apply ByteArray.ext
    apply Array.toList_inj.1
    have e : ((fun n : Int => UInt8.ofNat n.toNat) ∘ fun c : UInt8 => (c.toNat : Int)) = id := by
      funext c
      simp
    simp [ba, ByteArray.empty, ByteArray.emptyWithCapacity, e]
    rfl

theorem specSameBytes_any (v u : Value) (l m : List UInt8) (w : World) (h : Sl w w.heap.size v l) (h' : Sl w w.heap.size u m) :
    Calls Tryd.prog 85 #[v, u] w fun e w' => e = .returned (.bool (l == m)) ∧ w = w' := by
  have c1 := run_conv (P := Tryd.prog) 24 5 9 Tryd.underlying24 Tryd.underlying5 Tryd.underlying9 h
  have c2 := run_conv (P := Tryd.prog) 24 5 9 Tryd.underlying24 Tryd.underlying5 Tryd.underlying9 h'
  go_enter Tryd.func85, Tryd.ntmps85
  go_wp2
  go_ret
  exact ⟨by rw [ba_bytes, ba_bytes]; rfl, rfl⟩
theorem bytesEqual_any (v u : Value) (l m : List UInt8) (w : World) (h : Sl w w.heap.size v l) (h' : Sl w w.heap.size u m) :
    Calls Tryd.prog 101 #[v, u] w fun e w' => e = .returned (.bool (l == m)) ∧ w = w' := by
  have c1 := run_conv (P := Tryd.prog) 24 5 9 Tryd.underlying24 Tryd.underlying5 Tryd.underlying9 h
  have c2 := run_conv (P := Tryd.prog) 24 5 9 Tryd.underlying24 Tryd.underlying5 Tryd.underlying9 h'
  go_enter Tryd.func101, Tryd.ntmps101
  go_wp2
  go_ret
  exact ⟨by rw [ba_bytes, ba_bytes]; rfl, rfl⟩
theorem implSameBytes_any (v u : Value) (l m : List UInt8) (w : World) (h : Sl w w.heap.size v l) (h' : Sl w w.heap.size u m) :
    Calls Tryd.prog 90 #[v, u] w fun e w' => e = .returned (.bool (l == m)) ∧ w = w' := by
  go_enter Tryd.func90, Tryd.ntmps90
  go_wp2_with (go_at_call 101; refine (bytesEqual_any _ _ l m _ h h').mono ?_; rintro e w' ⟨rfl, rfl⟩)
  go_ret
  exact ⟨rfl, rfl⟩
end Go.Proofs.YtopbalemfljphaaDoor

/- The contracts of the tests whether a row is a hash, as the program has it and as its model has it. -/
namespace Go.Proofs.YtopbalemfljphaaDoor
open Go.ChangeShapes Go.WideShapes Go.ChangeAt Go.RowKit

theorem hash_yes {l : List UInt8} (h : l.length = 32) : ((l.length : Int) == 32) = true := by rw [h]; rfl
theorem hash_no {l : List UInt8} (h : l.length ≠ 32) : ((l.length : Int) == 32) = false := by rw [beq_eq_false_iff_ne]; omega
end Go.Proofs.YtopbalemfljphaaDoor

/- The contract of SplitAt as its model has it. -/
namespace Go.Proofs.YtopbalemfljphaaDoor
open Go.ChangeShapes Go.WideShapes Go.ChangeAt Go.RowKit

set_option maxHeartbeats 1000000 in
theorem specSplitAt_any (n : Int) (w : World) (hn : n ≤ 9223372036854775807) :
    Calls Tryd.prog 78 #[.int .i64 n] w (fun e w' => e = .returned (.int .i64 (splitZ n)) ∧ w' = w) := by
  by_cases hlt : n < 2
  · rw [splitZ_small hlt]
    go_enter Tryd.func78, Tryd.ntmps78
    go_wp2
    go_ret
    exact ⟨rfl, rfl⟩
  · obtain ⟨m, rfl⟩ := Int.eq_ofNat_of_zero_le (show 0 ≤ n by omega)
    obtain ⟨R, hR⟩ : ∃ R, R = splitN m := ⟨_, rfl⟩
    have hsp : ∀ j, 2 ^ j < m → ¬ (2 ^ j < m - 2 ^ j) → R = 2 ^ j := fun j h1 h2 => hR.trans (splitN_of h1 (by omega))
    rw [splitZ_nat, ← hR]
    clear hR
    have HSP := Lib.hid hsp
    clear hsp
    go_enter Tryd.func78, Tryd.ntmps78
    go_wp2
    go_loopw [3] (fun q wr => ∃ k j : Nat, q = .int .i64 (k : Int) ∧ Hid (k = 2 ^ j) ∧ k < m ∧ 0 < k ∧ wr = w)
      (fun q _ => m - (intOf q).toNat)
    case atStart => exact ⟨1, 0, rfl, Lib.hid rfl, by omega, by omega, rfl⟩
    case round =>
      obtain ⟨k, j, rfl, hkj, hkm, hk0, rfl⟩ := hrel
      by_cases hgo : k < m - k
      · have hgi : (k : Int) < (m : Int) - (k : Int) := by omega
        go_wp2
        go_roundw
        case rel => exact ⟨2 * k, j + 1, by go_num, Lib.hid (by rw [hkj.out, Nat.pow_succ]; omega), by omega, by omega, trivial⟩
        case measure => simp [intOf]; omega
      · have hgi : ¬ (k : Int) < (m : Int) - (k : Int) := by omega
        obtain rfl : R = k := by
          have := HSP.out j
          rw [← hkj.out] at this
          exact this hkm hgo
        go_wp2
        go_ret
        exact ⟨rfl, rfl⟩
end Go.Proofs.YtopbalemfljphaaDoor
