/- Put: Base, Put, Str, Hash32, SplitS. -/
import Derived.Test.YtemjagdlbehboaaDoorRows
import Derived.Test.YtemjagdlbehboaaDoorMem
import Derived.WalkKit
import Derived.ProofKit
import Derived.OpenShut
import Derived.LoopTactic
import Derived.Outline
import Derived.Handy
import Derived.BigQuiet
import Derived.Deep.QuietTactic
import Derived.OwnWalk
import Derived.Lib.Hide
import Derived.KernelRfl
import Derived.Laws.BytesArg

/- The contracts of the helpers that every exact law calls: toByteS, eqByteS, markByteS, heldByteS. -/
namespace Go.Proofs.YtemjagdlbehboaaDoor
open Go.ChangeShapes Go.WideShapes Go.ChangeAt Go.RowKit

theorem u8info : (Tryd.prog.info? 5).map (fun i => (i.zero, i.size, i.bytes)) = some (some (.int .u8 0), 1, 1) := by kernel_rfl

/-- The call returns a new row that reads as l; nothing that was there has turned. -/
def Fresh (w : World) (l : List UInt8) (e : Ending) (w' : World) : Prop :=
  ∃ u, e = .returned u ∧ Own 5 w' w.heap.size u l ∧ Below w.heap.size w w'

/-- What toByteS has made after k rounds. -/
def TB (l : List UInt8) (k : Nat) : List UInt8 := l.take k ++ List.replicate (l.length - k) 0
theorem TB_length (l : List UInt8) (k : Nat) (h : k ≤ l.length) : (TB l k).length = l.length := by simp [TB]; omega
theorem TB_zero (l : List UInt8) : us (TB l 0) = List.replicate l.length (.int .u8 0) := by simp [TB, us]
theorem TB_full (l : List UInt8) : TB l l.length = l := by simp [TB]
theorem TB_set (l : List UInt8) (k : Nat) (h : k < l.length) : (us (TB l k)).set k (.int .u8 (bt l k)) = us (TB l (k + 1)) := by
  have e : bt l k = ((l[k]).toNat : Int) := by simp [bt, List.getD_eq_getElem?_getD, List.getElem?_eq_getElem h]
  rw [e, us_set]
  congr 1
  apply List.ext_getElem?
  intro j
  simp only [TB, List.getElem?_set, List.length_append, List.length_take, List.length_replicate]
  rcases Nat.lt_trichotomy j k with hj | hj | hj
  · rw [if_neg (by omega), List.getElem?_append_left (by simp; omega), List.getElem?_append_left (by simp; omega), List.getElem?_take_of_lt (by omega), List.getElem?_take_of_lt (by omega)]
  · subst hj
    rw [if_pos rfl, if_pos (by omega), List.getElem?_append_left (by simp; omega), List.getElem?_take_of_lt (by omega), List.getElem?_eq_getElem h]
  · rw [if_neg (by omega), List.getElem?_append_right (by simp; omega), List.getElem?_append_right (by simp; omega), List.getElem?_replicate, List.getElem?_replicate]
    simp only [List.length_take]
    by_cases hjl : j < l.length
    · rw [if_pos (by omega), if_pos (by omega)]
    · rw [if_neg (by omega), if_neg (by omega)]

/-- a and b read alike: true; the call only reads. -/
def Quiet (x : Value) (w : World) (e : Ending) (w' : World) : Prop := e = .returned x ∧ ∃ n, w' = w.drewN n

/-- The bytes that markByteS writes: k, k + 1, .. -/
def marks (k n : Nat) : List UInt8 := (List.range n).map fun i => UInt8.ofNat (k + i)
theorem marks_length (k n : Nat) : (marks k n).length = n := by simp [marks]
theorem marks_succ (k n : Nat) : marks k (n + 1) = marks k n ++ [UInt8.ofNat (k + n)] := by simp [marks, List.range_succ]
theorem bt_marks (k n j : Nat) (h : j < n) : bt (marks k n) j = (((k + j) % 256 : Nat) : Int) := by
  simp [bt, marks, List.getD_eq_getElem?_getD, h]
/-- What markByteS has written after j rounds. -/
def MK (l : List UInt8) (k j : Nat) : List UInt8 := marks k j ++ l.drop j
theorem MK_zero (l : List UInt8) (k : Nat) : MK l k 0 = l := by simp [MK, marks]
theorem MK_full (l : List UInt8) (k : Nat) : MK l k l.length = marks k l.length := by simp [MK]
theorem MK_length (l : List UInt8) (k j : Nat) (h : j ≤ l.length) : (MK l k j).length = l.length := by simp [MK, marks]; omega
theorem MK_set (l : List UInt8) (k j : Nat) (h : j < l.length) : (us (MK l k j)).set j (.int .u8 (((k : Int) + (j : Int)) % 256)) = us (MK l k (j + 1)) := by
  have e : (((k : Int) + (j : Int)) % 256) = ((UInt8.ofNat (k + j)).toNat : Int) := by simp
  rw [e, us_set]
  congr 1
  unfold MK
  rw [marks_succ, List.set_append_right _ _ (by simp [marks]), List.append_assoc]
  congr 1
  rw [marks_length, Nat.sub_self, List.drop_eq_getElem_cons h]
  rfl

/-- Every byte of v has been written over, and nothing else. -/
def Marked (v : Value) (l : List UInt8) (k B : Nat) (w : World) (e : Ending) (w' : World) : Prop :=
  e = .returned (.int .i64 ((k : Int) + (l.length : Int))) ∧ Own 5 w' B v (marks k l.length) ∧ w.grownBy w' v.ownBlock

/-! The same at any spelling of k. -/
/-- What a law answers: true; nothing that was there has turned. -/
def Yes (w : World) (e : Ending) (w' : World) : Prop := e = .returned (.bool true) ∧ Below w.heap.size w w'

theorem lt_of_cell {w : World} {b off : Nat} {u : Value} (h : w.cell? ⟨b, off, none⟩ = some u) : b < w.heap.size := by
  rcases Nat.lt_or_ge b w.heap.size with hlt | hge
  · exact hlt
  · simp [World.cell?, Array.getElem?_eq_none hge] at h

/-- A slice of bytes that came in reads as a list of bytes. -/
theorem sl_of_row {w : World} {a : Option Addr} {len cap : Nat} {zs : List Int}
    (h : (a = none ∧ len = 0 ∧ cap = 0 ∧ zs = []) ∨
      ∃ x, a = some x ∧ len ≤ cap ∧ cap ≤ maxLen ∧ zs.length = cap ∧ (∀ i, i < zs.length → w.cell? (x.add i) = some (.int .u8 (zs.getD i 0))) ∧ ∀ n ∈ zs, (Lit.int .u8 n).wf = true) :
    ∃ l : List UInt8, l.length = len ∧ Sl w w.heap.size (.slice a len cap) l := by
  rcases h with ⟨rfl, rfl, rfl, rfl⟩ | ⟨x, rfl, h1, h2, h3, h4, h5⟩
  · exact ⟨[], rfl, Sl.nil_⟩
  · have hlen : ((zs.take len).map fun z => UInt8.ofNat z.toNat).length = len := by simp; omega
    refine ⟨(zs.take len).map fun z => UInt8.ofNat z.toNat, hlen, ?_⟩
    refine ⟨some x, cap, by rw [hlen], by rw [hlen]; exact h1, h2, (fun e => by cases e), fun hp => ?_⟩
    rw [hlen] at hp ⊢
    obtain ⟨b, off, spot⟩ := x
    have hc0 := h4 0 (by omega)
    have hspot : spot = none := by simpa [Addr.add] using World.cell?_spot hc0
    subst hspot
    refine ⟨b, off, rfl, lt_of_cell (off := off) (by simpa [Addr.add] using hc0), fun k hk => ?_⟩
    have hck := h4 k (by omega)
    have hz : (zs.getD k 0) = bt ((zs.take len).map fun z => UInt8.ofNat z.toNat) k := by
      have hw := h5 (zs[k]) (List.getElem_mem (by omega))
      have hw' : 0 ≤ zs[k] ∧ zs[k] ≤ 255 := by
        simp [Lit.wf, IntKind.min, IntKind.max, IntKind.signed, IntKind.bits] at hw
        omega
      simp [bt, List.getD_eq_getElem?_getD, List.getElem?_take_of_lt hk, List.getElem?_eq_getElem (show k < zs.length by omega)]
      omega
    rw [hz] at hck
    have e : (⟨b, off, none⟩ : Addr).add k = ⟨b, off + k, none⟩ := by
      unfold Addr.add
      split
      · rename_i h0; subst h0; rfl
      · rfl
    rw [e] at hck
    exact hck
end Go.Proofs.YtemjagdlbehboaaDoor

/- The contracts of the functions that write numbers: PutVar, VarSize and what they call, as the program has them and as their model has them. -/
namespace Go.Proofs.YtemjagdlbehboaaDoor
open Go.ChangeShapes Go.WideShapes Go.ChangeAt Go.RowKit

/-- The call returns a new row that reads as l, and x beside it; nothing that was there has turned. -/
def Fresh2 (w : World) (l : List UInt8) (x : Value) (e : Ending) (w' : World) : Prop :=
  ∃ u, e = .returned (.tuple #[u, x]) ∧ Own 5 w' w.heap.size u l ∧ Below w.heap.size w w'

/-- spec.l01In. -/
theorem l01In_yes (n a b : Int) (w : World) (h0 : a ≤ n) (h1 : n ≤ b) :
    Calls Tryd.prog 21 #[.int .i64 n, .int .i64 a, .int .i64 b] w fun e w' => e = .returned (.bool true) ∧ w = w' := by
  go_enter Tryd.func21, Tryd.ntmps21
  go_wp2
  go_ret
  exact ⟨rfl, rfl⟩
theorem l01In_no (n a b : Int) (w : World) (h : ¬ (a ≤ n ∧ n ≤ b)) :
    Calls Tryd.prog 21 #[.int .i64 n, .int .i64 a, .int .i64 b] w fun e w' => e = .returned (.bool false) ∧ w = w' := by
  by_cases h0 : a ≤ n
  · have h1 : b < n := by omega
    clear h
    go_enter Tryd.func21, Tryd.ntmps21
    go_wp2
    go_ret
    exact ⟨by simp; omega, rfl⟩
  · have h1 : n < a := by omega
    clear h h0
    go_enter Tryd.func21, Tryd.ntmps21
    go_wp2
    go_ret
    exact ⟨rfl, rfl⟩
theorem l01Num_yes (n : Int) (w : World) (h0 : 0 ≤ n) (h1 : n ≤ 1152921504606846975) :
    Calls Tryd.prog 22 #[.int .i64 n] w fun e w' => e = .returned (.bool true) ∧ w = w' := by
  go_enter Tryd.func22, Tryd.ntmps22
  go_wp2_with (go_at_call 21; refine (l01In_yes _ _ _ _ h0 h1).mono ?_; rintro e w' ⟨rfl, rfl⟩)
  go_ret
  exact ⟨rfl, rfl⟩
theorem l01Num_no (n : Int) (w : World) (h : ¬ (0 ≤ n ∧ n ≤ 1152921504606846975)) :
    Calls Tryd.prog 22 #[.int .i64 n] w fun e w' => e = .returned (.bool false) ∧ w = w' := by
  have H := Lib.hid h
  clear h
  go_enter Tryd.func22, Tryd.ntmps22
  go_wp2_with (go_at_call 21; refine (l01In_no _ _ _ _ H.out).mono ?_; rintro e w' ⟨rfl, rfl⟩)
  go_ret
  exact ⟨rfl, rfl⟩
theorem isNum_yes (n : Int) (w : World) (h0 : 0 ≤ n) (h1 : n ≤ 1152921504606846975) :
    Calls Tryd.prog 25 #[.int .i64 n] w fun e w' => e = .returned (.bool true) ∧ w = w' := by
  go_enter Tryd.func25, Tryd.ntmps25
  go_wp2
  go_ret
  exact ⟨rfl, rfl⟩
theorem isNum_no (n : Int) (w : World) (h : ¬ (0 ≤ n ∧ n ≤ 1152921504606846975)) :
    Calls Tryd.prog 25 #[.int .i64 n] w fun e w' => e = .returned (.bool false) ∧ w = w' := by
  by_cases h0 : 0 ≤ n
  · have h1 : 1152921504606846975 < n := by omega
    clear h
    go_enter Tryd.func25, Tryd.ntmps25
    go_wp2
    go_ret
    exact ⟨by simp; omega, rfl⟩
  · have h1 : n < 0 := by omega
    clear h h0
    go_enter Tryd.func25, Tryd.ntmps25
    go_wp2
    go_ret
    exact ⟨rfl, rfl⟩

/-- How many bytes PutVar writes. -/
def sizeV (n : Int) : Nat := (putVarL [] n).length
end Go.Proofs.YtemjagdlbehboaaDoor

/- The contracts of the functions on strings and bytes: SameBytes, ErName. -/
namespace Go.Proofs.YtemjagdlbehboaaDoor
open Go.ChangeShapes Go.WideShapes Go.ChangeAt Go.RowKit

/-- The string of a list of bytes. -/
def ba (l : List UInt8) : ByteArray := ⟨l.toArray⟩
theorem ba_inj {l m : List UInt8} (h : ba l = ba m) : l = m := by
  have := congrArg (fun s : ByteArray => s.data.toList) h
  simpa [ba] using this
theorem ba_toList (l : List UInt8) : (ba l).data.toList = l := by simp [ba]
theorem ba_size (l : List UInt8) : (ba l).size = l.length := by simp [ba, ByteArray.size]

theorem ba_bytes (l : List UInt8) : (ba l).toList = l := by rw [ByteArray.toList_eq, ba_toList]

/-- 'string(b)'. -/
theorem run_conv {P : Program} {w : World} {B : Nat} {v : Value} {l : List UInt8} (src e dst : TypeId) (hs : P.underlying src = some (.slice e)) (he : P.underlying e = some (.int .u8)) (hd : P.underlying dst = some .string)
    (h : Sl w B v l) : (convert src dst v).run P w = .ok (.string (ba l)) w := by
  obtain ⟨A, c, rfl, h1, h2, h0, h3⟩ := h
  rcases A with _ | ad
  · have hm0 : l = [] := by
      rcases l with _ | ⟨y, m⟩
      · rfl
      · obtain ⟨b, off, e, _⟩ := h3 (by simp)
        cases e
    subst hm0
    exact run_convert_bytes_nil w src e hs he _ _ dst hd
  · rw [run_convert_bytes_string w src dst e _ _ c hs he hd]
    have hl : (loadCells ad l.length).run P w = .ok ((l.map fun c => (c.toNat : Int)).map (Value.int .u8)).toArray w := by
      have := run_loadCells_list (P := P) w ad (us l) (fun j v hj => by
        have hjm : j < l.length := by
          rw [← us_length l]
          exact (List.getElem?_eq_some_iff.1 hj).1
        obtain ⟨b, off, e, _, hc⟩ := h3 (by omega)
        injection e with e
        subst e
        rw [us_get l j hjm] at hj
        injection hj with hj
        subst hj
        have := hc j hjm
        unfold Addr.add
        split
        · rename_i h0; subst h0; simpa using this
        · exact this)
      rw [us_length] at this
      rw [this]
      simp [us]
    rw [run_bytesToString w ad l.length c _ hl, foldl_push_bytes]
    congr 2
    apply ByteArray.ext
    apply Array.toList_inj.1
    have e : ((fun n : Int => UInt8.ofNat n.toNat) ∘ fun c : UInt8 => (c.toNat : Int)) = id := by
      funext c
      simp
    simp [ba, ByteArray.empty, ByteArray.emptyWithCapacity, e]
    rfl

end Go.Proofs.YtemjagdlbehboaaDoor

/- The contracts of the tests whether a row is a hash, as the program has it and as its model has it. -/
namespace Go.Proofs.YtemjagdlbehboaaDoor
open Go.ChangeShapes Go.WideShapes Go.ChangeAt Go.RowKit

theorem hash_yes {l : List UInt8} (h : l.length = 32) : ((l.length : Int) == 32) = true := by rw [h]; rfl
theorem hash_no {l : List UInt8} (h : l.length ≠ 32) : ((l.length : Int) == 32) = false := by rw [beq_eq_false_iff_ne]; omega
end Go.Proofs.YtemjagdlbehboaaDoor

/- The contract of SplitAt as its model has it. -/
namespace Go.Proofs.YtemjagdlbehboaaDoor
open Go.ChangeShapes Go.WideShapes Go.ChangeAt Go.RowKit

end Go.Proofs.YtemjagdlbehboaaDoor
