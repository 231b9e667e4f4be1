/- The contracts of the helpers on slices of strings that exact laws call: eqStringS, markText, markStringS, heldStringS. -/
import Derived.Test.YtemjagdlbehboaaDec
import Derived.Test.YtemjagdlbehboaaStrRow
import Derived.Deep.RegionHeld3
namespace Go.Proofs.Ytemjagdlbehboaa
open Go.ChangeShapes Go.WideShapes Go.ChangeAt Go.RowKit

theorem strinfo : (Try.prog.info? 9).map (fun i => (i.zero, i.size, i.bytes)) = some (some (.string ⟨#[]⟩), 1, 16) := by kernel_rfl

/-- The call returns a new row of strings that reads as l; nothing that was there has turned. -/
def FreshT (w : World) (l : List ByteArray) (e : Ending) (w' : World) : Prop :=
  ∃ u, e = .returned u ∧ OwnT 9 w' w.heap.size u l ∧ Below w.heap.size w w'

set_option maxHeartbeats 400000 in
theorem eqStringS_any (v u : Value) (l : List ByteArray) (w : World) (h : SlT w w.heap.size v l) (h' : SlT w w.heap.size u l) :
    Calls Try.prog 11 #[v, u] w (Quiet (.bool true) w) := by
  obtain ⟨A, c, rfl, h1, h2, h0, h3⟩ := h
  obtain ⟨A', c', rfl, h1', h2', h0', h3'⟩ := h'
  unfold maxLen at h2 h2'
  clear h0 h0'
  have hne : ((l.length : Int) != (l.length : Int)) = false := by simp
  go_enter Try.func11, Try.ntmps11
  go_wp2
  go_loopw [5] (fun i wr => ∃ k : Nat, k ≤ l.length ∧ i = .int .i64 k ∧ ∃ n, wr = w.drewN n)
    (fun i _ => l.length - (intOf i).toNat)
  case atStart => exact ⟨0, Nat.zero_le _, rfl, 0, rfl⟩
  case round =>
    obtain ⟨k, hk, rfl, n, rfl⟩ := hrel
    by_cases hlt : k < l.length
    · obtain ⟨b, off, rfl, hbb, hcell⟩ := h3 (by omega)
      obtain ⟨b', off', rfl, hbb', hcell'⟩ := h3' (by omega)
      have hc0 := hcell k hlt
      have hc1 := hcell' k hlt
      obtain ⟨x, hx⟩ : ∃ x, x = tt l k := ⟨_, rfl⟩
      rw [← hx] at hc0 hc1
      have Hx := Lib.hid hx
      clear hx
      have hbn : (x.toList != x.toList) = false := by simp
      clear hcell hcell'
      go_wp2
      go_quiet (fail)
      go_wp2
      go_roundw
      case rel => exact ⟨k + 1, by omega, by go_num, n + nq, rfl⟩
      case measure => simp [intOf]; omega
    · obtain rfl : k = l.length := by omega
      go_wp2
      go_ret
      exact ⟨rfl, n, rfl⟩

/-- The digits of a number; of 0 none. -/
def digs (m : Nat) : List UInt8 := if m = 0 then [] else Lib.decDigits m
theorem digs_step {m : Nat} (h : 0 < m) : digs m = digs (m / 10) ++ [UInt8.ofNat (48 + m % 10)] := by
  unfold digs
  rw [if_neg (by omega)]
  by_cases hs : m < 10
  · rw [if_pos (by omega), dec_small hs, show m % 10 = m by omega]; rfl
  · rw [if_neg (by omega), dec_big (by omega)]
theorem digs_len {m : Nat} (h : m ≤ 4294967296) : (digs m).length ≤ 10 := by
  unfold digs
  split
  · simp
  · exact dec_len 9 m (by omega)
/-- The string that markText makes of k. -/
def mText (k : Nat) : ByteArray := ba (109 :: digs k)
theorem mText_size {k : Nat} (h : k ≤ 4294967296) : (mText k).size ≤ 11 := by
  have := digs_len h
  rw [mText, ba_size, List.length_cons]
  omega

set_option maxRecDepth 100000 in
set_option maxHeartbeats 1000000 in
theorem markText_any (k : Nat) (w : World) (h0 : 0 < k) (hk : k ≤ 4294967296) :
    Calls Try.prog 22 #[.int .i64 (k : Int)] w fun e w' => e = .returned (.string (mText k)) ∧ Below w.heap.size w w' := by
  have hn : ¬ ((k : Int) ≤ 0) := by omega
  have hd := digs_len hk
  obtain ⟨R, hR⟩ : ∃ R, R = mText k := ⟨_, rfl⟩
  rw [← hR]
  have HR := Lib.hid hR
  clear hR
  obtain ⟨z, hz⟩ : ∃ z : Int, z = (k : Int) := ⟨_, rfl⟩
  rw [← hz] at hn ⊢
  have Hz := Lib.hid hz
  clear hz
  go_enter Try.func22, Try.ntmps22
  go_wp2
  go_loopw [0, 3] (fun q s wr => ∃ (m : Nat) (t : ByteArray), q = .int .i64 m ∧ s = .string t ∧ m ≤ k ∧ digs m ++ t.data.toList = digs k ∧ Below w.heap.size w wr)
    (fun q _ _ => (intOf q).toNat)
  case atStart => exact ⟨k, ⟨#[]⟩, by rw [Hz.out], rfl, Nat.le_refl _, by simp, Below.refl _ _⟩
  case round =>
    obtain ⟨m, t, rfl, rfl, hm, ht, hbel⟩ := hrel
    have hts : t.size ≤ 10 := by
      have := congrArg List.length ht
      have e : t.data.toList.length = t.size := by rw [Array.length_toList]; rfl
      rw [List.length_append, e] at this
      omega
    have Ht := Lib.hid ht
    clear ht
    by_cases hpos : 0 < m
    · have hcv := conv_one (UInt8.ofNat (48 + m % 10)) (48 + (m : Int) % 10) (by simp; omega) wr
      obtain ⟨t1, ht1⟩ : ∃ t1, t1 = ba [UInt8.ofNat (48 + m % 10)] := ⟨_, rfl⟩
      rw [← ht1] at hcv
      have hs1 : t1.size ≤ 1 := by rw [ht1, ba_size]; simp
      have Ht1 := Lib.hid ht1
      clear ht1
      go_wp2
      go_roundw
      case rel => exact ⟨m / 10, t1 ++ t, by go_num, rfl, by omega, by rw [Joins.data_append, Ht1.out, ba_toList, ← List.append_assoc, ← digs_step hpos]; exact Ht.out, hbel.alloc hbel.size _⟩
      case measure => simp [intOf]; omega
    · obtain rfl : m = 0 := by omega
      have e : (⟨#[109]⟩ : ByteArray) ++ t = R := by
        rw [HR.out]
        refine ba_eq ?_
        rw [Joins.data_append, ← Ht.out]
        rfl
      have HE := Lib.hid e
      clear e
      go_wp2
      go_ret
      exact ⟨congrArg (fun s => Ending.returned (.string s)) HE.out, hbel⟩

/-- The strings that markStringS writes. -/
def marksT (k n : Nat) : List ByteArray := (List.range n).map fun (i : Nat) => mText (k + i)
theorem marksT_length (k n : Nat) : (marksT k n).length = n := by simp [marksT]
theorem marksT_succ (k n : Nat) : marksT k (n + 1) = marksT k n ++ [mText (k + n)] := by simp [marksT, List.range_succ]
theorem tt_marks (k n j : Nat) (h : j < n) : tt (marksT k n) j = mText (k + j) := by
  simp [tt, marksT, List.getD_eq_getElem?_getD, h]
/-- What markStringS has written after j rounds. -/
def MKT (l : List ByteArray) (k j : Nat) : List ByteArray := marksT k j ++ l.drop j
theorem MKT_zero (l : List ByteArray) (k : Nat) : MKT l k 0 = l := by simp [MKT, marksT]
theorem MKT_full (l : List ByteArray) (k : Nat) : MKT l k l.length = marksT k l.length := by simp [MKT]
theorem MKT_length (l : List ByteArray) (k j : Nat) (h : j ≤ l.length) : (MKT l k j).length = l.length := by simp [MKT, marksT]; omega
theorem MKT_set (l : List ByteArray) (k j : Nat) (h : j < l.length) : (ts (MKT l k j)).set j (.string (mText (k + j))) = ts (MKT l k (j + 1)) := by
  rw [ts_set]
  congr 1
  unfold MKT
  rw [marksT_succ, List.set_append_right _ _ (by simp [marksT]), List.append_assoc]
  congr 1
  rw [marksT_length, Nat.sub_self, List.drop_eq_getElem_cons h]
  rfl

set_option maxHeartbeats 400000 in
theorem markStringS_any (v : Value) (l : List ByteArray) (k B : Nat) (w : World) (h : OwnT 9 w B v l) (h0 : 0 < k) (hk : k ≤ 2147483648) (hl : l.length ≤ 2147483648) :
    Calls Try.prog 12 #[v, .int .i64 (k : Int)] w fun e w' => e = .returned (.int .i64 ((k : Int) + (l.length : Int))) ∧ OwnT 9 w' B v (marksT k l.length) ∧ w.grownBy w' v.ownBlock := by
  rcases h.2 with ⟨rfl, h0⟩ | ⟨g, cap, cur, rfl, hb, hg, hn, hm, hs, ht⟩
  · have : l = [] := List.eq_nil_of_length_eq_zero h0
    subst this
    go_enter Try.func12, Try.ntmps12
    go_wp2
    refine wp_loop_rounds 1 ?_
    rw [rounds_succ]
    go_wp2
    go_ret
    exact ⟨by simp, h, World.grownBy.refl _ _⟩
  · have hcap : l.length ≤ 9223372036854775807 := by omega
    clear hg hs ht hm
    go_enter Try.func12, Try.ntmps12
    go_wp2
    go_loopw [1, 5] (fun q i wr => ∃ j : Nat, j ≤ l.length ∧ i = .int .i64 j ∧ q = .int .i64 ((k + j : Nat) : Int) ∧ OwnT 9 wr B (.slice (some ⟨g, 0, none⟩) l.length cap) (MKT l k j) ∧ w.grownBy wr (some g))
      (fun _ i _ => l.length - (intOf i).toNat)
    case atStart => exact ⟨0, Nat.zero_le _, rfl, by simp, by rw [MKT_zero]; exact h, World.grownBy.refl _ _⟩
    case round =>
      obtain ⟨j, hj, rfl, rfl, hown, hgr⟩ := hrel
      by_cases hlt : j < l.length
      · go_wp2_with fail
        refine (markText_any (k + j) wr (by omega) (by omega)).mono ?_
        rintro e w1 ⟨rfl, hb1⟩
        replace hown := hown.up hb1
        replace hgr := gtrans hgr (grown_of_below hb1 (some g))
        unfold OwnT at hown
        rw [MKT_length l k j hj] at hown
        have hc1 := (World.ownsRow.cellAt hown j (by omega)).trans (ts_get (MKT l k j) j (by rw [MKT_length l k j hj]; exact hlt))
        have hf1 := World.ownsRow.frozenAt hown j
        have hst := World.ownsRow.stored hown j (.string (mText (k + j)))
        have hst1 := Lib.hid hst
        clear hst
        generalize hS : mText (k + j) = S at *
        have HS := Lib.hid hS
        clear hS
        go_wp2
        go_roundw
        case rel => exact ⟨j + 1, by omega, by go_num, by go_num, by unfold OwnT; rw [MKT_length l k (j + 1) (by omega), ← MKT_set l k j hlt, HS.out]; exact hst1.out.1, gtrans hgr hst1.out.2⟩
        case measure => simp [intOf]; omega
      · obtain rfl : j = l.length := by omega
        go_wp2
        go_ret
        exact ⟨by simp, by rw [MKT_full] at hown; exact hown, hgr⟩

set_option maxHeartbeats 400000 in
theorem heldStringS_any (v : Value) (k n : Nat) (w : World) (h : SlT w w.heap.size v (marksT k n)) (h0 : 0 < k) (hk : k ≤ 2147483648) (hl : n ≤ 2147483648) :
    Calls Try.prog 13 #[v, .int .i64 (k : Int)] w fun e w' => e = .returned (.int .i64 ((k : Int) + (n : Int))) ∧ Below w.heap.size w w' := by
  obtain ⟨A, c, rfl, h1, h2, h0, h3⟩ := h
  rw [marksT_length] at h1 h3 ⊢
  unfold maxLen at h2
  clear h0
  go_enter Try.func13, Try.ntmps13
  go_wp2
  go_loopw [1, 5] (fun q i wr => ∃ j : Nat, j ≤ n ∧ i = .int .i64 j ∧ q = .int .i64 ((k + j : Nat) : Int) ∧ Below w.heap.size w wr)
    (fun _ i _ => n - (intOf i).toNat)
  case atStart => exact ⟨0, Nat.zero_le _, rfl, by simp, Below.refl _ _⟩
  case round =>
    obtain ⟨j, hj, rfl, rfl, hbel⟩ := hrel
    by_cases hlt : j < n
    · obtain ⟨b, off, rfl, hbb, hcell⟩ := h3 (by omega)
      have hc0 := (hbel.cell (p := ⟨b, off + j, none⟩) hbb).trans (hcell j hlt)
      rw [tt_marks k n j hlt] at hc0
      clear hcell
      have hM := fun W => markText_any (k + j) W (by omega) (by omega)
      generalize hS : mText (k + j) = S at *
      have HS := Lib.hid hS
      clear hS
      have HM := Lib.hid hM
      clear hM
      have hbn : (S.toList != S.toList) = false := by simp
      have hbw : b < wr.heap.size := Nat.lt_of_lt_of_le hbb hbel.size
      go_wp2
      go_region_held3 (fun w' => w'.cell? ⟨b, off + j, none⟩ = some (.string S))
        (first
          | go_keep
          | exact (hb1.cell (p := ⟨b, off + j, none⟩) hbw).trans hc0)
        (first
          | (go_at_call 22; refine (HM.out _).mono ?_; rintro e w1 ⟨rfl, hb1⟩))
      go_wp2
      go_roundw
      case rel => exact ⟨j + 1, by omega, by go_num, by go_num, hbel.trans (((below_drewN (Below.refl _ _) 1).trans hb1).mono hbel.size)⟩
      case measure => simp [intOf]; omega
    · obtain rfl : j = n := by omega
      go_wp2
      go_ret
      exact ⟨by simp, hbel⟩
end Go.Proofs.Ytemjagdlbehboaa
