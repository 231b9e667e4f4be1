/- A string split at a byte: the contracts of the program's functions (a range over the string's runes; each piece a copy) and of their model (a loop over the bytes). -/
import Derived.Test.YtemjagdlbehboaaDoorStrS
import Derived.Test.YtemjagdlbehboaaDoorCutMath
import Derived.Test.YtemjagdlbehboaaDoorShelf
import Derived.Lib.OthersKept
import Derived.LoopTactic
namespace Go.Proofs.YtemjagdlbehboaaDoor
open Go.ChangeShapes Go.WideShapes Go.ChangeAt Go.RowKit

theorem clone_any (s : ByteArray) (w : World) (h : s.size ≤ 281474976710656) :
    Calls Tryd.prog 36 #[.string s] w fun e w' => e = .returned (.string s) ∧ Below w.heap.size w w' := by
  go_enter Tryd.func36, Tryd.ntmps36
  go_wp2_with fail
  refine (Tryd.stringslite_Clone s _ h).mono ?_
  rintro e w1 ⟨rfl, hb⟩
  go_wp2
  go_ret
  exact ⟨rfl, hb⟩

theorem idx_str (t : ByteArray) (k : Nat) (z : Int) (hk : k < t.size) (hz : z = (k : Int)) (w : World) :
    (Instr.index 9 (.string t) (.int .i64 z)).run Tryd.prog w = .ok (.int .u8 (bt t.data.toList k)) w := by
  subst hz
  rw [run_index_string w 9 t .i64 (k : Int) Tryd.underlying9, dif_pos ⟨by omega, by omega⟩]
  have hk' : k < t.data.toList.length := by rw [Array.length_toList]; exact hk
  have e : bt t.data.toList k = ((t.data.toList[k]).toNat : Int) := by
    unfold bt
    rw [List.getD_eq_getElem?_getD, List.getElem?_eq_getElem hk']
    rfl
  rw [e]
  rfl

set_option maxRecDepth 100000 in
set_option maxHeartbeats 1000000 in
theorem l10Split_any (s : ByteArray) (c : Int) (w : World) (hs : s.size ≤ 4294967296) :
    Calls Tryd.prog 30 #[.string s, .int .u8 c] w (FreshT w (cutL s c)) := by
  obtain ⟨i0, hi, hz0, hz1, hz2⟩ := info_parts strinfo
  have hown0 : OwnT 9 (w.alloc (.cells #[] 9)) w.heap.size (.slice (some ⟨w.heap.size, 0, none⟩) 0 0) [] :=
    World.ownsRow_lit w #[] 0 (Nat.le_refl _) (by simp [maxLen]) rfl
  have hb0 : Below w.heap.size w (w.alloc (.cells #[] 9)) := (Below.refl _ _).alloc (Nat.le_refl _) _
  go_enter Tryd.func30, Tryd.ntmps30
  go_wp2
  go_loopw [5, 6, 7] (fun o f i wr => ∃ (k fr : Nat) (L : List ByteArray), k ≤ s.size + 1 ∧ i = .int .i64 k ∧ f = .int .i64 fr ∧ OwnT 9 wr w.heap.size o L ∧ Below w.heap.size w wr ∧ (if k ≤ s.size then (L, fr) = cutS s c k else L = cutL s c))
    (fun _ _ i _ => s.size + 1 - (intOf i).toNat)
  case atStart => exact ⟨0, 0, [], Nat.zero_le _, rfl, rfl, hown0, hb0, by simp [cutS]⟩
  case round =>
    obtain ⟨k, fr, L, hk, rfl, rfl, hown, hbel, hL⟩ := hrel
    by_cases hle : k ≤ s.size
    · rw [if_pos hle] at hL
      have hL1 : (cutS s c k).1 = L := by rw [← hL]
      have hL2 : (cutS s c k).2 = fr := by rw [← hL]
      have hfr := (cutS_le s c k).1
      have hlen := (cutS_le s c k).2
      rw [hL1] at hlen
      rw [hL2] at hfr
      clear hL
      have HL1 := Lib.hid hL1
      have HL2 := Lib.hid hL2
      clear hL1 hL2
      have hBw : w.heap.size ≤ wr.heap.size := hbel.size
      by_cases he : k = s.size
      · have heq : ((k : Int) == (s.size : Int)) = true := beq_iff_eq.2 (by omega)
        have he2 : (k : Int) ≤ (s.size : Int) := by omega
        have hfin : L ++ [s.extract fr k] = cutL s c := by rw [← HL1.out, ← HL2.out, he]; rfl
        have Hfin := Lib.hid hfin
        have He := Lib.hid he
        clear hfin he
        go_wp2_with (at_builtin; refine wpList_appT1 (w := wr) rfl _ _ 35 rfl 9 i0 Tryd.underlying35 hi hz0 hz1 hz2 w.heap.size _ L (by rfl) _ rfl hown hBw (by omega) ?_; intro v2 w2 hown2 hg2; have hb2 := below_of_ownT (hown.up ((Below.refl _ _).alloc (Nat.le_refl _) _)) (Nat.le_refl _) (hbel.alloc hBw _) hg2)
        go_roundw
        case rel => exact ⟨k + 1, k + 1, _, by omega, by go_num, by go_num, hown2, hb2, by rw [if_neg (by have := He.out; omega)]; exact Hfin.out⟩
        case measure => simp [intOf]; omega
      · have heq : ((k : Int) == (s.size : Int)) = false := beq_eq_false_iff_ne.2 (by omega)
        have he2 : (k : Int) ≤ (s.size : Int) := by omega
        have hlt : k < s.size := by omega
        have hx := fun W => idx_str s k (k : Int) hlt rfl W
        by_cases hb : bt s.data.toList k = c
        · have hst := cutS_yes hb
          rw [HL1.out, HL2.out] at hst
          have Hst := Lib.hid hst
          have heb : (c == c) = true := by simp
          rw [hb] at hx
          clear hst hb he
          go_wp2_with (at_builtin; refine wpList_appT1 (w := wr) rfl _ _ 35 rfl 9 i0 Tryd.underlying35 hi hz0 hz1 hz2 w.heap.size _ L (by rfl) _ rfl hown hBw (by omega) ?_; intro v2 w2 hown2 hg2; have hb2 := below_of_ownT (hown.up ((Below.refl _ _).alloc (Nat.le_refl _) _)) (Nat.le_refl _) (hbel.alloc hBw _) hg2)
          go_roundw
          case rel => exact ⟨k + 1, k + 1, _, by omega, by go_num, by go_num, hown2, hb2, by rw [if_pos (by omega)]; exact Hst.out.symm⟩
          case measure => simp [intOf]; omega
        · have hst := cutS_no hb
          have Hst := Lib.hid hst
          obtain ⟨q, hq⟩ : ∃ q, q = bt s.data.toList k := ⟨_, rfl⟩
          rw [← hq] at hx hb
          have heb : (q == c) = false := beq_eq_false_iff_ne.2 hb
          have Hq := Lib.hid hq
          clear hst hb he hq
          go_wp2
          go_roundw
          case rel => exact ⟨k + 1, fr, L, by omega, by go_num, rfl, hown, hbel, by rw [if_pos (by omega), Hst.out]; exact Prod.ext HL1.out.symm HL2.out.symm⟩
          case measure => simp [intOf]; omega
    · obtain rfl : k = s.size + 1 := by omega
      rw [if_neg (by omega)] at hL
      have HL := Lib.hid hL
      have he2 : ¬ (((s.size + 1 : Nat) : Int) ≤ (s.size : Int)) := by omega
      clear hL
      go_wp2
      go_ret
      exact ⟨_, rfl, by rw [← HL.out]; exact hown, hbel⟩

theorem grown_iterAt (w : World) (k : Nat) (s : ByteArray) (pos : Nat) : w.grownBy (w.iterAt k s pos) (some k) :=
  ⟨rfl, rfl, rfl, by rw [Lib.iterAt_size]; exact Nat.le_refl _, fun j _ hne => Lib.iterAt_other w k j s pos (fun e => hne (by rw [e]))⟩
/-- The iterator in block B stands behind an append to a row in blocks above it. -/
theorem iter_kept {E : TypeId} {w w1 w2 : World} {B : Nat} {v : Value} {l : List ByteArray} {o : Obj} (hit : w.heap[B]? = some o) (hb : Below w.heap.size w w1) (hown : OwnT E w1 (B + 1) v l) (hg : w1.grownBy w2 v.ownBlock) : w2.heap[B]? = some o := by
  have hlt : B < w.heap.size := (Array.getElem?_eq_some_iff.1 hit).1
  have h1 : w1.heap[B]? = some o := (hb.block B hlt).trans hit
  rw [hg.block B (Nat.lt_of_lt_of_le hlt hb.size) ?_]
  · exact h1
  · intro e
    have := (hown.lt B e.symm).1
    omega

set_option maxRecDepth 100000 in
set_option maxHeartbeats 1000000 in
theorem pieces_any (s : ByteArray) (c : Int) (w : World) (hs : s.size ≤ 4294967296) (hc : c < 128) :
    Calls Tryd.prog 31 #[.string s, .int .i32 c] w (FreshT w (cutL s c)) := by
  obtain ⟨i0, hi, hz0, hz1, hz2⟩ := info_parts strinfo
  have hBi : Below w.heap.size w (w.iter s 0) := (Below.refl _ _).alloc (Nat.le_refl _) _
  have hit0 := World.iter_heap w s 0
  go_enter Tryd.func31, Tryd.ntmps31
  go_wp2
  go_loopw [5, 6] (fun o f wr => ∃ (pos fr : Nat) (L : List ByteArray), pos ≤ s.size ∧ f = .int .i64 fr ∧ OwnT 9 wr (w.heap.size + 1) o L ∧ Below w.heap.size w wr ∧ wr.heap[w.heap.size]? = some (.stringIter s pos) ∧ (L, fr) = cutS s c pos)
    (fun _ _ wr => s.size - wr.iterPos w.heap.size)
  case atStart => exact ⟨0, 0, [], Nat.zero_le _, rfl, World.ownsRow_nil _ _ _ _, hBi, hit0, rfl⟩
  case round =>
    obtain ⟨pos, fr, L, hle, rfl, hown, hbel, hit, hL⟩ := hrel
    have hL1 : (cutS s c pos).1 = L := by rw [← hL]
    have hL2 : (cutS s c pos).2 = fr := by rw [← hL]
    have hfr := (cutS_le s c pos).1
    have hlen := (cutS_le s c pos).2
    rw [hL1] at hlen
    rw [hL2] at hfr
    clear hL
    have HL1 := Lib.hid hL1
    have HL2 := Lib.hid hL2
    clear hL1 hL2
    have hlt : w.heap.size < wr.heap.size := (Array.getElem?_eq_some_iff.1 hit).1
    have hpos : wr.iterPos w.heap.size = pos := by simp [World.iterPos, hit]
    have HP := Lib.hid hpos
    clear hpos
    by_cases hp : pos < s.size
    · obtain ⟨hd1, hd2, _⟩ := decode_tail s pos hp
      have hru := cutS_rune s c pos hp hc
      rw [HL1.out, HL2.out] at hru
      have hit1 := Lib.iterAt_heap wr w.heap.size s pos (pos + (Utf8.decode s pos).2) hit
      have hown1 := hown.beside (grown_iterAt wr w.heap.size s (pos + (Utf8.decode s pos).2))
      have hbel1 := Lib.below_iterAt hbel (Nat.le_refl _) s (pos + (Utf8.decode s pos).2)
      have hnx := fun ty => Lib.run_next_any_at (P := Tryd.prog) wr w.heap.size s pos ty hit hp
      obtain ⟨W1, hW1⟩ : ∃ W1, W1 = wr.iterAt w.heap.size s (pos + (Utf8.decode s pos).2) := ⟨_, rfl⟩
      rw [← hW1] at hit1 hown1 hbel1 hnx
      obtain ⟨r, hr⟩ : ∃ r, r = ((Utf8.decode s pos).1 : Int) := ⟨_, rfl⟩
      rw [← hr] at hru hnx
      obtain ⟨d, hd⟩ : ∃ d, d = (Utf8.decode s pos).2 := ⟨_, rfl⟩
      rw [← hd] at hit1 hru hd1 hd2
      have hlt1 : w.heap.size < W1.heap.size := (Array.getElem?_eq_some_iff.1 hit1).1
      clear hW1 hr hd hit hown hbel hlt
      by_cases hb : r = c
      · subst hb
        rw [if_pos rfl] at hru
        have Hru := Lib.hid hru
        clear hru
        have heq : (r == r) = true := by simp
        have Hit1 := Lib.hid hit1
        clear hit1
        go_wp2_with fail
        refine (clone_any _ W1 (by rw [ByteArray.size_extract]; omega)).mono ?_
        rintro e w2 ⟨rfl, hb2⟩
        have hown2 := hown1.up hb2
        have hbel2 := hbel1.trans (hb2.mono hbel1.size)
        have hB2 : w.heap.size + 1 ≤ w2.heap.size := by have := hb2.size; omega
        go_wp2_with (at_builtin; refine wpList_appT1 (w := w2) rfl _ _ 35 rfl 9 i0 Tryd.underlying35 hi hz0 hz1 hz2 (w.heap.size + 1) _ L (by rfl) _ rfl hown2 hB2 (by omega) ?_; intro v3 w3 hown3 hg3; have hown2a := hown2.up ((Below.refl _ _).alloc (Nat.le_refl _) (.cells #[.string (s.extract fr pos)] 9)); have hb3 := below_of_ownT hown2a (by omega) (hbel2.alloc hbel2.size _) hg3; have hit3 := iter_kept Hit1.out (hb2.alloc hb2.size _) hown2a hg3)
        go_roundw
        case rel => exact ⟨pos + d, pos + 1, _, hd2, by go_num, hown3, hb3, hit3, Hru.out.symm⟩
        case measure =>
          have e3 : w3.iterPos w.heap.size = pos + d := by simp [World.iterPos, hit3]
          rw [e3, HP.out]
          omega
      · rw [if_neg hb] at hru
        have Hru := Lib.hid hru
        clear hru
        have heq : (r == c) = false := beq_eq_false_iff_ne.2 hb
        have Hit1 := Lib.hid hit1
        clear hit1
        go_wp2
        go_roundw
        case rel => exact ⟨pos + d, fr, L, hd2, rfl, hown1, hbel1, Hit1.out, by rw [Hru.out]; exact Prod.ext HL1.out.symm HL2.out.symm⟩
        case measure =>
          have e3 : W1.iterPos w.heap.size = pos + d := by simp [World.iterPos, Hit1.out]
          rw [e3, HP.out]
          omega
    · obtain rfl : pos = s.size := by omega
      have hfin : L ++ [s.extract fr s.size] = cutL s c := by rw [← HL1.out, ← HL2.out]; rfl
      have Hfin := Lib.hid hfin
      have hnx := fun ty => Lib.run_next_end_at (P := Tryd.prog) wr w.heap.size s s.size ty hit hp
      clear hfin
      go_wp2_with fail
      refine (clone_any _ wr (by rw [ByteArray.size_extract]; omega)).mono ?_
      rintro e w2 ⟨rfl, hb2⟩
      have hown2 := hown.up hb2
      have hbel2 := hbel.trans (hb2.mono hbel.size)
      have hB2 : w.heap.size + 1 ≤ w2.heap.size := by have := hb2.size; omega
      go_wp2_with (at_builtin; refine wpList_appT1 (w := w2) rfl _ _ 35 rfl 9 i0 Tryd.underlying35 hi hz0 hz1 hz2 (w.heap.size + 1) _ L (by rfl) _ rfl hown2 hB2 (by omega) ?_; intro v3 w3 hown3 hg3; have hb3 := below_of_ownT (hown2.up ((Below.refl _ _).alloc (Nat.le_refl _) _)) (by omega) (hbel2.alloc hbel2.size _) hg3)
      go_ret
      exact ⟨_, rfl, by rw [← Hfin.out]; exact hown3.mono (by omega), hb3⟩
end Go.Proofs.YtemjagdlbehboaaDoor
