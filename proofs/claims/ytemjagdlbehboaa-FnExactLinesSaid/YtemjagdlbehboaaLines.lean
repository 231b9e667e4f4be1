/- Cut and Lines: the contracts of the program's functions and of their models. -/
import Derived.Test.YtemjagdlbehboaaCutS
namespace Go.Proofs.Ytemjagdlbehboaa
open Go.ChangeShapes Go.WideShapes Go.ChangeAt Go.RowKit

/-- The lines of a string: the pieces between newlines, without an empty last one. -/
def linesL (s : ByteArray) : List ByteArray := if tt (cutL s 10) ((cutL s 10).length - 1) = ⟨#[]⟩ then (cutL s 10).take ((cutL s 10).length - 1) else cutL s 10
theorem linesL_len (s : ByteArray) : (linesL s).length ≤ s.size + 1 := by
  have := (cutL_len s 10).2
  unfold linesL
  split
  · rw [List.length_take]; omega
  · exact this
theorem str_bytes (s : ByteArray) : s.toList = s.data.toList := ByteArray.toList_eq ..
theorem str_eq {s t : ByteArray} (h : s = t) : (s.toList == t.toList) = true := by subst h; simp
theorem str_ne {s t : ByteArray} (h : s ≠ t) : (s.toList == t.toList) = false := by
  rw [beq_eq_false_iff_ne]
  intro e
  rw [str_bytes, str_bytes] at e
  exact h (ByteArray.ext (Array.toList_inj.1 e))

theorem specCut_any (s : ByteArray) (w : World) (hs : s.size ≤ 4294967296) :
    Calls Try.prog 9 #[.string s] w (FreshT w (cutL s 32)) := by
  go_enter Try.func9, Try.ntmps9
  go_wp2_with fail
  refine (l10Split_any s 32 _ hs).mono ?_
  rintro e w1 ⟨u, rfl, hown, hb⟩
  go_wp2
  go_ret
  exact ⟨u, rfl, hown, hb⟩
theorem implCut_any (s : ByteArray) (w : World) (hs : s.size ≤ 4294967296) :
    Calls Try.prog 10 #[.string s] w (FreshT w (cutL s 32)) := by
  go_enter Try.func10, Try.ntmps10
  go_wp2_with fail
  refine (pieces_any s 32 _ hs (by omega)).mono ?_
  rintro e w1 ⟨u, rfl, hown, hb⟩
  go_wp2
  go_ret
  exact ⟨u, rfl, hown, hb⟩

/-- A row of one string or more: where it lies, and its last string. -/
theorem OwnT.last {E : TypeId} {w : World} {B : Nat} {v : Value} {l : List ByteArray} (h : OwnT E w B v l) (h1 : 1 ≤ l.length) :
    ∃ g cap m, l.length = m + 1 ∧ m + 1 ≤ cap ∧ cap ≤ 9223372036854775807 ∧ v = .slice (some ⟨g, 0, none⟩) (m + 1) cap ∧ w.cell? ⟨g, m, none⟩ = some (.string (tt l m)) := by
  rcases h.2 with ⟨rfl, h0⟩ | ⟨g, cap, cur, rfl, hb, hg, hn, hm, hs, ht⟩
  · omega
  · refine ⟨g, cap, l.length - 1, by omega, by omega, by unfold maxLen at hm; omega, ?_, ?_⟩
    · rw [show l.length - 1 + 1 = l.length by omega]
    · exact (World.ownsRow.cellAt (base := B) (e := E) (size := 1) (n := l.length) (xs := ts l) h (l.length - 1) (by omega)).trans (ts_get l (l.length - 1) (by omega))

set_option maxHeartbeats 400000 in
theorem specLines_any (s : ByteArray) (w : World) (hs : s.size ≤ 4294967296) :
    Calls Try.prog 14 #[.string s] w (FreshT w (linesL s)) := by
  go_enter Try.func14, Try.ntmps14
  go_wp2_with fail
  refine (l10Split_any s 10 _ hs).mono ?_
  rintro e w1 ⟨u, rfl, hown, hb⟩
  obtain ⟨g, cap, m, hm, hcap, hcap2, rfl, hc1⟩ := hown.last (cutL_len s 10).1
  have hmm : (cutL s 10).length - 1 = m := by omega
  by_cases hx : tt (cutL s 10) m = ⟨#[]⟩
  · have e1 : linesL s = (cutL s 10).take m := by unfold linesL; rw [hmm, if_pos hx]
    have HO := Lib.hid (hown.front m (by omega))
    have E1 := Lib.hid e1
    rw [hx] at hc1
    have heq := str_eq (s := ⟨#[]⟩) (t := ⟨#[]⟩) rfl
    clear hm hmm hx e1 hown
    go_wp2
    go_ret
    exact ⟨_, rfl, by rw [E1.out]; exact HO.out, hb⟩
  · have e1 : linesL s = cutL s 10 := by unfold linesL; rw [hmm, if_neg hx]
    have HO := Lib.hid hown
    have E1 := Lib.hid e1
    have heq : (tt (cutL s 10) m).toList.isEmpty = false := by have := str_ne hx; simpa using this
    clear hm hmm hx e1 hown
    go_wp2
    go_ret
    exact ⟨_, rfl, by rw [E1.out]; exact HO.out, hb⟩
set_option maxHeartbeats 400000 in
theorem implLines_any (s : ByteArray) (w : World) (hs : s.size ≤ 4294967296) :
    Calls Try.prog 15 #[.string s] w (FreshT w (linesL s)) := by
  go_enter Try.func15, Try.ntmps15
  go_wp2_with fail
  refine (pieces_any s 10 _ hs (by omega)).mono ?_
  rintro e w1 ⟨u, rfl, hown, hb⟩
  obtain ⟨g, cap, m, hm, hcap, hcap2, rfl, hc1⟩ := hown.last (cutL_len s 10).1
  have hmm : (cutL s 10).length - 1 = m := by omega
  by_cases hx : tt (cutL s 10) m = ⟨#[]⟩
  · have e1 : linesL s = (cutL s 10).take m := by unfold linesL; rw [hmm, if_pos hx]
    have HO := Lib.hid (hown.front m (by omega))
    have E1 := Lib.hid e1
    rw [hx] at hc1
    have heq := str_eq (s := ⟨#[]⟩) (t := ⟨#[]⟩) rfl
    clear hm hmm hx e1 hown
    go_wp2
    go_ret
    exact ⟨_, rfl, by rw [E1.out]; exact HO.out, hb⟩
  · have e1 : linesL s = cutL s 10 := by unfold linesL; rw [hmm, if_neg hx]
    have HO := Lib.hid hown
    have E1 := Lib.hid e1
    have heq : (tt (cutL s 10) m).toList.isEmpty = false := by have := str_ne hx; simpa using this
    clear hm hmm hx e1 hown
    go_wp2
    go_ret
    exact ⟨_, rfl, by rw [E1.out]; exact HO.out, hb⟩
end Go.Proofs.Ytemjagdlbehboaa
