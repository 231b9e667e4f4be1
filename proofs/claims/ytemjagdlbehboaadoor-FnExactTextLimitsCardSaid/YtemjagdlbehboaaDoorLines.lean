/- Cut and Lines: the contracts of the program's functions and of their models. -/
import Derived.Test.YtemjagdlbehboaaDoorCutS
namespace Go.Proofs.YtemjagdlbehboaaDoor
open Go.ChangeShapes Go.WideShapes Go.ChangeAt Go.RowKit

/-- The lines of a string: the pieces between newlines, without an empty last one. -/
def linesL (s : ByteArray) : List ByteArray := if tt (cutL s 10) ((cutL s 10).length - 1) = ⟨#[]⟩ then (cutL s 10).take ((cutL s 10).length - 1) else cutL s 10
theorem linesL_len (s : ByteArray) : (linesL s).length ≤ s.size + 1 := by
  have := (cutL_len s 10).2
  unfold linesL
  split
  · rw [List.length_take]; omega
  · exact this
theorem str_bytes (s : ByteArray) : s.toList = s.data.toList := ByteArray.toList_eq ..
theorem str_eq {s t : ByteArray} (h : s = t) : (s.toList == t.toList) = true := by subst h; simp
theorem str_ne {s t : ByteArray} (h : s ≠ t) : (s.toList == t.toList) = false := by
  rw [beq_eq_false_iff_ne]
  intro e
  rw [str_bytes, str_bytes] at e
  exact h (ByteArray.ext (Array.toList_inj.1 e))

theorem specCut_any (s : ByteArray) (w : World) (hs : s.size ≤ 4294967296) :
    Calls Tryd.prog 16 #[.string s] w (FreshT w (cutL s 32)) := by
  go_enter Tryd.func16, Tryd.ntmps16
  go_wp2_with fail
  refine (l10Split_any s 32 _ hs).mono ?_
  rintro e w1 ⟨u, rfl, hown, hb⟩
  go_wp2
  go_ret
  exact ⟨u, rfl, hown, hb⟩
theorem implCut_any (s : ByteArray) (w : World) (hs : s.size ≤ 4294967296) :
    Calls Tryd.prog 18 #[.string s] w (FreshT w (cutL s 32)) := by
  go_enter Tryd.func18, Tryd.ntmps18
  go_wp2_with fail
  refine (pieces_any s 32 _ hs (by omega)).mono ?_
  rintro e w1 ⟨u, rfl, hown, hb⟩
  go_wp2
  go_ret
  exact ⟨u, rfl, hown, hb⟩

/-- A row of one string or more: where it lies, and its last string. -/
theorem OwnT.last {E : TypeId} {w : World} {B : Nat} {v : Value} {l : List ByteArray} (h : OwnT E w B v l) (h1 : 1 ≤ l.length) :
    ∃ g cap m, l.length = m + 1 ∧ m + 1 ≤ cap ∧ cap ≤ 9223372036854775807 ∧ v = .slice (some ⟨g, 0, none⟩) (m + 1) cap ∧ w.cell? ⟨g, m, none⟩ = some (.string (tt l m)) := by
  rcases h.2 with ⟨rfl, h0⟩ | ⟨g, cap, cur, rfl, hb, hg, hn, hm, hs, ht⟩
  · omega
  · refine ⟨g, cap, l.length - 1, by omega, by omega, by unfold maxLen at hm; omega, ?_, ?_⟩
    · rw [show l.length - 1 + 1 = l.length by omega]
    · exact (World.ownsRow.cellAt (base := B) (e := E) (size := 1) (n := l.length) (xs := ts l) h (l.length - 1) (by omega)).trans (ts_get l (l.length - 1) (by omega))

end Go.Proofs.YtemjagdlbehboaaDoor
