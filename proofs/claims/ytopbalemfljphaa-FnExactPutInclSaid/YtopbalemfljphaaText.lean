/- The contracts of PutText: as the program has it and as its model has it. -/
import Derived.Test.YtopbalemfljphaaPut
namespace Go.Proofs.Ytopbalemfljphaa
open Go.ChangeShapes Go.WideShapes Go.ChangeAt Go.RowKit

/-- A byte string: its length as a varint, then its bytes. -/
def putTextL (l m : List UInt8) : List UInt8 := l ++ varL m.length ++ m
theorem putTextL_len (l m : List UInt8) (hm : m.length ≤ 4294967296) : (putTextL l m).length ≤ l.length + m.length + 9 := by
  have := varL_nine m.length (by omega)
  simp [putTextL]; omega

set_option maxHeartbeats 400000 in
theorem specPutText_any (v u : Value) (l m : List UInt8) (w : World) (h : Sl w w.heap.size v l) (h' : Sl w w.heap.size u m) (hl : l.length ≤ 1073741824) (hm : m.length ≤ 1073741824) :
    Calls Try.prog 81 #[v, u] w (Fresh w (putTextL l m)) := by
  obtain ⟨i0, hi, hz0, hz1, hz2⟩ := info_parts u8info
  have hn9 := varL_nine m.length (by omega)
  have k' := h'
  obtain ⟨A, c, rfl, h1, h2, h0, h3⟩ := h'
  unfold maxLen at h2
  clear h0 h3
  go_enter Try.func81, Try.ntmps81
  go_wp2_with (first
    | (go_at_call 100; refine (specPutVar_yes _ l m.length _ h (by omega) (by omega)).mono ?_; rintro e w1 ⟨v1, rfl, hown1, hb1⟩; have ks := k'.up hb1)
    | (at_builtin; refine wpList_appS (W := w) rfl _ _ 25 rfl 5 i0 Try.underlying25 hi hz0 hz1 hz2 _ (l ++ varL m.length) (by rfl) _ m rfl ks hown1 hb1 (by simp; omega) ?_; intro v2 w2 hown2 hb2))
  go_ret
  exact ⟨v2, rfl, hown2, hb2⟩

set_option maxHeartbeats 400000 in
theorem implPutText_any (v u : Value) (l m : List UInt8) (w : World) (h : Sl w w.heap.size v l) (h' : Sl w w.heap.size u m) (hl : l.length ≤ 1073741824) (hm : m.length ≤ 1073741824) :
    Calls Try.prog 84 #[v, u] w (Fresh w (putTextL l m)) := by
  have hn9 := varL_nine m.length (by omega)
  have k' := h'
  obtain ⟨A, c, rfl, h1, h2, h0, h3⟩ := h'
  unfold maxLen at h2
  clear h0 h3
  go_enter Try.func84, Try.ntmps84
  go_wp2_with fail
  refine (implPutVar_yes _ [] m.length _ Sl.nil_ (by simp) (by omega)).mono ?_
  rintro e w1 ⟨v1, rfl, hown1, hb1⟩
  go_wp2_with fail
  refine (joined_any _ _ ([] ++ varL m.length) m _ hown1.sl (k'.up hb1) (by simp; omega) (by omega)).mono ?_
  rintro e w2 ⟨v2, rfl, hown2, hb2⟩
  have hb12 := hb1.trans (hb2.mono hb1.size)
  go_wp2_with fail
  refine (joined_any _ _ l ([] ++ varL m.length ++ m) _ (h.up hb12) hown2.sl (by omega) (by simp; omega)).mono ?_
  rintro e w3 ⟨v3, rfl, hown3, hb3⟩
  have hb13 := hb12.trans (hb3.mono hb12.size)
  go_wp2_with fail
  go_ret
  refine ⟨v3, rfl, ?_, hb13⟩
  have e : putTextL l m = l ++ ([] ++ varL m.length ++ m) := by simp [putTextL]
  rw [e]
  exact hown3.mono hb12.size
end Go.Proofs.Ytopbalemfljphaa
