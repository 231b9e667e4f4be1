/- The contracts of the functions that write numbers: PutVar, VarSize and what they call, as the program has them and as their model has them. -/
import Derived.Test.YtlchadbbldkkfaaDoorBase
import Derived.Test.YtlchadbbldkkfaaDoorMath
namespace Go.Proofs.YtlchadbbldkkfaaDoor
open Go.ChangeShapes Go.WideShapes Go.ChangeAt Go.RowKit

/-- The call returns a new row that reads as l, and x beside it; nothing that was there has turned. -/
def Fresh2 (w : World) (l : List UInt8) (x : Value) (e : Ending) (w' : World) : Prop :=
  ∃ u, e = .returned (.tuple #[u, x]) ∧ Own 5 w' w.heap.size u l ∧ Below w.heap.size w w'

/-- spec.l01In. -/
theorem l01In_yes (n a b : Int) (w : World) (h0 : a ≤ n) (h1 : n ≤ b) :
    Calls Tryd.prog 62 #[.int .i64 n, .int .i64 a, .int .i64 b] w fun e w' => e = .returned (.bool true) ∧ w = w' := by
  go_enter Tryd.func62, Tryd.ntmps62
  go_wp2
  go_ret
  exact ⟨rfl, rfl⟩
theorem l01In_no (n a b : Int) (w : World) (h : ¬ (a ≤ n ∧ n ≤ b)) :
    Calls Tryd.prog 62 #[.int .i64 n, .int .i64 a, .int .i64 b] w fun e w' => e = .returned (.bool false) ∧ w = w' := by
  by_cases h0 : a ≤ n
  · have h1 : b < n := by omega
    clear h
    go_enter Tryd.func62, Tryd.ntmps62
    go_wp2
    go_ret
    exact ⟨by simp; omega, rfl⟩
  · have h1 : n < a := by omega
    clear h h0
    go_enter Tryd.func62, Tryd.ntmps62
    go_wp2
    go_ret
    exact ⟨rfl, rfl⟩
set_option maxHeartbeats 400000 in
theorem l01Copy_any (v : Value) (l : List UInt8) (w : World) (h : Sl w w.heap.size v l) (hl : l.length ≤ 4294967296) :
    Calls Tryd.prog 58 #[v] w (Fresh w l) := by
  obtain ⟨i0, hi, hz0, hz1, hz2⟩ := info_parts u8info
  have hown : Own 5 (w.alloc (.cells #[] 5)) w.heap.size (.slice (some ⟨w.heap.size, 0, none⟩) 0 0) [] :=
    World.ownsRow_lit w #[] 0 (Nat.le_refl _) (by simp [maxLen]) rfl
  have hb : Below w.heap.size w (w.alloc (.cells #[] 5)) := (Below.refl _ _).alloc (Nat.le_refl _) _
  have hs := h.up hb
  go_enter Tryd.func58, Tryd.ntmps58
  go_wp2_with (at_builtin; refine wpList_appS (W := w) rfl _ _ 22 rfl 5 i0 Tryd.underlying22 hi hz0 hz1 hz2 _ [] rfl _ l rfl hs hown hb (by simp; omega) ?_; intro v1 w1 hown1 hb1)
  go_ret
  exact ⟨v1, rfl, by simpa using hown1, hb1⟩

set_option maxHeartbeats 400000 in
theorem joined_any (v u : Value) (l m : List UInt8) (w : World) (h : Sl w w.heap.size v l) (h' : Sl w w.heap.size u m) (hl : l.length ≤ 4294967296) (hm : m.length ≤ 4294967296) :
    Calls Tryd.prog 47 #[v, u] w (Fresh w (l ++ m)) := by
  obtain ⟨i0, hi, hz0, hz1, hz2⟩ := info_parts u8info
  have k := h
  have k' := h'
  obtain ⟨A, c, rfl, h1, h2, h0, h3⟩ := h
  obtain ⟨A', c', rfl, h1', h2', h0', h3'⟩ := h'
  have hby : i0.bytes * (l.length + m.length) ≤ 281474976710656 := by rw [hz2]; omega
  have hml : l.length + m.length ≤ maxLen := by unfold maxLen; omega
  unfold maxLen at h2 h2'
  clear h0 h0' h3 h3'
  go_enter Tryd.func47, Tryd.ntmps47
  go_wp2_with (first
    | (at_make
       refine wpList_make_own _ rfl _ _ _ rfl w.heap.size 5 i0 (.int .u8 0) 1 Tryd.underlying22 hi hz0 hz1 .i64 .i64 _ (l.length + m.length) rfl rfl (by simp) hby hml (Nat.le_refl _) ?_
       intro w1 hown1 hg1
       have hb1 : Below w.heap.size w w1 := (Below.refl _ _).grown hg1 (Nat.le_refl _) (by simp)
       have ks := k.up hb1
       have tok1 : True := trivial)
    | (at_builtin
       have _t := tok1
       refine wpList_appS (W := w) rfl _ _ 22 rfl 5 i0 Tryd.underlying22 hi hz0 hz1 hz2 _ [] rfl _ l rfl ks hown1 hb1 (by simp; omega) ?_
       intro v2 w2 hown2 hb2
       clear tok1
       have ks' := k'.up hb2)
    | (at_builtin
       refine wpList_appS (W := w) rfl _ _ 22 rfl 5 i0 Tryd.underlying22 hi hz0 hz1 hz2 _ ([] ++ l) rfl _ m rfl ks' hown2 hb2 (by simp; omega) ?_
       intro v3 w3 hown3 hb3))
  go_ret
  exact ⟨v3, rfl, by simpa using hown3, hb3⟩

/-- How many bytes PutVar writes. -/
def sizeV (n : Int) : Nat := (putVarL [] n).length
end Go.Proofs.YtlchadbbldkkfaaDoor
