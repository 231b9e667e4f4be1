/- The walk of the law FnCrc: for every argument the law answers true and leaves all memory that was there as it was. -/
import Derived.Test.YtmblfbbgieaodaaCrcMore
import Derived.Lib.SlBytesConst
namespace Go.Proofs.Ytmblfbbgieaodaa
open Go.ChangeShapes Go.WideShapes Go.ChangeAt Go.RowKit

/-- The digits 1 to 9. -/
def nine : List UInt8 := [49, 50, 51, 52, 53, 54, 55, 56, 57]
theorem sum_nine : sum nine = 3421780262 := by kernel_rfl
theorem turns_one : turns (8 * 1) 1 = 1996959894 := by kernel_rfl
theorem crc_facts (a b : List UInt8) : ∃ sa sb s y z : Nat,
    Hid (sum a = sa ∧ sum b = sb ∧ sum (a ++ b) = s ∧ sumFrom sa b = s ∧ turns (8 * b.length) sa ^^^ sb = s ∧ turns (8 * 3) s = y ∧ turns (8 * 4) y = z ∧ turns (8 * 7) s = z) ∧
      sa < 4294967296 ∧ sb < 4294967296 ∧ s < 4294967296 ∧ y < 4294967296 :=
  ⟨_, _, _, _, _, Lib.hid ⟨rfl, rfl, rfl, sum_on a b, sum_join a b, rfl, rfl, turns_add (8 * 3) (8 * 4) _⟩, sum_lt a, sum_lt b, sum_lt _, turns_lt _ (sum_lt _)⟩

theorem sl_const (w : World) (E : TypeId) (l : List UInt8) (fz : Nat × Nat) (hl : l.length ≤ maxLen) :
    Sl (w.alloc (.cells (us l).toArray E fz)) (w.alloc (.cells (us l).toArray E fz)).heap.size (.slice (some ⟨w.heap.size, 0, none⟩) l.length l.length) l := by
  refine ⟨_, _, rfl, Nat.le_refl _, hl, (fun e => by cases e), fun _ => ⟨w.heap.size, 0, rfl, by simp, fun k hk => ?_⟩⟩
  have h1 := us_get l k hk
  have h2 : (w.alloc (.cells (us l).toArray E fz)).heap[w.heap.size]? = some (.cells (us l).toArray E fz) := by
    show (w.heap.push (.cells (us l).toArray E fz))[w.heap.size]? = _
    simp
  unfold World.cell?
  rw [h2]
  simpa using h1

set_option maxRecDepth 100000 in
set_option maxHeartbeats 4000000 in
theorem FnCrc_walk (v0 : Value) (l0 : List UInt8) (W : World) (h0 : Sl W W.heap.size v0 l0) :
    Calls Try.prog 3 #[v0] W (Yes W) := by
  obtain ⟨i0, hi, hz0, hz1, hz2⟩ := info_parts u8info
  have hs0 := h0
  obtain ⟨A0, c0, rfl, p0, q0, r0, z0⟩ := h0
  unfold maxLen at q0
  clear r0 z0
  by_cases hbig0 : 1048576 < l0.length
  · have hb : (1048576 : Int) < (l0.length : Int) := by omega
    go_enter Try.func3, Try.ntmps3
    go_wp2
    go_ret
    exact ⟨rfl, Below.refl _ _⟩
  have hb0 : ¬ ((1048576 : Int) < (l0.length : Int)) := by omega
  have H : Inv 5 W W [] := Inv.start W
  go_enter Try.func3, Try.ntmps3
  go_wp2_with fail
  refine (MakeBytes_any _ l0 20 _ (H.old hs0) (by omega) (by omega) (by omega)).mono ?_
  rintro e w1 ⟨ua, a, rfl, ha, ho, hb⟩
  replace H := H.more ho hb
  clear ho hb
  go_wp2_with fail
  refine (MakeBytes_any _ l0 13 _ (H.old hs0) (by omega) (by omega) (by omega)).mono ?_
  rintro e w2 ⟨ub, b, rfl, hb', ho, hb⟩
  obtain ⟨Ab, cb, rfl, kb1, kb2, kb0, kb3⟩ := ho.sl
  unfold maxLen at kb2
  clear kb0 kb3
  replace H := H.more ho hb
  clear ho hb
  obtain ⟨sa, sb, s, y, z, HF, ka, kb, ks, ky⟩ := crc_facts a b
  have hss : ((s : Int) != (s : Int)) = false := by simp
  have hse : ((s : Int) == (s : Int)) = true := by simp
  have hze : ((z : Int) == (z : Int)) = true := by simp
  have la : a.length ≤ 20 := by omega
  have lb : b.length ≤ 13 := by omega
  have hstart : Own 5 (w2.alloc (.cells #[] 5)) w2.heap.size (.slice (some ⟨w2.heap.size, 0, none⟩) 0 0) [] :=
    World.ownsRow_lit w2 #[] 0 (Nat.le_refl _) (by simp [maxLen]) rfl
  have hbstart : Below w2.heap.size w2 (w2.alloc (.cells #[] 5)) := (Below.refl _ _).alloc (Nat.le_refl _) _
  have sa1 := (H.sl (v := ua) (l := a) (by simp)).up hbstart
  go_wp2_with (first
    | (at_builtin
       refine wpList_appS (W := w2) rfl _ _ 22 rfl 5 i0 Try.underlying22 hi hz0 hz1 hz2 _ [] rfl _ a rfl sa1 hstart hbstart (by simp; omega) ?_
       intro v3 w3 hown3 hb3
       clear hstart hbstart sa1
       have sb3 := (H.sl (v := .slice Ab b.length cb) (l := b) (by simp)).up hb3)
    | (at_builtin
       refine wpList_appS (W := w2) rfl _ _ 22 rfl 5 i0 Try.underlying22 hi hz0 hz1 hz2 _ ([] ++ a) rfl _ b rfl sb3 hown3 hb3 (by simp; omega) ?_
       intro v4 w4 hown4 hb4
       clear hown3 hb3 sb3)
    | fail)
  have ho4 : Own 5 w4 w2.heap.size v4 (a ++ b) := hown4
  clear hown4
  refine (implCrc_any _ (a ++ b) _ ho4.sl (by simp; omega)).mono ?_
  rw [HF.out.2.2.1]
  rintro e w5 ⟨rfl, hb5⟩
  replace H := H.up (hb4.trans (hb5.mono hb4.size))
  clear hb4 hb5 ho4
  have hcv := fun (w : World) (C : Array Value) (n c : Nat) => Lib.run_convert_bytes_const (P := Try.prog) w 22 5 C n c Try.underlying22 Try.underlying5
  have hn5 := sl_const w5 5 nine (9, 9 + 1) (by decide)
  have hb6 : Below w5.heap.size w5 (w5.alloc (.cells (us nine).toArray 5 (9, 9 + 1))) := (Below.refl _ _).alloc (Nat.le_refl _) _
  have hn6 : Hid (Sl (w5.alloc (.cells (us nine).toArray 5 (9, 9 + 1))) (w5.alloc (.cells (us nine).toArray 5 (9, 9 + 1))).heap.size (.slice (some ⟨w5.heap.size, 0, none⟩) 9 9) nine) := Lib.hid hn5
  have hb7 := Lib.hid hb6
  clear hn5 hb6
  go_wp2_with fail
  clear hcv
  refine (implCrc_any _ nine _ hn6.out (by decide)).mono ?_
  rw [sum_nine]
  rintro e w6 ⟨rfl, hb⟩
  replace H := H.up (hb7.out.trans (hb.mono hb7.out.size))
  clear hb hb7 hn6
  go_wp2_with fail
  refine (implCrcShift_yes 1 1 _ (by decide) (by decide)).mono ?_
  rw [turns_one]
  rintro e w7 ⟨rfl, hb⟩
  replace H := H.up hb
  clear hb
  go_wp2_with fail
  refine (implCrc_any _ a _ (H.sl (by simp)) (by omega)).mono ?_
  rw [HF.out.1]
  rintro e w8 ⟨rfl, hb⟩
  replace H := H.up hb
  clear hb
  go_wp2_with fail
  refine (implCrcMore_yes sa _ b _ ka (H.sl (by simp)) (by omega)).mono ?_
  rw [HF.out.2.2.2.1]
  rintro e w9 ⟨rfl, hb⟩
  replace H := H.up hb
  clear hb
  go_wp2_with fail
  refine (implCrc_any _ a _ (H.sl (by simp)) (by omega)).mono ?_
  rw [HF.out.1]
  rintro e w10 ⟨rfl, hb⟩
  replace H := H.up hb
  clear hb
  go_wp2_with fail
  refine (implCrc_any _ b _ (H.sl (by simp)) (by omega)).mono ?_
  rw [HF.out.2.1]
  rintro e w11 ⟨rfl, hb⟩
  replace H := H.up hb
  clear hb
  go_wp2_with fail
  refine (implCrcJoin_yes sa sb b.length _ ka kb (by omega)).mono ?_
  rw [HF.out.2.2.2.2.1]
  rintro e w12 ⟨rfl, hb⟩
  replace H := H.up hb
  clear hb
  go_wp2_with fail
  refine (implCrcShift_yes s 3 _ ks (by decide)).mono ?_
  rw [HF.out.2.2.2.2.2.1]
  rintro e w13 ⟨rfl, hb⟩
  replace H := H.up hb
  clear hb
  go_wp2_with fail
  refine (implCrcShift_yes y 4 _ ky (by decide)).mono ?_
  rw [HF.out.2.2.2.2.2.2.1]
  rintro e w14 ⟨rfl, hb⟩
  replace H := H.up hb
  clear hb
  go_wp2_with fail
  refine (implCrcShift_yes s 7 _ ks (by decide)).mono ?_
  rw [HF.out.2.2.2.2.2.2.2]
  rintro e w15 ⟨rfl, hb⟩
  replace H := H.up hb
  clear hb
  go_wp2_with fail
  go_ret
  exact ⟨rfl, H.bel⟩
end Go.Proofs.Ytmblfbbgieaodaa
