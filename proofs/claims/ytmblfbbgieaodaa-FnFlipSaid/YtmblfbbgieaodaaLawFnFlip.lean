/- The walk of the law FnFlip: for every argument the law answers true and leaves all memory that was there as it was. -/
import Derived.Test.YtmblfbbgieaodaaCrcMore
import Derived.Deep.RegionWith
namespace Go.Proofs.Ytmblfbbgieaodaa
open Go.ChangeShapes Go.WideShapes Go.ChangeAt Go.RowKit

/-- A byte XORed with another than 0 is another byte. -/
theorem flip_facts (a : List UInt8) (k : Nat) {y : Int} (h0 : 0 ≤ y) (h1 : y < 255) :
    ∃ c : UInt8, bits .xor .u8 (bt a k) (IntKind.u8.wrap (IntKind.i64.wrap (1 + y))) = (c.toNat : Int) ∧ c ≠ a.getD k 0 := by
  obtain ⟨n, rfl⟩ := Int.eq_ofNat_of_zero_le h0
  have e : IntKind.u8.wrap (IntKind.i64.wrap (1 + (n : Int))) = ((n + 1 : Nat) : Int) := by
    rw [IntKind.wrap_i64, IntKind.wrap_u8]
    omega
  have hx := (a.getD k 0).toNat_lt
  rw [e]
  unfold bt
  generalize a.getD k 0 = b at hx
  have hl : b.toNat ^^^ (n + 1) < 2 ^ 8 := Nat.xor_lt_two_pow hx (by omega)
  have ec : (UInt8.ofNat (b.toNat ^^^ (n + 1))).toNat = b.toNat ^^^ (n + 1) := by
    rw [UInt8.toNat_ofNat']
    exact Nat.mod_eq_of_lt hl
  refine ⟨UInt8.ofNat (b.toNat ^^^ (n + 1)), by rw [ec]; exact u8_xor_nat _ _ hx (by omega), fun h => ?_⟩
  have h2 := congrArg UInt8.toNat h
  rw [ec] at h2
  have h3 := congrArg (b.toNat ^^^ ·) h2
  simp only [← Nat.xor_assoc, Nat.xor_self, Nat.zero_xor] at h3
  omega
theorem two_sums (a : List UInt8) (k : Nat) (hk : k < a.length) {c : UInt8} (hc : c ≠ a.getD k 0) : ∃ s r : Nat, Hid (sum a = s ∧ sum (a.set k c) = r) ∧ ((s : Int) != (r : Int)) = true := by
  refine ⟨_, _, Lib.hid ⟨rfl, rfl⟩, ?_⟩
  have h := sum_flip a k hk c hc
  have : (sum a : Int) ≠ (sum (a.set k c) : Int) := by omega
  simpa using this

theorem own_form {E : TypeId} {w : World} {B : Nat} {v : Value} {l : List UInt8} (h : Own E w B v l) (hp : 0 < l.length) :
    ∃ g cap, v = .slice (some ⟨g, 0, none⟩) l.length cap ∧ l.length ≤ cap ∧ cap ≤ maxLen ∧ B ≤ g ∧ g < w.heap.size := by
  rcases h.2 with ⟨_, h0⟩ | ⟨g, cap, cur, rfl, hb, hg, hn, hm, hs, ht⟩
  · omega
  · exact ⟨g, cap, rfl, hn, hm, hb, (Array.getElem?_eq_some_iff.1 hg).1⟩

set_option maxRecDepth 100000 in
set_option maxHeartbeats 4000000 in
theorem FnFlip_walk (v0 : Value) (l0 : List UInt8) (W : World) (h0 : Sl W W.heap.size v0 l0) :
    Calls Try.prog 4 #[v0] W (Yes W) := by
  obtain ⟨i0, hi, hz0, hz1, hz2⟩ := info_parts u8info
  have hs0 := h0
  obtain ⟨A0, c0, rfl, p0, q0, r0, z0⟩ := h0
  unfold maxLen at q0
  clear r0 z0
  by_cases hbig0 : 1048576 < l0.length
  · have hb : (1048576 : Int) < (l0.length : Int) := by omega
    go_enter Try.func4, Try.ntmps4
    go_wp2
    go_ret
    exact ⟨rfl, Below.refl _ _⟩
  have hb0 : ¬ ((1048576 : Int) < (l0.length : Int)) := by omega
  go_enter Try.func4, Try.ntmps4
  go_wp2_with fail
  refine (MakeBytes_any _ l0 20 _ hs0 (by omega) (by omega) (by omega)).mono ?_
  rintro e w1 ⟨ua, a0, rfl, ha, ho1, hb1⟩
  go_wp2_with (first
    | (at_builtin
       refine wpList_app1 (W := W) (w := w1) rfl _ _ 22 rfl 5 i0 Try.underlying22 hi hz0 hz1 hz2 _ a0 (by rfl) _ 1 (Lib.hid rfl) rfl ho1 hb1 (by omega) ?_
       intro va w2 ho2 hb2
       have H : Inv 5 W w2 [(va, a0 ++ [1])] := (Inv.start W).more ho2 hb2
       have la : (a0 ++ [1]).length ≤ 21 ∧ 0 < (a0 ++ [1]).length := by simp; omega
       clear ho2 hb2 ho1 hb1
       generalize a0 ++ [1] = a at H la
       obtain ⟨la, lp⟩ := la
       have hstart : Own 5 (w2.alloc (.cells #[] 5)) w2.heap.size (.slice (some ⟨w2.heap.size, 0, none⟩) 0 0) [] :=
         World.ownsRow_lit w2 #[] 0 (Nat.le_refl _) (by simp [maxLen]) rfl
       have hbstart : Below w2.heap.size w2 (w2.alloc (.cells #[] 5)) := (Below.refl _ _).alloc (Nat.le_refl _) _
       have sa1 := (H.sl (v := va) (l := a) (by simp)).up hbstart)
    | (at_builtin
       refine wpList_appS (W := w2) rfl _ _ 22 rfl 5 i0 Try.underlying22 hi hz0 hz1 hz2 _ [] (by rfl) _ a (by rfl) sa1 hstart hbstart (by simp; omega) ?_
       intro vb w3 ho3 hb3
       have ho4 : Own 5 w3 w2.heap.size vb a := ho3
       clear hstart hbstart sa1 ho3
       obtain ⟨g, cap, rfl, hcap1, hcap2, hgB, hgS⟩ := own_form ho4 lp
       unfold maxLen at hcap2
       replace H := H.more ho4 hb3
       clear ho4 hb3)
    | fail)
  refine (MakeNum_any _ l0 a.length _ (H.old hs0) (by omega) (by omega) (by omega)).mono ?_
  rintro e w4 ⟨x, rfl, hx0, hx1, hb⟩
  obtain ⟨k, rfl⟩ := Int.eq_ofNat_of_zero_le hx0
  have hk : k < a.length := by omega
  replace H := H.up hb
  clear hb hx0 hx1
  have hown := H.own (v := .slice (some ⟨g, 0, none⟩) a.length cap) (l := a) (by simp)
  have hc1 := (World.ownsRow.cellAt hown k (by omega)).trans (us_get a k hk)
  have hf1 := World.ownsRow.frozenAt hown k
  go_wp2_with fail
  have hsd : Sl w4.drew w4.drew.heap.size (.slice A0 l0.length c0) l0 := H.old hs0
  have hl9 : l0.length ≤ 1073741824 := by omega
  go_region_with (
    go_at_call 14
    refine (MakeNum_any _ l0 255 _ hsd hl9 (by decide) (by decide)).mono ?_
    rintro e w5 ⟨y, rfl, hy0, hy1, hb5⟩
    have hb6 : Below w4.heap.size w4 w5 := ⟨hb5.os, hb5.tape, hb5.output, hb5.size, hb5.block⟩
    replace H := H.up hb6
    clear hb5 hb6 hc1 hf1 hown
    have hown := H.own (v := .slice (some ⟨g, 0, none⟩) a.length cap) (l := a) (by simp)
    have hc1 := (World.ownsRow.cellAt hown k (by omega)).trans (us_get a k hk)
    have hf1 := World.ownsRow.frozenAt hown k)
  all_goals
    obtain ⟨c, hz, hc⟩ := flip_facts a k hy0 hy1
    rw [hz]
    obtain ⟨st1, st2⟩ := World.ownsRow.stored hown k (.int .u8 (c.toNat : Int))
    rw [us_set] at st1
    have hlen : (a.set k c).length = a.length := List.length_set
    have ho6 : Own 5 (w5.setCell ⟨g, k, none⟩ (.int .u8 (c.toNat : Int))) W.heap.size (.slice (some ⟨g, 0, none⟩) a.length cap) (a.set k c) := by
      unfold Own
      rw [hlen]
      exact st1
    replace H := H.wroteAt 0 rfl ho6 st2
    simp only [List.set_cons_zero] at H
    have hl6 : (a.set k c).length ≤ 4294967296 := by omega
    obtain ⟨s, r, HS, hne⟩ := two_sums a k hk hc
    clear st1 st2 ho6 hz hc1 hf1 hown hsd hlen
    generalize w5.setCell ⟨g, k, none⟩ (.int .u8 (c.toNat : Int)) = w6 at H ⊢
    go_wp2_with fail
    refine (implCrc_any _ a _ (H.sl (by simp)) (by omega)).mono ?_
    rw [HS.out.1]
    rintro e w7 ⟨rfl, hb⟩
    replace H := H.up hb
    clear hb
    go_wp2_with fail
    refine (implCrc_any _ (a.set k c) _ (H.sl (by simp)) hl6).mono ?_
    rw [HS.out.2]
    rintro e w8 ⟨rfl, hb⟩
    replace H := H.up hb
    clear hb
    go_wp2_with fail
    go_ret
    exact ⟨rfl, H.bel⟩
end Go.Proofs.Ytmblfbbgieaodaa
