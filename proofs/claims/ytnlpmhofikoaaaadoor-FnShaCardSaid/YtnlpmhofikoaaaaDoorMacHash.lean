/- The contracts of keyedHash and of the function that it returns, as the program has them. -/
import Derived.Test.YtnlpmhofikoaaaaDoorMacKey
namespace Go.Proofs.YtnlpmhofikoaaaaDoor
open Go.ChangeShapes Go.WideShapes Go.ChangeAt Go.RowKit

theorem own_form {E : TypeId} {w : World} {B : Nat} {v : Value} {l : List UInt8} (h : Own E w B v l) (hp : 0 < l.length) :
    ∃ g cap, v = .slice (some ⟨g, 0, none⟩) l.length cap ∧ l.length ≤ cap ∧ cap ≤ maxLen ∧ B ≤ g ∧ g < w.heap.size := by
  rcases h.2 with ⟨_, h0⟩ | ⟨g, cap, cur, rfl, hb, hg, hn, hm, hs, ht⟩
  · omega
  · exact ⟨g, cap, rfl, hn, hm, hb, (Array.getElem?_eq_some_iff.1 hg).1⟩
/-- A function value over a variable that holds a slice that reads as k. -/
def Hasher (w : World) (fv : Value) (k : List UInt8) : Prop :=
  ∃ g u, fv = .func (Fn.func 40) #[] #[.pointer (some ⟨g, 0, none⟩)] ∧ g < w.heap.size ∧ w.cell? ⟨g, 0, none⟩ = some u ∧ Sl w w.heap.size u k
theorem Hasher.up {w w' : World} {fv : Value} {k : List UInt8} (h : Hasher w fv k) (hb : Below w.heap.size w w') : Hasher w' fv k := by
  obtain ⟨g, u, rfl, hg, hc, hs⟩ := h
  exact ⟨g, u, rfl, Nat.lt_of_lt_of_le hg hb.size, (hb.cell (p := ⟨g, 0, none⟩) hg).trans hc, hs.up hb⟩

set_option maxRecDepth 100000 in
set_option maxHeartbeats 2000000 in
theorem keyedHash_any (v : Value) (l : List UInt8) (w : World) (h : Sl w w.heap.size v l) (hl : l.length ≤ 1073741824)
    (hI : Glob w 0 initW) (hG : Glob w 1 kk) :
    Calls Tryd.prog 31 #[v] w (fun e w' => ∃ fv, e = .returned fv ∧ Hasher w' fv (keyL l) ∧ Below w.heap.size w w') := by
  have hmf : ∀ (fn : Fn) (first cap : Array Value) (w : World), (Instr.makeFunc fn first cap).run Tryd.prog w = .ok (.func fn first cap) w := fun _ _ _ _ => rfl
  go_enter Tryd.func31, Tryd.ntmps31
  go_wp2_with fail
  refine (implMacKey_any v l _ h hl hI hG).mono ?_
  rintro e w1 ⟨u1, rfl, hown1, hb1⟩
  have hs1 := hown1.sl
  obtain ⟨A1, c1, rfl, m1, m2, m0, m3⟩ := hown1.sl
  rw [keyL_length] at hs1 ⊢
  clear hown1 m1 m2 m0 m3
  have hb2 : Below w1.heap.size w1 (w1.alloc (.cells #[.slice A1 64 c1] 22)) := (Below.refl _ _).alloc (Nat.le_refl _) _
  have hs2 := hs1.up hb2
  go_wp2
  go_ret
  exact ⟨_, rfl, ⟨_, _, rfl, by simp, by simp, hs2⟩, hb1.trans (hb2.mono hb1.size)⟩

set_option maxRecDepth 100000 in
set_option maxHeartbeats 4000000 in
theorem hasher_any (g : Nat) (u v : Value) (p : UInt8) (k l : List UInt8) (w : World) (hg : g < w.heap.size) (hc : w.cell? ⟨g, 0, none⟩ = some u) (hu : Sl w w.heap.size u k) (hk : k.length = 64)
    (h : Sl w w.heap.size v l) (hl : l.length ≤ 1073741000)
    (hI : Glob w 0 initW) (hG : Glob w 1 kk) :
    Calls Tryd.prog 40 #[.int .u8 (p.toNat : Int), v, .pointer (some ⟨g, 0, none⟩)] w (Fresh w (hashL p k l)) := by
  have HK := Lib.hid hk
  have hk2 : k.length ≤ 4294967296 := by omega
  have hl2 : l.length ≤ 4294967296 := by omega
  have hu2 := hu
  obtain ⟨A, c, rfl, h1, h2, h0, h3⟩ := hu
  rw [HK.out] at hc hu2 h1
  unfold maxLen at h2
  clear h0 h3 hk
  go_enter Tryd.func40, Tryd.ntmps40
  go_wp2_with fail
  refine (joined_any _ v k l w hu2 h hk2 hl2).mono ?_
  rintro e w1 ⟨v1, rfl, hown1, hb1⟩
  have hg1 := (hb1.cell (p := ⟨g, 0, none⟩) hg).trans hc
  have hlen : (k ++ l).length = 64 + l.length := by rw [List.length_append, HK.out]
  obtain ⟨g1, n1, rfl, hc1a, hc1b, hg1a, hg1b⟩ := own_form hown1 (by omega)
  rw [hlen] at hc1a ⊢
  obtain ⟨N, hN⟩ : ∃ N, N = 64 + l.length := ⟨_, rfl⟩
  rw [← hN] at hlen hc1a ⊢
  have hN64 : 64 ≤ N := by omega
  have hNb : N ≤ 1073741824 := by omega
  have HN := Lib.hid hN
  have hXL : ∀ j, (XR p k l j).length = N := fun j => by rw [XR_length, HK.out, HN.out]
  have HXL := Lib.hid hXL
  have ho1 : w1.ownsRow w.heap.size 5 1 (.slice (some ⟨g1, 0, none⟩) N n1) N (us (XR p k l 0)) := by
    rw [XR_zero]
    unfold Own at hown1
    rw [hlen] at hown1
    exact hown1
  unfold maxLen at hc1b
  clear hown1 hlen hN hXL
  go_wp2
  go_loopw [7, 13] (fun _ i wr => ∃ j : Nat, j ≤ 64 ∧ i = .int .i64 j ∧ wr.ownsRow w.heap.size 5 1 (.slice (some ⟨g1, 0, none⟩) N n1) N (us (XR p k l j)) ∧ Below w.heap.size w wr)
    (fun _ i _ => 64 - (intOf i).toNat)
  case atStart => exact ⟨0, Nat.zero_le _, rfl, ho1, hb1⟩
  case round =>
    clear ho1
    obtain ⟨j, hj, rfl, hown, hbel⟩ := hrel
    by_cases hlt : j < 64
    · have hji : (j : Int) < 64 := by omega
      have hjN : (j : Int) < (N : Int) := by omega
      have hx := XR_at p k l (j := j) (by rw [HK.out]; exact hlt)
      have hst := XR_step p k l (j := j) (by rw [HK.out]; exact hlt)
      have hby := xor_byte k j p
      have hb0 := bt_lo k j
      have hb255 := bt_hi k j
      have hcj := (World.ownsRow.cellAt hown j (by omega)).trans (us_get (XR p k l j) j (by rw [HXL.out]; omega))
      rw [hx] at hcj
      have hfj := World.ownsRow.frozenAt hown j
      have hsd := World.ownsRow.stored hown j (.int .u8 (((k.getD j 0) ^^^ p).toNat : Int))
      rw [us_set, hst] at hsd
      have hbl := hbel.grown hsd.2 hbel.size (by simp; omega)
      have HSD := Lib.hid hsd
      clear hx hst hsd
      generalize ((k.getD j 0) ^^^ p).toNat = y at hby HSD hbl
      go_wp2
      go_roundw
      case rel => exact ⟨j + 1, by omega, by go_num, HSD.out.1, hbl⟩
      case measure => simp [intOf]; omega
    · obtain rfl : j = 64 := by omega
      have hfin := XR_full p k l HK.out
      have hsl : Sl wr wr.heap.size (.slice (some ⟨g1, 0, none⟩) N n1) (xorL p k ++ l) := by
        have hlen : (xorL p k ++ l).length = N := by rw [← hfin, HXL.out]
        rw [hfin] at hown
        have : Own 5 wr w.heap.size (.slice (some ⟨g1, 0, none⟩) N n1) (xorL p k ++ l) := by
          unfold Own
          rw [hlen]
          exact hown
        exact this.sl
      have hlf : (xorL p k ++ l).length ≤ 1073741824 := by rw [← hfin, HXL.out]; omega
      clear hown hfin
      go_wp2_with fail
      refine (implSha_any _ (xorL p k ++ l) wr hsl hlf (hI.below hI.lt hbel) (hG.below hG.lt hbel)).mono ?_
      rintro e w5 ⟨v5, rfl, hown5, hb5⟩
      go_wp2
      go_ret
      exact ⟨_, rfl, hown5.mono hbel.size, hbel.trans (hb5.mono hbel.size)⟩
end Go.Proofs.YtnlpmhofikoaaaaDoor
