/- The contract of StackRoot as its model has it. -/
import Derived.Test.YtnpdbadjbmeamaaDoorStackPush
namespace Go.Proofs.YtnpdbadjbmeamaaDoor
open Go.ChangeShapes Go.WideShapes Go.ChangeAt Go.RowKit

theorem ok_root {H : List Int} {L : List (List UInt8)} (h : okS H L = true) {k : Nat} (hk : k < L.length) : (L.getD k []).length = 32 := by
  obtain ⟨h1, h2⟩ := okS_iff h
  exact (h2 k (by omega)).2.2.1

set_option maxRecDepth 100000 in
set_option maxHeartbeats 2000000 in
theorem specStackRoot_any (v : Value) (H : List Int) (L : List (List UInt8)) (w : World) (h : SlK w w.heap.size v H L) :
    Calls Tryd.prog 25 #[v] w (Fresh w (rootS H L)) := by
  have hK := h
  obtain ⟨a, s, rfl, hIs, hS⟩ := h
  obtain ⟨A, c, rfl, p1, p2, p0, p3⟩ := hIs
  obtain ⟨A', c', rfl, q1, q2, q0, q3⟩ := hS
  unfold maxLen at p2 q2
  clear p0 q0 p3
  have hb : Below w.heap.size w (w.alloc (.cells #[.slice A H.length c, .slice A' L.length c'] 27)) := (Below.refl _ w).alloc (Nat.le_refl _) _
  have HK := Lib.hid (hK.up hb)
  clear hK
  cases hok : okS H L with
  | false =>
    rw [rootS_no hok]
    have HO := Lib.hid hok
    clear hok
    go_enter Tryd.func25, Tryd.ntmps25
    go_wp2_with fail
    refine (specStackOk_any _ H L _ HK.out).mono ?_
    rw [HO.out]
    rintro e w2 ⟨rfl, hb2⟩
    go_wp2
    go_ret
    exact ⟨_, rfl, World.ownsRow_nil _ _ _ _, hb.trans (hb2.mono hb.size)⟩
  | true =>
    by_cases h0 : L.length = 0
    case pos =>
      rw [rootS_nil hok h0]
      have HO := Lib.hid hok
      have hl0 : ((L.length : Int) == 0) = true := by rw [h0]; rfl
      clear hok h0
      go_enter Tryd.func25, Tryd.ntmps25
      go_wp2_with fail
      refine (specStackOk_any _ H L _ HK.out).mono ?_
      rw [HO.out]
      rintro e w2 ⟨rfl, hb2⟩
      obtain ⟨hc2, hf2⟩ := bcell hb2
      have hb3 := hb.trans (hb2.mono hb.size)
      go_wp2_with fail
      refine (specSha_any _ [] _ Sl.nil_ (by simp)).mono ?_
      rintro e w3 ⟨u3, rfl, ho, hb4⟩
      go_wp2
      go_ret
      exact ⟨_, rfl, ho.mono hb3.size, hb3.trans (hb4.mono hb3.size)⟩
    case neg =>
      obtain ⟨R, hR⟩ : ∃ R, rootS H L = R := ⟨_, rfl⟩
      rw [hR]
      rw [rootS_some hok h0] at hR
      have HR := Lib.hid hR
      have HO := Lib.hid hok
      have HH := Lib.hid (fun k (hk : k < L.length) => ok_root hok hk)
      have hl0 : ((L.length : Int) == 0) = false := by rw [beq_eq_false_iff_ne]; omega
      obtain ⟨n, hn⟩ : ∃ n, L.length = n + 1 := ⟨L.length - 1, by omega⟩
      have HN := Lib.hid hn
      have hlast : (L.length : Int) - 1 = (n : Int) := by omega
      have hnL : n < L.length := by omega
      obtain ⟨b, off, rfl, hbb, hcell⟩ := q3 (by omega)
      clear hok h0 hR hn
      go_enter Tryd.func25, Tryd.ntmps25
      go_wp2_with fail
      refine (specStackOk_any _ H L _ HK.out).mono ?_
      rw [HO.out]
      rintro e w2 ⟨rfl, hb2⟩
      have hb3 := hb.trans (hb2.mono hb.size)
      have HBX := Lib.hid (keep2 (w4 := w.alloc (.cells #[.slice A H.length c, .slice (some ⟨b, off, none⟩) L.length c'] 27)) (g := w.heap.size) (p := .slice A H.length c) (q := .slice (some ⟨b, off, none⟩) L.length c') ⟨by simp, by simp⟩ (by simp) hb2)
      obtain ⟨hd0, hd1⟩ := HBX.out
      obtain ⟨x, hx0, hx⟩ := hcell n hnL
      have hx1 := (hb3.cell (p := ⟨b, off + n, none⟩) hbb).trans hx0
      have hxs := hx.up hb3
      have hxl := HH.out n hnL
      have HR1 := HR.out
      have HN1 := HN.out
      rw [show L.length - 1 = n by omega] at HR1
      generalize L.getD n [] = l at hxs hxl HR1
      have HR2 := Lib.hid HR1
      have HXL := Lib.hid hxl
      have hl4 : l.length ≤ 4294967296 := by omega
      have hl2 : (L.length : Int) - 2 = (n : Int) - 1 := by omega
      clear hx0 hx HR1 hxl HN1
      go_wp2_with fail
      refine (l01Copy_any x l _ hxs hl4).mono ?_
      rintro e w3 ⟨u3, rfl, ho3, hb4⟩
      have ho3' := ho3.mono hb3.size
      have hb5 := hb3.trans (hb4.mono hb3.size)
      have hb24 := hb2.trans (hb4.mono hb2.size)
      clear hd0 hd1 hx1 hxs
      go_wp2
      go_loopw [4, 5] (fun o i wr => ∃ (k : Nat) (z : Int) (y : List UInt8), k ≤ n ∧ i = .int .i64 z ∧ Hid (z = (k : Int) - 1) ∧ y.length = 32 ∧ Own 5 wr w.heap.size o y ∧ Below w.heap.size w wr ∧ Below (w.alloc (.cells #[.slice A H.length c, .slice (some ⟨b, off, none⟩) L.length c'] 27)).heap.size (w.alloc (.cells #[.slice A H.length c, .slice (some ⟨b, off, none⟩) L.length c'] 27)) wr ∧ Hid (downL L k y = R))
        (fun _ i _ => ((intOf i) + 1).toNat)
      case atStart => exact ⟨n, (n : Int) - 1, l, Nat.le_refl _, rfl, Lib.hid rfl, HXL.out, ho3', hb5, hb24, HR2⟩
      case round =>
        obtain ⟨k, z, y, hkn, rfl, hz, hyl, hy, hbw, hbx, hdn⟩ := hrel
        have HYL := Lib.hid hyl
        rcases k with _ | k
        · have hz0 : z < 0 := by have := hz.out; omega
          have HE : R = y := hdn.out.symm
          subst HE
          clear hyl hz
          go_wp2
          go_ret
          exact ⟨_, rfl, hy, hbw⟩
        · obtain rfl : z = (k : Int) := by have := hz.out; omega
          have hkL : k < L.length := by omega
          obtain ⟨x, hx0, hx⟩ := hcell k hkL
          have hx1 := (hbw.cell (p := ⟨b, off + k, none⟩) hbb).trans hx0
          have hxs := hx.up hbw
          have hxl := HH.out k hkL
          obtain ⟨hd0, hd1⟩ := keep2 (w4 := w.alloc (.cells #[.slice A H.length c, .slice (some ⟨b, off, none⟩) L.length c'] 27)) (g := w.heap.size) (p := .slice A H.length c) (q := .slice (some ⟨b, off, none⟩) L.length c') ⟨by simp, by simp⟩ (by simp) hbx
          have HDN := hdn.out
          rw [downL_succ] at HDN
          generalize L.getD k [] = l at hxs hxl HDN
          have HXL2 := Lib.hid hxl
          have HD2 := Lib.hid HDN
          have hkk : (k : Int) < (L.length : Int) := by omega
          clear hx0 hx HDN hdn hz hyl hxl
          go_wp2_with fail
          refine (specNodeHash_any x _ l y _ hxs hy.sl (by rw [HXL2.out]; omega) (by rw [HYL.out]; omega)).mono ?_
          rintro e w4 ⟨u4, rfl, ho4, hb6⟩
          have HO4 := Lib.hid (ho4.mono hbw.size)
          have HB4 := Lib.hid (hbw.trans (hb6.mono hbw.size))
          have HX4 := Lib.hid (hbx.trans (hb6.mono hbx.size))
          clear ho4 hb6
          go_wp2
          go_roundw
          case rel => exact ⟨k, (k : Int) - 1, nodeL l y, by omega, rfl, Lib.hid rfl, nodeL_length _ _, HO4.out, HB4.out, HX4.out, HD2⟩
          case measure => simp [intOf]
end Go.Proofs.YtnpdbadjbmeamaaDoor
