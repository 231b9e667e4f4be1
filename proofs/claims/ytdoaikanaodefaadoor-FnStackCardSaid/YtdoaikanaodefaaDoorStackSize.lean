/- The contracts of StackSize, as the program has it and as its model has it. -/
import Derived.Test.YtdoaikanaodefaaDoorStackOk
namespace Go.Proofs.YtdoaikanaodefaaDoor
open Go.ChangeShapes Go.WideShapes Go.ChangeAt Go.RowKit

theorem shl_wrap {j : Nat} (hj : j ≤ 20) : wrap64 ((2 : Int) ^ j) = ((2 ^ j : Nat) : Int) := by
  have hp : 2 ^ j ≤ 2 ^ 20 := Nat.pow_le_pow_right (by omega) hj
  have e : ((2 : Int) ^ j) = ((2 ^ j : Nat) : Int) := by simp
  rw [e]
  generalize 2 ^ j = k at hp
  unfold wrap64
  omega
theorem shl_le {j : Nat} (hj : j ≤ 20) : 2 ^ j ≤ 1048576 := Nat.pow_le_pow_right (n := 2) (by omega) hj
theorem size_step {H : List Int} {L : List (List UInt8)} {k : Nat} (h : OkK H L (k + 1)) :
    ∃ j r : Nat, it H k = (j : Int) ∧ j ≤ 20 ∧ wrap64 ((2 : Int) ^ j) = (r : Int) ∧ r ≤ 1048576 ∧ szK H k ≤ 22020096 ∧ Hid (szK H (k + 1) = szK H k + r) := by
  have hat := h k (by omega)
  have hsz := szK_le (H := H) (L := L) (k := k) fun i hi => h i (by omega)
  have hfew := ok_few h k (by omega)
  unfold OkAt at hat
  obtain ⟨j, hj⟩ := Int.eq_ofNat_of_zero_le hat.1
  have hss : szK H (k + 1) = szK H k + 2 ^ j := by
    rw [szK, hj, Int.toNat_natCast]
  have hj20 : j ≤ 20 := by omega
  have hpw := shl_le hj20
  exact ⟨j, 2 ^ j, hj, hj20, shl_wrap hj20, hpw, by omega, Lib.hid hss⟩
theorem sizeS_yes {H : List Int} {L : List (List UInt8)} (h : okS H L = true) : sizeS H L = (szK H H.length : Int) := if_pos h
theorem sizeS_no {H : List Int} {L : List (List UInt8)} (h : okS H L = false) : sizeS H L = 0 := if_neg (by simp [h])

set_option maxRecDepth 100000 in
set_option maxHeartbeats 2000000 in
theorem implStackSize_any (v : Value) (H : List Int) (L : List (List UInt8)) (w : World) (h : SlK w w.heap.size v H L) :
    Calls Tryd.prog 12 #[v] w (Tells (.int .i64 (sizeS H L)) w) := by
  have hK := h
  obtain ⟨a, s, rfl, hI, hS⟩ := h
  obtain ⟨A, c, rfl, p1, p2, p0, p3⟩ := hI
  obtain ⟨A', c', rfl, q1, q2, q0, q3⟩ := hS
  unfold maxLen at p2 q2
  clear p0 q0 q3
  have hb : Below w.heap.size w (w.alloc (.cells #[.slice A H.length c, .slice A' L.length c'] 27)) := (Below.refl _ w).alloc (Nat.le_refl _) _
  have HK := Lib.hid (hK.up hb)
  clear hK
  cases hok : okS H L with
  | false =>
    rw [sizeS_no hok]
    have HO := Lib.hid hok
    clear hok
    go_enter Tryd.func12, Tryd.ntmps12
    go_wp2_with fail
    refine (implStackOk_any _ H L _ HK.out).mono ?_
    rw [HO.out]
    rintro e w2 ⟨rfl, hb2⟩
    go_wp2
    go_ret
    exact ⟨rfl, hb.trans (hb2.mono hb.size)⟩
  | true =>
    rw [sizeS_yes hok]
    have HO := Lib.hid hok
    clear hok
    go_enter Tryd.func12, Tryd.ntmps12
    go_wp2_with fail
    refine (implStackOk_any _ H L _ HK.out).mono ?_
    rw [HO.out]
    rintro e w2 ⟨rfl, hb2⟩
    have hb3 := hb.trans (hb2.mono hb.size)
    obtain ⟨hc2, hf2⟩ := bcell hb2
    go_wp2
    obtain ⟨hlen, hall⟩ := okS_iff HO.out
    have hmany := ok_len hall
    have HA := Lib.hid (show OkN H L H.length from hall)
    clear hlen hall hc2 hf2
    go_loopw [3, 12] (fun q i wr => ∃ k : Nat, k ≤ H.length ∧ i = .int .i64 k ∧ q = .int .i64 (szK H k : Int) ∧ wr = w2)
      (fun _ i _ => H.length - (intOf i).toNat)
    case atStart => exact ⟨0, Nat.zero_le _, rfl, rfl, rfl⟩
    case round =>
      obtain ⟨k, hk, rfl, rfl, rfl⟩ := hrel
      by_cases hlt : k < H.length
      · obtain ⟨b, off, rfl, hbb, hcell⟩ := p3 (by omega)
        have hc0 := (hb3.cell (p := ⟨b, off + k, none⟩) hbb).trans (hcell k hlt)
        obtain ⟨j, r, hj, hj0, hwr, hr, hq1, HN⟩ := size_step (H := H) (L := L) (k := k) fun i hi => HA.out i (by omega)
        rw [hj] at hc0
        generalize szK H k = q at hq1 HN ⊢
        have hk1 : k + 1 ≤ H.length := hlt
        clear hj hcell
        go_wp2
        go_roundw
        case rel => exact ⟨k + 1, hk1, by go_num, by rw [HN.out]; simp, trivial⟩
        case measure => clear hwr; simp [intOf]; omega
      · obtain rfl : k = H.length := by omega
        go_wp2
        go_ret
        exact ⟨rfl, hb3⟩

end Go.Proofs.YtdoaikanaodefaaDoor
