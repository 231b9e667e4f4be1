/- The transactions of a block: are they so many at most, and each of so many bytes at most? areTxs of the program. -/
import Derived.Test.YtdoaikanaodefaaDoorBox
import Derived.Test.YtdoaikanaodefaaDoorMem
namespace Go.Proofs.YtdoaikanaodefaaDoor
open Go.ChangeShapes Go.WideShapes Go.ChangeAt Go.RowKit

/-- Has none of the rows more than b bytes? -/
def allMost (T : List (List UInt8)) (b : Int) : Bool := T.all fun r => decide ((r.length : Int) ≤ b)
theorem allMost_no {T : List (List UInt8)} {b : Int} {k : Nat} (hk : k < T.length) (h : b < ((T.getD k []).length : Int)) : allMost T b = false := by
  rcases hb : allMost T b with _ | _
  · rfl
  · have := List.all_eq_true.1 hb (T.getD k []) (by simp [List.getD_eq_getElem?_getD, List.getElem?_eq_getElem hk])
    have := of_decide_eq_true this
    omega
theorem allMost_yes {T : List (List UInt8)} {b : Int} (h : ∀ k, k < T.length → ((T.getD k []).length : Int) ≤ b) : allMost T b = true := List.all_eq_true.2 fun r hr => by
  obtain ⟨k, hk, rfl⟩ := List.mem_iff_getElem.1 hr
  have := h k hk
  simpa [List.getD_eq_getElem?_getD, List.getElem?_eq_getElem hk] using this
/-- Are there so many rows at most, each of so many bytes at most? -/
def txsB (b c : Int) (T : List (List UInt8)) : Bool := decide ((T.length : Int) ≤ c) && allMost T b
theorem txsB_many {b c : Int} {T : List (List UInt8)} (h : c < (T.length : Int)) : txsB b c T = false := by
  unfold txsB
  rw [decide_eq_false (by omega)]
  rfl
theorem txsB_few {b c : Int} {T : List (List UInt8)} (h : ¬ c < (T.length : Int)) : txsB b c T = allMost T b := by
  unfold txsB
  rw [decide_eq_true (show (T.length : Int) ≤ c by omega)]
  rfl
theorem txsB_yes {b c : Int} {T : List (List UInt8)} (h : txsB b c T = true) : (T.length : Int) ≤ c ∧ ∀ r ∈ T, (r.length : Int) ≤ b := by
  unfold txsB at h
  rw [Bool.and_eq_true] at h
  exact ⟨of_decide_eq_true h.1, fun r hr => of_decide_eq_true (List.all_eq_true.1 h.2 r hr)⟩

set_option maxHeartbeats 2000000 in
theorem areTxs_any (a b c d e : Int) (v : Value) (T : List (List UInt8)) (w : World) (h : SlS w w.heap.size v T) :
    Calls Tryd.prog 70 #[.agg #[.int .i64 a, .int .i64 b, .int .i64 c, .int .i64 d, .int .i64 e], v] w (fun ev w' => ev = .returned (.bool (txsB b c T)) ∧ Below w.heap.size w w') := by
  obtain ⟨A, cv, rfl, h1, h2, h0, h3⟩ := h
  unfold maxLen at h2
  clear h0
  have hB : Below w.heap.size w (w.alloc (.cells #[.int .i64 a, .int .i64 b, .int .i64 c, .int .i64 d, .int .i64 e] 59)) := (Below.refl _ w).alloc (Nat.le_refl _) _
  by_cases hm : c < (T.length : Int)
  · rw [txsB_many hm]
    clear h3
    go_enter Tryd.func70, Tryd.ntmps70
    go_wp2
    go_ret
    exact ⟨rfl, hB⟩
  · rw [txsB_few hm]
    obtain ⟨R, hR⟩ : ∃ R, R = allMost T b := ⟨_, rfl⟩
    rw [← hR]
    have HR := Lib.hid hR
    clear hR
    go_enter Tryd.func70, Tryd.ntmps70
    go_wp2
    go_loopw [14] (fun j wr => ∃ k : Nat, k ≤ T.length ∧ j = .int .i64 k ∧ Hid (∀ j, j < k → ((T.getD j []).length : Int) ≤ b) ∧ w.alloc (.cells #[.int .i64 a, .int .i64 b, .int .i64 c, .int .i64 d, .int .i64 e] 59) = wr)
      (fun i _ => T.length - (intOf i).toNat)
    case atStart => exact ⟨0, Nat.zero_le _, rfl, Lib.hid (fun j hj => by omega), rfl⟩
    case round =>
      obtain ⟨k, hk, rfl, hok, rfl⟩ := hrel
      by_cases hlt : k < T.length
      · obtain ⟨b0, off, rfl, hbb, hcell⟩ := h3 (by omega)
        obtain ⟨u, hu, hsl⟩ := hcell k hlt
        have hklt : (k : Int) < (T.length : Int) := by omega
        replace hu := (hB.cell (p := ⟨b0, off + k, none⟩) hbb).trans hu
        have HBad : Hid (b < ((T.getD k []).length : Int) → R = false) := Lib.hid fun e => HR.out.trans (allMost_no hlt e)
        have HGood : Hid (¬ b < ((T.getD k []).length : Int) → ∀ j, j < k + 1 → ((T.getD j []).length : Int) ≤ b) := Lib.hid fun e j hj => by
          rcases Nat.lt_or_ge j k with h | h
          · exact hok.out j h
          · obtain rfl : j = k := by omega
            omega
        generalize T.getD k [] = l at hsl HBad HGood
        obtain ⟨Au, cu, rfl, _⟩ := id hsl
        clear hcell hok
        by_cases hlh : b < (l.length : Int)
        case pos =>
          obtain rfl := HBad.out hlh
          go_wp2
          go_ret
          exact ⟨rfl, hB⟩
        case neg =>
          have HG := Lib.hid (HGood.out hlh)
          go_wp2
          go_roundw
          case rel => exact ⟨k + 1, by omega, by go_num, HG, trivial⟩
          case measure => simp [intOf]; omega
      · obtain rfl : k = T.length := by omega
        obtain rfl : R = true := HR.out.trans (allMost_yes hok.out)
        go_wp2
        go_ret
        exact ⟨rfl, hB⟩
end Go.Proofs.YtdoaikanaodefaaDoor
