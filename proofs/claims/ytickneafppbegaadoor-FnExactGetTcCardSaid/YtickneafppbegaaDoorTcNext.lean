/- Where an entry has its place: whoOf, placeOf, isNext of the program. -/
import Derived.Test.YtickneafppbegaaDoorTcM
import Derived.Test.YtickneafppbegaaDoorEnt
namespace Go.Proofs.YtickneafppbegaaDoor
open Go.ChangeShapes Go.WideShapes Go.ChangeAt Go.RowKit

theorem whoOf_any (x y : Int) (u : Value) (w : World) :
    Calls Tryd.prog 53 #[.agg #[.int .i64 x, .int .i64 y, u]] w (fun e w' => e = .returned (.int .i64 x) ∧ Below w.heap.size w w') := by
  have hB : Below w.heap.size w (w.alloc (.cells #[.int .i64 x, .int .i64 y, u] 58)) := (Below.refl _ w).alloc (Nat.le_refl _) _
  go_enter Tryd.func53, Tryd.ntmps53
  go_wp2
  go_ret
  exact ⟨rfl, hB⟩

set_option maxRecDepth 100000 in
set_option maxHeartbeats 4000000 in
theorem placeOf_any (v : Value) (M : List Et) (z : Int) (w : World) (h : SlE w w.heap.size v M) :
    Calls Tryd.prog 52 #[v, .int .i64 z, .func (Fn.func 53) #[] #[]] w (fun e w' => ∃ r : Nat, e = .returned (.int .i64 (r : Int)) ∧ r ≤ M.length ∧ (∀ t, 0 < r → M[r - 1]? = some t → t.x < z) ∧ (∀ t, M[r]? = some t → z ≤ t.x) ∧ Below w.heap.size w w') := by
  obtain ⟨A, c, rfl, h1, h2, h0, h3⟩ := h
  unfold maxLen at h2
  clear h0
  go_enter Tryd.func52, Tryd.ntmps52
  go_wp2
  go_loopw [7, 8] (fun p q wr => ∃ f g : Nat, f ≤ g ∧ g ≤ M.length ∧ p = .int .i64 (f : Int) ∧ q = .int .i64 (g : Int) ∧ Hid (∀ t, 0 < f → M[f - 1]? = some t → t.x < z) ∧ Hid (∀ t, M[g]? = some t → z ≤ t.x) ∧ Hid (Below w.heap.size w wr))
    (fun p q _ => (intOf q).toNat - (intOf p).toNat)
  case atStart => exact ⟨0, M.length, Nat.zero_le _, Nat.le_refl _, rfl, rfl, Lib.hid (fun t h => absurd h (Nat.lt_irrefl _)), Lib.hid (fun t h => by simp at h), Lib.hid (Below.refl _ _)⟩
  case round =>
    obtain ⟨f, g, hfg, hg, rfl, rfl, hf, hgg, HB⟩ := hrel
    by_cases hlt : f < g
    · have hfl : (f : Int) < (g : Int) := by omega
      obtain ⟨b, off, rfl, hbb, hcell⟩ := h3 (by omega)
      obtain ⟨m, hm⟩ : ∃ m : Nat, m = f + (g - f) / 2 := ⟨_, rfl⟩
      have hm1 : f ≤ m := by omega
      have hm2 : m < g := by omega
      have hmz : (f : Int) + ((g : Int) - (f : Int)).tdiv 2 = (m : Int) := by
        rw [hm, Int.tdiv_eq_ediv_of_nonneg (by omega)]
        omega
      obtain ⟨t, ht⟩ := getE (L := M) (k := m) (by omega)
      obtain ⟨u, g0, g1, g2, s1⟩ := (hcell m t ht).below HB.out hbb
      have HT := Lib.hid ht
      have HC := Lib.hid (whoOf_any t.x t.y u wr)
      obtain ⟨A1, e1, rfl, _⟩ := s1
      obtain ⟨tx, ty, tk⟩ := t
      dsimp only at *
      have hml : m < M.length := by omega
      clear hcell ht hm
      go_wp2_with fail
      refine HC.out.mono ?_
      rintro ev w2 ⟨rfl, hb2⟩
      have HB2 := Lib.hid (HB.out.trans (hb2.mono HB.out.size))
      clear hb2
      by_cases hc : tx < z
      · have HF : Hid (∀ t, 0 < m + 1 → M[m + 1 - 1]? = some t → t.x < z) := Lib.hid (fun t _ h => by
          rw [Nat.add_sub_cancel, HT.out] at h
          cases h
          exact hc)
        go_wp2
        go_roundw
        case rel => exact ⟨m + 1, g, by omega, by omega, by go_num, rfl, HF, hgg, HB2⟩
        case measure => simp [intOf]; omega
      · have HF : Hid (∀ t, M[m]? = some t → z ≤ t.x) := Lib.hid (fun t h => by
          rw [HT.out] at h
          cases h
          dsimp only
          omega)
        go_wp2
        go_roundw
        case rel => exact ⟨f, m, by omega, by omega, rfl, rfl, hf, HF, HB2⟩
        case measure => simp [intOf]; omega
    · obtain rfl : f = g := by omega
      go_wp2
      go_ret
      exact ⟨f, rfl, hg, hf.out, hgg.out, HB.out⟩

set_option maxHeartbeats 1000000 in
theorem isNext_any (v u : Value) (M : List Et) (x y : Int) (w : World) (h : SlE w w.heap.size v M) :
    Calls Tryd.prog 46 #[v, .agg #[.int .i64 x, .int .i64 y, u]] w (fun e w' => ∃ r, e = .returned (.bool r) ∧ Below w.heap.size w w' ∧ (Asc M → r = nextB M x)) := by
  have hB : Below w.heap.size w (w.alloc (.cells #[.int .i64 x, .int .i64 y, u] 58)) := (Below.refl _ w).alloc (Nat.le_refl _) _
  have HB := Lib.hid hB
  have HC := Lib.hid (placeOf_any v M x _ (h.up hB))
  obtain ⟨A, c, rfl, h1, h2, h0, h3⟩ := id h
  clear h0 h1 h2 h3
  go_enter Tryd.func46, Tryd.ntmps46
  go_wp2_with fail
  refine HC.out.mono ?_
  rintro ev w2 ⟨r, rfl, k1, k2, k3, hb⟩
  have HB2 := Lib.hid (HB.out.trans (hb.mono HB.out.size))
  have HR := Lib.hid (place_last k1 k2 k3)
  clear k2 k3 hb
  obtain ⟨q, hq⟩ : ∃ q, q = ((r : Int) == (M.length : Int)) := ⟨_, rfl⟩
  have HQ : Hid (q = decide ((r : Int) = (M.length : Int))) := Lib.hid (by rw [hq]; rfl)
  by_cases hc : (r : Int) = (M.length : Int)
  · have hh : ((r : Int) == (M.length : Int)) = true := by rw [beq_iff_eq]; exact hc
    obtain rfl : q = true := by rw [hq, hh]
    clear hq hc
    go_wp2
    go_ret
    exact ⟨true, rfl, HB2.out, fun ha => by rw [HQ.out]; exact HR.out ha⟩
  · have hh : ((r : Int) == (M.length : Int)) = false := by rw [beq_eq_false_iff_ne]; exact hc
    obtain rfl : q = false := by rw [hq, hh]
    clear hq hc
    go_wp2
    go_ret
    exact ⟨false, rfl, HB2.out, fun ha => by rw [HQ.out]; exact HR.out ha⟩
end Go.Proofs.YtickneafppbegaaDoor
