/- The contracts of GetRaw: as the program has it (readRaw, codeOf) and as its model has it. -/
import Derived.Test.YtopbalemfljphaaDoorPut
import Derived.Test.YtopbalemfljphaaDoorAs
namespace Go.Proofs.YtopbalemfljphaaDoor
open Go.ChangeShapes Go.WideShapes Go.ChangeAt Go.RowKit

/-- The call returns a new row that reads as l, and two values more; nothing that was there has turned. -/
def Fresh3 (w : World) (l : List UInt8) (x y : Value) (e : Ending) (w' : World) : Prop :=
  ∃ u, e = .returned (.tuple #[u, x, y]) ∧ Own 5 w' w.heap.size u l ∧ Below w.heap.size w w'
/-- The error that has the code c. -/
def errV (c : Int) : Value := if c = 0 then .nilIface else .iface 83 (.agg #[.int .i64 c])
theorem errV_zero : errV 0 = .nilIface := rfl
theorem errV_one : errV 1 = .iface 83 (.agg #[.int .i64 1]) := rfl
theorem codeOf_any (c : Int) (w : World) (hg : ErrT w) :
    Calls Tryd.prog 23 #[errV c] w fun e w' => e = .returned (.int .i64 c) ∧ Below w.heap.size w w' := by
  unfold errV
  split
  · rename_i h
    subst h
    exact codeOf_nil w
  · exact codeOf_err c w hg

set_option maxRecDepth 100000 in
set_option maxHeartbeats 400000 in
theorem readRaw_no (v : Value) (l : List UInt8) (a n : Int) (w : World) (h : Sl w w.heap.size v l) (hwa : a ≤ 9223372036854775807) (hok : ¬ rawOk l a n) :
    Calls Tryd.prog 84 #[v, .int .i64 a, .int .i64 n] w fun e w' => e = .returned (.tuple #[.slice none 0 0, .int .i64 0, errV 1]) ∧ w = w' := by
  rw [errV_one]
  obtain ⟨A, c, rfl, h1, h2, h0, h3⟩ := h
  unfold maxLen at h2
  clear h0 h3
  unfold rawOk at hok
  by_cases ha : a < 0
  · clear hok
    go_enter Tryd.func84, Tryd.ntmps84
    go_wp2
    go_ret3
    exact ⟨rfl, rfl⟩
  · by_cases hn : n < 0
    · clear hok
      go_enter Tryd.func84, Tryd.ntmps84
      go_wp2
      go_ret3
      exact ⟨rfl, rfl⟩
    · have hlt : (l.length : Int) - a < n := by omega
      clear hok
      go_enter Tryd.func84, Tryd.ntmps84
      go_wp2
      go_ret3
      exact ⟨rfl, rfl⟩

set_option maxRecDepth 100000 in
set_option maxHeartbeats 400000 in
theorem readRaw_yes (v : Value) (l : List UInt8) (a n : Nat) (w : World) (h : Sp w w.heap.size v l) (hl : l.length ≤ 4294967296) (hok : a + n ≤ l.length) :
    Calls Tryd.prog 84 #[v, .int .i64 (a : Int), .int .i64 (n : Int)] w (Fresh3 w ((l.drop a).take n) (.int .i64 ((a : Int) + (n : Int))) .nilIface) := by
  have hlt : ¬ ((l.length : Int) - (a : Int) < (n : Int)) := by omega
  have hLl : ((l.drop a).take n).length ≤ 4294967296 := by simp; omega
  rcases h with ⟨rfl, rfl⟩ | ⟨b, off, c, rfl, h1, h2, h3, h4⟩
  · obtain rfl : a = 0 := by simp at hok; omega
    obtain rfl : n = 0 := by simp at hok; omega
    go_enter Tryd.func84, Tryd.ntmps84
    go_wp2_with fail
    refine (joined_any _ _ [] [] _ Sl.nil_ Sl.nil_ (by simp) (by simp)).mono ?_
    rintro e w1 ⟨v1, rfl, hown1, hb1⟩
    go_wp2
    go_ret3
    exact ⟨v1, rfl, hown1, hb1⟩
  · by_cases hac : a = c
    · obtain rfl : n = 0 := by omega
      subst hac
      have hs := sl_cut (B := w.heap.size) a 0 h2 h3 h4 hok off 0 (fun h => absurd h (by omega)) (Nat.le_refl _) (by omega)
      obtain ⟨L, hL⟩ : ∃ L, L = (l.drop a).take 0 := ⟨_, rfl⟩
      rw [← hL] at hs hLl ⊢
      unfold maxLen at h2
      clear h4 hL
      go_enter Tryd.func84, Tryd.ntmps84
      go_wp2_with fail
      refine (joined_any _ _ [] L _ Sl.nil_ hs (by simp) hLl).mono ?_
      rintro e w1 ⟨v1, rfl, hown1, hb1⟩
      go_wp2
      go_ret3
      exact ⟨v1, rfl, hown1, hb1⟩
    · have hs := sl_cut (B := w.heap.size) a n h2 h3 h4 hok (off + a) (c - a) (fun _ => rfl) (by omega) (by omega)
      obtain ⟨L, hL⟩ : ∃ L, L = (l.drop a).take n := ⟨_, rfl⟩
      rw [← hL] at hs hLl ⊢
      unfold maxLen at h2
      clear h4 hL
      go_enter Tryd.func84, Tryd.ntmps84
      go_wp2_with fail
      refine (joined_any _ _ [] L _ Sl.nil_ hs (by simp) hLl).mono ?_
      rintro e w1 ⟨v1, rfl, hown1, hb1⟩
      go_wp2
      go_ret3
      exact ⟨v1, rfl, hown1, hb1⟩

/-- readRaw, whatever the place and the number. -/
theorem readRaw_any (v : Value) (l : List UInt8) (a n : Int) (w : World) (h : Sp w w.heap.size v l) (hl : l.length ≤ 4294967296) (hwa : a ≤ 9223372036854775807) :
    Calls Tryd.prog 84 #[v, .int .i64 a, .int .i64 n] w (Fresh3 w (rawL l a n) (.int .i64 (rawN l a n)) (errV (rawE l a n))) := by
  by_cases hok : rawOk l a n
  · obtain ⟨e1, e2, e3⟩ := raw_yes hok
    rw [e1, e2, e3]
    obtain ⟨a', rfl⟩ := Int.eq_ofNat_of_zero_le hok.1
    obtain ⟨n', rfl⟩ := Int.eq_ofNat_of_zero_le hok.2.1
    have := hok.2.2
    rw [Int.toNat_natCast, Int.toNat_natCast]
    exact readRaw_yes v l a' n' w h hl (by omega)
  · obtain ⟨e1, e2, e3⟩ := raw_no hok
    rw [e1, e2, e3]
    exact (readRaw_no v l a n w h.sl hwa hok).mono fun e w' ⟨he, hw⟩ => ⟨_, he, World.ownsRow_nil _ _ _ _, by subst hw; exact Below.refl _ _⟩

set_option maxRecDepth 100000 in
set_option maxHeartbeats 400000 in
theorem specGetRaw_any (v : Value) (l : List UInt8) (a n : Int) (w : World) (h : Sp w w.heap.size v l) (hl : l.length ≤ 4294967296) :
    Calls Tryd.prog 79 #[v, .int .i64 a, .int .i64 n] w (Fresh3 w (rawL l a n) (.int .i64 (rawN l a n)) (.int .i64 (rawE l a n))) := by
  by_cases hok : rawOk l a n
  · obtain ⟨e1, e2, e3⟩ := raw_yes hok
    rw [e1, e2, e3]
    obtain ⟨a, rfl⟩ := Int.eq_ofNat_of_zero_le hok.1
    obtain ⟨n, rfl⟩ := Int.eq_ofNat_of_zero_le hok.2.1
    have hok' := hok.2.2
    rw [Int.toNat_natCast, Int.toNat_natCast]
    have hok2 : a + n ≤ l.length := by omega
    have hlt : ¬ ((l.length : Int) - (a : Int) < (n : Int)) := by omega
    have hlt2 : ¬ ((l.length : Int) < (a : Int)) := by omega
    have hLl : ((l.drop a).take n).length ≤ 4294967296 := by simp; omega
    clear e1 e2 e3 hok hok'
    rcases h with ⟨rfl, rfl⟩ | ⟨b, off, c, rfl, h1, h2, h3, h4⟩
    · obtain rfl : a = 0 := by simp at hok2; omega
      obtain rfl : n = 0 := by simp at hok2; omega
      go_enter Tryd.func79, Tryd.ntmps79
      go_wp2_with fail
      refine (l01Copy_any _ [] _ Sl.nil_ (by simp)).mono ?_
      rintro e w1 ⟨v1, rfl, hown1, hb1⟩
      go_wp2
      go_ret3
      exact ⟨v1, rfl, hown1, hb1⟩
    · by_cases hac : a = c
      · obtain rfl : n = 0 := by omega
        subst hac
        have hs := sl_cut (B := w.heap.size) a 0 h2 h3 h4 hok2 off 0 (fun h => absurd h (by omega)) (Nat.le_refl _) (by omega)
        obtain ⟨L, hL⟩ : ∃ L, L = (l.drop a).take 0 := ⟨_, rfl⟩
        rw [← hL] at hs hLl ⊢
        unfold maxLen at h2
        clear h4 hL
        go_enter Tryd.func79, Tryd.ntmps79
        go_wp2_with fail
        refine (l01Copy_any _ L _ hs hLl).mono ?_
        rintro e w1 ⟨v1, rfl, hown1, hb1⟩
        go_wp2
        go_ret3
        exact ⟨v1, rfl, hown1, hb1⟩
      · have hs := sl_cut (B := w.heap.size) a n h2 h3 h4 hok2 (off + a) (c - a) (fun _ => rfl) (by omega) (by omega)
        obtain ⟨L, hL⟩ : ∃ L, L = (l.drop a).take n := ⟨_, rfl⟩
        rw [← hL] at hs hLl ⊢
        unfold maxLen at h2
        clear h4 hL
        go_enter Tryd.func79, Tryd.ntmps79
        go_wp2_with fail
        refine (l01Copy_any _ L _ hs hLl).mono ?_
        rintro e w1 ⟨v1, rfl, hown1, hb1⟩
        go_wp2
        go_ret3
        exact ⟨v1, rfl, hown1, hb1⟩
  · obtain ⟨e1, e2, e3⟩ := raw_no hok
    rw [e1, e2, e3]
    obtain ⟨A, c, rfl, h1, h2, h0, h3⟩ := h.sl
    unfold maxLen at h2
    clear h0 h3 e1 e2 e3 h
    unfold rawOk at hok
    have hcase : a < 0 ∨ (0 ≤ a ∧ n < 0) ∨ (0 ≤ a ∧ 0 ≤ n ∧ (l.length : Int) < a) ∨ (0 ≤ a ∧ 0 ≤ n ∧ a ≤ (l.length : Int) ∧ (l.length : Int) - a < n) := by omega
    clear hok
    rcases hcase with k1 | ⟨k1, k2⟩ | ⟨k1, k2, k3⟩ | ⟨k1, k2, k3, k4⟩
    all_goals
      go_enter Tryd.func79, Tryd.ntmps79
      go_wp2
      go_ret3
      exact ⟨_, rfl, World.ownsRow_nil _ _ _ _, Below.refl _ _⟩
end Go.Proofs.YtopbalemfljphaaDoor
