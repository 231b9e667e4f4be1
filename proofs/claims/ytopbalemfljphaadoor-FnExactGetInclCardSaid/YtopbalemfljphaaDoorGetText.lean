/- The contracts of GetText: as the program has it (readText, codeOf) and as its model has it. -/
import Derived.Test.YtopbalemfljphaaDoorGetVar
namespace Go.Proofs.YtopbalemfljphaaDoor
open Go.ChangeShapes Go.WideShapes Go.ChangeAt Go.RowKit

theorem gv_next (l : List UInt8) (a : Nat) : ∀ f i n, (gvF l a f i n).2.1 ≤ (l.length : Int) := by
  intro f
  induction f with
  | zero => intro i n; simp [gvF]
  | succ f ih =>
    intro i n
    by_cases h1 : l.length ≤ a + i
    · rw [gv_short h1]; simp
    · obtain ⟨q, hq⟩ := Int.eq_ofNat_of_zero_le (bt_lo l (a + i))
      by_cases hb : (0 < i ∧ q = 0) ∨ (i = 8 ∧ 128 ≤ q)
      · rw [gv_bad (by omega) hq hb]; simp
      · by_cases hs : q < 128
        · by_cases hn : 1152921504606846975 < n + q % 128 * 128 ^ i
          · rw [gv_big (by omega) hq hb hs hn]; simp
          · rw [gv_end (by omega) hq hb hs hn]; simp; omega
        · rw [gv_more (by omega) hq hb hs]; exact ih _ _
theorem getV_next (l : List UInt8) (a : Int) : (getV l a).2.1 ≤ (l.length : Int) := by
  unfold getV
  split
  · simp
  · exact gv_next l _ _ _ _

/-- What GetText answers: the bytes, the place behind, the code. -/
def txL (l : List UInt8) (a m : Int) : List UInt8 := if (getV l a).2.2 ≠ 0 then [] else if m < (getV l a).1 then [] else rawL l (getV l a).2.1 (getV l a).1
def txN (l : List UInt8) (a m : Int) : Int := if (getV l a).2.2 ≠ 0 then 0 else if m < (getV l a).1 then 0 else rawN l (getV l a).2.1 (getV l a).1
def txE (l : List UInt8) (a m : Int) : Int := if (getV l a).2.2 ≠ 0 then (getV l a).2.2 else if m < (getV l a).1 then 3 else rawE l (getV l a).2.1 (getV l a).1
theorem txL_len (l : List UInt8) (a m : Int) : (txL l a m).length ≤ l.length := by
  unfold txL
  split
  · simp
  · split
    · simp
    · exact rawL_len _ _ _

set_option maxRecDepth 100000 in
set_option maxHeartbeats 1000000 in
theorem specGetText_any (v : Value) (l : List UInt8) (a m : Int) (w : World) (h : Sp w w.heap.size v l) (hl : l.length ≤ 4294967296) :
    Calls Tryd.prog 76 #[v, .int .i64 a, .int .i64 m] w (Fresh3 w (txL l a m) (.int .i64 (txN l a m)) (.int .i64 (txE l a m))) := by
  have hr := (specGetVar_any v l a w h hl)
  unfold txL txN txE
  obtain ⟨r, hre⟩ : ∃ r, r = getV l a := ⟨_, rfl⟩
  rw [← hre] at hr ⊢
  clear hre
  obtain ⟨n, x, c⟩ := r
  have Hr := Lib.hid hr
  clear hr
  by_cases hc : c = 0
  · subst hc
    by_cases hm : m < n
    · have hz : ¬ ((n, x, (0 : Int)).2.2 ≠ 0) := by simp
      have hm' : m < (n, x, (0 : Int)).1 := hm
      rw [if_neg hz, if_neg hz, if_neg hz, if_pos hm', if_pos hm', if_pos hm']
      clear hz hm'
      go_enter Tryd.func76, Tryd.ntmps76
      go_wp2_with fail
      refine Hr.out.mono ?_
      rintro e w1 ⟨rfl, hb1⟩
      go_wp2
      go_ret3
      exact ⟨_, rfl, World.ownsRow_nil _ _ _ _, hb1⟩
    · have hz : ¬ ((n, x, (0 : Int)).2.2 ≠ 0) := by simp
      have hm' : ¬ m < (n, x, (0 : Int)).1 := hm
      rw [if_neg hz, if_neg hz, if_neg hz, if_neg hm', if_neg hm', if_neg hm']
      clear hz hm'
      go_enter Tryd.func76, Tryd.ntmps76
      go_wp2_with fail
      refine Hr.out.mono ?_
      rintro e w1 ⟨rfl, hb1⟩
      go_wp2_with fail
      refine (specGetRaw_any _ l _ _ _ (h.up hb1) hl).mono ?_
      rintro e w2 ⟨v2, rfl, hown2, hb2⟩
      go_wp2
      go_ret3
      exact ⟨v2, rfl, hown2.mono hb1.size, hb1.trans (hb2.mono hb1.size)⟩
  · have hc' : (n, x, c).2.2 ≠ 0 := hc
    rw [if_pos hc', if_pos hc', if_pos hc']
    clear hc'
    have hcb : (c != 0) = true := by simpa using hc
    clear hc
    go_enter Tryd.func76, Tryd.ntmps76
    go_wp2_with fail
    refine Hr.out.mono ?_
    rintro e w1 ⟨rfl, hb1⟩
    go_wp2
    go_ret3
    exact ⟨_, rfl, World.ownsRow_nil _ _ _ _, hb1⟩

set_option maxRecDepth 100000 in
set_option maxHeartbeats 1000000 in
theorem readText_any (v : Value) (l : List UInt8) (a m : Int) (w : World) (h : Sp w w.heap.size v l) (hl : l.length ≤ 4294967296) :
    Calls Tryd.prog 81 #[v, .int .i64 a, .int .i64 m] w (Fresh3 w (txL l a m) (.int .i64 (txN l a m)) (errV (txE l a m))) := by
  have hr := (readVar_any v l a w h hl)
  have hx := getV_next l a
  unfold txL txN txE
  obtain ⟨r, hre⟩ : ∃ r, r = getV l a := ⟨_, rfl⟩
  rw [← hre] at hr hx ⊢
  clear hre
  obtain ⟨n, x, c⟩ := r
  have hx2 : x ≤ 9223372036854775807 := by simp only at hx; omega
  clear hx
  by_cases hc : c = 0
  · subst hc
    have Hr := Lib.hid hr
    clear hr
    by_cases hm : m < n
    · have hz : ¬ ((n, x, (0 : Int)).2.2 ≠ 0) := by simp
      have hm' : m < (n, x, (0 : Int)).1 := hm
      rw [if_neg hz, if_neg hz, if_neg hz, if_pos hm', if_pos hm', if_pos hm']
      clear hz hm'
      go_enter Tryd.func81, Tryd.ntmps81
      go_wp2_with fail
      refine Hr.out.mono ?_
      unfold V3e
      rw [errV_zero]
      rintro e w1 ⟨rfl, rfl⟩
      go_wp2
      go_ret3
      exact ⟨_, rfl, World.ownsRow_nil _ _ _ _, Below.refl _ _⟩
    · have hz : ¬ ((n, x, (0 : Int)).2.2 ≠ 0) := by simp
      have hm' : ¬ m < (n, x, (0 : Int)).1 := hm
      rw [if_neg hz, if_neg hz, if_neg hz, if_neg hm', if_neg hm', if_neg hm']
      clear hz hm'
      go_enter Tryd.func81, Tryd.ntmps81
      go_wp2_with fail
      refine Hr.out.mono ?_
      unfold V3e
      rw [errV_zero]
      rintro e w1 ⟨rfl, rfl⟩
      go_wp2_with fail
      refine (readRaw_any _ l _ _ _ h hl hx2).mono ?_
      rintro e w2 ⟨v2, rfl, hown2, hb2⟩
      go_wp2
      go_ret3
      exact ⟨v2, rfl, hown2, hb2⟩
  · have hc' : (n, x, c).2.2 ≠ 0 := hc
    rw [if_pos hc', if_pos hc', if_pos hc']
    clear hc'
    have he : errV c = .iface 83 (.agg #[.int .i64 c]) := if_neg hc
    unfold V3e at hr
    rw [he] at hr ⊢
    have Hr := Lib.hid hr
    clear hr hc he
    go_enter Tryd.func81, Tryd.ntmps81
    go_wp2_with fail
    refine Hr.out.mono ?_
    rintro e w1 ⟨rfl, rfl⟩
    go_wp2
    go_ret3
    exact ⟨_, rfl, World.ownsRow_nil _ _ _ _, Below.refl _ _⟩

end Go.Proofs.YtopbalemfljphaaDoor
