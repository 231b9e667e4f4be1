/- The contracts of GetBits, as the program has it (readBits, codeOf) and as its model has it. -/
import Derived.Test.YtopbalemfljphaaDoorOk
import Derived.Test.YtopbalemfljphaaDoorRaw
namespace Go.Proofs.YtopbalemfljphaaDoor
open Go.ChangeShapes Go.WideShapes Go.ChangeAt Go.RowKit

/-- What GetBits answers: the bitmap, the place behind it, the code. -/
def gb (l : List UInt8) (a n : Int) : List UInt8 × Int × Int :=
  if cntOk n then (if rawOk l a (sizeB n) then (if okP (rawL l a (sizeB n)) n then (rawL l a (sizeB n), a + sizeB n, 0) else ([], 0, 4)) else ([], 0, 1)) else ([], 0, 5)
theorem gb_count {l : List UInt8} {a n : Int} (h : ¬ cntOk n) : gb l a n = ([], 0, 5) := if_neg h
theorem gb_short {l : List UInt8} {a n : Int} (h : cntOk n) (h1 : ¬ rawOk l a (sizeB n)) : gb l a n = ([], 0, 1) := by
  unfold gb
  rw [if_pos h, if_neg h1]
theorem gb_pad {l : List UInt8} {a n : Int} (h : cntOk n) (h1 : rawOk l a (sizeB n)) (h2 : ¬ okP (rawL l a (sizeB n)) n) : gb l a n = ([], 0, 4) := by
  unfold gb
  rw [if_pos h, if_pos h1, if_neg h2]
theorem gb_ok {l : List UInt8} {a n : Int} (h : cntOk n) (h1 : rawOk l a (sizeB n)) (h2 : okP (rawL l a (sizeB n)) n) : gb l a n = (rawL l a (sizeB n), a + sizeB n, 0) := by
  unfold gb
  rw [if_pos h, if_pos h1, if_pos h2]
theorem gb_len (l : List UInt8) (a n : Int) : (gb l a n).1.length ≤ l.length := by
  have h := rawL_len l a (sizeB n)
  unfold gb
  split
  · split
    · split
      · exact h
      · simp
    · simp
  · simp
theorem errV_four : errV 4 = .iface 83 (.agg #[.int .i64 4]) := rfl
theorem errV_five : errV 5 = .iface 83 (.agg #[.int .i64 5]) := rfl

set_option maxRecDepth 100000 in
set_option maxHeartbeats 1000000 in
theorem readBits_any (v : Value) (l : List UInt8) (a n : Int) (w : World) (h : Sp w w.heap.size v l) (hl : l.length ≤ 4294967296) (hwa : a ≤ 9223372036854775807) :
    Calls Tryd.prog 91 #[v, .int .i64 a, .int .i64 n] w (Fresh3 w (gb l a n).1 (.int .i64 (gb l a n).2.1) (errV (gb l a n).2.2)) := by
  by_cases hn : cntOk n
  · have hd := decide_eq_true hn
    have hn9 : n ≤ 9223372036854775807 := by have := hn.2; omega
    by_cases hr : rawOk l a (sizeB n)
    · obtain ⟨r1, r2, r3⟩ := raw_yes hr
      have hlen := rawL_len l a (sizeB n)
      by_cases hok : okP (rawL l a (sizeB n)) n
      · rw [gb_ok hn hr hok]
        simp only
        have hob := okB_yes hok
        rw [errV_zero]
        obtain ⟨R, hR⟩ : ∃ R, R = rawL l a (sizeB n) := ⟨_, rfl⟩
        obtain ⟨X, hX⟩ : ∃ X, X = a + sizeB n := ⟨_, rfl⟩
        rw [← hR] at hob hlen
        rw [← hR, ← hX]
        have HR := Lib.hid hR
        have HX := Lib.hid (r2.trans hX.symm)
        have H3 := Lib.hid r3
        generalize hZ : sizeB n = Z at *
        clear hn hr r1 r2 r3 hok hR hX
        go_enter Tryd.func91, Tryd.ntmps91
        go_wp2_with fail
        refine (isSignerCount_any _ _).mono ?_
        rw [hd]
        rintro e w' ⟨rfl, rfl⟩
        go_wp2_with fail
        refine (implBitsSize_any _ _ hn9).mono ?_
        rw [hZ]
        rintro e w' ⟨rfl, rfl⟩
        go_wp2_with fail
        refine (readRaw_any _ l a Z _ h hl hwa).mono ?_
        rw [← HR.out, HX.out, H3.out, errV_zero]
        rintro e w1 ⟨v1, rfl, hown1, hb1⟩
        go_wp2_with fail
        refine (implBitsOk_any _ R n _ hown1.sl (by omega)).mono ?_
        rw [hob]
        rintro e w2 ⟨rfl, hb2⟩
        go_wp2
        go_ret3
        exact ⟨v1, rfl, hown1.up hb2, hb1.trans (hb2.mono hb1.size)⟩
      · rw [gb_pad hn hr hok]
        simp only
        have hob := okB_no hok
        rw [errV_four]
        obtain ⟨R, hR⟩ : ∃ R, R = rawL l a (sizeB n) := ⟨_, rfl⟩
        rw [← hR] at hob hlen
        have HR := Lib.hid hR
        have H3 := Lib.hid r3
        generalize hZ : sizeB n = Z at *
        clear hn hr r1 r2 r3 hok hR
        go_enter Tryd.func91, Tryd.ntmps91
        go_wp2_with fail
        refine (isSignerCount_any _ _).mono ?_
        rw [hd]
        rintro e w' ⟨rfl, rfl⟩
        go_wp2_with fail
        refine (implBitsSize_any _ _ hn9).mono ?_
        rw [hZ]
        rintro e w' ⟨rfl, rfl⟩
        go_wp2_with fail
        refine (readRaw_any _ l a Z _ h hl hwa).mono ?_
        rw [← HR.out, H3.out, errV_zero]
        rintro e w1 ⟨v1, rfl, hown1, hb1⟩
        go_wp2_with fail
        refine (implBitsOk_any _ R n _ hown1.sl (by omega)).mono ?_
        rw [hob]
        rintro e w2 ⟨rfl, hb2⟩
        go_wp2
        go_ret3
        exact ⟨_, rfl, World.ownsRow_nil _ _ _ _, hb1.trans (hb2.mono hb1.size)⟩
    · rw [gb_short hn hr]
      simp only
      have Hr := Lib.hid hr
      have hs := h.sl
      generalize hZ : sizeB n = Z at *
      clear hn hr h
      go_enter Tryd.func91, Tryd.ntmps91
      go_wp2_with fail
      refine (isSignerCount_any _ _).mono ?_
      rw [hd]
      rintro e w' ⟨rfl, rfl⟩
      go_wp2_with fail
      refine (implBitsSize_any _ _ hn9).mono ?_
      rw [hZ]
      rintro e w' ⟨rfl, rfl⟩
      go_wp2_with fail
      refine (readRaw_no _ l a Z _ hs hwa Hr.out).mono ?_
      rw [errV_one]
      rintro e w' ⟨rfl, rfl⟩
      go_wp2
      go_ret3
      exact ⟨_, rfl, World.ownsRow_nil _ _ _ _, Below.refl _ _⟩
  · have hd := decide_eq_false hn
    rw [gb_count hn]
    simp only
    rw [errV_five]
    clear hn h
    go_enter Tryd.func91, Tryd.ntmps91
    go_wp2_with fail
    refine (isSignerCount_any _ _).mono ?_
    rw [hd]
    rintro e w' ⟨rfl, rfl⟩
    go_wp2
    go_ret3
    exact ⟨_, rfl, World.ownsRow_nil _ _ _ _, Below.refl _ _⟩

set_option maxRecDepth 100000 in
set_option maxHeartbeats 1000000 in
theorem specGetBits_any (v : Value) (l : List UInt8) (a n : Int) (w : World) (h : Sp w w.heap.size v l) (hl : l.length ≤ 4294967296) :
    Calls Tryd.prog 63 #[v, .int .i64 a, .int .i64 n] w (Fresh3 w (gb l a n).1 (.int .i64 (gb l a n).2.1) (.int .i64 (gb l a n).2.2)) := by
  by_cases hn : cntOk n
  · have hd := decide_eq_true hn
    have hn9 : n ≤ 9223372036854775807 := by have := hn.2; omega
    by_cases hr : rawOk l a (sizeB n)
    · obtain ⟨r1, r2, r3⟩ := raw_yes hr
      have hlen := rawL_len l a (sizeB n)
      by_cases hok : okP (rawL l a (sizeB n)) n
      · rw [gb_ok hn hr hok]
        simp only
        have hob := okB_yes hok
        obtain ⟨R, hR⟩ : ∃ R, R = rawL l a (sizeB n) := ⟨_, rfl⟩
        obtain ⟨X, hX⟩ : ∃ X, X = a + sizeB n := ⟨_, rfl⟩
        rw [← hR] at hob hlen
        rw [← hR, ← hX]
        have HR := Lib.hid hR
        have HX := Lib.hid (r2.trans hX.symm)
        have H3 := Lib.hid r3
        generalize hZ : sizeB n = Z at *
        clear hn hr r1 r2 r3 hok hR hX
        go_enter Tryd.func63, Tryd.ntmps63
        go_wp2_with fail
        refine (l02Signers_any _ _).mono ?_
        rw [hd]
        rintro e w' ⟨rfl, rfl⟩
        go_wp2_with fail
        refine (specBitsSize_any _ _ hn9).mono ?_
        rw [hZ]
        rintro e w' ⟨rfl, rfl⟩
        go_wp2_with fail
        refine (specGetRaw_any _ l a Z _ h hl).mono ?_
        rw [← HR.out, HX.out, H3.out]
        rintro e w1 ⟨v1, rfl, hown1, hb1⟩
        go_wp2_with fail
        refine (specBitsOk_any _ R n _ hown1.sl (by omega)).mono ?_
        rw [hob]
        rintro e w2 ⟨rfl, hb2⟩
        go_wp2
        go_ret3
        exact ⟨v1, rfl, hown1.up hb2, hb1.trans (hb2.mono hb1.size)⟩
      · rw [gb_pad hn hr hok]
        simp only
        have hob := okB_no hok
        obtain ⟨R, hR⟩ : ∃ R, R = rawL l a (sizeB n) := ⟨_, rfl⟩
        rw [← hR] at hob hlen
        have HR := Lib.hid hR
        have H3 := Lib.hid r3
        generalize hZ : sizeB n = Z at *
        clear hn hr r1 r2 r3 hok hR
        go_enter Tryd.func63, Tryd.ntmps63
        go_wp2_with fail
        refine (l02Signers_any _ _).mono ?_
        rw [hd]
        rintro e w' ⟨rfl, rfl⟩
        go_wp2_with fail
        refine (specBitsSize_any _ _ hn9).mono ?_
        rw [hZ]
        rintro e w' ⟨rfl, rfl⟩
        go_wp2_with fail
        refine (specGetRaw_any _ l a Z _ h hl).mono ?_
        rw [← HR.out, H3.out]
        rintro e w1 ⟨v1, rfl, hown1, hb1⟩
        go_wp2_with fail
        refine (specBitsOk_any _ R n _ hown1.sl (by omega)).mono ?_
        rw [hob]
        rintro e w2 ⟨rfl, hb2⟩
        go_wp2
        go_ret3
        exact ⟨_, rfl, World.ownsRow_nil _ _ _ _, hb1.trans (hb2.mono hb1.size)⟩
    · obtain ⟨r1, r2, r3⟩ := raw_no hr
      rw [gb_short hn hr]
      simp only
      have H3 := Lib.hid r3
      generalize hZ : sizeB n = Z at *
      clear hn hr r1 r2 r3
      go_enter Tryd.func63, Tryd.ntmps63
      go_wp2_with fail
      refine (l02Signers_any _ _).mono ?_
      rw [hd]
      rintro e w' ⟨rfl, rfl⟩
      go_wp2_with fail
      refine (specBitsSize_any _ _ hn9).mono ?_
      rw [hZ]
      rintro e w' ⟨rfl, rfl⟩
      go_wp2_with fail
      refine (specGetRaw_any _ l a Z _ h hl).mono ?_
      rw [H3.out]
      rintro e w1 ⟨v1, rfl, hown1, hb1⟩
      go_wp2
      go_ret3
      exact ⟨_, rfl, World.ownsRow_nil _ _ _ _, hb1⟩
  · have hd := decide_eq_false hn
    rw [gb_count hn]
    simp only
    clear hn h
    go_enter Tryd.func63, Tryd.ntmps63
    go_wp2_with fail
    refine (l02Signers_any _ _).mono ?_
    rw [hd]
    rintro e w' ⟨rfl, rfl⟩
    go_wp2
    go_ret3
    exact ⟨_, rfl, World.ownsRow_nil _ _ _ _, Below.refl _ _⟩
end Go.Proofs.YtopbalemfljphaaDoor
