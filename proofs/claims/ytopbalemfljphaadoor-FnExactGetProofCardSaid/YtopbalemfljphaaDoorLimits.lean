/- Limits: the contracts of toLimits, eqLimits, and of LimitsOk as the program has it and as its model has it. -/
import Derived.Test.YtopbalemfljphaaDoorList
namespace Go.Proofs.YtopbalemfljphaaDoor
open Go.ChangeShapes Go.WideShapes Go.ChangeAt Go.RowKit
set_option linter.unusedSimpArgs false

/-- The value of limits. -/
def limV (a b c d e : Int) : Value := .agg #[.int .i64 a, .int .i64 b, .int .i64 c, .int .i64 d, .int .i64 e]
/-- Whether limits are valid. -/
def limOk (a b c d e : Int) : Prop := cntOk a ∧ (0 ≤ b ∧ b ≤ 40) ∧ (0 ≤ c ∧ c ≤ 8) ∧ (1 ≤ d ∧ d ≤ 4000) ∧ (3 ≤ e ∧ e ≤ 5)
instance (a b c d e : Int) : Decidable (limOk a b c d e) := by unfold limOk; infer_instance
def limB (a b c d e : Int) : Bool := decide (cntOk a) && decide (0 ≤ b ∧ b ≤ 40) && decide (0 ≤ c ∧ c ≤ 8) && decide (1 ≤ d ∧ d ≤ 4000) && decide (3 ≤ e ∧ e ≤ 5)
theorem limB_yes {a b c d e : Int} (h : limB a b c d e = true) : limOk a b c d e := by
  unfold limB at h
  simp only [Bool.and_eq_true, decide_eq_true_eq] at h
  exact ⟨h.1.1.1.1, h.1.1.1.2, h.1.1.2, h.1.2, h.2⟩
theorem limB_ok {a b c d e : Int} (h : limOk a b c d e) : limB a b c d e = true := by
  obtain ⟨h0, h1, h2, h3, h4⟩ := h
  unfold limB
  simp only [Bool.and_eq_true, decide_eq_true_eq]
  exact ⟨⟨⟨⟨h0, h1⟩, h2⟩, h3⟩, h4⟩

theorem l01In_any (n a b : Int) (w : World) :
    Calls Tryd.prog 60 #[.int .i64 n, .int .i64 a, .int .i64 b] w fun e w' => e = .returned (.bool (decide (a ≤ n ∧ n ≤ b))) ∧ w = w' := by
  by_cases h : a ≤ n ∧ n ≤ b
  · rw [decide_eq_true h]; exact l01In_yes n a b w h.1 h.2
  · rw [decide_eq_false h]; exact l01In_no n a b w h
theorem isFrom_any (n a b : Int) (w : World) :
    Calls Tryd.prog 66 #[.int .i64 n, .int .i64 a, .int .i64 b] w fun e w' => e = .returned (.bool (decide (a ≤ n ∧ n ≤ b))) ∧ w = w' := by
  by_cases h0 : a ≤ n
  · by_cases h1 : n ≤ b
    · rw [decide_eq_true ⟨h0, h1⟩]
      go_enter Tryd.func66, Tryd.ntmps66
      go_wp2
      go_ret
      exact ⟨rfl, rfl⟩
    · rw [decide_eq_false (fun h => h1 h.2)]
      go_enter Tryd.func66, Tryd.ntmps66
      go_wp2
      go_ret
      exact ⟨by simp <;> omega, rfl⟩
  · rw [decide_eq_false (fun h => h0 h.1)]
    go_enter Tryd.func66, Tryd.ntmps66
    go_wp2
    go_ret
    exact ⟨by simp <;> omega, rfl⟩

/-- A bool; nothing that was there has turned. -/
def BoolB (w : World) (b : Bool) (e : Ending) (w' : World) : Prop := e = .returned (.bool b) ∧ Below w.heap.size w w'

set_option maxHeartbeats 1000000 in
theorem specLimitsOk_any (a b c d e : Int) (w : World) :
    Calls Tryd.prog 36 #[.agg #[.int .i64 a, .int .i64 b, .int .i64 c, .int .i64 d, .int .i64 e]] w (BoolB w (limB a b c d e)) := by
  unfold limB
  obtain ⟨x0, g0⟩ : ∃ x0, x0 = decide (cntOk a) := ⟨_, rfl⟩
  obtain ⟨x1, g1⟩ : ∃ x1, x1 = decide (0 ≤ b ∧ b ≤ 40) := ⟨_, rfl⟩
  obtain ⟨x2, g2⟩ : ∃ x2, x2 = decide (0 ≤ c ∧ c ≤ 8) := ⟨_, rfl⟩
  obtain ⟨x3, g3⟩ : ∃ x3, x3 = decide (1 ≤ d ∧ d ≤ 4000) := ⟨_, rfl⟩
  obtain ⟨x4, g4⟩ : ∃ x4, x4 = decide (3 ≤ e ∧ e ≤ 5) := ⟨_, rfl⟩
  rw [← g0, ← g1, ← g2, ← g3, ← g4]
  have c0 := fun W => l02Signers_any a W
  have c1 := fun W => l01In_any b 0 40 W
  have c2 := fun W => l01In_any c 0 8 W
  have c3 := fun W => l01In_any d 1 4000 W
  have c4 := fun W => l01In_any e 3 5 W
  rw [← g0] at c0; rw [← g1] at c1; rw [← g2] at c2; rw [← g3] at c3; rw [← g4] at c4
  have C0 := Lib.hid c0; have C1 := Lib.hid c1; have C2 := Lib.hid c2; have C3 := Lib.hid c3; have C4 := Lib.hid c4
  clear c0 c1 c2 c3 c4 g0 g1 g2 g3 g4
  have hb : Below w.heap.size w (w.alloc (.cells #[.int .i64 a, .int .i64 b, .int .i64 c, .int .i64 d, .int .i64 e] 33)) := (Below.refl _ _).alloc (Nat.le_refl _) _
  rcases x0 with _ | _
  · simp only [Bool.false_and, Bool.and_false, Bool.true_and, Bool.and_true]
    go_enter Tryd.func36, Tryd.ntmps36
    go_wp2_with fail
    refine (C0.out _).mono ?_
    rintro ev w' ⟨rfl, rfl⟩
    go_wp2
    go_ret
    exact ⟨rfl, hb⟩
  · skip
    rcases x1 with _ | _
    · simp only [Bool.false_and, Bool.and_false, Bool.true_and, Bool.and_true]
      go_enter Tryd.func36, Tryd.ntmps36
      go_wp2_with fail
      refine (C0.out _).mono ?_
      rintro ev w' ⟨rfl, rfl⟩
      go_wp2_with fail
      refine (C1.out _).mono ?_
      rintro ev w' ⟨rfl, rfl⟩
      go_wp2
      go_ret
      exact ⟨rfl, hb⟩
    · skip
      rcases x2 with _ | _
      · simp only [Bool.false_and, Bool.and_false, Bool.true_and, Bool.and_true]
        go_enter Tryd.func36, Tryd.ntmps36
        go_wp2_with fail
        refine (C0.out _).mono ?_
        rintro ev w' ⟨rfl, rfl⟩
        go_wp2_with fail
        refine (C1.out _).mono ?_
        rintro ev w' ⟨rfl, rfl⟩
        go_wp2_with fail
        refine (C2.out _).mono ?_
        rintro ev w' ⟨rfl, rfl⟩
        go_wp2
        go_ret
        exact ⟨rfl, hb⟩
      · skip
        rcases x3 with _ | _
        · simp only [Bool.false_and, Bool.and_false, Bool.true_and, Bool.and_true]
          go_enter Tryd.func36, Tryd.ntmps36
          go_wp2_with fail
          refine (C0.out _).mono ?_
          rintro ev w' ⟨rfl, rfl⟩
          go_wp2_with fail
          refine (C1.out _).mono ?_
          rintro ev w' ⟨rfl, rfl⟩
          go_wp2_with fail
          refine (C2.out _).mono ?_
          rintro ev w' ⟨rfl, rfl⟩
          go_wp2_with fail
          refine (C3.out _).mono ?_
          rintro ev w' ⟨rfl, rfl⟩
          go_wp2
          go_ret
          exact ⟨rfl, hb⟩
        · skip
          rcases x4 with _ | _
          · simp only [Bool.false_and, Bool.and_false, Bool.true_and, Bool.and_true]
            go_enter Tryd.func36, Tryd.ntmps36
            go_wp2_with fail
            refine (C0.out _).mono ?_
            rintro ev w' ⟨rfl, rfl⟩
            go_wp2_with fail
            refine (C1.out _).mono ?_
            rintro ev w' ⟨rfl, rfl⟩
            go_wp2_with fail
            refine (C2.out _).mono ?_
            rintro ev w' ⟨rfl, rfl⟩
            go_wp2_with fail
            refine (C3.out _).mono ?_
            rintro ev w' ⟨rfl, rfl⟩
            go_wp2_with fail
            refine (C4.out _).mono ?_
            rintro ev w' ⟨rfl, rfl⟩
            go_wp2
            go_ret
            exact ⟨rfl, hb⟩
          · simp only [Bool.false_and, Bool.and_false, Bool.true_and, Bool.and_true]
            go_enter Tryd.func36, Tryd.ntmps36
            go_wp2_with fail
            refine (C0.out _).mono ?_
            rintro ev w' ⟨rfl, rfl⟩
            go_wp2_with fail
            refine (C1.out _).mono ?_
            rintro ev w' ⟨rfl, rfl⟩
            go_wp2_with fail
            refine (C2.out _).mono ?_
            rintro ev w' ⟨rfl, rfl⟩
            go_wp2_with fail
            refine (C3.out _).mono ?_
            rintro ev w' ⟨rfl, rfl⟩
            go_wp2_with fail
            refine (C4.out _).mono ?_
            rintro ev w' ⟨rfl, rfl⟩
            go_wp2
            go_ret
            exact ⟨rfl, hb⟩
set_option maxHeartbeats 1000000 in
theorem implLimitsOk_any (a b c d e : Int) (w : World) :
    Calls Tryd.prog 42 #[.agg #[.int .i64 a, .int .i64 b, .int .i64 c, .int .i64 d, .int .i64 e]] w (BoolB w (limB a b c d e)) := by
  unfold limB
  obtain ⟨x0, g0⟩ : ∃ x0, x0 = decide (cntOk a) := ⟨_, rfl⟩
  obtain ⟨x1, g1⟩ : ∃ x1, x1 = decide (0 ≤ b ∧ b ≤ 40) := ⟨_, rfl⟩
  obtain ⟨x2, g2⟩ : ∃ x2, x2 = decide (0 ≤ c ∧ c ≤ 8) := ⟨_, rfl⟩
  obtain ⟨x3, g3⟩ : ∃ x3, x3 = decide (1 ≤ d ∧ d ≤ 4000) := ⟨_, rfl⟩
  obtain ⟨x4, g4⟩ : ∃ x4, x4 = decide (3 ≤ e ∧ e ≤ 5) := ⟨_, rfl⟩
  rw [← g0, ← g1, ← g2, ← g3, ← g4]
  have c0 := fun W => isSignerCount_any a W
  have c1 := fun W => isFrom_any b 0 40 W
  have c2 := fun W => isFrom_any c 0 8 W
  have c3 := fun W => isFrom_any d 1 4000 W
  have c4 := fun W => isFrom_any e 3 5 W
  rw [← g0] at c0; rw [← g1] at c1; rw [← g2] at c2; rw [← g3] at c3; rw [← g4] at c4
  have C0 := Lib.hid c0; have C1 := Lib.hid c1; have C2 := Lib.hid c2; have C3 := Lib.hid c3; have C4 := Lib.hid c4
  clear c0 c1 c2 c3 c4 g0 g1 g2 g3 g4
  have hb : Below w.heap.size w (w.alloc (.cells #[.int .i64 a, .int .i64 b, .int .i64 c, .int .i64 d, .int .i64 e] 33)) := (Below.refl _ _).alloc (Nat.le_refl _) _
  rcases x0 with _ | _
  · simp only [Bool.false_and, Bool.and_false, Bool.true_and, Bool.and_true]
    go_enter Tryd.func42, Tryd.ntmps42
    go_wp2_with fail
    refine (C0.out _).mono ?_
    rintro ev w' ⟨rfl, rfl⟩
    go_wp2
    go_ret
    exact ⟨rfl, hb⟩
  · skip
    rcases x1 with _ | _
    · simp only [Bool.false_and, Bool.and_false, Bool.true_and, Bool.and_true]
      go_enter Tryd.func42, Tryd.ntmps42
      go_wp2_with fail
      refine (C0.out _).mono ?_
      rintro ev w' ⟨rfl, rfl⟩
      go_wp2_with fail
      refine (C1.out _).mono ?_
      rintro ev w' ⟨rfl, rfl⟩
      go_wp2
      go_ret
      exact ⟨rfl, hb⟩
    · skip
      rcases x2 with _ | _
      · simp only [Bool.false_and, Bool.and_false, Bool.true_and, Bool.and_true]
        go_enter Tryd.func42, Tryd.ntmps42
        go_wp2_with fail
        refine (C0.out _).mono ?_
        rintro ev w' ⟨rfl, rfl⟩
        go_wp2_with fail
        refine (C1.out _).mono ?_
        rintro ev w' ⟨rfl, rfl⟩
        go_wp2_with fail
        refine (C2.out _).mono ?_
        rintro ev w' ⟨rfl, rfl⟩
        go_wp2
        go_ret
        exact ⟨rfl, hb⟩
      · skip
        rcases x3 with _ | _
        · simp only [Bool.false_and, Bool.and_false, Bool.true_and, Bool.and_true]
          go_enter Tryd.func42, Tryd.ntmps42
          go_wp2_with fail
          refine (C0.out _).mono ?_
          rintro ev w' ⟨rfl, rfl⟩
          go_wp2_with fail
          refine (C1.out _).mono ?_
          rintro ev w' ⟨rfl, rfl⟩
          go_wp2_with fail
          refine (C2.out _).mono ?_
          rintro ev w' ⟨rfl, rfl⟩
          go_wp2_with fail
          refine (C3.out _).mono ?_
          rintro ev w' ⟨rfl, rfl⟩
          go_wp2
          go_ret
          exact ⟨rfl, hb⟩
        · skip
          rcases x4 with _ | _
          · simp only [Bool.false_and, Bool.and_false, Bool.true_and, Bool.and_true]
            go_enter Tryd.func42, Tryd.ntmps42
            go_wp2_with fail
            refine (C0.out _).mono ?_
            rintro ev w' ⟨rfl, rfl⟩
            go_wp2_with fail
            refine (C1.out _).mono ?_
            rintro ev w' ⟨rfl, rfl⟩
            go_wp2_with fail
            refine (C2.out _).mono ?_
            rintro ev w' ⟨rfl, rfl⟩
            go_wp2_with fail
            refine (C3.out _).mono ?_
            rintro ev w' ⟨rfl, rfl⟩
            go_wp2_with fail
            refine (C4.out _).mono ?_
            rintro ev w' ⟨rfl, rfl⟩
            go_wp2
            go_ret
            exact ⟨rfl, hb⟩
          · simp only [Bool.false_and, Bool.and_false, Bool.true_and, Bool.and_true]
            go_enter Tryd.func42, Tryd.ntmps42
            go_wp2_with fail
            refine (C0.out _).mono ?_
            rintro ev w' ⟨rfl, rfl⟩
            go_wp2_with fail
            refine (C1.out _).mono ?_
            rintro ev w' ⟨rfl, rfl⟩
            go_wp2_with fail
            refine (C2.out _).mono ?_
            rintro ev w' ⟨rfl, rfl⟩
            go_wp2_with fail
            refine (C3.out _).mono ?_
            rintro ev w' ⟨rfl, rfl⟩
            go_wp2_with fail
            refine (C4.out _).mono ?_
            rintro ev w' ⟨rfl, rfl⟩
            go_wp2
            go_ret
            exact ⟨rfl, hb⟩

/-- Limits; nothing that was there has turned. -/
def LimB (w : World) (a b c d e : Int) (ev : Ending) (w' : World) : Prop := ev = .returned (.agg #[.int .i64 a, .int .i64 b, .int .i64 c, .int .i64 d, .int .i64 e]) ∧ Below w.heap.size w w'
set_option maxHeartbeats 1000000 in
theorem toLimits_any (a b c d e : Int) (w : World) :
    Calls Tryd.prog 6 #[.agg #[.int .i64 a, .int .i64 b, .int .i64 c, .int .i64 d, .int .i64 e]] w (LimB w a b c d e) := by
  go_enter Tryd.func6, Tryd.ntmps6
  go_wp2
  refine bodyPost_ret (v := .agg #[.int .i64 a, .int .i64 b, .int .i64 c, .int .i64 d, .int .i64 e]) (by simp [results, Tryd.results6, go_sem]) rfl ⟨rfl, ?_⟩
  exact (((Below.refl _ w).alloc (Nat.le_refl _) _).alloc (by simp) _).alloc (by simp; omega) _

/-- Block g holds limits. -/
def BoxL (w : World) (g : Nat) (a b c d e : Int) : Prop := g < w.heap.size ∧ w.cell? ⟨g, 0, none⟩ = some (.int .i64 a) ∧ w.cell? ⟨g, 1, none⟩ = some (.int .i64 b) ∧ w.cell? ⟨g, 2, none⟩ = some (.int .i64 c) ∧ w.cell? ⟨g, 3, none⟩ = some (.int .i64 d) ∧ w.cell? ⟨g, 4, none⟩ = some (.int .i64 e)
theorem BoxL.new (w : World) (T : TypeId) (a b c d e : Int) : BoxL (w.alloc (.cells #[.int .i64 a, .int .i64 b, .int .i64 c, .int .i64 d, .int .i64 e] T)) w.heap.size a b c d e :=
  ⟨by simp, by simp, by simp, by simp, by simp, by simp⟩
theorem BoxL.up {w w' : World} {g : Nat} {a b c d e : Int} (h : BoxL w g a b c d e) (hb : Below w.heap.size w w') : BoxL w' g a b c d e := by
  obtain ⟨h0, h1, h2, h3, h4, h5⟩ := h
  exact ⟨Nat.lt_of_lt_of_le h0 hb.size, (hb.cell (p := ⟨g, 0, none⟩) h0).trans h1, (hb.cell (p := ⟨g, 1, none⟩) h0).trans h2, (hb.cell (p := ⟨g, 2, none⟩) h0).trans h3, (hb.cell (p := ⟨g, 3, none⟩) h0).trans h4, (hb.cell (p := ⟨g, 4, none⟩) h0).trans h5⟩
end Go.Proofs.YtopbalemfljphaaDoor
