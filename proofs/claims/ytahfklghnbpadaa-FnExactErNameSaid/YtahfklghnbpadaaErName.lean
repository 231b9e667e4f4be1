/- ErName: the contracts of the program's function and of its model, and the walk of its exact law. -/
import Derived.Test.YtahfklghnbpadaaPut
namespace Go.Proofs.Ytahfklghnbpadaa
open Go.ChangeShapes Go.WideShapes Go.ChangeAt Go.RowKit

/-- The names of the codes. -/
def erName (n : Int) : ByteArray :=
  if n = 0 then ⟨#[111, 107]⟩ else if n = 1 then ⟨#[115, 104, 111, 114, 116]⟩ else if n = 2 then ⟨#[118, 97, 114]⟩ else if n = 3 then ⟨#[108, 111, 110, 103]⟩
  else if n = 4 then ⟨#[112, 97, 100]⟩ else if n = 5 then ⟨#[118, 97, 108, 117, 101]⟩ else if n = 6 then ⟨#[111, 114, 100, 101, 114]⟩ else if n = 7 then ⟨#[114, 111, 111, 116]⟩
  else if n = 8 then ⟨#[107, 105, 110, 100]⟩ else if n = 9 then ⟨#[108, 101, 102, 116]⟩ else ⟨#[]⟩
theorem erName_no {n : Int} (h : ¬ (0 ≤ n ∧ n ≤ 9)) : erName n = ⟨#[]⟩ := by
  unfold erName
  iterate 10 rw [if_neg (by omega)]
def Str (w : World) (s : ByteArray) (e : Ending) (w' : World) : Prop := e = .returned (.string s) ∧ Below w.heap.size w w'

set_option maxHeartbeats 1600000 in
theorem specErName_any (n : Int) (w : World) : Calls Try.prog 27 #[.int .i64 n] w (Str w (erName n)) := by
  by_cases h : 0 ≤ n ∧ n ≤ 9
  · have hn : n = 0 ∨ n = 1 ∨ n = 2 ∨ n = 3 ∨ n = 4 ∨ n = 5 ∨ n = 6 ∨ n = 7 ∨ n = 8 ∨ n = 9 := by omega
    clear h
    rcases hn with rfl | rfl | rfl | rfl | rfl | rfl | rfl | rfl | rfl | rfl
    all_goals
      go_enter Try.func27, Try.ntmps27
      go_wp2_with (go_at_call 35; refine (l01In_yes _ _ _ _ (by decide) (by decide)).mono ?_; rintro e w' ⟨rfl, rfl⟩)
      go_ret
      exact ⟨rfl, by go_grown⟩
  · rw [erName_no h]
    have H := Lib.hid h
    clear h
    go_enter Try.func27, Try.ntmps27
    go_wp2_with (go_at_call 35; refine (l01In_no _ _ _ _ H.out).mono ?_; rintro e w' ⟨rfl, rfl⟩)
    go_ret
    exact ⟨rfl, Below.refl _ _⟩

set_option maxHeartbeats 1600000 in
theorem implErName_any (n : Int) (w : World) : Calls Try.prog 28 #[.int .i64 n] w (Str w (erName n)) := by
  by_cases h : 0 ≤ n ∧ n ≤ 9
  · have hn : n = 0 ∨ n = 1 ∨ n = 2 ∨ n = 3 ∨ n = 4 ∨ n = 5 ∨ n = 6 ∨ n = 7 ∨ n = 8 ∨ n = 9 := by omega
    clear h
    rcases hn with rfl | rfl | rfl | rfl | rfl | rfl | rfl | rfl | rfl | rfl
    all_goals
      go_enter Try.func28, Try.ntmps28
      go_wp2
      go_ret
      exact ⟨rfl, by go_grown⟩
  · rw [erName_no h]
    by_cases h0 : n < 0
    · clear h
      go_enter Try.func28, Try.ntmps28
      go_wp2
      go_ret
      exact ⟨rfl, by go_grown⟩
    · have h1 : 10 ≤ n := by omega
      clear h
      go_enter Try.func28, Try.ntmps28
      go_wp2
      go_ret
      exact ⟨rfl, by go_grown⟩

theorem ErName_walk (n : Int) (W : World) : Calls Try.prog 9 #[.int .i64 n] W (Yes W) := by
  obtain ⟨s, hS⟩ : ∃ s, s = erName n := ⟨_, rfl⟩
  have HS := Lib.hid hS
  clear hS
  have hss : (s.toList != s.toList) = false := by simp
  go_enter Try.func9, Try.ntmps9
  go_wp2_with fail
  refine (specErName_any n _).mono ?_
  rw [← HS.out]
  rintro e w1 ⟨rfl, hb1⟩
  go_wp2_with fail
  refine (implErName_any n _).mono ?_
  rw [← HS.out]
  rintro e w2 ⟨rfl, hb2⟩
  go_wp2_with fail
  go_ret
  exact ⟨rfl, hb1.trans (hb2.mono hb1.size)⟩
end Go.Proofs.Ytahfklghnbpadaa
