/- Errors of the decoders' parts: the first one stays. -/
import Derived.Test.YtopbalemfljphaaDoorQcDecMath
namespace Go.Proofs.YtopbalemfljphaaDoor

section
variable {l : List UInt8} {p e : Int}
/-- An error stays. -/
theorem tagsAt_err {j : Nat} (h : (tagsAt l p e j).2.2 ≠ 0) : ∀ m, (tagsAt l p e (j + m)).2.2 = (tagsAt l p e j).2.2
  | 0 => rfl
  | m + 1 => by
    have ih := tagsAt_err h m
    show rE l 32 (tagsAt l p e (j + m)).2.1 (tagsAt l p e (j + m)).2.2 = _
    rw [rE_no (by rw [ih]; exact h), ih]
end
theorem in_fE {e c : Int} {ok : Bool} (hc : c ≠ 0) (h : fE e ok c = 0) : e = 0 ∧ ok = true := by
  by_cases he : e = 0
  · subst he
    rw [fE_yes] at h
    cases ok with
    | true => exact ⟨rfl, rfl⟩
    | false => exact absurd h hc
  · rw [fE_no he] at h
    exact absurd h he
theorem in_nE {l : List UInt8} {p e : Int} (h : nE l p e = 0) : e = 0 := by
  by_cases he : e = 0
  · exact he
  · rw [nE_no he] at h
    exact h
end Go.Proofs.YtopbalemfljphaaDoor
