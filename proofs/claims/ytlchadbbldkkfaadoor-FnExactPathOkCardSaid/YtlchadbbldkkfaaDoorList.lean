/- The contracts of BitsList and BitsCount, as the program has them and as their model has them. -/
import Derived.Test.YtlchadbbldkkfaaDoorHas
import Derived.Test.YtlchadbbldkkfaaDoorInts
import Derived.Shelf.Small.Bits
namespace Go.Proofs.YtlchadbbldkkfaaDoor
open Go.ChangeShapes Go.WideShapes Go.ChangeAt Go.RowKit

theorem i64info : (Tryd.prog.info? 3).map (fun i => (i.zero, i.size, i.bytes)) = some (some (.int .i64 0), 1, 8) := by kernel_rfl

/-- The call returns a new row of ints that reads as l; nothing that was there has turned. -/
def FreshI (w : World) (l : List Int) (e : Ending) (w' : World) : Prop :=
  ∃ u, e = .returned u ∧ OwnI 3 w' w.heap.size u l ∧ Below w.heap.size w w'

/-- What has been listed after k rounds. -/
def listZ (l : List UInt8) (k : Nat) : List Int := (listTo l k).map fun (i : Nat) => (i : Int)
theorem listZ_zero (l : List UInt8) : listZ l 0 = [] := rfl
theorem listZ_full (l : List UInt8) : listZ l (8 * l.length) = listI l := rfl
theorem listZ_yes {l : List UInt8} {k : Nat} (h : bitL l k = true) : listZ l (k + 1) = listZ l k ++ [(k : Int)] := by
  unfold listZ
  rw [listTo_succ, h]
  simp
theorem listZ_no {l : List UInt8} {k : Nat} (h : bitL l k = false) : listZ l (k + 1) = listZ l k := by
  unfold listZ
  rw [listTo_succ, h]
  simp
theorem listZ_len (l : List UInt8) (k : Nat) : (listZ l k).length ≤ k := by
  unfold listZ
  rw [List.length_map]
  exact listTo_len l k

theorem slI_slice {w : World} {B : Nat} {v : Value} {l : List Int} (h : SlI w B v l) : ∃ A c, v = .slice A l.length c ∧ l.length ≤ c ∧ c ≤ maxLen := by
  obtain ⟨A, c, e, h1, h2, _⟩ := h
  exact ⟨A, c, e, h1, h2⟩
/-! The same, as a law's walk takes them. -/
theorem Calls.belowQ {f : Nat} {args : Array Value} {w : World} {x : Value} (h : Calls Tryd.prog f args w (Quiet x w)) : Calls Tryd.prog f args w fun e w' => e = .returned x ∧ Below w.heap.size w w' :=
  h.mono fun e w' ⟨h1, n, h2⟩ => ⟨h1, by subst h2; exact below_drewN (Below.refl _ _) n⟩
theorem Calls.belowE {f : Nat} {args : Array Value} {w : World} {x : Value} (h : Calls Tryd.prog f args w fun e w' => e = .returned x ∧ w = w') : Calls Tryd.prog f args w fun e w' => e = .returned x ∧ Below w.heap.size w w' :=
  h.mono fun e w' ⟨h1, h2⟩ => ⟨h1, by subst h2; exact Below.refl _ _⟩
end Go.Proofs.YtlchadbbldkkfaaDoor
