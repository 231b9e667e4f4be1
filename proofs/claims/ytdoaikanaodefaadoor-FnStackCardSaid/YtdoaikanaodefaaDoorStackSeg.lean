/- Boxes of structs of two slices among the segments of a law; what a stack reads as in a law. -/
import Derived.Test.YtdoaikanaodefaaDoorStackBase
namespace Go.Proofs.YtdoaikanaodefaaDoor
open Go.RowKit

/-- A variable of type T in block g that holds a and s. -/
def segV (T : TypeId) (g : Nat) (a s : Value) : List Row := [(T, .slice (some ⟨g, 0, none⟩) 2 2, [a, s])]
section
variable {W w w' : World} {ss : List (List Row)}
theorem InvF.box (T : TypeId) {a s : Value} (H : InvF W w ss) : InvF W (w.alloc (.cells #[a, s] T)) (segV T w.heap.size a s :: ss) := by
  refine H.more ((InvG.start w).moreG ?_ ((Below.refl _ _).alloc (Nat.le_refl _) _))
  exact ⟨rfl, .inr ⟨w.heap.size, 2, #[a, s], rfl, Nat.le_refl _, heap_alloc_new w _, Nat.le_refl _, by simp [maxLen], rfl, rfl⟩⟩
theorem InvF.var {T : TypeId} {g : Nat} {a s : Value} (H : InvF W w ss) (h : segV T g a s ∈ ss) : w.cell? ⟨g, 0, none⟩ = some a ∧ w.cell? ⟨g, 1, none⟩ = some s := by
  have hG : w.ownsRow W.heap.size T 1 (.slice (some ⟨g, 0, none⟩) 2 2) 2 [a, s] := H.2.1 _ (InvF.mem h (.head _))
  have h0 := World.ownsRow.cellAt hG 0 (by omega)
  have h1 := World.ownsRow.cellAt hG 1 (by omega)
  exact ⟨h0, h1⟩
theorem InvF.c0 {T : TypeId} {g : Nat} {a s : Value} (H : InvF W w ss) (h : segV T g a s ∈ ss) : w.cell? ⟨g, 0, none⟩ = some a := (H.var h).1
theorem InvF.c1 {T : TypeId} {g : Nat} {a s : Value} (H : InvF W w ss) (h : segV T g a s ∈ ss) : w.cell? ⟨g, 1, none⟩ = some s := (H.var h).2
theorem InvF.vlt {T : TypeId} {g : Nat} {a s : Value} (H : InvF W w ss) (h : segV T g a s ∈ ss) : g < w.heap.size := lt_of_cell (H.c0 h)
theorem InvF.slK {a s : Value} {I : List Int} {vs : List Value} {L : List (List UInt8)} (H : InvF W w ss) (hv : vs.length = L.length) (h1 : segI 3 a I ∈ ss) (h2 : segS 22 5 s vs L ∈ ss) : SlK w w.heap.size (.agg #[a, s]) I L :=
  ⟨_, _, rfl, H.slI 3 h1, H.slS 22 5 hv h2⟩
end
theorem FreshK.open {w w' : World} {I : List Int} {L : List (List UInt8)} {e : Ending} (h : FreshK w I L e w') :
    ∃ A c A' c' vs, e = .returned (.agg #[.slice A I.length c, .slice A' L.length c']) ∧ Hid (vs.length = L.length) ∧ InvF w w' [segI 3 (.slice A I.length c) I, segS 22 5 (.slice A' L.length c') vs L] := by
  obtain ⟨a, s, vs, rfl, hv, K⟩ := h
  obtain ⟨A, c, rfl, _⟩ := K.slI 3 (.head _)
  obtain ⟨A', c', rfl, _⟩ := K.slS 22 5 hv (.tail _ (.head _))
  exact ⟨A, c, A', c', vs, rfl, hv, K⟩
theorem szKZ_big {H : List Int} {L : List (List UInt8)} {m : Int} (h : m < (H.length : Int) + (L.length : Int) + (sumL L : Int)) : szKZ H L m = -1 := by
  unfold szKZ szZ
  split
  · rfl
  · rw [if_pos (by omega)]
theorem szKZ_ok {H : List Int} {L : List (List UInt8)} {m : Int} (h : ¬ m < (H.length : Int) + (L.length : Int) + (sumL L : Int)) : szKZ H L m = m - ((H.length : Int) + (L.length : Int) + (sumL L : Int)) := by
  unfold szKZ szZ
  rw [if_neg (by omega), if_neg (by omega)]
  omega
/-- Two boxes read in w as they read in w0. -/
theorem box4 {w0 w : World} {g h : Nat} {a b c d : Value} (hc : (w0.cell? ⟨g, 0, none⟩ = some a ∧ w0.cell? ⟨g, 1, none⟩ = some b) ∧ w0.cell? ⟨h, 0, none⟩ = some c ∧ w0.cell? ⟨h, 1, none⟩ = some d) (hg : g < w0.heap.size) (hh : h < w0.heap.size) (hb : Below w0.heap.size w0 w) :
    w.cell? ⟨g, 0, none⟩ = some a ∧ w.cell? ⟨g, 1, none⟩ = some b ∧ w.cell? ⟨h, 0, none⟩ = some c ∧ w.cell? ⟨h, 1, none⟩ = some d :=
  ⟨(hb.cell (p := ⟨g, 0, none⟩) hg).trans hc.1.1, (hb.cell (p := ⟨g, 1, none⟩) hg).trans hc.1.2, (hb.cell (p := ⟨h, 0, none⟩) hh).trans hc.2.1, (hb.cell (p := ⟨h, 1, none⟩) hh).trans hc.2.2⟩
end Go.Proofs.YtdoaikanaodefaaDoor
