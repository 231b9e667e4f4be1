/- The contracts of the helpers on stacks that exact laws call: szStack, toStack, eqStack, markStack, heldStack (and szIntS, heldByteSS). -/
import Derived.Test.YtlchadbbldkkfaaDoorSSBase
import Derived.Test.YtlchadbbldkkfaaDoorIBase
import Derived.Test.YtlchadbbldkkfaaDoorStackMath
namespace Go.Proofs.YtlchadbbldkkfaaDoor
open Go.ChangeShapes Go.WideShapes Go.ChangeAt Go.RowKit

section
variable {W w w' : World} {ss qs : List (List Row)}
/-- A call that began in w has made the segments qs. -/
theorem InvF.moreF (H : InvF W w ss) (K : InvF w w' qs) : InvF W w' (qs ++ ss) := by
  unfold InvF
  rw [List.flatten_append]
  exact InvG.moreAll H K
theorem Rws.mono {B B' : Nat} {rs : List Row} (H : Rws B w rs) (h : B' ≤ B) : Rws B' w rs := ⟨fun p hp => (H.1 p hp).mono h, H.2⟩
theorem grown_cell (w : World) (b o : Nat) (v : Value) : w.grownBy (w.setCell ⟨b, o, none⟩ v) (some b) :=
  ⟨rfl, rfl, rfl, by simp [World.setCell], fun k _ hk => Below.heap_setCell _ _ _ k (fun e => hk (by rw [e]))⟩
/-- A store into a block ahead of the rows. -/
theorem Rws.cell {B : Nat} {rs : List Row} (H : Rws B w rs) {b : Nat} (h : b < B) (o : Nat) (v : Value) : Rws B (w.setCell ⟨b, o, none⟩ v) rs :=
  H.kept (grown_cell w b o v) (fun g e => by cases e; exact h)
theorem Rws.moreAll {B : Nat} {rs qs : List Row} (H : Rws B w rs) (K : InvG w w' qs) (hB : B ≤ w.heap.size) : Rws B w' (qs ++ rs) := by
  have H' : Rws B w' rs := ⟨fun p hp => (H.1 p hp).up K.bel, H.2⟩
  refine ⟨fun p hp => ?_, List.pairwise_append.2 ⟨K.2.2, H'.2, fun p hp q hq => ?_⟩⟩
  · rcases List.mem_append.1 hp with hp | hp
    · exact (K.2.1 p hp).mono hB
    · exact H'.1 p hp
  · rcases hv : p.2.1.ownBlock with _ | g
    · exact .inl rfl
    · refine .inr fun e => ?_
      have h1 := ((K.2.1 p hp).lt g hv).1
      have h2 := ((H.1 q hq).lt g e.symm).2
      omega
theorem InvG.rws {rs : List Row} (H : InvG W w rs) : Rws W.heap.size w rs := ⟨H.2.1, H.2.2⟩
end

theorem bcell {W w1 : World} (hb : Below W.heap.size W w1) : (∀ b o, b < W.heap.size → w1.cell? ⟨b, o, none⟩ = W.cell? ⟨b, o, none⟩) ∧ (∀ b o, b < W.heap.size → w1.frozen? ⟨b, o, none⟩ = W.frozen? ⟨b, o, none⟩) :=
  ⟨fun b o h => hb.cell (p := ⟨b, o, none⟩) h, fun b o h => hb.frozen (p := ⟨b, o, none⟩) h⟩

/-- The struct v reads as the heights H and the hashes L. -/
def SlK (w : World) (B : Nat) (v : Value) (H : List Int) (L : List (List UInt8)) : Prop :=
  ∃ a s, v = .agg #[a, s] ∧ SlI w B a H ∧ SlS w B s L
section
variable {w w' : World} {B B' : Nat} {v : Value} {H : List Int} {L : List (List UInt8)}
theorem SlK.mono (h : SlK w B v H L) (hB : B ≤ B') : SlK w B' v H L := by
  obtain ⟨a, s, e, h1, h2⟩ := h
  exact ⟨a, s, e, h1.mono hB, h2.mono hB⟩
theorem SlK.below (h : SlK w B v H L) (hb : Below B w w') : SlK w' B v H L := by
  obtain ⟨a, s, e, h1, h2⟩ := h
  exact ⟨a, s, e, h1.below hb, h2.below hb⟩
theorem SlK.up (h : SlK w w.heap.size v H L) (hb : Below w.heap.size w w') : SlK w' w'.heap.size v H L := (h.below hb).mono hb.size
theorem SlK.drewN (h : SlK w B v H L) (n : Nat) : SlK (w.drewN n) B v H L := h
end

/-- The call returns a new stack; nothing that was there has turned. -/
def FreshK (w : World) (H : List Int) (L : List (List UInt8)) (e : Ending) (w' : World) : Prop :=
  ∃ a s vs, e = .returned (.agg #[a, s]) ∧ vs.length = L.length ∧ InvF w w' [segI 3 a H, segS 22 5 s vs L]

set_option maxHeartbeats 1000000 in
theorem heldByteSS_any (v : Value) (k : Nat) (L : List (List UInt8)) (w : World) (h : SlS w w.heap.size v (marksS k L)) (hk : k ≤ 1073741824) (hs : sumL L ≤ 1073741824) :
    Calls Tryd.prog 33 #[v, .int .i64 (k : Int)] w (Quiet (.int .i64 ((k : Int) + (sumL L : Int))) w) := by
  obtain ⟨A, c, rfl, h1, h2, h0, h3⟩ := h
  rw [marksS_length] at h1 h3 ⊢
  unfold maxLen at h2
  clear h0
  go_enter Tryd.func33, Tryd.ntmps33
  go_wp2
  go_loopw [1, 5] (fun q i wr => ∃ j : Nat, j ≤ L.length ∧ i = .int .i64 j ∧ q = .int .i64 ((k : Int) + (sumL (L.take j) : Int)) ∧ ∃ m, wr = w.drewN m)
    (fun _ i _ => L.length - (intOf i).toNat)
  case atStart => exact ⟨0, Nat.zero_le _, rfl, by simp [sumL], 0, rfl⟩
  case round =>
    obtain ⟨j, hj, rfl, rfl, m, hw⟩ := hrel
    have HW := Lib.hid hw
    by_cases hlt : j < L.length
    · obtain ⟨b, off, rfl, hbb, hcell⟩ := h3 (by omega)
      obtain ⟨x, hc0, hx⟩ := hcell j hlt
      rw [marksS_at L k j hlt] at hx
      have hc1 : wr.cell? ⟨b, off + j, none⟩ = some x := by rw [hw]; exact hc0
      have hx1 : Sl wr wr.heap.size x (marks (k + sumL (L.take j)) (L.getD j []).length) := by rw [hw]; exact hx
      have hsum := sumL_take L j hlt
      have hle := sumL_le L (j + 1)
      clear hcell hc0 hx hw
      generalize (L.getD j []).length = n at hx1 hsum
      have hq1 : sumL (L.take j) ≤ 1073741824 := by omega
      have hn1 : n ≤ 1073741824 := by omega
      have HS := Lib.hid hsum
      clear hsum hle
      generalize sumL (L.take j) = q at hx1 HS hq1 ⊢
      have hq0 : ¬ ((k : Int) + (q : Int) + (n : Int) < 0) := by omega
      go_wp2_with (go_at_call 30; refine (heldByteS_z x (k + q) n _ _ hx1 (by omega) (by omega) (by omega)).mono ?_; rintro e _ ⟨rfl, m2, rfl⟩)
      go_roundw
      case rel => exact ⟨j + 1, by omega, by go_num, by rw [HS.out]; go_num, m + m2, by rw [HW.out, World.drewN_drewN]⟩
      case measure => simp [intOf]; omega
    · obtain rfl : j = L.length := by omega
      clear hw
      rw [List.take_length]
      go_wp2
      go_ret
      exact ⟨rfl, m, HW.out⟩

/-- What szStack leaves of m. -/
def szKZ (H : List Int) (L : List (List UInt8)) (m : Int) : Int := if m < (H.length : Int) then -1 else szZ L (m - (H.length : Int))
end Go.Proofs.YtlchadbbldkkfaaDoor
