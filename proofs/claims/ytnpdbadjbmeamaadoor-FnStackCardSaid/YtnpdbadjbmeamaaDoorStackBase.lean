/- The contracts of the helpers on stacks that exact laws call: szStack, toStack, eqStack, markStack, heldStack (and szIntS, heldByteSS). -/
import Derived.Test.YtnpdbadjbmeamaaDoorSSBase
import Derived.Test.YtnpdbadjbmeamaaDoorIBase
import Derived.Test.YtnpdbadjbmeamaaDoorStackMath
namespace Go.Proofs.YtnpdbadjbmeamaaDoor
open Go.ChangeShapes Go.WideShapes Go.ChangeAt Go.RowKit

section
variable {W w w' : World} {ss qs : List (List Row)}
/-- A call that began in w has made the segments qs. -/
theorem InvF.moreF (H : InvF W w ss) (K : InvF w w' qs) : InvF W w' (qs ++ ss) := by
  unfold InvF
  rw [List.flatten_append]
  exact InvG.moreAll H K
theorem Rws.mono {B B' : Nat} {rs : List Row} (H : Rws B w rs) (h : B' ≤ B) : Rws B' w rs := ⟨fun p hp => (H.1 p hp).mono h, H.2⟩
theorem grown_cell (w : World) (b o : Nat) (v : Value) : w.grownBy (w.setCell ⟨b, o, none⟩ v) (some b) :=
  ⟨rfl, rfl, rfl, by simp [World.setCell], fun k _ hk => Below.heap_setCell _ _ _ k (fun e => hk (by rw [e]))⟩
/-- A store into a block ahead of the rows. -/
theorem Rws.cell {B : Nat} {rs : List Row} (H : Rws B w rs) {b : Nat} (h : b < B) (o : Nat) (v : Value) : Rws B (w.setCell ⟨b, o, none⟩ v) rs :=
  H.kept (grown_cell w b o v) (fun g e => by cases e; exact h)
theorem Rws.moreAll {B : Nat} {rs qs : List Row} (H : Rws B w rs) (K : InvG w w' qs) (hB : B ≤ w.heap.size) : Rws B w' (qs ++ rs) := by
  have H' : Rws B w' rs := ⟨fun p hp => (H.1 p hp).up K.bel, H.2⟩
  refine ⟨fun p hp => ?_, List.pairwise_append.2 ⟨K.2.2, H'.2, fun p hp q hq => ?_⟩⟩
  · rcases List.mem_append.1 hp with hp | hp
    · exact (K.2.1 p hp).mono hB
    · exact H'.1 p hp
  · rcases hv : p.2.1.ownBlock with _ | g
    · exact .inl rfl
    · refine .inr fun e => ?_
      have h1 := ((K.2.1 p hp).lt g hv).1
      have h2 := ((H.1 q hq).lt g e.symm).2
      omega
theorem InvG.rws {rs : List Row} (H : InvG W w rs) : Rws W.heap.size w rs := ⟨H.2.1, H.2.2⟩
end

theorem bcell {W w1 : World} (hb : Below W.heap.size W w1) : (∀ b o, b < W.heap.size → w1.cell? ⟨b, o, none⟩ = W.cell? ⟨b, o, none⟩) ∧ (∀ b o, b < W.heap.size → w1.frozen? ⟨b, o, none⟩ = W.frozen? ⟨b, o, none⟩) :=
  ⟨fun b o h => hb.cell (p := ⟨b, o, none⟩) h, fun b o h => hb.frozen (p := ⟨b, o, none⟩) h⟩

/-- The struct v reads as the heights H and the hashes L. -/
def SlK (w : World) (B : Nat) (v : Value) (H : List Int) (L : List (List UInt8)) : Prop :=
  ∃ a s, v = .agg #[a, s] ∧ SlI w B a H ∧ SlS w B s L
section
variable {w w' : World} {B B' : Nat} {v : Value} {H : List Int} {L : List (List UInt8)}
theorem SlK.mono (h : SlK w B v H L) (hB : B ≤ B') : SlK w B' v H L := by
  obtain ⟨a, s, e, h1, h2⟩ := h
  exact ⟨a, s, e, h1.mono hB, h2.mono hB⟩
theorem SlK.below (h : SlK w B v H L) (hb : Below B w w') : SlK w' B v H L := by
  obtain ⟨a, s, e, h1, h2⟩ := h
  exact ⟨a, s, e, h1.below hb, h2.below hb⟩
theorem SlK.up (h : SlK w w.heap.size v H L) (hb : Below w.heap.size w w') : SlK w' w'.heap.size v H L := (h.below hb).mono hb.size
theorem SlK.drewN (h : SlK w B v H L) (n : Nat) : SlK (w.drewN n) B v H L := h
end

/-- The call returns a new stack; nothing that was there has turned. -/
def FreshK (w : World) (H : List Int) (L : List (List UInt8)) (e : Ending) (w' : World) : Prop :=
  ∃ a s vs, e = .returned (.agg #[a, s]) ∧ vs.length = L.length ∧ InvF w w' [segI 3 a H, segS 22 5 s vs L]

set_option maxHeartbeats 1000000 in
theorem toStack_any (v : Value) (H : List Int) (L : List (List UInt8)) (w : World) (h : SlK w w.heap.size v H L) (hH : H.length ≤ 1048576) (hl : L.length ≤ 1048576) (hs : sumL L ≤ 1048576) :
    Calls Tryd.prog 18 #[v] w (FreshK w H L) := by
  obtain ⟨a, s, rfl, hI, hS⟩ := h
  obtain ⟨A, c, rfl, p1, p2, p0, p3⟩ := id hI
  obtain ⟨A', c', rfl, q1, q2, q0, q3⟩ := id hS
  clear p1 p2 p0 p3 q1 q2 q0 q3
  have hb3 : Below w.heap.size w (((w.alloc (.cells #[.slice A H.length c, .slice A' L.length c'] 38)).alloc (.cells #[.slice none 0 0, .slice none 0 0] 27)).alloc (.cells #[.slice none 0 0, .slice none 0 0] 27)) :=
    (((Below.refl _ w).alloc (Nat.le_refl _) _).alloc (by simp) _).alloc (by simp; omega) _
  go_enter Tryd.func18, Tryd.ntmps18
  go_wp2_with fail
  refine (toIntS_any _ H _ (hI.up hb3) (by omega)).mono ?_
  rintro e w4 ⟨u4, rfl, ho4, hb4⟩
  have H4 := (InvG.start _).moreI ho4 hb4
  obtain ⟨A4, c4, rfl, m1, m2, m0, m3⟩ := ho4.sl
  clear m1 m2 m0 m3 ho4
  have K4 := Lib.hid H4.rws
  clear H4
  obtain ⟨hc4, hf4⟩ := bcell hb4
  have hz4 : w.heap.size + 2 < w4.heap.size := by have := hb4.size; simp at this; omega
  have hy4 : w.heap.size + 1 < w4.heap.size := by omega
  go_wp2_with fail
  have hb4' := (hb3.trans (hb4.mono hb3.size)).setCell (p := ⟨w.heap.size + 1 + 1, 0, none⟩) (by simp; omega) (.slice A4 H.length c4)
  refine (toByteSS_any _ L _ (hS.up hb4') hl hs).mono ?_
  rintro e w5 ⟨u5, vs, rfl, hv, H5⟩
  have HV := Lib.hid hv
  have hb5 := H5.bel
  obtain ⟨A5, c5, rfl, m1, m2, m0, m3⟩ := H5.slS 5 22 hv (.head _) (fun _ hp => .tail _ hp)
  clear m1 m2 m0 m3 hv
  have K5 := Lib.hid H5
  clear H5
  obtain ⟨hc5, hf5⟩ := bcell hb5
  have hz5 : w.heap.size + 2 < w5.heap.size := by have := hb5.size; simp at this; omega
  have hy5 : w.heap.size + 1 < w5.heap.size := by omega
  have h5 := (((K4.out.cell (b := w.heap.size + 1 + 1) (by simp <;> omega) 0 (.slice A4 H.length c4)).moreAll K5.out (by simp; have := hb4.size; simp at this; omega)).cell (b := w.heap.size + 1 + 1) (by simp <;> omega) 1 (.slice A5 L.length c5))
  have h6 := Lib.hid ((((h5.cell (b := w.heap.size + 1) (by simp <;> omega) 0 (.slice A4 H.length c4)).cell (b := w.heap.size + 1) (by simp <;> omega) 1 (.slice A5 L.length c5)).mono hb3.size).perm List.perm_append_comm)
  have h7 := Lib.hid ((((hb4'.trans (hb5.mono hb4'.size)).setCell (p := ⟨w.heap.size + 1 + 1, 1, none⟩) (by simp <;> omega) (.slice A5 L.length c5)).setCell (p := ⟨w.heap.size + 1, 0, none⟩) (by simp <;> omega) (.slice A4 H.length c4)).setCell (p := ⟨w.heap.size + 1, 1, none⟩) (by simp <;> omega) (.slice A5 L.length c5))
  clear h5
  go_wp2
  refine bodyPost_ret (v := .agg #[.slice A4 H.length c4, .slice A5 L.length c5]) (by simp [results, Tryd.results18, go_sem, hc5, hc4, hy4]) rfl ⟨_, _, vs, rfl, HV.out, ?_⟩
  have := h6.out.inv h7.out
  simpa [InvF, segI, segS] using this

set_option maxHeartbeats 1000000 in
theorem eqStack_any (v u : Value) (H : List Int) (L : List (List UInt8)) (w : World) (h : SlK w w.heap.size v H L) (h' : SlK w w.heap.size u H L) :
    Calls Tryd.prog 20 #[v, u] w (Yes w) := by
  obtain ⟨a, s, rfl, hI, hS⟩ := h
  obtain ⟨A, c, rfl, p1, p2, p0, p3⟩ := id hI
  obtain ⟨A', c', rfl, q1, q2, q0, q3⟩ := id hS
  clear p1 p2 p0 p3 q1 q2 q0 q3
  obtain ⟨a, s, rfl, hJ, hT⟩ := h'
  obtain ⟨B, d, rfl, p1, p2, p0, p3⟩ := id hJ
  obtain ⟨B', d', rfl, q1, q2, q0, q3⟩ := id hT
  clear p1 p2 p0 p3 q1 q2 q0 q3
  have hb : Below w.heap.size w ((w.alloc (.cells #[.slice A H.length c, .slice A' L.length c'] 27)).alloc (.cells #[.slice B H.length d, .slice B' L.length d'] 27)) := ((Below.refl _ w).alloc (Nat.le_refl _) _).alloc (by simp) _
  go_enter Tryd.func20, Tryd.ntmps20
  go_wp2_with fail
  refine (eqIntS_any _ _ H _ (hI.up hb) (hJ.up hb)).mono ?_
  rintro e _ ⟨rfl, m, rfl⟩
  go_wp2_with fail
  refine (eqByteSS_any _ _ L _ ((hS.up hb).drewN m) ((hT.up hb).drewN m)).mono ?_
  rintro e _ ⟨rfl, n, rfl⟩
  go_wp2_with fail
  go_ret
  exact ⟨rfl, below_drewN hb (m + n)⟩

set_option maxHeartbeats 1000000 in
theorem markStack_any (W w : World) (a s : Value) (vs : List Value) (H : List Int) (L : List (List UInt8)) (ss : List (List Row)) (k : Nat) (kz : Int) (hv : vs.length = L.length) (K : InvF W w (segI 3 a H :: segS 22 5 s vs L :: ss)) (hz : kz = (k : Int)) (hk : k ≤ 1073741824) (hH : H.length ≤ 4194304) (hs : sumL L ≤ 1073741824) (hkz : k ≤ 536870912) :
    Calls Tryd.prog 22 #[.agg #[a, s], .int .i64 kz] w (fun e w' => e = .returned (.int .i64 (kz + (H.length : Int) + (sumL L : Int))) ∧
      InvF W w' (segI 3 a (marksI k H.length) :: segS 22 5 s vs (marksS (k + H.length) L) :: ss)) := by
  obtain ⟨A, c, rfl, p1, p2, p0, p3⟩ := (K.ownI 3 (.head _)).sl
  obtain ⟨A', c', rfl, q1, q2, q0, q3⟩ := K.slS 22 5 hv (.tail _ (.head _))
  clear p1 p2 p0 p3 q1 q2 q0 q3
  have K1 := Lib.hid (K.up ((Below.refl _ w).alloc (Nat.le_refl _) (.cells #[.slice A H.length c, .slice A' L.length c'] 27)))
  have hlt := (K.ownI 3 (.head _)).lt
  have HV := Lib.hid hv
  have HZ := Lib.hid hz
  have hz2 : Hid (kz + (H.length : Int) = ((k + H.length : Nat) : Int)) := Lib.hid (by omega)
  have hb0 : 0 ≤ kz := by omega
  have hb1 : kz ≤ 536870912 := by omega
  clear K hv hz
  go_enter Tryd.func22, Tryd.ntmps22
  go_wp2_with fail
  refine (markIntS_z _ H k _ _ _ (K1.out.ownI 3 (.head _)) HZ.out (by omega) (by omega)).mono ?_
  rintro e w2 ⟨rfl, ho, hg⟩
  have hne : some w.heap.size ≠ (Value.slice A H.length c).ownBlock := fun e => by have := (hlt _ e.symm).2; omega
  have hx0 := hg.cell (a := ⟨w.heap.size, 1, none⟩) (v := .slice A' L.length c') (by simp) hne
  have K2 := Lib.hid ((K1.out.wroteI ho hg).front 1 rfl)
  clear ho hg hlt hne
  go_wp2_with fail
  refine (markByteSS_z W _ _ vs L _ (k + H.length) _ HV.out K2.out hz2.out (by omega) (by omega)).mono ?_
  rintro e w3 ⟨rfl, K3⟩
  have K4 := Lib.hid (K3.front 1 rfl)
  clear K3
  go_wp2
  go_ret
  exact ⟨rfl, K4.out⟩

set_option maxHeartbeats 1000000 in
theorem heldByteSS_any (v : Value) (k : Nat) (L : List (List UInt8)) (w : World) (h : SlS w w.heap.size v (marksS k L)) (hk : k ≤ 1073741824) (hs : sumL L ≤ 1073741824) :
    Calls Tryd.prog 57 #[v, .int .i64 (k : Int)] w (Quiet (.int .i64 ((k : Int) + (sumL L : Int))) w) := by
  obtain ⟨A, c, rfl, h1, h2, h0, h3⟩ := h
  rw [marksS_length] at h1 h3 ⊢
  unfold maxLen at h2
  clear h0
  go_enter Tryd.func57, Tryd.ntmps57
  go_wp2
  go_loopw [1, 5] (fun q i wr => ∃ j : Nat, j ≤ L.length ∧ i = .int .i64 j ∧ q = .int .i64 ((k : Int) + (sumL (L.take j) : Int)) ∧ ∃ m, wr = w.drewN m)
    (fun _ i _ => L.length - (intOf i).toNat)
  case atStart => exact ⟨0, Nat.zero_le _, rfl, by simp [sumL], 0, rfl⟩
  case round =>
    obtain ⟨j, hj, rfl, rfl, m, hw⟩ := hrel
    have HW := Lib.hid hw
    by_cases hlt : j < L.length
    · obtain ⟨b, off, rfl, hbb, hcell⟩ := h3 (by omega)
      obtain ⟨x, hc0, hx⟩ := hcell j hlt
      rw [marksS_at L k j hlt] at hx
      have hc1 : wr.cell? ⟨b, off + j, none⟩ = some x := by rw [hw]; exact hc0
      have hx1 : Sl wr wr.heap.size x (marks (k + sumL (L.take j)) (L.getD j []).length) := by rw [hw]; exact hx
      have hsum := sumL_take L j hlt
      have hle := sumL_le L (j + 1)
      clear hcell hc0 hx hw
      generalize (L.getD j []).length = n at hx1 hsum
      have hq1 : sumL (L.take j) ≤ 1073741824 := by omega
      have hn1 : n ≤ 1073741824 := by omega
      have HS := Lib.hid hsum
      clear hsum hle
      generalize sumL (L.take j) = q at hx1 HS hq1 ⊢
      have hq0 : ¬ ((k : Int) + (q : Int) + (n : Int) < 0) := by omega
      go_wp2_with (go_at_call 26; refine (heldByteS_z x (k + q) n _ _ hx1 (by omega) (by omega) (by omega)).mono ?_; rintro e _ ⟨rfl, m2, rfl⟩)
      go_roundw
      case rel => exact ⟨j + 1, by omega, by go_num, by rw [HS.out]; go_num, m + m2, by rw [HW.out, World.drewN_drewN]⟩
      case measure => simp [intOf]; omega
    · obtain rfl : j = L.length := by omega
      clear hw
      rw [List.take_length]
      go_wp2
      go_ret
      exact ⟨rfl, m, HW.out⟩

set_option maxHeartbeats 1000000 in
theorem heldStack_z (v : Value) (k n : Nat) (L : List (List UInt8)) (kz : Int) (w : World) (h : SlK w w.heap.size v (marksI k n) (marksS (k + n) L)) (hz : kz = (k : Int)) (hk : k ≤ 536870912) (hn : n ≤ 4194304) (hs : sumL L ≤ 1073741824) :
    Calls Tryd.prog 24 #[v, .int .i64 kz] w (fun e w' => e = .returned (.int .i64 (kz + (n : Int) + (sumL L : Int))) ∧ Below w.heap.size w w') := by
  obtain ⟨a, s, rfl, hI, hS⟩ := h
  obtain ⟨A, c, rfl, p1, p2, p0, p3⟩ := id hI
  obtain ⟨A', c', rfl, q1, q2, q0, q3⟩ := id hS
  clear p1 p2 p0 p3 q1 q2 q0 q3
  rw [marksI_length] at hI ⊢
  rw [marksS_length] at hS ⊢
  have hb : Below w.heap.size w (w.alloc (.cells #[.slice A n c, .slice A' L.length c'] 27)) := (Below.refl _ w).alloc (Nat.le_refl _) _
  have HZ := Lib.hid hz
  have hz1 : ¬ (kz + (n : Int) < 0) := by omega
  have hz3 : ¬ (kz + (n : Int) + (sumL L : Int) < 0) := by omega
  have hz4 : kz + (n : Int) ≤ 541065216 := by omega
  have hz2 : kz + (n : Int) = ((k + n : Nat) : Int) := by omega
  have HZ2 := Lib.hid hz2
  have hb0 : 0 ≤ kz := by omega
  clear hz hz2
  have HB := Lib.hid (heldByteSS_any (.slice A' L.length c') (k + n) L)
  rw [← HZ2.out] at HB
  go_enter Tryd.func24, Tryd.ntmps24
  go_wp2_with fail
  refine (heldIntS_z _ k n _ _ (hI.up hb) HZ.out (by omega) (by omega)).mono ?_
  rintro e _ ⟨rfl, m, rfl⟩
  go_wp2_with fail
  refine (HB.out _ ((hS.up hb).drewN m) (by omega) (by omega)).mono ?_
  rintro e _ ⟨rfl, m2, rfl⟩
  go_wp2_with fail
  go_ret
  exact ⟨rfl, below_drewN hb (m + m2)⟩

/-- What szStack leaves of m. -/
def szKZ (H : List Int) (L : List (List UInt8)) (m : Int) : Int := if m < (H.length : Int) then -1 else szZ L (m - (H.length : Int))
theorem szIntS_any (v : Value) (l : List Int) (m : Int) (w : World) (h : SlI w w.heap.size v l) (h0 : 0 ≤ m) (hm : m ≤ 1073741824) :
    Calls Tryd.prog 47 #[v, .int .i64 m] w (fun e w' => e = .returned (.int .i64 (if m < (l.length : Int) then -1 else m - (l.length : Int))) ∧ w' = w) := by
  obtain ⟨A, c, rfl, h1, h2, k0, h3⟩ := h
  unfold maxLen at h2
  clear k0 h3
  by_cases hlt : m < (l.length : Int)
  · rw [if_pos hlt]
    have hn : m - (l.length : Int) < 0 := by omega
    go_enter Tryd.func47, Tryd.ntmps47
    go_wp2
    go_ret
    exact ⟨rfl, rfl⟩
  · rw [if_neg hlt]
    have hn : ¬ m - (l.length : Int) < 0 := by omega
    go_enter Tryd.func47, Tryd.ntmps47
    go_wp2
    go_ret
    exact ⟨rfl, rfl⟩
set_option maxHeartbeats 1000000 in
theorem szStack_any (v : Value) (H : List Int) (L : List (List UInt8)) (m : Int) (w : World) (h : SlK w w.heap.size v H L) (h0 : 0 ≤ m) (hm : m ≤ 1073741824) :
    Calls Tryd.prog 16 #[v, .int .i64 m] w (fun e w' => e = .returned (.int .i64 (szKZ H L m)) ∧ Below w.heap.size w w') := by
  obtain ⟨a, s, rfl, hI, hS⟩ := h
  obtain ⟨A, c, rfl, p1, p2, p0, p3⟩ := id hI
  obtain ⟨A', c', rfl, q1, q2, q0, q3⟩ := id hS
  clear p1 p2 p0 p3 q1 q2 q0 q3
  have hb : Below w.heap.size w (w.alloc (.cells #[.slice A H.length c, .slice A' L.length c'] 38)) := (Below.refl _ w).alloc (Nat.le_refl _) _
  obtain ⟨R, hR⟩ : ∃ R, R = szKZ H L m := ⟨_, rfl⟩
  rw [← hR]
  unfold szKZ at hR
  by_cases hlt : m < (H.length : Int)
  · rw [if_pos hlt] at hR
    subst hR
    go_enter Tryd.func16, Tryd.ntmps16
    go_wp2_with fail
    refine (szIntS_any _ H m _ (hI.up hb) h0 hm).mono ?_
    rw [if_pos hlt]
    rintro e w' ⟨rfl, hw⟩
    subst hw
    go_wp2
    go_ret
    exact ⟨rfl, hb⟩
  · rw [if_neg hlt] at hR
    obtain ⟨z, hz⟩ : ∃ z : Int, z = m - (H.length : Int) := ⟨_, rfl⟩
    rw [← hz] at hR
    have HR := Lib.hid hR
    have HZ := Lib.hid hz
    have hz0 : ¬ z < 0 := by omega
    have hz1 : z ≤ 1073741824 := by omega
    clear hR hz
    by_cases hRn : R < 0
    · go_enter Tryd.func16, Tryd.ntmps16
      have hRe : R = -1 := by
        have := HR.out
        unfold szZ at this
        split at this
        · exact this
        · omega
      subst hRe
      go_wp2_with fail
      refine (szIntS_any _ H m _ (hI.up hb) h0 hm).mono ?_
      rw [if_neg (show ¬ m < (H.length : Int) by omega), ← HZ.out]
      rintro e w' ⟨rfl, hw⟩
      subst hw
      go_wp2_with fail
      refine (szByteSS_any _ L z _ (hS.up hb) (by omega) hz1).mono ?_
      rw [← HR.out]
      rintro e w' ⟨rfl, hw⟩
      subst hw
      go_wp2
      go_ret
      exact ⟨rfl, hb⟩
    · go_enter Tryd.func16, Tryd.ntmps16
      go_wp2_with fail
      refine (szIntS_any _ H m _ (hI.up hb) h0 hm).mono ?_
      rw [if_neg (show ¬ m < (H.length : Int) by omega), ← HZ.out]
      rintro e w' ⟨rfl, hw⟩
      subst hw
      go_wp2_with fail
      refine (szByteSS_any _ L z _ (hS.up hb) (by omega) hz1).mono ?_
      rw [← HR.out]
      rintro e w' ⟨rfl, hw⟩
      subst hw
      go_wp2
      go_ret
      exact ⟨rfl, hb⟩
end Go.Proofs.YtnpdbadjbmeamaaDoor
