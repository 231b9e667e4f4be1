/- The contract of PathOf as its model has it. -/
import Derived.Test.YtighgdmpbabelaaDoorPathLen
import Derived.Test.YtighgdmpbabelaaDoorTree
import Derived.Test.YtighgdmpbabelaaDoorStackBase
namespace Go.Proofs.YtighgdmpbabelaaDoor
open Go.ChangeShapes Go.WideShapes Go.ChangeAt Go.RowKit

/-- The call returns a new slice of new rows that reads as L, and b; nothing that was there has turned. -/
def FreshSB (w : World) (L : List (List UInt8)) (b : Bool) (e : Ending) (w' : World) : Prop :=
  ∃ u vs, e = .returned (.tuple #[u, .bool b]) ∧ vs.length = L.length ∧ InvG w w' ((22, u, vs) :: rowsS 5 vs L)
theorem invG_nil (w : World) : InvG w w [(22, .slice none 0 0, [])] :=
  (InvG.start w).moreG (by unfold GOwn; exact World.ownsRow_nil _ _ _ _) (Below.refl _ _)

/-- The rows with one more. -/
theorem rws_add {B : Nat} {w : World} {E2 E : TypeId} {u x : Value} {vs : List Value} {L : List (List UInt8)} {t : List UInt8} (hv : vs.length = L.length) (H : Rws B w ((E2, u, vs ++ [x]) :: (E, x, us t) :: rowsS E vs L)) :
    Rws B w ((E2, u, vs ++ [x]) :: rowsS E (vs ++ [x]) (L ++ [t])) := by
  rw [rowsS_snoc E vs L x t hv]
  exact H.perm (List.Perm.cons _ (List.perm_append_singleton _ _).symm)
theorem pathL_len (L : List (List UInt8)) {i : Nat} (hi : i < L.length) (hl : L.length ≤ 1073741824) : (pathL L i).length ≤ 30 := by
  rw [pathL_length]
  exact prt_len hi hl

set_option maxRecDepth 100000 in
set_option maxHeartbeats 4000000 in
theorem specPathOf_in : ∀ (f : Nat) (L : List (List UInt8)) (v : Value) (i : Nat) (w : World), L.length ≤ f → i < L.length → L.length ≤ 1048576 → sumL L ≤ 1073741000 → SlS w w.heap.size v L →
    Calls Tryd.prog 16 #[v, .int .i64 (i : Int)] w (FreshSB w (pathL L i) true) := by
  obtain ⟨i0, hi0, hz0, hz1, hz2⟩ := info_parts sbinfo
  intro f
  induction f with
  | zero => intro L v i w hf hi; omega
  | succ f ih =>
    intro L v i w hf hi hL hs h
    obtain ⟨A, c, rfl, h1, h2, h0, h3⟩ := h
    have HIN := Lib.hid (fun w => l01In_yes (i : Int) 0 ((L.length : Int) - 1) w (by omega) (by omega))
    obtain ⟨bb, off, rfl, hbb, hcell⟩ := h3 (by omega)
    have h2' := h2
    unfold maxLen at h2'
    clear h0 h3
    obtain ⟨n, hn⟩ : ∃ n, n = L.length := ⟨_, rfl⟩
    by_cases h1n : L.length = 1
    · rw [pathL_small (by omega) hi]
      have h1' : ((L.length : Int) == 1) = true := by simp [h1n]
      clear ih hcell h1n hn
      go_enter Tryd.func16, Tryd.ntmps16
      go_wp2_with fail
      refine (HIN.out _).mono ?_
      rintro e _ ⟨rfl, rfl⟩
      go_wp2_with fail
      go_ret2
      exact ⟨_, [], rfl, rfl, invG_nil _⟩
    · have h1' : ((n : Int) == 1) = false := by rw [beq_eq_false_iff_ne]; omega
      have hn2 : 2 ≤ L.length := by omega
      have hlt := splitN_lt hn2
      have hps := splitN_pos hn2
      have HA := Lib.hid (fun w => specSplitAt_any (L.length : Int) w (by omega))
      rw [splitZ_nat] at HA
      have hpl := pathL_left (i := i) hn2
      have hpr := pathL_right (i := i) hn2
      generalize splitN L.length = s at hlt hps HA hpl hpr
      have ht1 : SlS w w.heap.size (.slice (some ⟨bb, off, none⟩) s c) (L.take s) := by
        have := slS_cut (L := L) (off := off) (c := c) 0 s h2 hbb hcell (by omega) off c (by omega) (by omega) (Nat.le_refl _)
        simpa using this
      have ht2 : SlS w w.heap.size (.slice (some ⟨bb, off + s, none⟩) (L.length - s) (c - s)) (L.drop s) := by
        have := slS_cut (L := L) (off := off) (c := c) s (L.length - s) h2 hbb hcell (by omega) (off + s) (c - s) (by omega) (by omega) (by omega)
        rwa [List.take_of_length_le (by rw [List.length_drop]; omega)] at this
      have hs1 : Hid ((L.take s).length = s ∧ sumL (L.take s) ≤ 1073741000) := Lib.hid (by
        have := sumL_le L s
        rw [List.length_take]
        exact ⟨by omega, by omega⟩)
      have hs2 : Hid ((L.drop s).length = L.length - s ∧ sumL (L.drop s) ≤ 1073741000) := Lib.hid (by
        have h1 := sumL_app (L.take s) (L.drop s)
        rw [List.take_append_drop] at h1
        rw [List.length_drop]
        exact ⟨by omega, by omega⟩)
      rw [← hn] at hlt h1 ht2 hs2 HA HIN hn2 hf hL hi hpr ⊢
      have HT1 := Lib.hid ht1
      have HT2 := Lib.hid ht2
      have hi3 : (0 : Int) ≤ (s : Int) := by omega
      have hi4 : (s : Int) ≤ (n : Int) := by omega
      have hi5 : (s : Int) ≤ (c : Int) := by omega
      have hi6 : s ≤ n := by omega
      have hi7 : s ≤ c := by omega
      have hii : i ≤ 1048576 := by omega
      have HN := Lib.hid hn
      by_cases hk : i < s
      · rw [hpl hk]
        have hki : (i : Int) < (s : Int) := by omega
        clear hcell ht1 ht2 hpl hpr h1n
        generalize L.take s = L1 at hs1 HT1 ⊢
        generalize L.drop s = L2 at hs2 HT2 ⊢
        have HPL := Lib.hid (pathL_len L1 (i := i) (by rw [hs1.out.1]; omega) (by rw [hs1.out.1]; omega))
        have IH := Lib.hid (fun v w => ih L1 v i w (by rw [hs1.out.1]; omega) (by rw [hs1.out.1]; omega) (by rw [hs1.out.1]; omega) hs1.out.2)
        generalize pathL L1 i = P at IH HPL ⊢
        have HTR := Lib.hid (fun v w => specTreeRoot_any v L2 w)
        generalize treeL L2 = R at HTR ⊢
        have HQ2 := Lib.hid (show sumL L2 ≤ 1073741000 ∧ L2.length ≤ 1073741824 from ⟨hs2.out.2, by rw [hs2.out.1]; omega⟩)
        clear ih hn
        go_enter Tryd.func16, Tryd.ntmps16
        go_wp2_with fail
        refine (HIN.out _).mono ?_
        rintro e _ ⟨rfl, rfl⟩
        go_wp2_with fail
        refine (HA.out _).mono ?_
        rintro e w' ⟨rfl, hw⟩
        obtain rfl : w = w' := hw.symm
        go_wp2_with fail
        refine (IH.out _ _ HT1.out).mono ?_
        rintro e w1 ⟨u, vs, rfl, hvl, H1⟩
        have HVL := Lib.hid hvl
        have HH1 := Lib.hid H1
        have HT3 := Lib.hid (HT2.out.up H1.bel)
        clear hvl H1
        go_wp2_with fail
        refine (HTR.out _ _ HT3.out HQ2.out.1 HQ2.out.2).mono ?_
        rintro e w2 ⟨x, rfl, ho2, hb2⟩
        have H2 := (HH1.out.more ho2 hb2).perm (List.Perm.swap _ _ _)
        have hR3 := H2.rws
        have hB2 := H2.bel.size
        have hbl := (hR3.1 _ (.head _)).lt
        simp only at hbl
        have HBL := Lib.hid hbl
        have HB2 := Lib.hid H2.bel
        obtain ⟨A3, c3, rfl, m1, m2, m0, m3⟩ := ho2.sl
        have hvs : vs.length ≤ 1048576 := by have := HVL.out; have := HPL.out; omega
        clear m0 m1 m2 m3 H2 ho2 hb2 hbl
        go_wp2_with (at_builtin; refine wpList_appS1 (w := w2) rfl _ _ 23 rfl 22 i0 Tryd.underlying23 hi0 hz0 hz1 hz2 w.heap.size _ vs (by rfl) (.slice A3 R.length c3) rfl rfl hB2 hR3 (by omega) ?_; intro v4 w4 hR4 hg4)
        go_ret2
        exact ⟨v4, vs ++ [.slice A3 R.length c3], rfl, by simp [HVL.out], (rws_add HVL.out hR4).inv (HB2.out.grown hg4 hB2 fun j e => (HBL.out j e).1)⟩
      · rw [hpr (by omega) hi]
        have hki : ¬ (i : Int) < (s : Int) := by omega
        have e1 : (i : Int) - (s : Int) = ((i - s : Nat) : Int) := by omega
        have hjs : i - s < n - s := by omega
        clear hcell ht1 ht2 hpl hpr h1n
        generalize L.take s = L2 at hs1 HT1 ⊢
        generalize L.drop s = L1 at hs2 HT2 ⊢
        generalize i - s = j at e1 hjs ⊢
        have HPL := Lib.hid (pathL_len L1 (i := j) (by rw [hs2.out.1]; omega) (by rw [hs2.out.1]; omega))
        have IH := Lib.hid (fun v w => ih L1 v j w (by rw [hs2.out.1]; omega) (by rw [hs2.out.1]; omega) (by rw [hs2.out.1]; omega) hs2.out.2)
        generalize pathL L1 j = P at IH HPL ⊢
        have HTR := Lib.hid (fun v w => specTreeRoot_any v L2 w)
        generalize treeL L2 = R at HTR ⊢
        have HQ2 := Lib.hid (show sumL L2 ≤ 1073741000 ∧ L2.length ≤ 1073741824 from ⟨hs1.out.2, by rw [hs1.out.1]; omega⟩)
        clear ih hn
        go_enter Tryd.func16, Tryd.ntmps16
        go_wp2_with fail
        refine (HIN.out _).mono ?_
        rintro e _ ⟨rfl, rfl⟩
        go_wp2_with fail
        refine (HA.out _).mono ?_
        rintro e w' ⟨rfl, hw⟩
        obtain rfl : w = w' := hw.symm
        go_wp2_with fail
        refine (IH.out _ _ HT2.out).mono ?_
        rintro e w1 ⟨u, vs, rfl, hvl, H1⟩
        have HVL := Lib.hid hvl
        have HH1 := Lib.hid H1
        have HT3 := Lib.hid (HT1.out.up H1.bel)
        clear hvl H1
        go_wp2_with fail
        refine (HTR.out _ _ HT3.out HQ2.out.1 HQ2.out.2).mono ?_
        rintro e w2 ⟨x, rfl, ho2, hb2⟩
        have H2 := (HH1.out.more ho2 hb2).perm (List.Perm.swap _ _ _)
        have hR3 := H2.rws
        have hB2 := H2.bel.size
        have hbl := (hR3.1 _ (.head _)).lt
        simp only at hbl
        have HBL := Lib.hid hbl
        have HB2 := Lib.hid H2.bel
        obtain ⟨A3, c3, rfl, m1, m2, m0, m3⟩ := ho2.sl
        have hvs : vs.length ≤ 1048576 := by have := HVL.out; have := HPL.out; omega
        clear m0 m1 m2 m3 H2 ho2 hb2 hbl
        go_wp2_with (at_builtin; refine wpList_appS1 (w := w2) rfl _ _ 23 rfl 22 i0 Tryd.underlying23 hi0 hz0 hz1 hz2 w.heap.size _ vs (by rfl) (.slice A3 R.length c3) rfl rfl hB2 hR3 (by omega) ?_; intro v4 w4 hR4 hg4)
        go_ret2
        exact ⟨v4, vs ++ [.slice A3 R.length c3], rfl, by simp [HVL.out], (rws_add HVL.out hR4).inv (HB2.out.grown hg4 hB2 fun j e => (HBL.out j e).1)⟩

/-- The path, none where there is no such leaf. -/
def ofP (L : List (List UInt8)) (i : Int) : List (List UInt8) := if leafB i L.length = true then pathL L i.toNat else []

set_option maxHeartbeats 1000000 in
theorem specPathOf_any (v : Value) (L : List (List UInt8)) (i : Int) (w : World) (h : SlS w w.heap.size v L) (hL : L.length ≤ 1048576) (hs : sumL L ≤ 1073741000) :
    Calls Tryd.prog 16 #[v, .int .i64 i] w (FreshSB w (ofP L i) (leafB i L.length)) := by
  unfold ofP
  by_cases hi : 0 ≤ i ∧ i < (L.length : Int)
  · rw [leafB_yes hi, if_pos rfl]
    obtain ⟨k, rfl⟩ := Int.eq_ofNat_of_zero_le hi.1
    exact specPathOf_in L.length L v k w (Nat.le_refl _) (by omega) hL hs h
  · rw [leafB_no hi, if_neg (by decide)]
    obtain ⟨A, c, rfl, h1, h2, h0, h3⟩ := h
    unfold maxLen at h2
    have HIN := Lib.hid (fun w => l01In_no i 0 ((L.length : Int) - 1) w (by omega))
    clear h0 h3 hi
    go_enter Tryd.func16, Tryd.ntmps16
    go_wp2_with fail
    refine (HIN.out _).mono ?_
    rintro e _ ⟨rfl, rfl⟩
    go_wp2_with fail
    go_ret2
    exact ⟨_, [], rfl, rfl, invG_nil _⟩

theorem sumL_32 : ∀ P : List (List UInt8), (∀ r ∈ P, r.length = 32) → sumL P = 32 * P.length
  | [], _ => rfl
  | r :: P, h => by
    have h1 := sumL_32 P fun r hr => h r (List.mem_cons_of_mem _ hr)
    have h2 := h r List.mem_cons_self
    simp only [sumL, List.length_cons]
    omega
theorem ofP_32 (L : List (List UInt8)) (i : Int) : ∀ r ∈ ofP L i, r.length = 32 := by
  intro r hr
  unfold ofP at hr
  split at hr
  · exact pathL_32 _ _ r hr
  · cases hr
theorem ofP_small (L : List (List UInt8)) (i : Int) (hL : L.length ≤ 1048576) : (ofP L i).length ≤ 30 ∧ sumL (ofP L i) ≤ 960 := by
  have h1 := sumL_32 _ (ofP_32 L i)
  have h2 : (ofP L i).length ≤ 30 := by
    unfold ofP
    split
    · rename_i h
      have h' : 0 ≤ i ∧ i < (L.length : Int) := of_decide_eq_true h
      exact pathL_len L (by omega) (by omega)
    · simp
  exact ⟨h2, by omega⟩
theorem heldByteSS_z (v : Value) (k : Nat) (L : List (List UInt8)) (kz : Int) (w : World) (h : SlS w w.heap.size v (marksS k L)) (hz : kz = (k : Int)) (hk : k ≤ 1073741824) (hs : sumL L ≤ 1073741824) :
    Calls Tryd.prog 20 #[v, .int .i64 kz] w (Quiet (.int .i64 (kz + (sumL L : Int))) w) := by
  subst hz
  exact heldByteSS_any v k L w h hk hs
end Go.Proofs.YtighgdmpbabelaaDoor
