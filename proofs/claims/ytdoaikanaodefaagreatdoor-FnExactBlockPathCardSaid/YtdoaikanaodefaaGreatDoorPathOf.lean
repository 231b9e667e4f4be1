/- PathOf: PathOfS, PathOf. -/
import Derived.Test.YtdoaikanaodefaaGreatDoorPathLen
import Derived.Test.YtdoaikanaodefaaGreatDoorTree
import Derived.Test.YtdoaikanaodefaaGreatDoorStackBase
import Derived.Test.YtdoaikanaodefaaGreatDoorAnyIn

/- The contract of PathOf as its model has it. -/
namespace Go.Proofs.YtdoaikanaodefaaGreatDoor
open Go.ChangeShapes Go.WideShapes Go.ChangeAt Go.RowKit

/-- The call returns a new slice of new rows that reads as L, and b; nothing that was there has turned. -/
def FreshSB (w : World) (L : List (List UInt8)) (b : Bool) (e : Ending) (w' : World) : Prop :=
  ∃ u vs, e = .returned (.tuple #[u, .bool b]) ∧ vs.length = L.length ∧ InvG w w' ((24, u, vs) :: rowsS 5 vs L)
theorem invG_nil (w : World) : InvG w w [(24, .slice none 0 0, [])] :=
  (InvG.start w).moreG (by unfold GOwn; exact World.ownsRow_nil _ _ _ _) (Below.refl _ _)

/-- The rows with one more. -/
theorem rws_add {B : Nat} {w : World} {E2 E : TypeId} {u x : Value} {vs : List Value} {L : List (List UInt8)} {t : List UInt8} (hv : vs.length = L.length) (H : Rws B w ((E2, u, vs ++ [x]) :: (E, x, us t) :: rowsS E vs L)) :
    Rws B w ((E2, u, vs ++ [x]) :: rowsS E (vs ++ [x]) (L ++ [t])) := by
  rw [rowsS_snoc E vs L x t hv]
  exact H.perm (List.Perm.cons _ (List.perm_append_singleton _ _).symm)
theorem pathL_len (L : List (List UInt8)) {i : Nat} (hi : i < L.length) (hl : L.length ≤ 1073741824) : (pathL L i).length ≤ 30 := by
  rw [pathL_length]
  exact prt_len hi hl

set_option maxRecDepth 100000 in
set_option maxHeartbeats 4000000 in
theorem specPathOf_in : ∀ (f : Nat) (L : List (List UInt8)) (v : Value) (i : Nat) (w : World), L.length ≤ f → i < L.length → L.length ≤ 1048576 → sumL L ≤ 1073741000 → SlS w w.heap.size v L →
    Calls Tryz.prog 58 #[v, .int .i64 (i : Int)] w (FreshSB w (pathL L i) true) := by
  obtain ⟨i0, hi0, hz0, hz1, hz2⟩ := info_parts sbinfo
  intro f
  induction f with
  | zero => intro L v i w hf hi; omega
  | succ f ih =>
    intro L v i w hf hi hL hs h
    obtain ⟨A, c, rfl, h1, h2, h0, h3⟩ := h
    have HIN := Lib.hid (fun w => l01In_yes (i : Int) 0 ((L.length : Int) - 1) w (by omega) (by omega))
    obtain ⟨bb, off, rfl, hbb, hcell⟩ := h3 (by omega)
    have h2' := h2
    unfold maxLen at h2'
    clear h0 h3
    obtain ⟨n, hn⟩ : ∃ n, n = L.length := ⟨_, rfl⟩
    by_cases h1n : L.length = 1
    · rw [pathL_small (by omega) hi]
      have h1' : ((L.length : Int) == 1) = true := by simp [h1n]
      clear ih hcell h1n hn
      go_enter Tryz.func58, Tryz.ntmps58
      go_wp2_with fail
      refine (HIN.out _).mono ?_
      rintro e _ ⟨rfl, rfl⟩
      go_wp2_with fail
      go_ret2
      exact ⟨_, [], rfl, rfl, invG_nil _⟩
    · have h1' : ((n : Int) == 1) = false := by rw [beq_eq_false_iff_ne]; omega
      have hn2 : 2 ≤ L.length := by omega
      have hlt := splitN_lt hn2
      have hps := splitN_pos hn2
      have HA := Lib.hid (fun w => specSplitAt_any (L.length : Int) w (by omega))
      rw [splitZ_nat] at HA
      have hpl := pathL_left (i := i) hn2
      have hpr := pathL_right (i := i) hn2
      generalize splitN L.length = s at hlt hps HA hpl hpr
      have ht1 : SlS w w.heap.size (.slice (some ⟨bb, off, none⟩) s c) (L.take s) := by
        have := slS_cut (L := L) (off := off) (c := c) 0 s h2 hbb hcell (by omega) off c (by omega) (by omega) (Nat.le_refl _)
        simpa using this
      have ht2 : SlS w w.heap.size (.slice (some ⟨bb, off + s, none⟩) (L.length - s) (c - s)) (L.drop s) := by
        have := slS_cut (L := L) (off := off) (c := c) s (L.length - s) h2 hbb hcell (by omega) (off + s) (c - s) (by omega) (by omega) (by omega)
        rwa [List.take_of_length_le (by rw [List.length_drop]; omega)] at this
      have hs1 : Hid ((L.take s).length = s ∧ sumL (L.take s) ≤ 1073741000) := Lib.hid (by
        have := sumL_le L s
        rw [List.length_take]
        exact ⟨by omega, by omega⟩)
      have hs2 : Hid ((L.drop s).length = L.length - s ∧ sumL (L.drop s) ≤ 1073741000) := Lib.hid (by
        have h1 := sumL_app (L.take s) (L.drop s)
        rw [List.take_append_drop] at h1
        rw [List.length_drop]
        exact ⟨by omega, by omega⟩)
      rw [← hn] at hlt h1 ht2 hs2 HA HIN hn2 hf hL hi hpr ⊢
      have HT1 := Lib.hid ht1
      have HT2 := Lib.hid ht2
      have hi3 : (0 : Int) ≤ (s : Int) := by omega
      have hi4 : (s : Int) ≤ (n : Int) := by omega
      have hi5 : (s : Int) ≤ (c : Int) := by omega
      have hi6 : s ≤ n := by omega
      have hi7 : s ≤ c := by omega
      have hii : i ≤ 1048576 := by omega
      have HN := Lib.hid hn
      by_cases hk : i < s
      · rw [hpl hk]
        have hki : (i : Int) < (s : Int) := by omega
        clear hcell ht1 ht2 hpl hpr h1n
        generalize L.take s = L1 at hs1 HT1 ⊢
        generalize L.drop s = L2 at hs2 HT2 ⊢
        have HPL := Lib.hid (pathL_len L1 (i := i) (by rw [hs1.out.1]; omega) (by rw [hs1.out.1]; omega))
        have IH := Lib.hid (fun v w => ih L1 v i w (by rw [hs1.out.1]; omega) (by rw [hs1.out.1]; omega) (by rw [hs1.out.1]; omega) hs1.out.2)
        generalize pathL L1 i = P at IH HPL ⊢
        have HTR := Lib.hid (fun v w => specTreeRoot_any v L2 w)
        generalize treeL L2 = R at HTR ⊢
        have HQ2 := Lib.hid (show sumL L2 ≤ 1073741000 ∧ L2.length ≤ 1073741824 from ⟨hs2.out.2, by rw [hs2.out.1]; omega⟩)
        clear ih hn
        go_enter Tryz.func58, Tryz.ntmps58
        go_wp2_with fail
        refine (HIN.out _).mono ?_
        rintro e _ ⟨rfl, rfl⟩
        go_wp2_with fail
        refine (HA.out _).mono ?_
        rintro e w' ⟨rfl, hw⟩
        obtain rfl : w = w' := hw.symm
        go_wp2_with fail
        refine (IH.out _ _ HT1.out).mono ?_
        rintro e w1 ⟨u, vs, rfl, hvl, H1⟩
        have HVL := Lib.hid hvl
        have HH1 := Lib.hid H1
        have HT3 := Lib.hid (HT2.out.up H1.bel)
        clear hvl H1
        go_wp2_with fail
        refine (HTR.out _ _ HT3.out HQ2.out.1 HQ2.out.2).mono ?_
        rintro e w2 ⟨x, rfl, ho2, hb2⟩
        have H2 := (HH1.out.more ho2 hb2).perm (List.Perm.swap _ _ _)
        have hR3 := H2.rws
        have hB2 := H2.bel.size
        have hbl := (hR3.1 _ (.head _)).lt
        simp only at hbl
        have HBL := Lib.hid hbl
        have HB2 := Lib.hid H2.bel
        obtain ⟨A3, c3, rfl, m1, m2, m0, m3⟩ := ho2.sl
        have hvs : vs.length ≤ 1048576 := by have := HVL.out; have := HPL.out; omega
        clear m0 m1 m2 m3 H2 ho2 hb2 hbl
        go_wp2_with (at_builtin; refine wpList_appS1 (w := w2) rfl _ _ 25 rfl 24 i0 Tryz.underlying25 hi0 hz0 hz1 hz2 w.heap.size _ vs (by rfl) (.slice A3 R.length c3) rfl rfl hB2 hR3 (by omega) ?_; intro v4 w4 hR4 hg4)
        go_ret2
        exact ⟨v4, vs ++ [.slice A3 R.length c3], rfl, by simp [HVL.out], (rws_add HVL.out hR4).inv (HB2.out.grown hg4 hB2 fun j e => (HBL.out j e).1)⟩
      · rw [hpr (by omega) hi]
        have hki : ¬ (i : Int) < (s : Int) := by omega
        have e1 : (i : Int) - (s : Int) = ((i - s : Nat) : Int) := by omega
        have hjs : i - s < n - s := by omega
        clear hcell ht1 ht2 hpl hpr h1n
        generalize L.take s = L2 at hs1 HT1 ⊢
        generalize L.drop s = L1 at hs2 HT2 ⊢
        generalize i - s = j at e1 hjs ⊢
        have HPL := Lib.hid (pathL_len L1 (i := j) (by rw [hs2.out.1]; omega) (by rw [hs2.out.1]; omega))
        have IH := Lib.hid (fun v w => ih L1 v j w (by rw [hs2.out.1]; omega) (by rw [hs2.out.1]; omega) (by rw [hs2.out.1]; omega) hs2.out.2)
        generalize pathL L1 j = P at IH HPL ⊢
        have HTR := Lib.hid (fun v w => specTreeRoot_any v L2 w)
        generalize treeL L2 = R at HTR ⊢
        have HQ2 := Lib.hid (show sumL L2 ≤ 1073741000 ∧ L2.length ≤ 1073741824 from ⟨hs1.out.2, by rw [hs1.out.1]; omega⟩)
        clear ih hn
        go_enter Tryz.func58, Tryz.ntmps58
        go_wp2_with fail
        refine (HIN.out _).mono ?_
        rintro e _ ⟨rfl, rfl⟩
        go_wp2_with fail
        refine (HA.out _).mono ?_
        rintro e w' ⟨rfl, hw⟩
        obtain rfl : w = w' := hw.symm
        go_wp2_with fail
        refine (IH.out _ _ HT2.out).mono ?_
        rintro e w1 ⟨u, vs, rfl, hvl, H1⟩
        have HVL := Lib.hid hvl
        have HH1 := Lib.hid H1
        have HT3 := Lib.hid (HT1.out.up H1.bel)
        clear hvl H1
        go_wp2_with fail
        refine (HTR.out _ _ HT3.out HQ2.out.1 HQ2.out.2).mono ?_
        rintro e w2 ⟨x, rfl, ho2, hb2⟩
        have H2 := (HH1.out.more ho2 hb2).perm (List.Perm.swap _ _ _)
        have hR3 := H2.rws
        have hB2 := H2.bel.size
        have hbl := (hR3.1 _ (.head _)).lt
        simp only at hbl
        have HBL := Lib.hid hbl
        have HB2 := Lib.hid H2.bel
        obtain ⟨A3, c3, rfl, m1, m2, m0, m3⟩ := ho2.sl
        have hvs : vs.length ≤ 1048576 := by have := HVL.out; have := HPL.out; omega
        clear m0 m1 m2 m3 H2 ho2 hb2 hbl
        go_wp2_with (at_builtin; refine wpList_appS1 (w := w2) rfl _ _ 25 rfl 24 i0 Tryz.underlying25 hi0 hz0 hz1 hz2 w.heap.size _ vs (by rfl) (.slice A3 R.length c3) rfl rfl hB2 hR3 (by omega) ?_; intro v4 w4 hR4 hg4)
        go_ret2
        exact ⟨v4, vs ++ [.slice A3 R.length c3], rfl, by simp [HVL.out], (rws_add HVL.out hR4).inv (HB2.out.grown hg4 hB2 fun j e => (HBL.out j e).1)⟩

/-- The path, none where there is no such leaf. -/
def ofP (L : List (List UInt8)) (i : Int) : List (List UInt8) := if leafB i L.length = true then pathL L i.toNat else []

set_option maxHeartbeats 1000000 in
theorem specPathOf_any (v : Value) (L : List (List UInt8)) (i : Int) (w : World) (h : SlS w w.heap.size v L) (hL : L.length ≤ 1048576) (hs : sumL L ≤ 1073741000) :
    Calls Tryz.prog 58 #[v, .int .i64 i] w (FreshSB w (ofP L i) (leafB i L.length)) := by
  unfold ofP
  by_cases hi : 0 ≤ i ∧ i < (L.length : Int)
  · rw [leafB_yes hi, if_pos rfl]
    obtain ⟨k, rfl⟩ := Int.eq_ofNat_of_zero_le hi.1
    exact specPathOf_in L.length L v k w (Nat.le_refl _) (by omega) hL hs h
  · rw [leafB_no hi, if_neg (by decide)]
    obtain ⟨A, c, rfl, h1, h2, h0, h3⟩ := h
    unfold maxLen at h2
    have HIN := Lib.hid (fun w => l01In_no i 0 ((L.length : Int) - 1) w (by omega))
    clear h0 h3 hi
    go_enter Tryz.func58, Tryz.ntmps58
    go_wp2_with fail
    refine (HIN.out _).mono ?_
    rintro e _ ⟨rfl, rfl⟩
    go_wp2_with fail
    go_ret2
    exact ⟨_, [], rfl, rfl, invG_nil _⟩

theorem sumL_32 : ∀ P : List (List UInt8), (∀ r ∈ P, r.length = 32) → sumL P = 32 * P.length
  | [], _ => rfl
  | r :: P, h => by
    have h1 := sumL_32 P fun r hr => h r (List.mem_cons_of_mem _ hr)
    have h2 := h r List.mem_cons_self
    simp only [sumL, List.length_cons]
    omega
theorem ofP_32 (L : List (List UInt8)) (i : Int) : ∀ r ∈ ofP L i, r.length = 32 := by
  intro r hr
  unfold ofP at hr
  split at hr
  · exact pathL_32 _ _ r hr
  · cases hr
theorem ofP_small (L : List (List UInt8)) (i : Int) (hL : L.length ≤ 1048576) : (ofP L i).length ≤ 30 ∧ sumL (ofP L i) ≤ 960 := by
  have h1 := sumL_32 _ (ofP_32 L i)
  have h2 : (ofP L i).length ≤ 30 := by
    unfold ofP
    split
    · rename_i h
      have h' : 0 ≤ i ∧ i < (L.length : Int) := of_decide_eq_true h
      exact pathL_len L (by omega) (by omega)
    · simp
  exact ⟨h2, by omega⟩
theorem heldByteSS_zp (v : Value) (k : Nat) (L : List (List UInt8)) (kz : Int) (w : World) (h : SlS w w.heap.size v (marksS k L)) (hz : kz = (k : Int)) (hk : k ≤ 1073741824) (hs : sumL L ≤ 1073741824) :
    Calls Tryz.prog 33 #[v, .int .i64 kz] w (Quiet (.int .i64 (kz + (sumL L : Int))) w) := by
  subst hz
  exact heldByteSS_any v k L w h hk hs
end Go.Proofs.YtdoaikanaodefaaGreatDoor

/- The contract of PathOf as the program has it: a range over the parts beside a leaf, whose roots are appended one by one. -/
namespace Go.Proofs.YtdoaikanaodefaaGreatDoor
open Go.ChangeShapes Go.WideShapes Go.ChangeAt Go.RowKit Go.Shelf

attribute [local go_sem] Oper.semAt_some

/-- 'append(out, x)' for one slice x, as one operation: out is the head of the rows. -/
theorem wp_appS1 {P : Program} {w : World} {o : Oper} {a : Act} {K : Act → World → Prop} {Q : Exit → Act → World → Prop} {rs : List (TypeId × Value × List Value)} (s x : Operand) (t : TypeId)
    (ho : o.op = .call { callee := .builtin .append, args := #[s, x], argTypes := #[t, t] }) (E2 : TypeId) (i : TypeInfo) (ht : P.underlying t = some (.slice E2)) (hi : P.info? E2 = some i)
    (hz : i.zero = some (.slice none 0 0)) (hsize : i.size = 1) (hby : i.bytes = 24) (B : Nat) (v : Value) (vs : List Value) (hs : a.eval s = v) (u : Value) (hu : u.oneCell' = true) (g : Nat)
    (hx : a.eval x = .slice (some ⟨g, 0, none⟩) 1 1) (hc : w.cell? ⟨g, 0, none⟩ = some u) (hB : B ≤ w.heap.size) (H : Rws B w ((E2, v, vs) :: rs)) (hlen : vs.length ≤ 1073741824)
    (h : ∀ v' w', Rws B w' ((E2, v', vs ++ [u]) :: rs) → w.grownBy w' v.ownBlock → K (a.put o.dst v') w') : o.wp P a w K Q := by
  obtain ⟨v', w', hr, h2, h3, _, h5⟩ := run_append_own_at (P := P) (w := w) B t o.type E2 i (.slice none 0 0) 1 24 ht hi hz hsize hby rfl (by omega) v vs.length vs (H.1 _ (.head _)) ⟨g, 0, none⟩ 1 1 [u] rfl
    (fun j y hj => by
      match j, hj with
      | 0, hj =>
        simp at hj
        subst hj
        simpa [Addr.add] using hc) (by simpa using hu) (by unfold maxLen; omega) (by omega) hB
  unfold Oper.wp execOp
  simp only [ho, resolve, invoke, builtin, Sem.run_bind, Sem.run_pure, Result.andThen_ok, List.map_toArray, List.map_cons, List.map_nil, hs, hx, hr]
  refine h v' w' (H.moved ?_ h3 h5) h3
  unfold GOwn
  simp only [List.length_append, List.length_singleton]
  exact h2

/-- A slice and the rows behind it, in a variable, through the law's own turns of blocks that are no cells. -/
theorem ownFrom_rows {β : Type} (B b n₀ : Nat) (t E2 E : TypeId) (k : β → Nat) (M : β → List (List UInt8)) :
    OwnFrom B (fun s W => ∃ v vs, Boxed W b t v ∧ vs.length = k s ∧ Rws n₀ W ((E2, v, vs) :: rowsS E vs (M s))) := by
  rintro s X Y row ⟨v, vs, hv, hk, hr⟩ hg hrow
  refine ⟨v, vs, hv.kept hg (fun e' => ?_), hk, fun p hp => (hr.1 p hp).kept hg ?_, hr.2⟩
  · obtain ⟨_, o, ho, hc⟩ := hrow b e'.symm
    rw [show X.heap[b]? = _ from hv] at ho; cases ho; cases hc
  · have h1 := hr.1 p hp
    unfold GOwn at h1
    rcases h1.2 with ⟨e, _⟩ | ⟨g, cap, cur, e, _, hgb, _⟩
    · exact .inl (by rw [e]; rfl)
    · refine .inr fun e' => ?_
      obtain ⟨_, o, ho, hc⟩ := hrow g (by rw [← e', e]; rfl)
      rw [hgb] at ho; cases ho; cases hc

/-- What a round of PathOf keeps: the path so far, the variable of the list. -/
def PofI (L : List (List UInt8)) (w : World) (B n : Nat) (lv : Value) (pre : List (PA n)) (W : World) : Prop :=
  (∃ v vs, Boxed W (B + 1) 25 v ∧ vs.length = pre.length ∧ Rws (B + 4) W ((24, v, vs) :: rowsS 5 vs (pre.map fun x => rootOf L x.1))) ∧ Boxed W B 25 lv ∧ Below B w W ∧ B + 3 < W.heap.size
theorem PofI.own (L : List (List UInt8)) (w : World) (B n B' : Nat) (lv : Value) (h1 : B ≤ w.heap.size) (h2 : B ≤ B') : OwnFrom B' (PofI L w B n lv) :=
  OwnFrom.and (ownFrom_rows B' (B + 1) (B + 4) _ _ _ (fun pre : List (PA n) => pre.length) (fun pre : List (PA n) => pre.map fun x => rootOf L x.1)) (OwnFrom.and (ownFrom_boxed B' B _ fun _ => lv) (OwnFrom.and (ownFrom_below h1 h2) (ownFrom_size B' (B + 3))))

/-- What the operations of a round's region yield. -/
def PofSp (W : World) (v : Value) (k a b n bb off c : Nat) (R : List UInt8) (i : Nat) (w : World) (vs : Nat → Value) : Prop :=
  match i with
  | 0 => vs 0 = v
  | 1 => vs 1 = .slice (some ⟨bb, off, none⟩) n c
  | 2 => vs 2 = .pointer (some ⟨k, 0, none⟩)
  | 3 => vs 3 = .int .i64 (a : Int)
  | 4 => vs 4 = .pointer (some ⟨k, 1, none⟩)
  | 5 => vs 5 = .int .i64 (b : Int)
  | 6 => vs 6 = .slice (some ⟨bb, off + a, none⟩) (b - a) (c - a)
  | 7 => GOwn w W.heap.size (5, vs 7, us R)
  | 8 => ∃ g, vs 8 = .slice (some ⟨g, 0, none⟩) 1 1 ∧ g < w.heap.size ∧ w.cell? ⟨g, 0, none⟩ = some (vs 7)
  | _ => True
theorem PofSp.up {W w w' : World} {v : Value} {k a b n bb off c : Nat} {R : List UInt8} {vs vs' : Nat → Value} : ∀ i, PofSp W v k a b n bb off c R i w vs → Below w.heap.size w w' → vs i = vs' i → (i = 8 → vs 7 = vs' 7) → PofSp W v k a b n bb off c R i w' vs'
  | 0, h, _, e, _ => e.symm.trans h
  | 1, h, _, e, _ => e.symm.trans h
  | 2, h, _, e, _ => e.symm.trans h
  | 3, h, _, e, _ => e.symm.trans h
  | 4, h, _, e, _ => e.symm.trans h
  | 5, h, _, e, _ => e.symm.trans h
  | 6, h, _, e, _ => e.symm.trans h
  | 7, h, hb, e, _ => by
    have h' : GOwn w W.heap.size (5, vs 7, us R) := h
    change GOwn w' W.heap.size (5, vs' 7, us R)
    rw [← e]
    exact h'.up hb
  | 8, h, hb, e, e7 => by
    obtain ⟨g, h1, h2, h3⟩ := h
    refine ⟨g, e.symm.trans h1, Nat.lt_of_lt_of_le h2 hb.size, ?_⟩
    rw [← e7 rfl]
    exact (hb.cell (p := ⟨g, 0, none⟩) h2).trans h3
  | _ + 9, _, _, _, _ => trivial
theorem sumL_part (L : List (List UInt8)) (a n : Nat) : sumL ((L.drop a).take n) ≤ sumL L := by
  have h1 := sumL_le (L.drop a) n
  have h2 := sumL_app (L.take a) (L.drop a)
  rw [List.take_append_drop] at h2
  omega

set_option maxRecDepth 100000 in
set_option maxHeartbeats 4000000 in
theorem implPathOf_in (v : Value) (L : List (List UInt8)) (i : Nat) (w : World) (h : SlS w w.heap.size v L) (hi : i < L.length) (hL : L.length ≤ 1048576) (hs : sumL L ≤ 1073741000)
    (hI : Glob w 0 initW) (hG : Glob w 1 kk) :
    Calls Tryz.prog 59 #[v, .int .i64 (i : Int)] w (FreshSB w (pathL L i) true) := by
  obtain ⟨i0, hi0, hz0, hz1, hz2⟩ := info_parts sbinfo
  obtain ⟨A, c, rfl, h1, h2, h0, h3⟩ := h
  have HP := Lib.hid (fun w => isLeaf_any (i : Int) (L.length : Int) w)
  rw [leafB_yes (by omega)] at HP
  obtain ⟨bb, off, rfl, hbb, hcell⟩ := h3 (by omega)
  have HCUT := Lib.hid (fun a n => slS_cut (L := L) (off := off) (c := c) a n h2 hbb hcell)
  have h2' := h2
  unfold maxLen at h2'
  obtain ⟨n, hn⟩ : ∃ n, n = L.length := ⟨_, rfl⟩
  rw [← hn] at h1 hi hL HP HCUT
  rw [← hn]
  obtain ⟨zs, hzs⟩ := prt_sub i n
  have HZ := Lib.hid hzs
  have HN := Lib.hid (zs_len hzs)
  have hb := prt_len hi (show n ≤ 2 ^ 30 by omega)
  change plenN i n ≤ 30 at hb
  have HB30 := Lib.hid hb
  have HNL := Lib.hid hn
  have HS := Lib.hid hs
  clear hzs hb hcell h3 h0 hn hs
  refine (callsIn_wide (n := 3)).1 ?_
  refine callsIn_of_wp_marks Tryz.func59 rfl trivial ?_ rfl
  simp only [Tryz.ntmps59, List.size_toArray, List.length_cons, List.length_nil, Nat.reduceAdd, Nat.reduceSub, Array.replicate_succ, Array.replicate_zero, List.push_toArray, List.append_toArray, List.nil_append, List.cons_append]
  gi_wp2_with (first
    | (refine ⟨trivial, ?_⟩; gi_at_call 96; refine (callsIn_wide.2 (HP.out _)).mono ?_; rintro e _ ⟨rfl, rfl⟩)
    | (refine ⟨trivial, ?_⟩; gi_at_call 97; refine (parts_in _ _ _ _).mono ?_; rintro e w' ⟨rfl, rfl⟩))
  obtain ⟨B, hB⟩ : ∃ B, B = w.heap.size := ⟨_, rfl⟩
  rw [← hB]
  obtain ⟨w3, hw3⟩ : ∃ w3, w3 = (((w.alloc (.cells #[.slice (some ⟨bb, off, none⟩) n c] 25)).alloc (.cells #[.slice none 0 0] 25)).alloc (.cells #[.int .i64 (i : Int)] 3)).alloc (.cells #[.int .i64 (n : Int)] 3) := ⟨_, rfl⟩
  rw [← hw3]
  have hsz : w3.heap.size = B + 4 := by rw [hw3, hB]; simp
  have hBL : Below B w w3 := by rw [hw3, hB]; exact ((((Below.refl _ w).alloc (Nat.le_refl _) _).alloc (by simp) _).alloc (by simp; omega) _).alloc (by simp; omega) _
  have bL : Boxed w3 B 25 (.slice (some ⟨bb, off, none⟩) n c) := by rw [hw3, hB]; exact (((Boxed.new w 25 _).alloc _).alloc _).alloc _
  have bP : Boxed w3 (B + 1) 25 (.slice none 0 0) := by
    have := ((Boxed.new (w.alloc (.cells #[.slice (some ⟨bb, off, none⟩) n c] 25)) 25 (.slice none 0 0)).alloc (.cells #[.int .i64 (i : Int)] 3)).alloc (.cells #[.int .i64 (n : Int)] 3)
    rw [World.size_alloc] at this
    rw [hw3, hB]
    exact this
  have bI : Boxed w3 (B + 1 + 1) 3 (.int .i64 (i : Int)) := by
    have := (Boxed.new ((w.alloc (.cells #[.slice (some ⟨bb, off, none⟩) n c] 25)).alloc (.cells #[.slice none 0 0] 25)) 3 (.int .i64 (i : Int))).alloc (.cells #[.int .i64 (n : Int)] 3)
    rw [World.size_alloc, World.size_alloc] at this
    rw [hw3, hB]
    exact this
  have bN : Boxed w3 (B + 1 + 1 + 1) 3 (.int .i64 (n : Int)) := by
    have := Boxed.new (((w.alloc (.cells #[.slice (some ⟨bb, off, none⟩) n c] 25)).alloc (.cells #[.slice none 0 0] 25)).alloc (.cells #[.int .i64 (i : Int)] 3)) 3 (.int .i64 (n : Int))
    rw [World.size_alloc, World.size_alloc, World.size_alloc] at this
    rw [hw3, hB]
    exact this
  have HB := Lib.hid hB
  have hOI := PofI.own L w B n w3.heap.size (.slice (some ⟨bb, off, none⟩) n c) (Nat.le_of_eq hB) (by omega)
  have hI0 : PofI L w B n (.slice (some ⟨bb, off, none⟩) n c) [] w3 := ⟨⟨_, [], bP, rfl, by
    have hr : Rws (B + 4) w3 [(24, .slice none 0 0, [])] := ⟨fun p hp => by
      rcases List.mem_singleton.1 hp with rfl
      unfold GOwn
      exact World.ownsRow_nil _ _ _ _, List.pairwise_singleton _ _⟩
    exact hr⟩, bL, hBL, by omega⟩
  clear hw3 hB
  refine wpIn_rangeFunc_ownH (w0 := w3) (N := zs.length) (S := fun ys => ys = zs) (Sp := fun _ => True) (Kp := KpP B (B + 1 + 1) (B + 1 + 1 + 1)) (encs := fun x : PA n => #[.agg #[.int .i64 (x.1.1 : Int), .int .i64 (x.1.2 : Int)]]) rfl (by omega)
    (gf := 128) (lb := #[.pointer (some ⟨B + 1 + 1, 0, none⟩), .pointer (some ⟨B + 1 + 1 + 1, 0, none⟩)]) rfl trivial (enters_of Tryz.func128 (by kernel_rfl) rfl)
    (fun l' J Jx W hW hJ _ hY h0 => ?seq) KpP.trans (kpP_b (by omega) (by omega) (by omega)) (Below.refl _ _) (fun _ => rfl)
    (PofI L w B n (.slice (some ⟨bb, off, none⟩) n c))
    (fun _ _ _ => False) hOI (fun _ _ _ _ _ hs _ _ => hs) hI0
    (fun x a' W => ∃ k, a' = { tmps := #[.slice (some ⟨bb, off, none⟩) n c, .int .i64 (i : Int), .pointer (some ⟨B, 0, none⟩), undef, .slice none 0 0, .bool false, .pointer (some ⟨B + 1, 0, none⟩), .pointer (some ⟨k, 0, none⟩), .int .i64 (i : Int), .slice (some ⟨bb, off, none⟩) n c, .int .i64 (n : Int), .bool true, .bool false, .int .i64 (i : Int), .slice (some ⟨bb, off, none⟩) n c, .int .i64 (n : Int),
      .func (.func 128) #[] #[.pointer (some ⟨B + 1 + 1, 0, none⟩), .pointer (some ⟨B + 1 + 1 + 1, 0, none⟩)], .agg #[.int .i64 (x.1.1 : Int), .int .i64 (x.1.2 : Int)], undef, undef, undef, undef, undef, undef, undef, undef, undef, undef, undef], defers := [] } ∧
      k < W.heap.size ∧ W.cell? ⟨k, 0, none⟩ = some (.int .i64 (x.1.1 : Int)) ∧ W.cell? ⟨k, 1, none⟩ = some (.int .i64 (x.1.2 : Int)))
    (fun x a' _ W W' row h hg hr => by
      obtain ⟨k, e, hk, h1, h2⟩ := h
      exact ⟨k, e, Nat.lt_of_lt_of_le hk hg.size, cell_kept h1 hg (fun r e => (hr r e).2), cell_kept h2 hg (fun r e => (hr r e).2)⟩) ?assign ?body ?done ?stop
  case seq =>
    refine parts1_in i zs HZ.out hi (by omega) _ (by omega) l' (B + 1 + 1) (B + 1 + 1 + 1) B J Jx hY W ?_ ?_ ?_
    · exact (hW.cell (p := ⟨B + 1 + 1, 0, none⟩) (by simp; omega)).trans bI.cell
    · exact (hW.cell (p := ⟨B + 1 + 1 + 1, 0, none⟩) (by simp; omega)).trans bN.cell
    · exact hJ _ _ _ none h0 ⟨rfl, rfl, rfl, Nat.le_refl _, fun _ _ _ => rfl⟩ (fun _ e => by cases e)
  case assign =>
    intro l' pre x W K hIp hK
    have hs4 := hIp.2.2.2
    gi_wp2
    exact hK _ _ ((KeepsOthers.alloc _ _).from _) ⟨(Below.refl _ W).alloc (by omega) _, Below.heap_alloc _ _ _ (by omega), Below.heap_alloc _ _ _ (by omega)⟩ (hOI.alloc _ hIp) ⟨W.heap.size, rfl, by simp, by simp, by simp⟩
  case body =>
    rintro l' pre x a' W hlB _ ⟨⟨v, vsl, hv, hvl, hR⟩, hbl, hbw, hsw⟩ ⟨k, rfl, hkw, hk0, hk1⟩ hpl
    have hab := x.2.1
    have hbn := x.2.2
    have hrt : rootOf L x.1 = treeL (partL L x.1.1 (x.1.2 - x.1.1)) := rfl
    have hpl30 : vsl.length ≤ 30 := by have := HN.out; have := HB30.out; omega
    have HVL := Lib.hid (show (vsl ++ [Value.bool true]).length = (pre ++ [x]).length by simp [hvl])
    have hmap : (pre ++ [x]).map (fun x : PA n => rootOf L x.1) = pre.map (fun x : PA n => rootOf L x.1) ++ [rootOf L x.1] := by simp
    have hlen : vsl.length = (pre.map fun x : PA n => rootOf L x.1).length := by simp [hvl]
    generalize pre ++ [x] = pre' at HVL hmap ⊢
    generalize (pre.map fun x : PA n => rootOf L x.1) = M at hR hmap hlen
    generalize rootOf L x.1 = R at hrt hmap
    generalize x.1.1 = a at hab hbn hk0 hk1 hrt ⊢
    generalize x.1.2 = b at hab hbn hk0 hk1 hrt ⊢
    have hcut := HCUT.out a (b - a) (by omega) (off + a) (c - a) (by omega) (by omega) (by omega)
    have HCU := Lib.hid hcut
    have hTR := fun u w' h1 h2 => implTreeRoot_any u (partL L a (b - a)) w' h1 (Nat.le_trans (sumL_part L a (b - a)) HS.out) (by rw [partL_length (by have := HNL.out; omega)]; omega) (hI.below hI.lt h2) (hG.below hG.lt h2)
    rw [← hrt] at hTR
    have HTR := Lib.hid hTR
    have HMAP := Lib.hid hmap
    have HLEN := Lib.hid hlen
    clear hrt hTR hmap hlen
    have hvc := hv.cell
    have hlc := hbl.cell
    have hvlt := hv.lt
    have hblt := hbl.lt
    have hab1 : (0 : Int) ≤ (a : Int) := by omega
    have hab2 : (a : Int) ≤ (b : Int) := by omega
    have hab3 : (b : Int) ≤ (c : Int) := by omega
    have hab4 : a ≤ b := by omega
    have hab5 : b ≤ c := by omega
    gi_wp2
    refine wpIn_region_head 9 (PofSp W v k a b n bb off c R) (by kernel_rfl) (by kernel_rfl) (by kernel_rfl) ?hup ?hstep ?hend
    case hup =>
      intro j w5 w6 vz vz' hj h hb6 hvz
      refine PofSp.up j h hb6 (hvz j (.inl rfl)) fun hj => ?_
      subst hj
      exact hvz 7 (.inr (by kernel_rfl))
    case hstep =>
      intro j o hj ho vz w5 hb5 hp
      have hc1 := (hb5.cell (p := ⟨B + 1, 0, none⟩) hvlt).trans hvc
      have hc2 := (hb5.cell (p := ⟨B, 0, none⟩) hblt).trans hlc
      have hc3 := (hb5.cell (p := ⟨k, 0, none⟩) hkw).trans hk0
      have hc4 := (hb5.cell (p := ⟨k, 1, none⟩) hkw).trans hk1
      simp only [putAll, dstOf, Option.bind_some, Act.put, List.getElem?_toArray, List.getElem?_cons_zero, List.getElem?_cons_succ, List.setIfInBounds_toArray, List.set_cons_zero, List.set_cons_succ]
      rcases j with _ | _ | _ | _ | _ | _ | _ | _ | _ | j
      all_goals (first | (exfalso; omega; done) | skip)
      all_goals simp only [List.getElem?_toArray, List.getElem?_cons_zero, List.getElem?_cons_succ, Option.some.injEq] at ho
      all_goals subst ho
      all_goals unfold Oper.wp
      · go_simp
        exact ⟨Below.refl _ _, by simp [PofSp, upd, valOf]⟩
      · go_simp
        exact ⟨Below.refl _ _, by simp [PofSp, upd, valOf]⟩
      · go_simp
        exact ⟨Below.refl _ _, by simp [PofSp, upd, valOf]⟩
      · have h2 : vz 2 = _ := hp 2 (by kernel_rfl)
        go_simp
        exact ⟨Below.refl _ _, by simp [PofSp, upd, valOf]⟩
      · go_simp
        exact ⟨Below.refl _ _, by simp [PofSp, upd, valOf]⟩
      · have h4 : vz 4 = _ := hp 4 (by kernel_rfl)
        go_simp
        exact ⟨Below.refl _ _, by simp [PofSp, upd, valOf]⟩
      · have h1 : vz 1 = _ := hp 1 (by kernel_rfl)
        have h3 : vz 3 = _ := hp 3 (by kernel_rfl)
        have h5 : vz 5 = _ := hp 5 (by kernel_rfl)
        go_simp
        exact ⟨Below.refl _ _, by simp [PofSp, upd, valOf]; omega⟩
      · have h6 : vz 6 = _ := hp 6 (by kernel_rfl)
        go_simp
        have hb7 : Below w.heap.size w w5 := by have := hbw.trans (hb5.mono (by omega)); rwa [HB.out] at this
        refine (HTR.out _ w5 (HCU.out.up hb7) hb7).mono ?_
        rintro e w6 ⟨u, rfl, ho, hb6⟩
        exact ⟨hb6, by simpa [PofSp, upd, valOf] using (GOwn.b.2 ho).mono hb5.size⟩
      · obtain ⟨A7, c7, e7, _⟩ := (show GOwn w5 W.heap.size (5, vz 7, us R) from hp 7 (by kernel_rfl)).cells
        go_simp
        exact ⟨(Below.refl _ _).alloc (Nat.le_refl _) _, by simp [PofSp, upd, valOf, e7]⟩
    case hend =>
      intro vz w5 hb5 hp
      have e0 : vz 0 = v := hp 0 (by omega)
      have h7 : GOwn w5 W.heap.size (5, vz 7, us R) := hp 7 (by omega)
      obtain ⟨g, e8, hg1, hg2⟩ : ∃ g, vz 8 = .slice (some ⟨g, 0, none⟩) 1 1 ∧ g < w5.heap.size ∧ w5.cell? ⟨g, 0, none⟩ = some (vz 7) := hp 8 (by omega)
      obtain ⟨A7, c7, e7, _⟩ := h7.cells
      rw [e7] at h7 hg2
      have hle5 : B + 4 ≤ w5.heap.size := by have := hb5.size; omega
      have hR5 := (Rws.more hR h7 (by omega) (grown_of_below hb5 none) (fun j e => by cases e)).perm (List.Perm.swap _ _ _)
      have hlt4 := (hR.1 _ (.head _)).lt
      simp only at hlt4
      have hv5 := hv.kept (grown_of_below hb5 none) (by simp)
      have hbl5 := hbl.kept (grown_of_below hb5 none) (by simp)
      have HB5 := Lib.hid hb5
      have HLT := Lib.hid hlt4
      have HR5 := Lib.hid hR5
      have HV5 := Lib.hid hv5
      have HBL5 := Lib.hid hbl5
      clear hp h7 hR hR5 hv hbl hlt4 hv5 hbl5 hcut
      simp only [putAll, dstOf, Option.bind_some, Act.put, List.getElem?_toArray, List.getElem?_cons_zero, List.getElem?_cons_succ, List.setIfInBounds_toArray, List.set_cons_zero, List.set_cons_succ]
      refine wpAny_one (i := 9) (by kernel_rfl) rfl rfl ?_
      refine wp_appS1 _ _ 25 rfl 24 i0 Tryz.underlying25 hi0 hz0 hz1 hz2 (B + 4) v vsl e0 (.slice A7 (us R).length c7) rfl g e8 hg2 hle5 HR5.out (by omega) ?_
      intro v4 w6 hR6 hg6
      obtain ⟨A8, c8, e8', _⟩ := (hR6.1 _ (.head _)).cells
      subst e8'
      have HR6 := Lib.hid hR6
      have HG6 := Lib.hid hg6
      have hv6 := HV5.out.kept hg6 (fun e => by have := (HLT.out (B + 1) e.symm).1; omega)
      have hbl6 := HBL5.out.kept hg6 (fun e => by have := (HLT.out B e.symm).1; omega)
      have hvc6 := hv6.cell
      have hvf6 := hv6.frozen
      have HV6 := Lib.hid hv6
      have HBL6 := Lib.hid hbl6
      have HLN := Lib.hid (show (vsl ++ [Value.slice A7 (us R).length c7]).length = pre'.length by rw [← HVL.out]; simp)
      generalize hqq : vsl ++ [Value.slice A7 (us R).length c7] = vq at HR6 HLN hR6
      clear hR6 hg6 hv6 hbl6
      refine wpAny_one (i := 10) (by kernel_rfl) rfl rfl ?_
      unfold Oper.wp
      go_simp
      refine wpAny_done (by kernel_rfl) ?_ _
      have hsz5 := HB5.out.size
      have hsz6 := HG6.out.size
      refine (show KeepsFrom w3.heap.size W (w6.setCell ⟨B + 1, 0, none⟩ (.slice A8 vq.length c8)) ∧ KpP B (B + 1 + 1) (B + 1 + 1 + 1) W (w6.setCell ⟨B + 1, 0, none⟩ (.slice A8 vq.length c8)) ∧ PofI L w B n (.slice (some ⟨bb, off, none⟩) n c) pre' (w6.setCell ⟨B + 1, 0, none⟩ (.slice A8 vq.length c8)) from ⟨?_, ⟨?_, ?_, ?_⟩, ⟨_, vq, HV6.out.set _, HLN.out, ?_⟩, HBL6.out.other (by omega) _, ?_, ?_⟩)
      · refine ((KeepsFrom.of_grownBy (grown_of_below HB5.out none) (fun j e => by cases e)).trans ((KeepsOthers.of_grownBy HG6.out fun j o e ho => ?_).from _)).trans ((KeepsOthers.setCell _ _ _).from _)
        have h1 := HR5.out.1 _ (.head _)
        unfold GOwn at h1
        rcases h1.2 with ⟨e', _⟩ | ⟨g', cap, cur, e', _, hgb, _⟩
        · simp only at e'
          rw [e'] at e
          cases e
        · simp only at e'
          rw [e'] at e
          injection e with e
          rw [← e, hgb] at ho
          injection ho with ho
          rw [← ho]
          rfl
      · exact ((HB5.out.mono (by omega)).trans ((Below.refl _ _).grown HG6.out (by omega) fun j e => by have := (HLT.out j e).1; omega)).setCell (p := ⟨B + 1, 0, none⟩) (by simp) _
      · exact (Below.heap_setCell _ _ _ _ (show B + 1 + 1 ≠ B + 1 by omega)).trans ((HG6.out.block _ (by omega) (fun e => by have := (HLT.out (B + 1 + 1) e.symm).1; omega)).trans (HB5.out.block _ (by omega)))
      · exact (Below.heap_setCell _ _ _ _ (show B + 1 + 1 + 1 ≠ B + 1 by omega)).trans ((HG6.out.block _ (by omega) (fun e => by have := (HLT.out (B + 1 + 1 + 1) e.symm).1; omega)).trans (HB5.out.block _ (by omega)))
      · rw [HMAP.out]
        have := rws_add HLEN.out (by rw [hqq]; exact HR6.out)
        rw [hqq] at this
        exact this.cell (by omega) 0 _
      · exact (hbw.trans ((HB5.out.mono (by omega)).trans ((Below.refl _ _).grown HG6.out (by omega) fun j e => by have := (HLT.out j e).1; omega))).setCell (p := ⟨B + 1, 0, none⟩) (by simp) _
      · have := (grownBy_setCell' w6 (B + 1) (.slice A8 vq.length c8)).size
        omega
  case done =>
    rintro D ys W hD rfl hIz hK
    obtain ⟨⟨v, vs, hv, hvl, hR⟩, hbl, hbw, hsw⟩ := hOI.putObj (.deferred none) hIz hD hK rfl
    have hvW : Boxed W (B + 1) 25 v := (World.putObj_heap_other (by omega)).symm.trans hv
    obtain ⟨A8, c8, e8, _⟩ := (hR.1 _ (.head _)).cells
    subst e8
    have hvc := hvW.cell
    have hpl : ys.map (fun x : PA n => rootOf L x.1) = pathL L i := by
      have := congrArg (List.map (rootOf L)) HZ.out
      rw [List.map_map] at this
      unfold pathL
      rw [← HNL.out, ← this]
      rfl
    rw [hpl] at hR
    have hvl2 : vs.length = (pathL L i).length := by rw [hvl, ← hpl, List.length_map]
    have HR := Lib.hid hR
    have HVL := Lib.hid hvl2
    have HBW := Lib.hid hbw
    clear hpl hR hvl hvl2 hv hvW hbl hIz
    gi_wp2
    refine ⟨by simp, .inl ⟨_, _, rfl, run_takeDeferred hK, ?_⟩⟩
    refine ⟨.tuple #[.slice A8 vs.length c8, .bool true], by simp [results, Tryz.results59, go_sem], _, vs, rfl, HVL.out, ?_⟩
    have h1 := (HR.out.mono (show B ≤ B + 4 by omega))
    rw [HB.out] at h1
    have h2 := HBW.out
    rw [HB.out] at h2
    exact h1.inv h2
  case stop =>
    rintro D c' pre W _ _ h _
    exact h.elim

set_option maxHeartbeats 1000000 in
theorem implPathOf_any (v : Value) (L : List (List UInt8)) (i : Int) (w : World) (h : SlS w w.heap.size v L) (hL : L.length ≤ 1048576) (hs : sumL L ≤ 1073741000)
    (hI : Glob w 0 initW) (hG : Glob w 1 kk) :
    Calls Tryz.prog 59 #[v, .int .i64 i] w (FreshSB w (ofP L i) (leafB i L.length)) := by
  unfold ofP
  by_cases hi : 0 ≤ i ∧ i < (L.length : Int)
  · rw [leafB_yes hi, if_pos rfl]
    obtain ⟨k, rfl⟩ := Int.eq_ofNat_of_zero_le hi.1
    exact implPathOf_in v L k w h (by omega) hL hs hI hG
  · have HP := Lib.hid (fun w => isLeaf_any i (L.length : Int) w)
    rw [leafB_no hi] at HP ⊢
    rw [if_neg (by decide)]
    obtain ⟨A, c, rfl, h1, h2, h0, h3⟩ := h
    unfold maxLen at h2
    clear h0 h3 hi
    go_enter Tryz.func59, Tryz.ntmps59
    go_wp2_with fail
    refine (HP.out _).mono ?_
    rintro e _ ⟨rfl, rfl⟩
    go_wp2_with fail
    go_ret2
    exact ⟨_, [], rfl, rfl, (InvG.start w).moreG (by unfold GOwn; exact World.ownsRow_nil _ _ _ _) ((Below.refl _ _).alloc (Nat.le_refl _) _)⟩
end Go.Proofs.YtdoaikanaodefaaGreatDoor
