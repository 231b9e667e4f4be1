/- ConsOf: ConsOfS, ConsOf. -/
import Derived.Test.YtlchadbbldkkfaaDoorConsLen
import Derived.Test.YtlchadbbldkkfaaDoorPathOf
import Derived.Test.YtlchadbbldkkfaaDoorAnyIn

/- The contracts of l09Of and ConsOf as their models have them. -/
namespace Go.Proofs.YtlchadbbldkkfaaDoor
open Go.ChangeShapes Go.WideShapes Go.ChangeAt Go.RowKit

/-- What the operations of the region yield: the proof of the one side (iC), the root of the other (iT), its cell (iB); else what pv says. -/
def CSp (B : Nat) (pv : Nat → Value) (iC iT iB : Nat) (P : List (List UInt8)) (R : List UInt8) (i : Nat) (w : World) (vs : Nat → Value) : Prop :=
  if i = iC then B ≤ w.heap.size ∧ ∃ vsl, vsl.length = P.length ∧ Rws B w ((22, vs iC, vsl) :: rowsS 5 vsl P)
  else if i = iT then B ≤ w.heap.size ∧ ∃ vsl, vsl.length = P.length ∧ Rws B w ((5, vs iT, us R) :: (22, vs iC, vsl) :: rowsS 5 vsl P)
  else if i = iB then ∃ g, vs iB = .slice (some ⟨g, 0, none⟩) 1 1 ∧ g < w.heap.size ∧ w.cell? ⟨g, 0, none⟩ = some (vs iT)
  else vs i = pv i
theorem CSp.up {B : Nat} {pv : Nat → Value} {iC iT iB : Nat} {P : List (List UInt8)} {R : List UInt8} {w w' : World} {vs vs' : Nat → Value} (i : Nat) (h : CSp B pv iC iT iB P R i w vs) (hb : Below w.heap.size w w') (e : vs i = vs' i)
    (eC : i = iT → vs iC = vs' iC) (eT : i = iB → vs iT = vs' iT) : CSp B pv iC iT iB P R i w' vs' := by
  unfold CSp at h ⊢
  by_cases h1 : i = iC
  · subst h1
    rw [if_pos rfl] at h ⊢
    obtain ⟨h2, vsl, hv, hr⟩ := h
    rw [e] at hr
    exact ⟨Nat.le_trans h2 hb.size, vsl, hv, hr.kept (grown_of_below hb none) (fun _ e => by cases e)⟩
  · rw [if_neg h1] at h ⊢
    by_cases h2 : i = iT
    · subst h2
      rw [if_pos rfl] at h ⊢
      obtain ⟨h3, vsl, hv, hr⟩ := h
      rw [e, eC rfl] at hr
      exact ⟨Nat.le_trans h3 hb.size, vsl, hv, hr.kept (grown_of_below hb none) (fun _ e => by cases e)⟩
    · rw [if_neg h2] at h ⊢
      by_cases h3 : i = iB
      · subst h3
        rw [if_pos rfl] at h ⊢
        obtain ⟨g, h4, h5, h6⟩ := h
        exact ⟨g, e.symm.trans h4, Nat.lt_of_lt_of_le h5 hb.size, by rw [← eT rfl]; exact (hb.cell (p := ⟨g, 0, none⟩) h5).trans h6⟩
      · rw [if_neg h3] at h ⊢
        exact e.symm.trans h
theorem consL_len (L : List (List UInt8)) {m : Nat} {b : Bool} (h0 : 1 ≤ m) (h : m ≤ L.length) (hl : L.length ≤ 1073741824) : (consL L m b).length ≤ 31 := by
  rw [consL_length]
  exact cprt_len h0 h hl

theorem gown_lit1 (w : World) (E : TypeId) (x : Value) : GOwn (w.alloc (.cells #[x] E)) w.heap.size (E, .slice (some ⟨w.heap.size, 0, none⟩) 1 1, [x]) := by
  unfold GOwn
  exact World.ownsRow_lit w #[x] 1 (Nat.le_refl _) (by simp [maxLen]) rfl
theorem CSp.val {B : Nat} {pv : Nat → Value} {iC iT iB : Nat} {P : List (List UInt8)} {R : List UInt8} {i : Nat} {w : World} {vs : Nat → Value} (h : CSp B pv iC iT iB P R i w vs) (h1 : i ≠ iC) (h2 : i ≠ iT) (h3 : i ≠ iB) : vs i = pv i := by
  unfold CSp at h
  rwa [if_neg h1, if_neg h2, if_neg h3] at h
theorem CSp.pure {B : Nat} {pv : Nat → Value} {iC iT iB : Nat} {P : List (List UInt8)} {R : List UInt8} {i : Nat} {w : World} {vs : Nat → Value} {v : Value} (hv : v = pv i) (h1 : i ≠ iC) (h2 : i ≠ iT) (h3 : i ≠ iB) : CSp B pv iC iT iB P R i w (upd vs i v) := by
  unfold CSp
  rw [if_neg h1, if_neg h2, if_neg h3, upd_at]
  exact hv
theorem CSp.call {B : Nat} {pv : Nat → Value} {iC iT iB : Nat} {P : List (List UInt8)} {R : List UInt8} {w0 w : World} {vs : Nat → Value} {u : Value} {vsl : List Value} (hv : vsl.length = P.length) (hB : B ≤ w0.heap.size) (H : InvG w0 w ((22, u, vsl) :: rowsS 5 vsl P)) : CSp B pv iC iT iB P R iC w (upd vs iC u) := by
  unfold CSp
  rw [if_pos rfl, upd_at]
  exact ⟨Nat.le_trans hB H.bel.size, vsl, hv, H.rws.mono hB⟩
theorem CSp.tree {B : Nat} {pv : Nat → Value} {iC iT iB : Nat} {P : List (List UInt8)} {R : List UInt8} {w0 w : World} {vs : Nat → Value} {u : Value} (hCT : iC ≠ iT) (h : CSp B pv iC iT iB P R iC w0 vs) (ho : Own 5 w w0.heap.size u R) (hb : Below w0.heap.size w0 w) : CSp B pv iC iT iB P R iT w (upd vs iT u) := by
  unfold CSp at h ⊢
  rw [if_pos rfl] at h
  rw [if_neg hCT.symm, if_pos rfl, upd_at, upd_ne _ _ hCT]
  obtain ⟨hB, vsl, hv, hr⟩ := h
  exact ⟨Nat.le_trans hB hb.size, vsl, hv, hr.more (GOwn.b.2 ho) hB (grown_of_below hb none) (fun _ e => by cases e)⟩
theorem CSp.build {B : Nat} {pv : Nat → Value} {iC iT iB : Nat} {P : List (List UInt8)} {R : List UInt8} {w0 : World} {vs : Nat → Value} {u : Value} (hCB : iC ≠ iB) (hTB : iT ≠ iB) (hu : vs iT = u) : CSp B pv iC iT iB P R iB (w0.alloc (.cells #[u] 22)) (upd vs iB (.slice (some ⟨w0.heap.size, 0, none⟩) 1 1)) := by
  unfold CSp
  rw [if_neg hCB.symm, if_neg hTB.symm, if_pos rfl, upd_at, upd_ne _ _ hTB, hu]
  exact ⟨_, rfl, by simp, by simp⟩
theorem CSp.cells {B : Nat} {pv : Nat → Value} {iC iT iB : Nat} {P : List (List UInt8)} {R : List UInt8} {w : World} {vs : Nat → Value} (hCT : iC ≠ iT) (h : CSp B pv iC iT iB P R iT w vs) : ∃ A c, vs iT = .slice A R.length c := by
  unfold CSp at h
  rw [if_neg hCT.symm, if_pos rfl] at h
  obtain ⟨_, vsl, _, hr⟩ := h
  obtain ⟨A, c, e, _⟩ := (hr.1 _ (.head _)).cells
  exact ⟨A, c, by rw [us_length] at e; exact e⟩
/-- Behind the head of the region: the append to the proof of the one side. -/
theorem cs_end {P : List (List UInt8)} {R : List UInt8} {pv vs : Nat → Value} {iC iT iB B : Nat} {w : World} (hCT : iC ≠ iT) (hCB : iC ≠ iB) (hTB : iT ≠ iB) (hT : CSp B pv iC iT iB P R iT w vs) (hBu : CSp B pv iC iT iB P R iB w vs) :
    B ≤ w.heap.size ∧ (∃ vsl, vsl.length = P.length ∧ Rws B w ((22, vs iC, vsl) :: (5, vs iT, us R) :: rowsS 5 vsl P)) ∧ ∃ g, vs iB = .slice (some ⟨g, 0, none⟩) 1 1 ∧ g < w.heap.size ∧ w.cell? ⟨g, 0, none⟩ = some (vs iT) := by
  unfold CSp at hT hBu
  rw [if_neg hCT.symm, if_pos rfl] at hT
  rw [if_neg hCB.symm, if_neg hTB.symm, if_pos rfl] at hBu
  obtain ⟨h1, vsl, h2, h3⟩ := hT
  exact ⟨h1, ⟨vsl, h2, h3.perm (List.Perm.swap _ _ _)⟩, hBu⟩

set_option maxRecDepth 100000 in
set_option maxHeartbeats 4000000 in
theorem l09Of_in : ∀ (f : Nat) (L : List (List UInt8)) (v : Value) (m : Nat) (b : Bool) (w : World), L.length ≤ f → 1 ≤ m → m ≤ L.length → L.length ≤ 1048576 → sumL L ≤ 1073741000 → SlS w w.heap.size v L →
    Calls Tryd.prog 63 #[v, .int .i64 (m : Int), .bool b] w (FreshS w (consL L m b)) := by
  obtain ⟨i0, hi0, hz0, hz1, hz2⟩ := info_parts sbinfo
  intro f
  induction f with
  | zero => intro L v m b w hf h0 hm; omega
  | succ f ih =>
    intro L v m b w hf hm0 hm hL hs h
    have HTA := Lib.hid (fun w' (h' : SlS w' w'.heap.size v L) => specTreeRoot_any v L w' h' hs (by omega))
    obtain ⟨A, c, rfl, h1, h2, h0, h3⟩ := id h
    obtain ⟨bb, off, rfl, hbb, hcell⟩ := h3 (by omega)
    have h2' := h2
    unfold maxLen at h2'
    clear h0 h3
    obtain ⟨n, hn⟩ : ∃ n, n = L.length := ⟨_, rfl⟩
    by_cases h1n : m = L.length
    · have h1' : ((m : Int) == (n : Int)) = true := by rw [hn, ← h1n]; simp
      have HS := Lib.hid h
      cases b with
      | true =>
        rw [consL_yes h1n]
        rw [← hn] at h1 ⊢
        clear ih hcell h1n hn h
        go_enter Tryd.func63, Tryd.ntmps63
        go_wp2
        go_ret
        exact ⟨_, [], rfl, rfl, invG_nil _⟩
      | false =>
        rw [consL_no h1n]
        generalize treeL L = R at HTA ⊢
        rw [← hn] at h1 HTA HS ⊢
        clear ih hcell h1n hn h
        go_enter Tryd.func63, Tryd.ntmps63
        go_wp2_with fail
        refine (HTA.out _ HS.out).mono ?_
        rintro e w2 ⟨x, rfl, ho2, hb2⟩
        have H2 := Lib.hid ((InvG.start w).more ho2 hb2)
        obtain ⟨A3, c3, rfl, m1, m2, m0, m3⟩ := ho2.sl
        clear m0 m1 m2 m3 ho2 hb2
        go_wp2
        go_ret
        exact ⟨_, [.slice A3 R.length c3], rfl, rfl, H2.out.moreG (gown_lit1 _ _ _) ((Below.refl _ _).alloc (Nat.le_refl _) _)⟩
    · have h1' : ((m : Int) == (n : Int)) = false := by rw [beq_eq_false_iff_ne]; omega
      have hn2 : 2 ≤ L.length := by omega
      have hlt := splitN_lt hn2
      have hps := splitN_pos hn2
      have HA := Lib.hid (fun w => specSplitAt_any (L.length : Int) w (by omega))
      rw [splitZ_nat] at HA
      have hpl := consL_left (b := b) hn2 hm0
      have hpr := consL_right (b := b) (m := m) hn2
      generalize splitN L.length = s at hlt hps HA hpl hpr
      have ht1 : SlS w w.heap.size (.slice (some ⟨bb, off, none⟩) s c) (L.take s) := by
        have := slS_cut (L := L) (off := off) (c := c) 0 s h2 hbb hcell (by omega) off c (by omega) (by omega) (Nat.le_refl _)
        simpa using this
      have ht2 : SlS w w.heap.size (.slice (some ⟨bb, off + s, none⟩) (L.length - s) (c - s)) (L.drop s) := by
        have := slS_cut (L := L) (off := off) (c := c) s (L.length - s) h2 hbb hcell (by omega) (off + s) (c - s) (by omega) (by omega) (by omega)
        rwa [List.take_of_length_le (by rw [List.length_drop]; omega)] at this
      have hs1 : Hid ((L.take s).length = s ∧ sumL (L.take s) ≤ 1073741000) := Lib.hid (by
        have := sumL_le L s
        rw [List.length_take]
        exact ⟨by omega, by omega⟩)
      have hs2 : Hid ((L.drop s).length = L.length - s ∧ sumL (L.drop s) ≤ 1073741000) := Lib.hid (by
        have h1 := sumL_app (L.take s) (L.drop s)
        rw [List.take_append_drop] at h1
        rw [List.length_drop]
        exact ⟨by omega, by omega⟩)
      rw [← hn] at hlt h1 ht2 hs2 HA hn2 hf hL hm hpr h1n ⊢
      have HT1 := Lib.hid ht1
      have HT2 := Lib.hid ht2
      have hi3 : (0 : Int) ≤ (s : Int) := by omega
      have hi4 : (s : Int) ≤ (n : Int) := by omega
      have hi5 : (s : Int) ≤ (c : Int) := by omega
      have hi6 : s ≤ n := by omega
      have hi7 : s ≤ c := by omega
      by_cases hk : m ≤ s
      · rw [hpl hk]
        have hki : (m : Int) ≤ (s : Int) := by omega
        clear hcell ht1 ht2 hpl hpr h1n h HTA
        generalize L.take s = L1 at hs1 HT1 ⊢
        generalize L.drop s = L2 at hs2 HT2 ⊢
        have HPL := Lib.hid (consL_len L1 (b := b) hm0 (by rw [hs1.out.1]; exact hk) (by rw [hs1.out.1]; omega))
        have IH := Lib.hid (fun v w => ih L1 v m b w (by rw [hs1.out.1]; omega) hm0 (by rw [hs1.out.1]; exact hk) (by rw [hs1.out.1]; omega) hs1.out.2)
        generalize consL L1 m b = P at IH HPL ⊢
        have HTR := Lib.hid (fun v w h => specTreeRoot_any v L2 w h hs2.out.2 (by rw [hs2.out.1]; omega))
        generalize treeL L2 = R at HTR ⊢
        clear ih hn
        go_enter Tryd.func63, Tryd.ntmps63
        go_wp2_with fail
        refine (HA.out _).mono ?_
        rintro e w' ⟨rfl, hw⟩
        obtain rfl : w = w' := hw.symm
        go_wp2
        refine wp_region_late 11 (fun _ => false) (CSp w.heap.size (fun i => match i with
          | 0 => .slice (some ⟨bb, off, none⟩) n c
          | 1 => .int .i64 (s : Int)
          | 2 => .slice (some ⟨bb, off, none⟩) s c
          | 3 => .int .i64 (m : Int)
          | 4 => .bool b
          | 6 => .slice (some ⟨bb, off, none⟩) n c
          | 7 => .int .i64 (s : Int)
          | 8 => .slice (some ⟨bb, off + s, none⟩) (n - s) (c - s)
          | _ => undef) 5 9 10 P R) (by kernel_rfl) (by kernel_rfl) ?hup (fun _ _ _ h => by cases h) ?hstep ?hend
        case hup =>
          intro j w5 w6 vz vz' hj h hb6 hvz
          refine CSp.up j h hb6 (hvz j (.inl rfl)) (fun e => ?_) (fun e => ?_)
          · subst e; exact hvz 5 (.inr (by kernel_rfl))
          · subst e; exact hvz 9 (.inr (by kernel_rfl))
        case hstep =>
          intro j o hj _ ho vz w5 hb5 hp
          simp only [putAll, dstOf, Option.bind_some, Act.put, List.getElem?_toArray, List.getElem?_cons_zero, List.getElem?_cons_succ, List.setIfInBounds_toArray, List.set_cons_zero, List.set_cons_succ]
          rcases j with _ | _ | _ | _ | _ | _ | _ | _ | _ | _ | _ | j
          all_goals (first | (exfalso; omega; done) | skip)
          all_goals simp only [List.getElem?_toArray, List.getElem?_cons_zero, List.getElem?_cons_succ, Option.some.injEq] at ho
          all_goals subst ho
          all_goals unfold Oper.wp
          · go_simp
            exact ⟨Below.refl _ _, CSp.pure (rfl) (by decide) (by decide) (by decide)⟩
          · go_simp
            exact ⟨Below.refl _ _, CSp.pure (rfl) (by decide) (by decide) (by decide)⟩
          · have h0 := (hp 0 (by kernel_rfl)).val (by decide) (by decide) (by decide)
            have h1 := (hp 1 (by kernel_rfl)).val (by decide) (by decide) (by decide)
            simp only at h0 h1
            go_simp
            exact ⟨Below.refl _ _, CSp.pure (rfl) (by decide) (by decide) (by decide)⟩
          · go_simp
            exact ⟨Below.refl _ _, CSp.pure (rfl) (by decide) (by decide) (by decide)⟩
          · go_simp
            exact ⟨Below.refl _ _, CSp.pure (rfl) (by decide) (by decide) (by decide)⟩
          · have h2 := (hp 2 (by kernel_rfl)).val (by decide) (by decide) (by decide)
            have h3 := (hp 3 (by kernel_rfl)).val (by decide) (by decide) (by decide)
            have h4 := (hp 4 (by kernel_rfl)).val (by decide) (by decide) (by decide)
            simp only at h2 h3 h4
            go_simp
            refine (IH.out _ w5 (HT1.out.up hb5)).mono ?_
            rintro e w6 ⟨u, vsl, rfl, hvl, HG⟩
            exact ⟨HG.bel, CSp.call hvl hb5.size HG⟩
          · go_simp
            exact ⟨Below.refl _ _, CSp.pure (rfl) (by decide) (by decide) (by decide)⟩
          · go_simp
            exact ⟨Below.refl _ _, CSp.pure (rfl) (by decide) (by decide) (by decide)⟩
          · have h6 := (hp 6 (by kernel_rfl)).val (by decide) (by decide) (by decide)
            have h7 := (hp 7 (by kernel_rfl)).val (by decide) (by decide) (by decide)
            simp only at h6 h7
            go_simp
            exact ⟨Below.refl _ _, CSp.pure (by simp [valOf]; omega) (by decide) (by decide) (by decide)⟩
          · have h8 := (hp 8 (by kernel_rfl)).val (by decide) (by decide) (by decide)
            have hC := hp 5 (by kernel_rfl)
            simp only at h8
            go_simp
            refine (HTR.out _ w5 (HT2.out.up hb5)).mono ?_
            rintro e w6 ⟨u, rfl, ho, hb6⟩
            exact ⟨hb6, CSp.tree (by decide) hC ho hb6⟩
          · obtain ⟨A9, c9, e9⟩ := CSp.cells (by decide) (hp 9 (by kernel_rfl))
            go_simp
            exact ⟨(Below.refl _ _).alloc (Nat.le_refl _) _, CSp.build (by decide) (by decide) e9⟩
        case hend =>
          intro vz w5 hb5 hp
          obtain ⟨hB5, ⟨vsl, hvl, hR5⟩, g, e10, hg1, hg2⟩ := cs_end (by decide) (by decide) (by decide) (hp 9 (by decide)) (hp 10 (by decide))
          obtain ⟨A9, c9, e9⟩ := CSp.cells (by decide) (hp 9 (by decide))
          rw [e9] at hR5 hg2
          have HLT := Lib.hid (hR5.1 _ (.head _)).lt
          have HB5 := Lib.hid hb5
          have hvs : vsl.length ≤ 1073741824 := by have := HPL.out; omega
          have HVL := Lib.hid hvl
          clear hp hvl
          simp only [putAll, dstOf, Option.bind_some, Act.put, List.getElem?_toArray, List.getElem?_cons_zero, List.getElem?_cons_succ, List.setIfInBounds_toArray, List.set_cons_zero, List.set_cons_succ]
          refine wpAny_one (i := 11) (by kernel_rfl) rfl rfl ?_
          refine wp_appS1 _ _ 23 rfl 22 i0 Tryd.underlying23 hi0 hz0 hz1 hz2 w.heap.size (vz 5) vsl rfl (.slice A9 R.length c9) rfl g e10 hg2 hB5 hR5 hvs ?_
          intro v4 w6 hR6 hg6
          obtain ⟨A8, c8, e8', _⟩ := (hR6.1 _ (.head _)).cells
          subst e8'
          have HR6 := Lib.hid hR6
          have HG6 := Lib.hid hg6
          clear hR5 hR6 hg6 hb5
          refine wpAny_one (i := 12) (by kernel_rfl) rfl rfl ?_
          unfold Oper.wp
          go_simp
          refine wpAny_done (by kernel_rfl) ?_ _
          refine NoPanic.normal ?_
          go_wp2
          go_ret
          exact ⟨.slice A8 (vsl ++ [Value.slice A9 R.length c9]).length c8, vsl ++ [.slice A9 R.length c9], by simp, by simp [HVL.out], (rws_add HVL.out HR6.out).inv (HB5.out.grown HG6.out hB5 fun j e => (HLT.out j e).1)⟩
      · rw [hpr (by omega) (by omega)]
        have hki : ¬ (m : Int) ≤ (s : Int) := by omega
        have e1 : IntKind.i64.wrap ((m : Int) - (s : Int)) = ((m - s : Nat) : Int) := by rw [IntKind.wrap_i64]; omega
        have hj1 : 1 ≤ m - s := by omega
        have hj2 : m - s ≤ n - s := by omega
        clear hcell ht1 ht2 hpl hpr h1n h HTA
        generalize L.take s = L2 at hs1 HT1 ⊢
        generalize L.drop s = L1 at hs2 HT2 ⊢
        generalize m - s = j at e1 hj1 hj2 ⊢
        have HPL := Lib.hid (consL_len L1 (b := false) hj1 (by rw [hs2.out.1]; exact hj2) (by rw [hs2.out.1]; omega))
        have IH := Lib.hid (fun v w => ih L1 v j false w (by rw [hs2.out.1]; omega) hj1 (by rw [hs2.out.1]; exact hj2) (by rw [hs2.out.1]; omega) hs2.out.2)
        generalize consL L1 j false = P at IH HPL ⊢
        have HTR := Lib.hid (fun v w h => specTreeRoot_any v L2 w h hs1.out.2 (by rw [hs1.out.1]; omega))
        generalize treeL L2 = R at HTR ⊢
        clear ih hn
        go_enter Tryd.func63, Tryd.ntmps63
        go_wp2_with fail
        refine (HA.out _).mono ?_
        rintro e w' ⟨rfl, hw⟩
        obtain rfl : w = w' := hw.symm
        go_wp2
        refine wp_region_late 12 (fun _ => false) (CSp w.heap.size (fun i => match i with
          | 0 => .slice (some ⟨bb, off, none⟩) n c
          | 1 => .int .i64 (s : Int)
          | 2 => .slice (some ⟨bb, off + s, none⟩) (n - s) (c - s)
          | 3 => .int .i64 (m : Int)
          | 4 => .int .i64 (s : Int)
          | 5 => .int .i64 (j : Int)
          | 7 => .slice (some ⟨bb, off, none⟩) n c
          | 8 => .int .i64 (s : Int)
          | 9 => .slice (some ⟨bb, off, none⟩) s c
          | _ => undef) 6 10 11 P R) (by kernel_rfl) (by kernel_rfl) ?hup (fun _ _ _ h => by cases h) ?hstep ?hend
        case hup =>
          intro j w5 w6 vz vz' hj h hb6 hvz
          refine CSp.up j h hb6 (hvz j (.inl rfl)) (fun e => ?_) (fun e => ?_)
          · subst e; exact hvz 6 (.inr (by kernel_rfl))
          · subst e; exact hvz 10 (.inr (by kernel_rfl))
        case hstep =>
          intro j o hj _ ho vz w5 hb5 hp
          simp only [putAll, dstOf, Option.bind_some, Act.put, List.getElem?_toArray, List.getElem?_cons_zero, List.getElem?_cons_succ, List.setIfInBounds_toArray, List.set_cons_zero, List.set_cons_succ]
          rcases j with _ | _ | _ | _ | _ | _ | _ | _ | _ | _ | _ | _ | j
          all_goals (first | (exfalso; omega; done) | skip)
          all_goals simp only [List.getElem?_toArray, List.getElem?_cons_zero, List.getElem?_cons_succ, Option.some.injEq] at ho
          all_goals subst ho
          all_goals unfold Oper.wp
          · go_simp
            exact ⟨Below.refl _ _, CSp.pure (rfl) (by decide) (by decide) (by decide)⟩
          · go_simp
            exact ⟨Below.refl _ _, CSp.pure (rfl) (by decide) (by decide) (by decide)⟩
          · have h0 := (hp 0 (by kernel_rfl)).val (by decide) (by decide) (by decide)
            have h1 := (hp 1 (by kernel_rfl)).val (by decide) (by decide) (by decide)
            simp only at h0 h1
            go_simp
            exact ⟨Below.refl _ _, CSp.pure (by simp [valOf]; omega) (by decide) (by decide) (by decide)⟩
          · go_simp
            exact ⟨Below.refl _ _, CSp.pure (rfl) (by decide) (by decide) (by decide)⟩
          · go_simp
            exact ⟨Below.refl _ _, CSp.pure (rfl) (by decide) (by decide) (by decide)⟩
          · have h3 := (hp 3 (by kernel_rfl)).val (by decide) (by decide) (by decide)
            have h4 := (hp 4 (by kernel_rfl)).val (by decide) (by decide) (by decide)
            simp only at h3 h4
            go_simp
            exact ⟨Below.refl _ _, CSp.pure (rfl) (by decide) (by decide) (by decide)⟩
          · have h2 := (hp 2 (by kernel_rfl)).val (by decide) (by decide) (by decide)
            have h5 := (hp 5 (by kernel_rfl)).val (by decide) (by decide) (by decide)
            simp only at h2 h5
            go_simp
            refine (IH.out _ w5 (HT2.out.up hb5)).mono ?_
            rintro e w6 ⟨u, vsl, rfl, hvl, HG⟩
            exact ⟨HG.bel, CSp.call hvl hb5.size HG⟩
          · go_simp
            exact ⟨Below.refl _ _, CSp.pure (rfl) (by decide) (by decide) (by decide)⟩
          · go_simp
            exact ⟨Below.refl _ _, CSp.pure (rfl) (by decide) (by decide) (by decide)⟩
          · have h7 := (hp 7 (by kernel_rfl)).val (by decide) (by decide) (by decide)
            have h8 := (hp 8 (by kernel_rfl)).val (by decide) (by decide) (by decide)
            simp only at h7 h8
            go_simp
            exact ⟨Below.refl _ _, CSp.pure (rfl) (by decide) (by decide) (by decide)⟩
          · have h9 := (hp 9 (by kernel_rfl)).val (by decide) (by decide) (by decide)
            have hC := hp 6 (by kernel_rfl)
            simp only at h9
            go_simp
            refine (HTR.out _ w5 (HT1.out.up hb5)).mono ?_
            rintro e w6 ⟨u, rfl, ho, hb6⟩
            exact ⟨hb6, CSp.tree (by decide) hC ho hb6⟩
          · obtain ⟨A9, c9, e9⟩ := CSp.cells (by decide) (hp 10 (by kernel_rfl))
            go_simp
            exact ⟨(Below.refl _ _).alloc (Nat.le_refl _) _, CSp.build (by decide) (by decide) e9⟩
        case hend =>
          intro vz w5 hb5 hp
          obtain ⟨hB5, ⟨vsl, hvl, hR5⟩, g, e10, hg1, hg2⟩ := cs_end (by decide) (by decide) (by decide) (hp 10 (by decide)) (hp 11 (by decide))
          obtain ⟨A9, c9, e9⟩ := CSp.cells (by decide) (hp 10 (by decide))
          rw [e9] at hR5 hg2
          have HLT := Lib.hid (hR5.1 _ (.head _)).lt
          have HB5 := Lib.hid hb5
          have hvs : vsl.length ≤ 1073741824 := by have := HPL.out; omega
          have HVL := Lib.hid hvl
          clear hp hvl
          simp only [putAll, dstOf, Option.bind_some, Act.put, List.getElem?_toArray, List.getElem?_cons_zero, List.getElem?_cons_succ, List.setIfInBounds_toArray, List.set_cons_zero, List.set_cons_succ]
          refine wpAny_one (i := 12) (by kernel_rfl) rfl rfl ?_
          refine wp_appS1 _ _ 23 rfl 22 i0 Tryd.underlying23 hi0 hz0 hz1 hz2 w.heap.size (vz 6) vsl rfl (.slice A9 R.length c9) rfl g e10 hg2 hB5 hR5 hvs ?_
          intro v4 w6 hR6 hg6
          obtain ⟨A8, c8, e8', _⟩ := (hR6.1 _ (.head _)).cells
          subst e8'
          have HR6 := Lib.hid hR6
          have HG6 := Lib.hid hg6
          clear hR5 hR6 hg6 hb5
          refine wpAny_one (i := 13) (by kernel_rfl) rfl rfl ?_
          unfold Oper.wp
          go_simp
          refine wpAny_done (by kernel_rfl) ?_ _
          refine NoPanic.normal ?_
          go_wp2
          go_ret
          exact ⟨.slice A8 (vsl ++ [Value.slice A9 R.length c9]).length c8, vsl ++ [.slice A9 R.length c9], by simp, by simp [HVL.out], (rws_add HVL.out HR6.out).inv (HB5.out.grown HG6.out hB5 fun j e => (HLT.out j e).1)⟩

/-- The proof, none where there is none. -/
def ofC (L : List (List UInt8)) (m : Int) : List (List UInt8) := if prefB m L.length = true then consL L m.toNat true else []

set_option maxHeartbeats 1000000 in
theorem specConsOf_any (v : Value) (L : List (List UInt8)) (m : Int) (w : World) (h : SlS w w.heap.size v L) (hL : L.length ≤ 1048576) (hs : sumL L ≤ 1073741000) :
    Calls Tryd.prog 32 #[v, .int .i64 m] w (FreshSB w (ofC L m) (prefB m L.length)) := by
  unfold ofC
  by_cases hm : 1 ≤ m ∧ m ≤ (L.length : Int)
  · rw [prefB_yes hm, if_pos rfl]
    have HIN := Lib.hid (fun w => l01In_yes m 1 (L.length : Int) w hm.1 hm.2)
    obtain ⟨k, rfl⟩ := Int.eq_ofNat_of_zero_le (show 0 ≤ m by omega)
    have HL := Lib.hid (fun w h => l09Of_in L.length L v k true w (Nat.le_refl _) (by omega) (by omega) hL hs h)
    have HS := Lib.hid h
    obtain ⟨A, c, rfl, h1, h2, h0, h3⟩ := h
    unfold maxLen at h2
    simp only [Int.toNat_natCast]
    generalize consL L k true = P at HL ⊢
    clear h0 h3 hm
    go_enter Tryd.func32, Tryd.ntmps32
    go_wp2_with fail
    refine (HIN.out _).mono ?_
    rintro e _ ⟨rfl, rfl⟩
    go_wp2_with fail
    refine (HL.out _ HS.out).mono ?_
    rintro e w1 ⟨u, vs, rfl, hvl, H1⟩
    have HH := Lib.hid H1
    obtain ⟨A8, c8, e8, _⟩ := (H1.rws.1 _ (.head _)).cells
    subst e8
    have HVL := Lib.hid hvl
    clear H1 hvl
    go_wp2
    go_ret2
    exact ⟨.slice A8 vs.length c8, vs, rfl, HVL.out, HH.out⟩
  · rw [prefB_no hm, if_neg (by decide)]
    obtain ⟨A, c, rfl, h1, h2, h0, h3⟩ := h
    unfold maxLen at h2
    have HIN := Lib.hid (fun w => l01In_no m 1 (L.length : Int) w hm)
    clear h0 h3 hm
    go_enter Tryd.func32, Tryd.ntmps32
    go_wp2_with fail
    refine (HIN.out _).mono ?_
    rintro e _ ⟨rfl, rfl⟩
    go_wp2_with fail
    go_ret2
    exact ⟨_, [], rfl, rfl, invG_nil _⟩
theorem ofC_32 (L : List (List UInt8)) (m : Int) : ∀ r ∈ ofC L m, r.length = 32 := by
  intro r hr
  unfold ofC at hr
  split at hr
  · exact consL_32 _ _ _ r hr
  · cases hr
theorem ofC_small (L : List (List UInt8)) (m : Int) (hL : L.length ≤ 1048576) : (ofC L m).length ≤ 31 ∧ sumL (ofC L m) ≤ 992 := by
  have h1 := sumL_32 _ (ofC_32 L m)
  have h2 : (ofC L m).length ≤ 31 := by
    unfold ofC
    split
    · rename_i h
      have h' : 1 ≤ m ∧ m ≤ (L.length : Int) := of_decide_eq_true h
      exact consL_len L (by omega) (by omega) (by omega)
    · simp
  exact ⟨h2, by omega⟩
end Go.Proofs.YtlchadbbldkkfaaDoor

/- The contract of ConsOf as the program has it: a range over the parts of the proof, whose roots are appended one by one. -/
namespace Go.Proofs.YtlchadbbldkkfaaDoor
open Go.ChangeShapes Go.WideShapes Go.ChangeAt Go.RowKit Go.Shelf

attribute [local go_sem] Oper.semAt_some

/-- The roots of the first k parts. -/
def rootsK (L : List (List UInt8)) {n : Nat} (zs : List (PA n)) (k : Nat) : List (List UInt8) := (zs.take k).map fun x => rootOf L x.1
theorem rootsK_succ (L : List (List UInt8)) {n k : Nat} {zs : List (PA n)} {x : PA n} (h : zs[k]? = some x) : rootsK L zs (k + 1) = rootsK L zs k ++ [rootOf L x.1] := by
  unfold rootsK
  rw [List.take_add_one, h]
  simp
theorem rootsK_len (L : List (List UInt8)) {n k : Nat} {zs : List (PA n)} (h : k ≤ zs.length) : (rootsK L zs k).length = k := by
  unfold rootsK
  rw [List.length_map, List.length_take]
  omega
theorem rootsK_all (L : List (List UInt8)) {m : Nat} {b : Bool} {zs : List (PA L.length)} (h : zs.map (fun x => x.1) = cprt m L.length b) : rootsK L zs zs.length = consL L m b := by
  unfold rootsK consL
  rw [List.take_length, ← h, List.map_map]
  rfl
/-- What a round of ConsOf keeps: the proof so far, the variable of the list. -/
def CofI (L : List (List UInt8)) (w : World) (B : Nat) {n : Nat} (zs : List (PA n)) (lv : Value) (k : Nat) (W : World) : Prop :=
  (∃ v vs, Boxed W (B + 1) 23 v ∧ vs.length = k ∧ Rws (B + 4) W ((22, v, vs) :: rowsS 5 vs (rootsK L zs k))) ∧ Boxed W B 23 lv ∧ Below B w W ∧ B + 3 < W.heap.size
theorem CofI.own (L : List (List UInt8)) (w : World) (B B' : Nat) {n : Nat} (zs : List (PA n)) (lv : Value) (h1 : B ≤ w.heap.size) (h2 : B ≤ B') : OwnFrom B' (CofI L w B zs lv) :=
  OwnFrom.and (ownFrom_rows B' (B + 1) (B + 4) _ _ _ (fun k : Nat => k) (fun k : Nat => rootsK L zs k)) (OwnFrom.and (ownFrom_boxed B' B _ fun _ => lv) (OwnFrom.and (ownFrom_below h1 h2) (ownFrom_size B' (B + 3))))

set_option maxRecDepth 100000 in
set_option maxHeartbeats 4000000 in
theorem implConsOf_in (v : Value) (L : List (List UInt8)) (i : Nat) (w : World) (h : SlS w w.heap.size v L) (hi0 : 1 ≤ i) (hi : i ≤ L.length) (hL : L.length ≤ 1048576) (hs : sumL L ≤ 1073741000)
    (hI : Glob w 0 initW) (hG : Glob w 1 kk) :
    Calls Tryd.prog 18 #[v, .int .i64 (i : Int)] w (FreshSB w (consL L i true) true) := by
  obtain ⟨i0, hi9, hz0, hz1, hz2⟩ := info_parts sbinfo
  obtain ⟨A, c, rfl, h1, h2, h0, h3⟩ := h
  have HP := Lib.hid (fun w => isPrefix_any (i : Int) (L.length : Int) w)
  rw [prefB_yes (by omega)] at HP
  obtain ⟨bb, off, rfl, hbb, hcell⟩ := h3 (by omega)
  have HCUT := Lib.hid (fun a n => slS_cut (L := L) (off := off) (c := c) a n h2 hbb hcell)
  have h2' := h2
  unfold maxLen at h2'
  obtain ⟨n, hn⟩ : ∃ n, n = L.length := ⟨_, rfl⟩
  rw [← hn] at h1 hi hL HP HCUT
  rw [← hn]
  obtain ⟨zs, hzc, hzs⟩ := consZ_ex hi0 hi
  have HZ := Lib.hid hzs
  have HZC := Lib.hid hzc
  have HN := Lib.hid (zsC_len hzs)
  have hb := cprt_len (b := true) hi0 hi (show n ≤ 2 ^ 30 by omega)
  change clenN i n true ≤ 31 at hb
  have HB31 := Lib.hid hb
  have HNL := Lib.hid hn
  have HS := Lib.hid hs
  clear hzs hzc hb hcell h3 h0 hn hs
  refine (callsIn_wide (n := 4)).1 ?_
  refine callsIn_of_wp_marks Tryd.func18 rfl trivial ?_ rfl
  simp only [Tryd.ntmps18, List.size_toArray, List.length_cons, List.length_nil, Nat.reduceAdd, Nat.reduceSub, Array.replicate_succ, Array.replicate_zero, List.push_toArray, List.append_toArray, List.nil_append, List.cons_append]
  gi_wp2_with (first
    | (refine ⟨trivial, ?_⟩; gi_at_call 50; refine (callsIn_wide.2 (HP.out _)).mono ?_; rintro e _ ⟨rfl, rfl⟩)
    | (refine ⟨trivial, ?_⟩; gi_at_call 51; refine (cons_in _ _ _ _).mono ?_; rintro e w' ⟨rfl, rfl⟩))
  obtain ⟨B, hB⟩ : ∃ B, B = w.heap.size := ⟨_, rfl⟩
  rw [← hB]
  obtain ⟨w3, hw3⟩ : ∃ w3, w3 = (((w.alloc (.cells #[.slice (some ⟨bb, off, none⟩) n c] 23)).alloc (.cells #[.slice none 0 0] 23)).alloc (.cells #[.int .i64 (i : Int)] 3)).alloc (.cells #[.int .i64 (n : Int)] 3) := ⟨_, rfl⟩
  rw [← hw3]
  have hsz : w3.heap.size = B + 4 := by rw [hw3, hB]; simp
  have hBL : Below B w w3 := by rw [hw3, hB]; exact ((((Below.refl _ w).alloc (Nat.le_refl _) _).alloc (by simp) _).alloc (by simp; omega) _).alloc (by simp; omega) _
  have bL : Boxed w3 B 23 (.slice (some ⟨bb, off, none⟩) n c) := by rw [hw3, hB]; exact (((Boxed.new w 23 _).alloc _).alloc _).alloc _
  have bP : Boxed w3 (B + 1) 23 (.slice none 0 0) := by
    have := ((Boxed.new (w.alloc (.cells #[.slice (some ⟨bb, off, none⟩) n c] 23)) 23 (.slice none 0 0)).alloc (.cells #[.int .i64 (i : Int)] 3)).alloc (.cells #[.int .i64 (n : Int)] 3)
    rw [World.size_alloc] at this
    rw [hw3, hB]
    exact this
  have bI : Boxed w3 (B + 1 + 1) 3 (.int .i64 (i : Int)) := by
    have := (Boxed.new ((w.alloc (.cells #[.slice (some ⟨bb, off, none⟩) n c] 23)).alloc (.cells #[.slice none 0 0] 23)) 3 (.int .i64 (i : Int))).alloc (.cells #[.int .i64 (n : Int)] 3)
    rw [World.size_alloc, World.size_alloc] at this
    rw [hw3, hB]
    exact this
  have bN : Boxed w3 (B + 1 + 1 + 1) 3 (.int .i64 (n : Int)) := by
    have := Boxed.new (((w.alloc (.cells #[.slice (some ⟨bb, off, none⟩) n c] 23)).alloc (.cells #[.slice none 0 0] 23)).alloc (.cells #[.int .i64 (i : Int)] 3)) 3 (.int .i64 (n : Int))
    rw [World.size_alloc, World.size_alloc, World.size_alloc] at this
    rw [hw3, hB]
    exact this
  have HB := Lib.hid hB
  have hOI := CofI.own L w B w3.heap.size zs (.slice (some ⟨bb, off, none⟩) n c) (Nat.le_of_eq hB) (by omega)
  have hI0 : CofI L w B zs (.slice (some ⟨bb, off, none⟩) n c) 0 w3 := ⟨⟨_, [], bP, rfl, by
    have hr : Rws (B + 4) w3 [(22, .slice none 0 0, [])] := ⟨fun p hp => by
      rcases List.mem_singleton.1 hp with rfl
      unfold GOwn
      exact World.ownsRow_nil _ _ _ _, List.pairwise_singleton _ _⟩
    exact hr⟩, bL, hBL, by omega⟩
  clear hw3 hB
  refine wpIn_range_gives (zs := zs) (Kp := KpC B (B + 1 + 1) (B + 1 + 1 + 1) (w3.heap.size + 2) 22) (encs := fun x : PA n => #[.agg #[.int .i64 (x.1.1 : Int), .int .i64 (x.1.2 : Int)]]) rfl (by omega)
    (gf := 76) (lb := #[.pointer (some ⟨B + 1 + 1, 0, none⟩), .pointer (some ⟨B + 1 + 1 + 1, 0, none⟩)]) rfl trivial (enters_of Tryd.func76 (by kernel_rfl) rfl)
    (fun l' J W hW hbel hJ hY hj => ?seq) KpC.trans (fun W o o' h _ => ⟨KpP.turn W o' h (by omega) (by omega) (by omega), KeepsBut.turn W o' (by omega)⟩) (fun _ => rfl)
    (CofI L w B zs (.slice (some ⟨bb, off, none⟩) n c)) hOI hI0
    (fun x a' W => ∃ k, a' = { tmps := #[.slice (some ⟨bb, off, none⟩) n c, .int .i64 (i : Int), .pointer (some ⟨B, 0, none⟩), undef, .slice none 0 0, .bool false, .pointer (some ⟨B + 1, 0, none⟩), .pointer (some ⟨k, 0, none⟩), .int .i64 (i : Int), .slice (some ⟨bb, off, none⟩) n c, .int .i64 (n : Int), .bool true, .bool false, .int .i64 (i : Int), .slice (some ⟨bb, off, none⟩) n c, .int .i64 (n : Int),
      .func (.func 76) #[] #[.pointer (some ⟨B + 1 + 1, 0, none⟩), .pointer (some ⟨B + 1 + 1 + 1, 0, none⟩)], .agg #[.int .i64 (x.1.1 : Int), .int .i64 (x.1.2 : Int)], undef, undef, undef, undef, undef, undef, undef, undef, undef, undef, undef], defers := [] } ∧
      k < W.heap.size ∧ W.cell? ⟨k, 0, none⟩ = some (.int .i64 (x.1.1 : Int)) ∧ W.cell? ⟨k, 1, none⟩ = some (.int .i64 (x.1.2 : Int)))
    (fun x a' _ W W' row h hg hr => by
      obtain ⟨k, e, hk, h1, h2⟩ := h
      exact ⟨k, e, Nat.lt_of_lt_of_le hk hg.size, cell_kept h1 hg (fun r e => (hr r e).2), cell_kept h2 hg (fun r e => (hr r e).2)⟩) ?assign ?body ?done
  case seq =>
    refine cons1_in zs HZC.out hi0 hi (by omega) 22 (by decide) (by decide) _ l' (B + 1 + 1) (B + 1 + 1 + 1) B J W (by rw [hW]; exact hJ) (by rw [hW]; exact hY) (by omega) (by omega) (by omega) ?_ ?_ hj
    · exact (hbel.cell (p := ⟨B + 1 + 1, 0, none⟩) (by simp; omega)).trans bI.cell
    · exact (hbel.cell (p := ⟨B + 1 + 1 + 1, 0, none⟩) (by simp; omega)).trans bN.cell
  case assign =>
    intro l' k x W K hIp hK
    have hs4 := hIp.2.2.2
    gi_wp2
    exact hK _ _ ((KeepsOthers.alloc _ _).from _) ⟨⟨(Below.refl _ W).alloc (by omega) _, Below.heap_alloc _ _ _ (by omega), Below.heap_alloc _ _ _ (by omega)⟩, KeepsBut.of_grownBy (World.grownBy_alloc W _ none) (fun j e => by cases e)⟩ (hOI.alloc _ hIp) ⟨W.heap.size, rfl, by simp, by simp, by simp⟩
  case body =>
    rintro l' q x a' W hlB hx ⟨⟨v, vsl, hv, hvl, hR⟩, hbl, hbw, hsw⟩ ⟨k, rfl, hkw, hk0, hk1⟩
    have hab := x.2.1
    have hbn := x.2.2
    have hrt : rootOf L x.1 = treeL (partL L x.1.1 (x.1.2 - x.1.1)) := rfl
    have hq31 : vsl.length ≤ 31 := by have := at_lt hx; have := HN.out; have := HB31.out; omega
    have HVL := Lib.hid (show (vsl ++ [Value.bool true]).length = q + 1 by simp [hvl])
    have hmap := rootsK_succ L hx
    have hlen : vsl.length = (rootsK L zs q).length := by rw [rootsK_len L (Nat.le_of_lt (at_lt hx))]; exact hvl
    clear hx
    generalize rootsK L zs q = M at hR hmap hlen
    generalize rootOf L x.1 = R at hrt hmap
    generalize x.1.1 = a at hab hbn hk0 hk1 hrt ⊢
    generalize x.1.2 = b at hab hbn hk0 hk1 hrt ⊢
    have hcut := HCUT.out a (b - a) (by omega) (off + a) (c - a) (by omega) (by omega) (by omega)
    have HCU := Lib.hid hcut
    have hTR := fun u w' h1 h2 => implTreeRoot_any u (partL L a (b - a)) w' h1 (Nat.le_trans (sumL_part L a (b - a)) HS.out) (by rw [partL_length (by have := HNL.out; omega)]; omega) (hI.below hI.lt h2) (hG.below hG.lt h2)
    rw [← hrt] at hTR
    have HTR := Lib.hid hTR
    have HMAP := Lib.hid hmap
    have HLEN := Lib.hid hlen
    clear hrt hTR hmap hlen
    have hvc := hv.cell
    have hlc := hbl.cell
    have hvlt := hv.lt
    have hblt := hbl.lt
    have hab1 : (0 : Int) ≤ (a : Int) := by omega
    have hab2 : (a : Int) ≤ (b : Int) := by omega
    have hab3 : (b : Int) ≤ (c : Int) := by omega
    have hab4 : a ≤ b := by omega
    have hab5 : b ≤ c := by omega
    gi_wp2
    refine wpIn_region_head 9 (PofSp W v k a b n bb off c R) (by kernel_rfl) (by kernel_rfl) (by kernel_rfl) ?hup ?hstep ?hend
    case hup =>
      intro j w5 w6 vz vz' hj h hb6 hvz
      refine PofSp.up j h hb6 (hvz j (.inl rfl)) fun hj => ?_
      subst hj
      exact hvz 7 (.inr (by kernel_rfl))
    case hstep =>
      intro j o hj ho vz w5 hb5 hp
      have hc1 := (hb5.cell (p := ⟨B + 1, 0, none⟩) hvlt).trans hvc
      have hc2 := (hb5.cell (p := ⟨B, 0, none⟩) hblt).trans hlc
      have hc3 := (hb5.cell (p := ⟨k, 0, none⟩) hkw).trans hk0
      have hc4 := (hb5.cell (p := ⟨k, 1, none⟩) hkw).trans hk1
      simp only [putAll, dstOf, Option.bind_some, Act.put, List.getElem?_toArray, List.getElem?_cons_zero, List.getElem?_cons_succ, List.setIfInBounds_toArray, List.set_cons_zero, List.set_cons_succ]
      rcases j with _ | _ | _ | _ | _ | _ | _ | _ | _ | j
      all_goals (first | (exfalso; omega; done) | skip)
      all_goals simp only [List.getElem?_toArray, List.getElem?_cons_zero, List.getElem?_cons_succ, Option.some.injEq] at ho
      all_goals subst ho
      all_goals unfold Oper.wp
      · go_simp
        exact ⟨Below.refl _ _, by simp [PofSp, upd, valOf]⟩
      · go_simp
        exact ⟨Below.refl _ _, by simp [PofSp, upd, valOf]⟩
      · go_simp
        exact ⟨Below.refl _ _, by simp [PofSp, upd, valOf]⟩
      · have h2 : vz 2 = _ := hp 2 (by kernel_rfl)
        go_simp
        exact ⟨Below.refl _ _, by simp [PofSp, upd, valOf]⟩
      · go_simp
        exact ⟨Below.refl _ _, by simp [PofSp, upd, valOf]⟩
      · have h4 : vz 4 = _ := hp 4 (by kernel_rfl)
        go_simp
        exact ⟨Below.refl _ _, by simp [PofSp, upd, valOf]⟩
      · have h1 : vz 1 = _ := hp 1 (by kernel_rfl)
        have h3 : vz 3 = _ := hp 3 (by kernel_rfl)
        have h5 : vz 5 = _ := hp 5 (by kernel_rfl)
        go_simp
        exact ⟨Below.refl _ _, by simp [PofSp, upd, valOf]; omega⟩
      · have h6 : vz 6 = _ := hp 6 (by kernel_rfl)
        go_simp
        have hb7 : Below w.heap.size w w5 := by have := hbw.trans (hb5.mono (by omega)); rwa [HB.out] at this
        refine (HTR.out _ w5 (HCU.out.up hb7) hb7).mono ?_
        rintro e w6 ⟨u, rfl, ho, hb6⟩
        exact ⟨hb6, by simpa [PofSp, upd, valOf] using (GOwn.b.2 ho).mono hb5.size⟩
      · obtain ⟨A7, c7, e7, _⟩ := (show GOwn w5 W.heap.size (5, vz 7, us R) from hp 7 (by kernel_rfl)).cells
        go_simp
        exact ⟨(Below.refl _ _).alloc (Nat.le_refl _) _, by simp [PofSp, upd, valOf, e7]⟩
    case hend =>
      intro vz w5 hb5 hp
      have e0 : vz 0 = v := hp 0 (by omega)
      have h7 : GOwn w5 W.heap.size (5, vz 7, us R) := hp 7 (by omega)
      obtain ⟨g, e8, hg1, hg2⟩ : ∃ g, vz 8 = .slice (some ⟨g, 0, none⟩) 1 1 ∧ g < w5.heap.size ∧ w5.cell? ⟨g, 0, none⟩ = some (vz 7) := hp 8 (by omega)
      obtain ⟨A7, c7, e7, _⟩ := h7.cells
      rw [e7] at h7 hg2
      have hle5 : B + 4 ≤ w5.heap.size := by have := hb5.size; omega
      have hR5 := (Rws.more hR h7 (by omega) (grown_of_below hb5 none) (fun j e => by cases e)).perm (List.Perm.swap _ _ _)
      have hlt4 := (hR.1 _ (.head _)).lt
      simp only at hlt4
      have hv5 := hv.kept (grown_of_below hb5 none) (by simp)
      have hbl5 := hbl.kept (grown_of_below hb5 none) (by simp)
      have HB5 := Lib.hid hb5
      have HLT := Lib.hid hlt4
      have HR5 := Lib.hid hR5
      have HV5 := Lib.hid hv5
      have HBL5 := Lib.hid hbl5
      clear hp h7 hR hR5 hv hbl hlt4 hv5 hbl5 hcut
      simp only [putAll, dstOf, Option.bind_some, Act.put, List.getElem?_toArray, List.getElem?_cons_zero, List.getElem?_cons_succ, List.setIfInBounds_toArray, List.set_cons_zero, List.set_cons_succ]
      refine wpAny_one (i := 9) (by kernel_rfl) rfl rfl ?_
      refine wp_appS1 _ _ 23 rfl 22 i0 Tryd.underlying23 hi9 hz0 hz1 hz2 (B + 4) v vsl e0 (.slice A7 (us R).length c7) rfl g e8 hg2 hle5 HR5.out (by omega) ?_
      intro v4 w6 hR6 hg6
      obtain ⟨A8, c8, e8', _⟩ := (hR6.1 _ (.head _)).cells
      subst e8'
      have HR6 := Lib.hid hR6
      have HG6 := Lib.hid hg6
      have hv6 := HV5.out.kept hg6 (fun e => by have := (HLT.out (B + 1) e.symm).1; omega)
      have hbl6 := HBL5.out.kept hg6 (fun e => by have := (HLT.out B e.symm).1; omega)
      have hvc6 := hv6.cell
      have hvf6 := hv6.frozen
      have HV6 := Lib.hid hv6
      have HBL6 := Lib.hid hbl6
      have HLN := Lib.hid (show (vsl ++ [Value.slice A7 (us R).length c7]).length = q + 1 by rw [← HVL.out]; simp)
      generalize hqq : vsl ++ [Value.slice A7 (us R).length c7] = vq at HR6 HLN hR6
      clear hR6 hg6 hv6 hbl6
      refine wpAny_one (i := 10) (by kernel_rfl) rfl rfl ?_
      unfold Oper.wp
      go_simp
      refine wpAny_done (by kernel_rfl) ?_ _
      have hsz5 := HB5.out.size
      have hsz6 := HG6.out.size
      refine (show KeepsFrom (B + 4) W (w6.setCell ⟨B + 1, 0, none⟩ (.slice A8 vq.length c8)) ∧ KpC B (B + 1 + 1) (B + 1 + 1 + 1) (B + 4 + 2) 22 W (w6.setCell ⟨B + 1, 0, none⟩ (.slice A8 vq.length c8)) ∧ CofI L w B zs (.slice (some ⟨bb, off, none⟩) n c) (q + 1) (w6.setCell ⟨B + 1, 0, none⟩ (.slice A8 vq.length c8)) from ⟨?_, ⟨⟨?_, ?_, ?_⟩, ?_⟩, ⟨_, vq, HV6.out.set _, HLN.out, ?_⟩, HBL6.out.other (by omega) _, ?_, ?_⟩)
      · refine ((KeepsFrom.of_grownBy (grown_of_below HB5.out none) (fun j e => by cases e)).trans ((KeepsOthers.of_grownBy HG6.out fun j o e ho => ?_).from _)).trans ((KeepsOthers.setCell _ _ _).from _)
        have h1 := HR5.out.1 _ (.head _)
        unfold GOwn at h1
        rcases h1.2 with ⟨e', _⟩ | ⟨g', cap, cur, e', _, hgb, _⟩
        · simp only at e'
          rw [e'] at e
          cases e
        · simp only at e'
          rw [e'] at e
          injection e with e
          rw [← e, hgb] at ho
          injection ho with ho
          rw [← ho]
          rfl
      · exact ((HB5.out.mono (by omega)).trans ((Below.refl _ _).grown HG6.out (by omega) fun j e => by have := (HLT.out j e).1; omega)).setCell (p := ⟨B + 1, 0, none⟩) (by simp) _
      · exact (Below.heap_setCell _ _ _ _ (show B + 1 + 1 ≠ B + 1 by omega)).trans ((HG6.out.block _ (by omega) (fun e => by have := (HLT.out (B + 1 + 1) e.symm).1; omega)).trans (HB5.out.block _ (by omega)))
      · exact (Below.heap_setCell _ _ _ _ (show B + 1 + 1 + 1 ≠ B + 1 by omega)).trans ((HG6.out.block _ (by omega) (fun e => by have := (HLT.out (B + 1 + 1 + 1) e.symm).1; omega)).trans (HB5.out.block _ (by omega)))
      · refine ((KeepsBut.of_grownBy (grown_of_below HB5.out none) (fun j e => by cases e)).trans (KeepsBut.of_grownBy HG6.out fun j e => .inr ?_)).trans (KeepsBut.of_grownBy (grownBy_setCell' _ _ _) fun j e => .inl (by cases e; omega))
        have h1 := HR5.out.1 _ (.head _)
        unfold GOwn at h1
        rcases h1.2 with ⟨e', _⟩ | ⟨g', cap, cur, e', _, hgb, _⟩
        · simp only at e'
          rw [e'] at e
          cases e
        · simp only at e'
          rw [e'] at e
          injection e with e
          exact ⟨_, by rw [← e]; exact hgb, cur, rfl⟩
      · rw [HMAP.out]
        have := rws_add HLEN.out (by rw [hqq]; exact HR6.out)
        rw [hqq] at this
        exact this.cell (by omega) 0 _
      · exact (hbw.trans ((HB5.out.mono (by omega)).trans ((Below.refl _ _).grown HG6.out (by omega) fun j e => by have := (HLT.out j e).1; omega))).setCell (p := ⟨B + 1, 0, none⟩) (by simp) _
      · have := (grownBy_setCell' w6 (B + 1) (.slice A8 vq.length c8)).size
        omega
  case done =>
    rintro D W hD hIz hK
    obtain ⟨⟨v, vs, hv, hvl, hR⟩, hbl, hbw, hsw⟩ := hOI.putObj (.deferred none) hIz hD hK rfl
    have hvW : Boxed W (B + 1) 23 v := (World.putObj_heap_other (by omega)).symm.trans hv
    obtain ⟨A8, c8, e8, _⟩ := (hR.1 _ (.head _)).cells
    subst e8
    have hvc := hvW.cell
    have hpl : rootsK L zs zs.length = consL L i true := by
      have h1 := HNL.out
      subst h1
      exact rootsK_all L HZ.out
    rw [hpl] at hR
    have hvl2 : vs.length = (consL L i true).length := by
      rw [hvl, ← hpl, rootsK_len L (Nat.le_refl _)]
    have HR := Lib.hid hR
    have HVL := Lib.hid hvl2
    have HBW := Lib.hid hbw
    clear hpl hR hvl hvl2 hv hvW hbl hIz
    gi_wp2
    refine ⟨by simp, .inl ⟨_, _, rfl, run_takeDeferred hK, ?_⟩⟩
    refine ⟨.tuple #[.slice A8 vs.length c8, .bool true], by simp [results, Tryd.results18, go_sem], _, vs, rfl, HVL.out, ?_⟩
    have h1 := (HR.out.mono (show B ≤ B + 4 by omega))
    rw [HB.out] at h1
    have h2 := HBW.out
    rw [HB.out] at h2
    exact h1.inv h2

set_option maxHeartbeats 1000000 in
theorem implConsOf_any (v : Value) (L : List (List UInt8)) (i : Int) (w : World) (h : SlS w w.heap.size v L) (hL : L.length ≤ 1048576) (hs : sumL L ≤ 1073741000)
    (hI : Glob w 0 initW) (hG : Glob w 1 kk) :
    Calls Tryd.prog 18 #[v, .int .i64 i] w (FreshSB w (ofC L i) (prefB i L.length)) := by
  unfold ofC
  by_cases hi : 1 ≤ i ∧ i ≤ (L.length : Int)
  · rw [prefB_yes hi, if_pos rfl]
    obtain ⟨k, rfl⟩ := Int.eq_ofNat_of_zero_le (show 0 ≤ i by omega)
    exact implConsOf_in v L k w h (by omega) (by omega) hL hs hI hG
  · have HP := Lib.hid (fun w => isPrefix_any i (L.length : Int) w)
    rw [prefB_no hi] at HP ⊢
    rw [if_neg (by decide)]
    obtain ⟨A, c, rfl, h1, h2, h0, h3⟩ := h
    unfold maxLen at h2
    clear h0 h3 hi
    go_enter Tryd.func18, Tryd.ntmps18
    go_wp2_with fail
    refine (HP.out _).mono ?_
    rintro e _ ⟨rfl, rfl⟩
    go_wp2_with fail
    go_ret2
    exact ⟨_, [], rfl, rfl, (InvG.start w).moreG (by unfold GOwn; exact World.ownsRow_nil _ _ _ _) ((Below.refl _ _).alloc (Nat.le_refl _) _)⟩
end Go.Proofs.YtlchadbbldkkfaaDoor
