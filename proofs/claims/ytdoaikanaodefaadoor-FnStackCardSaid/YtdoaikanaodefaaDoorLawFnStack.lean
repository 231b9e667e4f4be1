/- The walk of the law FnStack: for every argument the law answers true and leaves all memory that was there as it was. -/
import Derived.Test.YtdoaikanaodefaaDoorMakeList
import Derived.Test.YtdoaikanaodefaaDoorStackOf
import Derived.Test.YtdoaikanaodefaaDoorStackRoot
import Derived.Test.YtdoaikanaodefaaDoorStackSize
import Derived.Test.YtdoaikanaodefaaDoorPut
import Derived.Test.YtdoaikanaodefaaDoorStackOpen
import Derived.Test.YtdoaikanaodefaaDoorStackRep
namespace Go.Proofs.YtdoaikanaodefaaDoor
open Go.ChangeShapes Go.WideShapes Go.ChangeAt Go.RowKit

/-- What each operation of the drawn region yields. -/
def FnSp (wr : World) (a s : Value) (H : List Int) (L : List (List UInt8)) : Nat → World → (Nat → Value) → Prop
  | 0, w, vs => OfSp wr a s a [5] H L 0 w vs
  | 1, w, vs => Sl w w.heap.size (vs 1) [5]
  | n + 2, w, vs => OfSp wr a s a [5] H L (n + 2) w vs
theorem FnSp.up {wr : World} {a s : Value} {H : List Int} {L : List (List UInt8)} {w w' : World} {vs vs' : Nat → Value} :
    ∀ i, FnSp wr a s H L i w vs → Below w.heap.size w w' → vs i = vs' i → (i = 4 ∨ i = 5 → vs 3 = vs' 3) → FnSp wr a s H L i w' vs'
  | 0, h, hb, e, e3 => OfSp.up (wr := wr) (a := a) (s := s) (x := a) (l := [5]) (H := H) (L := L) 0 h hb e e3
  | 1, h, hb, e, _ => by
    simp only [FnSp] at h ⊢
    rw [← e]
    exact h.up hb
  | n + 2, h, hb, e, e3 => OfSp.up (wr := wr) (a := a) (s := s) (x := a) (l := [5]) (H := H) (L := L) (n + 2) h hb e e3
theorem own_five (w : World) (B : Nat) (hB : B ≤ w.heap.size) : Own 5 (w.alloc (.cells #[.int .u8 5] 5)) B (.slice (some ⟨w.heap.size, 0, none⟩) 1 1) [5] :=
  World.ownsRow_lit w #[.int .u8 5] 1 hB (by simp [maxLen]) rfl

/-- The row, and behind it the literal {5}. -/
theorem five_rws {B : Nat} {w : World} {E : TypeId} {v : Value} {xs : List Value} (h : GOwn w B (E, v, xs)) (hB : B ≤ w.heap.size) :
    Rws B (w.alloc (.cells #[.int .u8 5] 5)) [(E, v, xs), (5, .slice (some ⟨w.heap.size, 0, none⟩) 1 1, us [5])] := by
  have h0 : Rws B w [(E, v, xs)] := ⟨fun p hp => by rw [List.mem_singleton.1 hp]; exact h, List.pairwise_singleton _ _⟩
  exact (h0.more (row := none) (p := (5, .slice (some ⟨w.heap.size, 0, none⟩) 1 1, us [5])) (GOwn.b.2 (own_five w w.heap.size (Nat.le_refl _))) hB (World.grownBy_alloc w _ _) (fun g e => by cases e)).perm (List.Perm.swap _ _ _)
theorem more_slS {w w' : World} {B : Nat} {E : TypeId} {v v5 : Value} {L : List (List UInt8)} {ys : List Value}
    (hR : Rws B w' [(E, v, [] ++ ys ++ [v5]), (5, v5, us [5])]) (hl : ys.length = L.length) (hy : ∀ k y, ys[k]? = some y → Sl w w.heap.size y (L.getD k []))
    (hb : Below w.heap.size w w') : SlS w' w'.heap.size v (L ++ [[5]]) := by
  refine slS_of_cells (hR.1 _ (.head _)) (by simp [hl]) fun k y hk => ?_
  rw [List.nil_append] at hk
  by_cases hlt : k < ys.length
  · rw [List.getElem?_append_left hlt] at hk
    have := (hy k y hk).up hb
    rw [List.getD_eq_getElem?_getD, List.getElem?_append_left (by omega), ← List.getD_eq_getElem?_getD]
    exact this
  · have h5 : Sl w' w'.heap.size v5 [5] := (GOwn.b.1 (hR.1 _ (.tail _ (.head _)))).sl
    rw [List.getElem?_append_right (by omega)] at hk
    have hk0 : k - ys.length = 0 := by
      rcases h0 : k - ys.length with _ | n
      · rfl
      · rw [h0] at hk
        simp at hk
    rw [hk0] at hk
    simp only [List.getElem?_cons_zero, Option.some.injEq] at hk
    subst hk
    rw [List.getD_eq_getElem?_getD, List.getElem?_append_right (by omega), show k - L.length = 0 from by omega]
    exact h5

set_option maxRecDepth 100000 in
set_option maxHeartbeats 8000000 in
theorem FnStack_walk (v0 : Value) (l0 : List UInt8) (W : World) (h0 : Sl W W.heap.size v0 l0)
    (hgI : Glob W 0 initW) (hg : Glob W 1 kk) :
    Calls Tryd.prog 3 #[v0] W (Yes W) := by
  obtain ⟨i0, hi, hz0, hz1, hz2⟩ := info_parts sbinfo
  have hs0 := h0
  obtain ⟨A0, c0, rfl, p0, q0, r0, z0⟩ := h0
  unfold maxLen at q0
  clear r0 z0
  by_cases hbig0 : 1048576 < l0.length
  · have hb : (1048576 : Int) < (l0.length : Int) := by omega
    go_enter Tryd.func3, Tryd.ntmps3
    go_wp2
    go_ret
    exact ⟨rfl, Below.refl _ _⟩
  have hb0 : ¬ ((1048576 : Int) < (l0.length : Int)) := by omega
  go_enter Tryd.func3, Tryd.ntmps3
  go_wp2_with fail
  refine (MakeList_any _ l0 _ hs0 (by omega)).mono ?_
  rintro e w1 ⟨L, u, vs, rfl, hvl, hL0, hL9, hLs, K⟩
  have hb1 := K.bel
  have hS : SlS w1 w1.heap.size u L := ((InvF.start W).more K).slS 22 5 hvl (.head _)
  have hI1 := hgI.below hgI.lt hb1
  have hG1 := hg.below hg.lt hb1
  clear hvl K p0 q0 hb0 hs0 hgI hg
  have HS := Lib.hid hS
  have HREP : Hid (Rep (skH L) (skS L) L) := Lib.hid (sk_rep (by omega))
  have HSKB : Hid (skB L = true) := Lib.hid (sk_short (by omega))
  have HSM := Lib.hid (sk_small L)
  have HG := Lib.hid (And.intro hI1 hG1)
  have HLS : Hid (sumL L ≤ 35) := Lib.hid hLs
  have HB1 := Lib.hid hb1
  clear hS hI1 hG1 hLs hb1
  obtain ⟨A, c, rfl, h1, h2, k0, h3⟩ : SlS w1 w1.heap.size u L := HS.out
  unfold maxLen at h2
  clear k0 h3
  go_wp2_with fail
  refine (implStackOf_any _ L w1 HS.out (by have := HLS.out; omega) HG.out.1 HG.out.2).mono ?_
  rintro e w2 hf
  obtain ⟨A1, c1, A2, c2, us2, rfl, hv2, K2⟩ := FreshKB.open hf
  rw [HSKB.out]
  obtain ⟨H, hH⟩ : ∃ H, H = skH L := ⟨_, rfl⟩
  obtain ⟨S, hSS⟩ : ∃ S, S = skS L := ⟨_, rfl⟩
  simp only [← hH, ← hSS] at HREP HSM hv2 K2
  try rw [← hH]
  try rw [← hSS]
  have HS2 : Hid (SlK w2 w2.heap.size (.agg #[.slice A1 H.length c1, .slice A2 S.length c2]) H S) := Lib.hid (K2.slK hv2.out (.head _) (.tail _ (.head _)))
  have HB2 : Hid (Below w1.heap.size w1 w2) := Lib.hid K2.bel
  clear hH hSS hf K2 hv2 HSKB us2
  have HV4 : Hid (VarK (w2.alloc (.cells #[.slice A1 H.length c1, .slice A2 S.length c2] 27)) w2.heap.size (.slice A1 H.length c1) (.slice A2 S.length c2)) := Lib.hid (heap_alloc_new w2 _)
  have HB4 : Hid (Below w2.heap.size w2 (w2.alloc (.cells #[.slice A1 H.length c1, .slice A2 S.length c2] 27))) := Lib.hid ((Below.refl _ _).alloc (Nat.le_refl _) _)
  go_wp2
  generalize w2.alloc (.cells #[.slice A1 H.length c1, .slice A2 S.length c2] 27) = wr at HV4 HB4 ⊢
  obtain ⟨n2, hn2⟩ : ∃ n, n = w2.heap.size := ⟨_, rfl⟩
  rw [← hn2] at HV4 ⊢
  have HN2 : Hid (n2 < wr.heap.size) := Lib.hid HV4.out.lt
  have HSK : Hid (SlK wr wr.heap.size (.agg #[.slice A1 H.length c1, .slice A2 S.length c2]) H S) := Lib.hid (HS2.out.up HB4.out)
  have HBR : Hid (Below w1.heap.size w1 wr) := Lib.hid (HB2.out.trans (HB4.out.mono HB2.out.size))
  have HGR : Hid (Glob wr 0 initW ∧ Glob wr 1 kk) := Lib.hid ⟨HG.out.1.up HBR.out, HG.out.2.up HBR.out⟩
  have HLR : Hid (SlS wr wr.heap.size (.slice A L.length c) L) := Lib.hid (HS.out.up HBR.out)
  have HBW : Hid (Below W.heap.size W wr) := Lib.hid (HB1.out.trans (HBR.out.mono HB1.out.size))
  clear HS2 HB2 HB4 HBR HG HS HB1 hn2
  have hV4 := HV4.out
  refine wp_region_late 8 (fun i => i == 6) (FnSp wr (.slice A1 H.length c1) (.slice A2 S.length c2) H S) (by kernel_rfl) (by kernel_rfl) ?hup ?hearly ?hstep ?hend
  case hup =>
    intro i w5 w6 vs vs' hi h hb6 hv
    refine FnSp.up i h hb6 (hv i (.inl rfl)) (fun hi => ?_)
    rcases hi with rfl | rfl
    · exact hv 3 (.inr (by kernel_rfl))
    · exact hv 3 (.inr (by kernel_rfl))
  case hearly =>
    intro i o hi0 hE ho vs w5 hb6 hp
    obtain rfl : i = 6 := by simpa using hE
    have h4 : vs 4 = vs 3 := hp 4 (by kernel_rfl)
    obtain ⟨A1', c1', A2', c2', us2, e3, _, _⟩ : OfSp wr (.slice A1 H.length c1) (.slice A2 S.length c2) (.slice A1 H.length c1) [5] H S 3 w5 vs := hp 3 (by kernel_rfl)
    rw [e3] at h4
    simp only [putAll, dstOf, Option.bind_some, Act.put, List.getElem?_toArray, List.getElem?_cons_zero, List.getElem?_cons_succ, List.setIfInBounds_toArray, List.set_cons_zero, List.set_cons_succ]
    simp only [List.getElem?_toArray, List.getElem?_cons_zero, List.getElem?_cons_succ, Option.some.injEq] at ho
    subst ho
    refine ⟨.bool (pushB H S (leafL [5])), fun w => ?_, ⟨_, rfl⟩, by simp [FnSp, OfSp, upd]⟩
    go_simp
  case hstep =>
    intro i o hi0 hE ho vs w5 hb6 hp
    have hd0 := (hV4.up hb6).c0
    have hd1 := (hV4.up hb6).c1
    simp only [putAll, dstOf, Option.bind_some, Act.put, List.getElem?_toArray, List.getElem?_cons_zero, List.getElem?_cons_succ, List.setIfInBounds_toArray, List.set_cons_zero, List.set_cons_succ]
    rcases i with _ | _ | _ | _ | _ | _ | _ | _ | i
    all_goals (first | (exfalso; omega; done) | (exfalso; simp at hE; done) | skip)
    all_goals simp only [List.getElem?_toArray, List.getElem?_cons_zero, List.getElem?_cons_succ, Option.some.injEq] at ho
    all_goals subst ho
    all_goals unfold Oper.wp
    · go_simp
      exact ⟨Below.refl _ _, by simp [FnSp, OfSp, upd, valOf]⟩
    · go_simp
      refine ⟨(Below.refl _ _).alloc (Nat.le_refl _) _, ?_⟩
      have := (own_five w5 w5.heap.size (Nat.le_refl _)).sl
      simpa [FnSp, upd, valOf] using this
    · have h1 : Sl w5 w5.heap.size (vs 1) [5] := hp 1 (by kernel_rfl)
      go_simp
      refine (implLeafHash_any (vs 1) [5] w5 h1 (by simp) (HGR.out.1.up hb6) (HGR.out.2.up hb6)).mono ?_
      rintro e w6 ⟨u, rfl, hO, hbe⟩
      refine ⟨hbe, ?_⟩
      have := GOwn.b.2 (hO.mono hb6.size)
      simpa [FnSp, OfSp, upd, valOf] using this
    · have h0 : vs 0 = _ := hp 0 (by kernel_rfl)
      have h2 : GOwn w5 wr.heap.size (5, vs 2, us (leafL [5])) := hp 2 (by kernel_rfl)
      have H2 : Hid (Own 5 w5 wr.heap.size (vs 2) (leafL [5])) := Lib.hid (GOwn.b.1 h2)
      clear h2
      go_simp
      refine (implStackPush_any _ (vs 2) H S (leafL [5]) w5 (HSK.out.up hb6) H2.out.sl (HGR.out.1.up hb6) (HGR.out.2.up hb6)).mono ?_
      rintro e w6 hf
      obtain ⟨A1', c1', A2', c2', us2, rfl, hv2, K⟩ := FreshKB.open hf
      refine ⟨K.bel, A1', c1', A2', c2', us2, ?_, hv2.out, ?_⟩
      · simp [upd, valOf]
      · have := (InvG.rws K).mono hb6.size
        simpa [InvF, segI, segS] using this
    · go_simp
      exact ⟨Below.refl _ _, by simp [FnSp, OfSp, upd, valOf]⟩
    · have h4 : vs 4 = vs 3 := hp 4 (by kernel_rfl)
      obtain ⟨A1', c1', A2', c2', us2, e3, _, _⟩ : OfSp wr (.slice A1 H.length c1) (.slice A2 S.length c2) (.slice A1 H.length c1) [5] H S 3 w5 vs := hp 3 (by kernel_rfl)
      rw [e3] at h4
      go_simp
      exact ⟨Below.refl _ _, .slice A1' (psH H S (leafL [5])).length c1', .slice A2' (psS H S (leafL [5])).length c2', by simp [upd, e3], by simp [upd, valOf]⟩
    · go_simp
      refine ⟨(Below.refl _ _).alloc (Nat.le_refl _) _, w5.heap.size, ?_, hb6.size, heap_alloc_new w5 _⟩
      simp [upd, valOf]
  case hend =>
    intro vs w5 hb6 hp
    obtain ⟨A3, c3, A4, c4, us2, e3, hul2, hR2⟩ : OfSp wr (.slice A1 H.length c1) (.slice A2 S.length c2) (.slice A1 H.length c1) [5] H S 3 w5 vs := hp 3 (by omega)
    obtain ⟨a1, s1, e3', e5⟩ : ∃ a s, vs 3 = .tuple #[.agg #[a, s], .bool (pushB H S (leafL [5]))] ∧ vs 5 = .agg #[a, s] := hp 5 (by omega)
    have e6 : vs 6 = .bool (pushB H S (leafL [5])) := hp 6 (by omega)
    rw [e3] at e3'
    simp only [Value.tuple.injEq, Array.mk.injEq, List.cons.injEq, Value.agg.injEq, and_true] at e3'
    obtain ⟨rfl, rfl⟩ := e3'
    obtain ⟨k7, e7, hk7, hk⟩ : ∃ k, vs 7 = .pointer (some ⟨k, 0, none⟩) ∧ wr.heap.size ≤ k ∧ w5.heap[k]? = some (.cells #[.slice none 0 0, .slice none 0 0] 27) := hp 7 (by omega)
    have hl8 := HREP.out
    have HSH : Hid (pushB H S (leafL [5]) = true) := Lib.hid (push_short hl8 (by omega))
    have HREP2 : Hid (Rep (psH H S (leafL [5])) (psS H S (leafL [5])) (L ++ [[5]])) := Lib.hid (ps_rep hl8 (by omega))
    have HSM2 := Lib.hid (ps_small H S (leafL [5]))
    rw [HSH.out] at e3 e6
    clear hl8 HSH
    obtain ⟨H2, hH2⟩ : ∃ x, x = psH H S (leafL [5]) := ⟨_, rfl⟩
    obtain ⟨S2, hS2⟩ : ∃ x, x = psS H S (leafL [5]) := ⟨_, rfl⟩
    simp only [← hH2, ← hS2] at HREP2 HSM2 hR2 hul2 e3 e5
    clear hH2 hS2
    have hV7 : VarK w5 k7 (.slice none 0 0) (.slice none 0 0) := hk
    have hV5 := hV4.up hb6
    have hd0 := hV7.c0
    have hd1 := hV7.c1
    have hf0 := hV7.f0
    have hf1 := hV7.f1
    have hoff := hR2.not_at hk (push_types (by decide) (by decide) (by decide))
    clear hp e3 hk hV4
    simp only [putAll, dstOf, Option.bind_some, Act.put, List.getElem?_toArray, List.getElem?_cons_zero, List.getElem?_cons_succ, List.setIfInBounds_toArray, List.set_cons_zero, List.set_cons_succ]
    refine wpAny_one (i := 8) (by kernel_rfl) rfl rfl ?_
    unfold Oper.wp
    go_simp
    have hV76 : VarK ((w5.setCell ⟨k7, 0, none⟩ (.slice A3 H2.length c3)).setCell ⟨k7, 1, none⟩ (.slice A4 S2.length c4)) k7 (.slice A3 H2.length c3) (.slice A4 S2.length c4) := (hV7.set0 _).set1 _
    have hB6 : Below wr.heap.size wr ((w5.setCell ⟨k7, 0, none⟩ (.slice A3 H2.length c3)).setCell ⟨k7, 1, none⟩ (.slice A4 S2.length c4)) := (hb6.setCell (p := ⟨k7, 0, none⟩) hk7 _).setCell (p := ⟨k7, 1, none⟩) hk7 _
    have hR6 := ((hR2.cellOff hoff 0 (.slice A3 H2.length c3)).cellOff hoff 1 (.slice A4 S2.length c4))
    have HTK := Lib.hid (hR6.slK hul2)
    clear hd0 hd1 hf0 hf1 hV5 hV7 hR2 hul2 hb6 hoff hR6
    generalize ((w5.setCell ⟨k7, 0, none⟩ (.slice A3 H2.length c3)).setCell ⟨k7, 1, none⟩ (.slice A4 S2.length c4)) = W6 at hV76 hB6 HTK ⊢
    have HV7 := Lib.hid hV76
    have HV46 := Lib.hid (HV4.out.up hB6)
    have HSK6 := Lib.hid (HSK.out.up hB6)
    have HG6 : Hid (Glob W6 0 initW ∧ Glob W6 1 kk) := Lib.hid ⟨HGR.out.1.up hB6, HGR.out.2.up hB6⟩
    have HL6 := Lib.hid (HLR.out.up hB6)
    have HB6 := Lib.hid (HBW.out.trans (hB6.mono HBW.out.size))
    clear hV76 hB6 HV4 HSK HGR HLR HBW HN2
    refine wpAny_one (i := 9) (by kernel_rfl) rfl rfl ?_
    unfold Oper.wp
    go_simp
    refine wpAny_done (by kernel_rfl) (NoPanic.normal ?_) _
    try clear vs
    -- more
    obtain ⟨ys, hyR, hyl, hyS⟩ := HL6.out.rdC
    have HYL := Lib.hid hyl
    have HYS := Lib.hid hyS
    have HYR : Hid (RdC (W6.alloc (.cells #[] 22)) (W6.alloc (.cells #[] 22)).heap.size (.slice A L.length c) ys) := Lib.hid ((hyR.below ((Below.refl _ _).alloc (Nat.le_refl _) _)).mono (by simp))
    have HYN : Hid (([] : List Value).length + ys.length ≤ 1073741824) := Lib.hid (by simp only [List.length_nil]; omega)
    have HYN2 : Hid (([] ++ ys : List Value).length ≤ 1073741823) := Lib.hid (by simp only [List.nil_append]; omega)
    clear hyl hyS hyR
    go_upto_region 7 with (first
      | (at_builtin; refine wpList_appC (W := W6) rfl _ _ 23 rfl 22 i0 Tryd.underlying23 hi (.slice none 0 0) 24 hz0 hz1 hz2 rfl (by omega) _ [] (by rfl) _ ys (by rfl) HYR.out (World.ownsRow_lit W6 #[] 0 (Nat.le_refl _) (by simp [maxLen]) rfl) ((Below.refl _ _).alloc (Nat.le_refl _) _) HYN.out ?_; intro v7 w7 hown7 hb7;
         have HO7 := Lib.hid hown7;
         have HB7 := Lib.hid hb7;
         have HB8 : Hid (Below W6.heap.size W6 (w7.alloc (.cells #[.int .u8 5] 5))) := Lib.hid (hb7.alloc hb7.size _);
         clear hown7 hb7)
      | (at_builtin; refine wpList_appR1 (w := w7.alloc (.cells #[.int .u8 5] 5)) rfl _ _ 23 rfl 22 i0 Tryd.underlying23 hi (.slice none 0 0) 24 hz0 hz1 hz2 rfl (by omega) W6.heap.size _ ([] ++ ys) (by rfl) (.slice (some ⟨w7.heap.size, 0, none⟩) 1 1) rfl (by go_simp) HB8.out.size (five_rws HO7.out HB7.out.size) HYN2.out ?_; intro v9 w9 hR9 hg9;
         have HB9 : Hid (Below W6.heap.size W6 w9) := Lib.hid (HB8.out.grown hg9 HB8.out.size (fun j e => (HO7.out.lt j e).1));
         have HM9 := Lib.hid (more_slS hR9 HYL.out HYS.out HB9.out);
         clear hR9 hg9))
    clear e5 e6 e7 HYL HYS HYR HYN HYN2 HO7 HB7 HB8
    have HN : Hid (L.length ≤ 2097151 ∧ (L ++ [[5]]).length ≤ 2097151 ∧ sumL L ≤ 1073741000 ∧ L.length ≤ 1073741824 ∧ sumL (L ++ [[5]]) ≤ 1073741000 ∧ (L ++ [[5]]).length ≤ 1073741824) := Lib.hid (by
      have h1 := sumL_app L [[5]]
      have h2 := HLS.out
      have h3 : sumL [[(5 : UInt8)]] = 1 := rfl
      have h4 : (L ++ [[(5 : UInt8)]]).length = L.length + 1 := by simp
      exact ⟨by omega, by omega, by omega, by omega, by omega, by omega⟩)
    have HSZ2 : Hid (((L ++ [[(5 : UInt8)]]).length : Int) = (L.length : Int) + 1) := Lib.hid (by simp)
    have HUP : Hid (∀ w, Below w9.heap.size w9 w → SlK w w.heap.size (.agg #[.slice A1 H.length c1, .slice A2 S.length c2]) H S ∧ SlK w w.heap.size (.agg #[.slice A3 H2.length c3, .slice A4 S2.length c4]) H2 S2 ∧
        VarK w n2 (.slice A1 H.length c1) (.slice A2 S.length c2) ∧ VarK w k7 (.slice A3 H2.length c3) (.slice A4 S2.length c4) ∧
        Glob w 0 initW ∧ Glob w 1 kk ∧ SlS w w.heap.size (.slice A L.length c) L ∧ SlS w w.heap.size v9 (L ++ [[5]]) ∧ Below W.heap.size W w) := Lib.hid (fun w hb => by
      have hb6 := HB9.out.trans (hb.mono HB9.out.size)
      exact ⟨HSK6.out.up hb6, HTK.out.up hb6, HV46.out.up hb6, HV7.out.up hb6, HG6.out.1.up hb6, HG6.out.2.up hb6, HL6.out.up hb6, HM9.out.up hb, HB6.out.trans (hb6.mono HB6.out.size)⟩)
    clear HSK6 HTK HV46 HV7 HG6 HL6 HM9 HB6 HB9 HSM HSM2 HLS h1 h2 hk7
    have hb9 : Below w9.heap.size w9 w9 := Below.refl _ _
    obtain ⟨hS, -, hV, -⟩ := HUP.out w9 hb9
    have hd0 := hV.c0
    have hd1 := hV.c1
    clear hS hV
    go_wp2_with fail
    refine (implStackOk_any _ H S w9 (HUP.out w9 hb9).1).mono ?_
    rintro e w10 ⟨rfl, hb10⟩
    rw [rep_ok HREP.out HN.out.1]
    clear hd0 hd1
    have hd0 := (HUP.out w10 hb10).2.2.1.c0
    have hd1 := (HUP.out w10 hb10).2.2.1.c1
    go_wp2_with fail
    refine (implStackSize_any _ H S w10 (HUP.out w10 hb10).1).mono ?_
    rintro e w11 ⟨rfl, hb⟩
    have hb11 := hb10.trans (hb.mono hb10.size)
    rw [rep_size HREP.out HN.out.1]
    clear hd0 hd1 hb
    have hd0 := (HUP.out w11 hb11).2.2.2.1.c0
    have hd1 := (HUP.out w11 hb11).2.2.2.1.c1
    go_wp2_with fail
    refine (implStackSize_any _ H2 S2 w11 (HUP.out w11 hb11).2.1).mono ?_
    rintro e w12 ⟨rfl, hb⟩
    have hb12 := hb11.trans (hb.mono hb11.size)
    rw [rep_size HREP2.out HN.out.2.1, HSZ2.out]
    clear hd0 hd1 hb
    have hd0 := (HUP.out w12 hb12).2.2.1.c0
    have hd1 := (HUP.out w12 hb12).2.2.1.c1
    go_wp2_with fail
    -- the root of s
    refine (implStackRoot_any _ H S w12 (HUP.out w12 hb12).1 (HUP.out w12 hb12).2.2.2.2.1 (HUP.out w12 hb12).2.2.2.2.2.1).mono ?_
    rintro e w13 ⟨v13, rfl, hO13, hb13'⟩
    have hb13 := hb12.trans (hb13'.mono hb12.size)
    clear hd0 hd1
    go_wp2_with fail
    refine (implTreeRoot_any _ L w13 (HUP.out w13 hb13).2.2.2.2.2.2.1 HN.out.2.2.1 HN.out.2.2.2.1 (HUP.out w13 hb13).2.2.2.2.1 (HUP.out w13 hb13).2.2.2.2.2.1).mono ?_
    rintro e w14 ⟨v14, rfl, hO14, hb14'⟩
    have hb14 := hb13.trans (hb14'.mono hb13.size)
    go_wp2_with fail
    refine (implSameBytes_any v13 v14 (rootS H S) (treeL L) w14 (hO13.sl.up hb14') hO14.sl).mono ?_
    rintro e w' ⟨rfl, hw⟩
    obtain rfl : w14 = w' := hw
    rw [rep_root HREP.out HN.out.1, show (treeL L == treeL L) = true from by simp]
    clear hO13 hO14 hb13' hb14'
    have hd0 := (HUP.out w14 hb14).2.2.2.1.c0
    have hd1 := (HUP.out w14 hb14).2.2.2.1.c1
    go_wp2_with fail
    -- the root of t
    refine (implStackRoot_any _ H2 S2 w14 (HUP.out w14 hb14).2.1 (HUP.out w14 hb14).2.2.2.2.1 (HUP.out w14 hb14).2.2.2.2.2.1).mono ?_
    rintro e w15 ⟨v15, rfl, hO15, hb15'⟩
    have hb15 := hb14.trans (hb15'.mono hb14.size)
    clear hd0 hd1
    go_wp2_with fail
    refine (implTreeRoot_any _ (L ++ [[5]]) w15 (HUP.out w15 hb15).2.2.2.2.2.2.2.1 HN.out.2.2.2.2.1 HN.out.2.2.2.2.2 (HUP.out w15 hb15).2.2.2.2.1 (HUP.out w15 hb15).2.2.2.2.2.1).mono ?_
    rintro e w16 ⟨v16, rfl, hO16, hb16'⟩
    have hb16 := hb15.trans (hb16'.mono hb15.size)
    go_wp2_with fail
    refine (implSameBytes_any v15 v16 (rootS H2 S2) (treeL (L ++ [[5]])) w16 (hO15.sl.up hb16') hO16.sl).mono ?_
    rintro e w' ⟨rfl, hw⟩
    obtain rfl : w16 = w' := hw
    rw [rep_root HREP2.out HN.out.2.1, show (treeL (L ++ [[5]]) == treeL (L ++ [[5]])) = true from by simp]
    clear hO15 hO16 hb15' hb16'
    go_wp2_with fail
    -- the root of none
    refine (implStackRoot_any _ [] [] w16 ⟨_, _, rfl, SlI.nil_, SlS.nil_⟩ (HUP.out w16 hb16).2.2.2.2.1 (HUP.out w16 hb16).2.2.2.2.2.1).mono ?_
    rintro e w17 ⟨v17, rfl, hO17, hb17'⟩
    have hb17 := hb16.trans (hb17'.mono hb16.size)
    go_wp2_with fail
    refine (implTreeRoot_any _ [] w17 SlS.nil_ (by simp [sumL]) (by simp) (HUP.out w17 hb17).2.2.2.2.1 (HUP.out w17 hb17).2.2.2.2.2.1).mono ?_
    rintro e w18 ⟨v18, rfl, hO18, hb18'⟩
    have hb18 := hb17.trans (hb18'.mono hb17.size)
    go_wp2_with fail
    refine (implSameBytes_any v17 v18 (rootS [] []) (treeL []) w18 (hO17.sl.up hb18') hO18.sl).mono ?_
    rintro e w' ⟨rfl, hw⟩
    obtain rfl : w18 = w' := hw
    rw [root_empty, show (treeL [] == treeL []) = true from by simp]
    clear hO17 hO18 hb17' hb18'
    go_wp2
    go_ret
    exact ⟨rfl, (HUP.out w18 hb18).2.2.2.2.2.2.2.2⟩
end Go.Proofs.YtdoaikanaodefaaDoor
