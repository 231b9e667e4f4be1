/- The contracts of StackOf, as the program has it and as its model has it. -/
import Derived.Test.YtdoaikanaodefaaDoorStackPushS
import Derived.Test.YtdoaikanaodefaaDoorStackOpen
import Derived.Test.YtdoaikanaodefaaDoorAnyIn
namespace Go.Proofs.YtdoaikanaodefaaDoor
open Go.ChangeShapes Go.WideShapes Go.ChangeAt Go.RowKit

/-- Between two rounds: block k2 is the result, block k4 holds the stack so far, whose rows lie from B on. -/
def OfInv (w wr : World) (k2 k4 B : Nat) (H : List Int) (L : List (List UInt8)) : Prop :=
  ∃ (Ah : Option Addr) (ch : Nat) (As : Option Addr) (cs : Nat) (us : List Value), VarK wr k2 (.slice none 0 0) (.slice none 0 0) ∧ VarK wr k4 (.slice Ah H.length ch) (.slice As L.length cs) ∧ us.length = L.length ∧
    Rws B wr ((3, .slice Ah H.length ch, is H) :: (22, .slice As L.length cs, us) :: rowsS 5 us L) ∧ Below w.heap.size w wr
theorem rws_nil (B : Nat) (w : World) : Rws B w [(3, .slice none 0 0, is []), (22, .slice none 0 0, [])] := by
  refine ⟨fun p hp => ?_, List.pairwise_cons.2 ⟨fun q hq => .inl rfl, List.pairwise_cons.2 ⟨fun q hq => .inl rfl, List.Pairwise.nil⟩⟩⟩
  rcases List.mem_cons.1 hp with rfl | hp
  · exact World.ownsRow_nil _ _ _ _
  rcases List.mem_cons.1 hp with rfl | hp
  · exact World.ownsRow_nil _ _ _ _
  · cases hp
/-- The rows of a stack, as a stack that reads. -/
theorem Rws.slK {B : Nat} {w : World} {a s : Value} {us : List Value} {H : List Int} {L : List (List UInt8)} (hR : Rws B w ((3, a, is H) :: (22, s, us) :: rowsS 5 us L)) (hl : us.length = L.length) : SlK w w.heap.size (.agg #[a, s]) H L := by
  have hb : Rws 0 w ((3, a, is H) :: (22, s, us) :: rowsS 5 us L) := hR.mono (Nat.zero_le _)
  have h0 : OwnI 3 w 0 a H := GOwn.i.1 (hb.1 _ (.head _))
  have h1 := (hb.1 _ (.tail _ (.head _)))
  refine ⟨_, _, rfl, h0.sl, slS_of_cells h1 hl fun k y hy => ?_⟩
  have hk : k < L.length := by have := (List.getElem?_eq_some_iff.1 hy).1; omega
  exact (GOwn.b.1 (hb.1 _ (.tail _ (.tail _ (rowsS_mem 5 us L k y hy hk)))) : Own 5 w 0 y (L.getD k [])).sl

/-- What each operation of the loop's region yields. -/
def OfSp (wr : World) (a s x : Value) (l : List UInt8) (H : List Int) (L : List (List UInt8)) : Nat → World → (Nat → Value) → Prop
  | 0, _, vs => vs 0 = .agg #[a, s]
  | 1, _, vs => vs 1 = x
  | 2, w, vs => GOwn w wr.heap.size (5, vs 2, us (leafL l))
  | 3, w, vs => ∃ A c A' c' us, vs 3 = .tuple #[.agg #[.slice A (psH H L (leafL l)).length c, .slice A' (psS H L (leafL l)).length c'], .bool (pushB H L (leafL l))] ∧ us.length = (psS H L (leafL l)).length ∧
      Rws wr.heap.size w ((3, .slice A (psH H L (leafL l)).length c, is (psH H L (leafL l))) :: (22, .slice A' (psS H L (leafL l)).length c', us) :: rowsS 5 us (psS H L (leafL l)))
  | 4, _, vs => vs 4 = vs 3
  | 5, _, vs => ∃ a s, vs 3 = .tuple #[.agg #[a, s], .bool (pushB H L (leafL l))] ∧ vs 5 = .agg #[a, s]
  | 6, _, vs => vs 6 = .bool (pushB H L (leafL l))
  | 7, w, vs => ∃ k, vs 7 = .pointer (some ⟨k, 0, none⟩) ∧ wr.heap.size ≤ k ∧ w.heap[k]? = some (.cells #[.slice none 0 0, .slice none 0 0] 27)
  | _, _, _ => True
theorem OfSp.up {wr : World} {a s x : Value} {l : List UInt8} {H : List Int} {L : List (List UInt8)} {w w' : World} {vs vs' : Nat → Value} :
    ∀ i, OfSp wr a s x l H L i w vs → Below w.heap.size w w' → vs i = vs' i → (i = 4 ∨ i = 5 → vs 3 = vs' 3) → OfSp wr a s x l H L i w' vs'
  | 0, h, _, e, _ => e.symm.trans h
  | 1, h, _, e, _ => e.symm.trans h
  | 2, h, hb, e, _ => by
    simp only [OfSp] at h ⊢
    rw [← e]
    exact h.up hb
  | 3, h, hb, e, _ => by
    simp only [OfSp] at h ⊢
    rw [← e]
    obtain ⟨A, c, A', c', us, h1, h2, h3⟩ := h
    exact ⟨A, c, A', c', us, h1, h2, h3.up hb⟩
  | 4, h, _, e, e3 => by
    simp only [OfSp] at h ⊢
    rw [← e, ← e3 (.inl rfl)]
    exact h
  | 5, h, _, e, e3 => by
    simp only [OfSp] at h ⊢
    rw [← e, ← e3 (.inr rfl)]
    exact h
  | 6, h, _, e, _ => e.symm.trans h
  | 7, h, hb, e, _ => by
    simp only [OfSp] at h ⊢
    rw [← e]
    obtain ⟨k, h1, h2, h3⟩ := h
    exact ⟨k, h1, h2, (hb.block k (Array.getElem?_eq_some_iff.1 h3).1).trans h3⟩
  | _ + 8, _, _, _, _ => trivial

set_option maxRecDepth 100000 in
set_option maxHeartbeats 4000000 in
theorem implStackOf_any (v : Value) (M : List (List UInt8)) (w : World) (h : SlS w w.heap.size v M) (hs : sumL M ≤ 1048576)
    (hI : Glob w 0 initW) (hG : Glob w 1 kk) :
    Calls Tryd.prog 8 #[v] w (FreshKB w (skH M) (skS M) (skB M)) := by
  obtain ⟨A, c, rfl, p1, p2, p0, p3⟩ := h
  unfold maxLen at p2
  clear p0
  have hV2 : VarK ((w.alloc (.cells #[.slice none 0 0, .slice none 0 0] 27)).alloc (.cells #[.slice none 0 0, .slice none 0 0] 27)) w.heap.size (.slice none 0 0) (.slice none 0 0) := by
    unfold VarK
    rw [Below.heap_alloc _ _ _ (by simp)]
    exact heap_alloc_new w _
  have hV4 : VarK ((w.alloc (.cells #[.slice none 0 0, .slice none 0 0] 27)).alloc (.cells #[.slice none 0 0, .slice none 0 0] 27)) (w.heap.size + 1) (.slice none 0 0) (.slice none 0 0) := by
    unfold VarK
    have := heap_alloc_new (w.alloc (.cells #[.slice none 0 0, .slice none 0 0] 27)) (.cells #[.slice none 0 0, .slice none 0 0] 27)
    simpa using this
  have hb0 : Below w.heap.size w ((w.alloc (.cells #[.slice none 0 0, .slice none 0 0] 27)).alloc (.cells #[.slice none 0 0, .slice none 0 0] 27)) := ((Below.refl _ _).alloc (Nat.le_refl _) _).alloc (by simp) _
  go_enter Tryd.func8, Tryd.ntmps8
  go_wp2
  go_loopw [11] (fun i wr => ∃ k : Nat, k ≤ M.length ∧ i = .int .i64 k ∧ OfK M k ∧ OfInv w wr w.heap.size (w.heap.size + 1) (w.heap.size + 2) (stK M k).1 (stK M k).2)
    (fun i _ => M.length - (intOf i).toNat)
  case atStart => exact ⟨0, Nat.zero_le _, rfl, OfK.zero M, none, 0, none, 0, [], hV2, hV4, rfl, rws_nil _ _, hb0⟩
  case round =>
    clear hV2 hV4 hb0
    obtain ⟨k, hk, rfl, hok, Ah, ch, As, cs, us1, hV2, hV4, hul, hR, hbel⟩ := hrel
    have HST := Lib.hid (stK_ok hok)
    have hsm := stK_small hok
    have hn1 : (stK M k).1.length ≤ 21 := hsm.1
    have hn2 : (stK M k).2.length ≤ 21 := hsm.2.1
    have HOK := Lib.hid hok
    have hc0 := hV4.c0
    have hc1 := hV4.c1
    have hszr := hV4.lt
    have HSK : Hid (SlK wr wr.heap.size (.agg #[.slice Ah (stK M k).1.length ch, .slice As (stK M k).2.length cs]) (stK M k).1 (stK M k).2) := Lib.hid (hR.slK hul)
    have HR := Lib.hid hR
    have HUL := Lib.hid hul
    have HV2 := Lib.hid hV2
    have HV4 := Lib.hid hV4
    have HSUCC := Lib.hid (stK_succ M k)
    clear hsm hok hR hul hV2
    by_cases hlt : k < M.length
    · obtain ⟨b, off, rfl, hbb, hcell⟩ := p3 (by omega)
      obtain ⟨x, hx0, hx⟩ := hcell k hlt
      have hx1 := (hbel.cell (p := ⟨b, off + k, none⟩) hbb).trans hx0
      have hxs := hx.up hbel
      have hxl : (M.getD k []).length ≤ 1048576 := by have := sumL_one M k hlt; omega
      have HNO : Hid (pushB (stK M k).1 (stK M k).2 (leafL (M.getD k [])) = false → skB M = false) := Lib.hid (skB_no hlt)
      have HYES : Hid (pushB (stK M k).1 (stK M k).2 (leafL (M.getD k [])) = true → OfK M (k + 1)) := Lib.hid fun e => HOK.out.succ e
      generalize M.getD k [] = l at hxs hxl HNO HYES HSUCC
      obtain ⟨H, hH⟩ : ∃ H, H = (stK M k).1 := ⟨_, rfl⟩
      obtain ⟨L, hL⟩ : ∃ L, L = (stK M k).2 := ⟨_, rfl⟩
      simp only [← hH, ← hL] at HSUCC HSK HNO HYES HR HV4 hc0 hc1 hV4
      have hn3 : H.length ≤ 21 := by rw [hH]; exact hn1
      have hn4 : L.length ≤ 21 := by rw [hL]; exact hn2
      have HHL := Lib.hid (And.intro hH hL)
      try rw [← hH]
      try rw [← hL]
      have hgI := hI.below hI.lt hbel
      have hgG := hG.below hG.lt hbel
      clear hcell hx0 hx hH hL hn1 hn2
      go_wp2
      refine wp_region_late 7 (fun i => i == 6) (OfSp wr (.slice Ah H.length ch) (.slice As L.length cs) x l H L) (by kernel_rfl) (by kernel_rfl) ?hup ?hearly ?hstep ?hend
      case hup =>
        intro i w5 w6 vs vs' hi h hb6 hv
        refine OfSp.up i h hb6 (hv i (.inl rfl)) (fun hi => ?_)
        rcases hi with rfl | rfl
        · exact hv 3 (.inr (by kernel_rfl))
        · exact hv 3 (.inr (by kernel_rfl))
      case hearly =>
        intro i o hi0 hE ho vs w5 hb6 hp
        obtain rfl : i = 6 := by simpa using hE
        have h4 : vs 4 = vs 3 := hp 4 (by kernel_rfl)
        obtain ⟨A1, c1, A2, c2, us2, e3, _, _⟩ : OfSp wr (.slice Ah H.length ch) (.slice As L.length cs) x l H L 3 w5 vs := hp 3 (by kernel_rfl)
        rw [e3] at h4
        simp only [putAll, dstOf, Option.bind_some, Act.put, List.getElem?_toArray, List.getElem?_cons_zero, List.getElem?_cons_succ, List.setIfInBounds_toArray, List.set_cons_zero, List.set_cons_succ]
        simp only [List.getElem?_toArray, List.getElem?_cons_zero, List.getElem?_cons_succ, Option.some.injEq] at ho
        subst ho
        refine ⟨.bool (pushB H L (leafL l)), fun w => ?_, ⟨_, rfl⟩, by simp [OfSp, upd]⟩
        go_simp
      case hstep =>
        intro i o hi0 hE ho vs w5 hb6 hp
        have hd0 := (hV4.up hb6).c0
        have hd1 := (hV4.up hb6).c1
        simp only [putAll, dstOf, Option.bind_some, Act.put, List.getElem?_toArray, List.getElem?_cons_zero, List.getElem?_cons_succ, List.setIfInBounds_toArray, List.set_cons_zero, List.set_cons_succ]
        rcases i with _ | _ | _ | _ | _ | _ | _ | i
        all_goals (first | (exfalso; omega; done) | (exfalso; simp at hE; done) | skip)
        all_goals simp only [List.getElem?_toArray, List.getElem?_cons_zero, List.getElem?_cons_succ, Option.some.injEq] at ho
        all_goals subst ho
        all_goals unfold Oper.wp
        · go_simp
          exact ⟨Below.refl _ _, by simp [OfSp, upd, valOf]⟩
        · go_simp
          exact ⟨Below.refl _ _, by simp [OfSp, upd, valOf]⟩
        · have h1 : vs 1 = _ := hp 1 (by kernel_rfl)
          go_simp
          refine (implLeafHash_any x l w5 (hxs.up hb6) (by omega) (hgI.below hgI.lt hb6) (hgG.below hgG.lt hb6)).mono ?_
          rintro e w6 ⟨u, rfl, hO, hbe⟩
          refine ⟨hbe, ?_⟩
          have := GOwn.b.2 (hO.mono hb6.size)
          simpa [OfSp, upd, valOf] using this
        · have h0 : vs 0 = _ := hp 0 (by kernel_rfl)
          have h2 : GOwn w5 wr.heap.size (5, vs 2, us (leafL l)) := hp 2 (by kernel_rfl)
          have H2 : Hid (Own 5 w5 wr.heap.size (vs 2) (leafL l)) := Lib.hid (GOwn.b.1 h2)
          clear h2
          go_simp
          refine (implStackPush_any _ (vs 2) H L (leafL l) w5 (HSK.out.up hb6) H2.out.sl (hgI.below hgI.lt hb6) (hgG.below hgG.lt hb6)).mono ?_
          rintro e w6 hf
          obtain ⟨A1, c1, A2, c2, us2, rfl, hv2, K⟩ := FreshKB.open hf
          refine ⟨K.bel, A1, c1, A2, c2, us2, ?_, hv2.out, ?_⟩
          · simp [upd, valOf]
          · have := (InvG.rws K).mono hb6.size
            simpa [InvF, segI, segS] using this
        · go_simp
          exact ⟨Below.refl _ _, by simp [OfSp, upd, valOf]⟩
        · have h4 : vs 4 = vs 3 := hp 4 (by kernel_rfl)
          obtain ⟨A1, c1, A2, c2, us2, e3, _, _⟩ : OfSp wr (.slice Ah H.length ch) (.slice As L.length cs) x l H L 3 w5 vs := hp 3 (by kernel_rfl)
          rw [e3] at h4
          go_simp
          exact ⟨Below.refl _ _, .slice A1 (psH H L (leafL l)).length c1, .slice A2 (psS H L (leafL l)).length c2, by simp [upd, e3], by simp [upd, valOf]⟩
      case hend =>
        intro vs w5 hb6 hp
        obtain ⟨A1, c1, A2, c2, us2, e3, hul2, hR2⟩ : OfSp wr (.slice Ah H.length ch) (.slice As L.length cs) x l H L 3 w5 vs := hp 3 (by omega)
        obtain ⟨a1, s1, e3', e5⟩ : ∃ a s, vs 3 = .tuple #[.agg #[a, s], .bool (pushB H L (leafL l))] ∧ vs 5 = .agg #[a, s] := hp 5 (by omega)
        have e6 : vs 6 = .bool (pushB H L (leafL l)) := hp 6 (by omega)
        rw [e3] at e3'
        simp only [Value.tuple.injEq, Array.mk.injEq, List.cons.injEq, Value.agg.injEq, and_true] at e3'
        obtain ⟨rfl, rfl⟩ := e3'
        have hV5 := hV4.up hb6
        have hd0 := hV5.c0
        have hd1 := hV5.c1
        have hf0 := hV5.f0
        have hf1 := hV5.f1
        clear hp e3
        simp only [putAll, dstOf, Option.bind_some, Act.put, List.getElem?_toArray, List.getElem?_cons_zero, List.getElem?_cons_succ, List.setIfInBounds_toArray, List.set_cons_zero, List.set_cons_succ]
        refine wpAny_one (i := 7) (by kernel_rfl) rfl rfl ?_
        unfold Oper.wp
        go_simp
        have hV6 : VarK ((w5.setCell ⟨w.heap.size + 1, 0, none⟩ (.slice A1 (psH H L (leafL l)).length c1)).setCell ⟨w.heap.size + 1, 1, none⟩ (.slice A2 (psS H L (leafL l)).length c2)) (w.heap.size + 1) (.slice A1 (psH H L (leafL l)).length c1) (.slice A2 (psS H L (leafL l)).length c2) := (hV5.set0 _).set1 _
        have hV26 : VarK ((w5.setCell ⟨w.heap.size + 1, 0, none⟩ (.slice A1 (psH H L (leafL l)).length c1)).setCell ⟨w.heap.size + 1, 1, none⟩ (.slice A2 (psS H L (leafL l)).length c2)) w.heap.size (.slice none 0 0) (.slice none 0 0) := ((HV2.out.up hb6).kept (grown_cell _ _ _ _) (by simp)).kept (grown_cell _ _ _ _) (by simp)
        have hR6 := (((hR2.cell (b := w.heap.size + 1) hszr 0 (.slice A1 (psH H L (leafL l)).length c1)).cell (b := w.heap.size + 1) hszr 1 (.slice A2 (psS H L (leafL l)).length c2))).mono (show w.heap.size + 2 ≤ wr.heap.size by omega)
        have hB6 : Below w.heap.size w ((w5.setCell ⟨w.heap.size + 1, 0, none⟩ (.slice A1 (psH H L (leafL l)).length c1)).setCell ⟨w.heap.size + 1, 1, none⟩ (.slice A2 (psS H L (leafL l)).length c2)) := ((hbel.trans (hb6.mono hbel.size)).setCell (p := ⟨w.heap.size + 1, 0, none⟩) (by simp) _).setCell (p := ⟨w.heap.size + 1, 1, none⟩) (by simp) _
        have HUL2 := Lib.hid hul2
        clear hd0 hd1 hf0 hf1 hV5 hR2 hul2 hb6
        generalize ((w5.setCell ⟨w.heap.size + 1, 0, none⟩ (.slice A1 (psH H L (leafL l)).length c1)).setCell ⟨w.heap.size + 1, 1, none⟩ (.slice A2 (psS H L (leafL l)).length c2)) = W6 at hV6 hV26 hR6 hB6 ⊢
        refine wpAny_one (i := 8) (by kernel_rfl) rfl rfl ?_
        unfold Oper.wp
        go_simp
        refine wpAny_done (by kernel_rfl) (NoPanic.normal ?_) _
        have hrc0 := hV26.c0
        have hrc1 := hV26.c1
        have hrf0 := hV26.f0
        have hrf1 := hV26.f1
        have HV6 := Lib.hid hV6
        have HV26 := Lib.hid hV26
        have HR6 := Lib.hid hR6
        have HB6 := Lib.hid hB6
        clear hV6 hV26 hR6 hB6 hV4 hc0 hc1
        cases hpb : pushB H L (leafL l) with
        | false =>
          have hskb := HNO.out hpb
          have HSKB := Lib.hid hskb
          clear hskb HNO HYES
          go_wp2
          refine bodyPost_ret (v := .tuple #[.agg #[.slice none 0 0, .slice none 0 0], .bool false]) (by simp [results, Tryd.results8, go_sem, hrc0, hrc1]) rfl ?_
          rw [skH_no HSKB.out, skS_no HSKB.out, HSKB.out]
          exact FreshKB.nil_ ((HB6.out.setCell (by simp) _).setCell (by simp) _)
        | true =>
          have HOK2 := Lib.hid (HYES.out hpb)
          have hs1 := HSUCC.out
          rw [← psH_yes hpb, ← psS_yes hpb] at hs1
          have HS1 := Lib.hid hs1
          clear hs1 HNO HYES hrc0 hrc1 hrf0 hrf1
          go_wp2
          go_roundw
          case rel =>
            refine ⟨k + 1, by omega, by go_num, HOK2.out, ?_⟩
            rw [HS1.out]
            exact ⟨A1, c1, A2, c2, us2, HV26.out, HV6.out, HUL2.out, HR6.out, HB6.out⟩
          case measure => simp [intOf]; omega
    · obtain rfl : k = M.length := by omega
      have hskb := skB_yes HOK.out
      have HSKB := Lib.hid hskb
      have hrc0 := HV2.out.c0
      have hrc1 := HV2.out.c1
      have hrf0 := HV2.out.f0
      have hrf1 := HV2.out.f1
      have hR7 := ((HR.out.cell (b := w.heap.size) (by omega) 0 (.slice Ah (stK M M.length).1.length ch)).cell (b := w.heap.size) (by omega) 1 (.slice As (stK M M.length).2.length cs)).mono (show w.heap.size ≤ w.heap.size + 2 by omega)
      have HR7 := Lib.hid (hR7.inv ((hbel.setCell (p := ⟨w.heap.size, 0, none⟩) (by simp) _).setCell (p := ⟨w.heap.size, 1, none⟩) (by simp) _))
      clear hskb hR7 hV4
      go_wp2
      refine bodyPost_ret (v := .tuple #[.agg #[.slice Ah (stK M M.length).1.length ch, .slice As (stK M M.length).2.length cs], .bool true]) (by simp [results, Tryd.results8, go_sem, hrc0, hrc1]) rfl ?_
      rw [skH_yes HSKB.out, skS_yes HSKB.out, HSKB.out]
      refine ⟨_, _, us1, rfl, HUL.out, ?_⟩
      have := HR7.out
      simpa [InvF, segI, segS] using this
end Go.Proofs.YtdoaikanaodefaaDoor
