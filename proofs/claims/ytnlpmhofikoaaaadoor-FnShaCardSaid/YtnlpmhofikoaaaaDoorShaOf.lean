/- The contracts of shaWordsOf and of ShaBlock, as the program has them. -/
import Derived.Test.YtnlpmhofikoaaaaDoorShaRound
namespace Go.Proofs.YtnlpmhofikoaaaaDoor
open Go.ChangeShapes Go.WideShapes Go.ChangeAt Go.RowKit

theorem results_cell_tmp {P : Program} {fn : Func} {p q : Tmp} {ty : TypeId} (h : fn.results = #[.cell p ty, .tmp q]) (tmps : Array Value) (w : World) (g : Nat) (t : TypeId) (cs : Array Value) (fr : Nat × Nat) (d : TypeDesc) (x : Value)
    (hp : tmps.getD p undef = .pointer (some ⟨g, 0, none⟩)) (hq : tmps.getD q undef = x) (hg : w.heap[g]? = some (.cells cs t fr))
    (hu : P.underlying ty = some d) (hd : (match d with | .struct _ | .array _ _ => true | _ => false) = true) (hi : (P.info? ty).map (·.size) = some cs.size) :
    (results fn tmps).run P w = .ok (.tuple #[.agg cs, x]) w := by
  have hp' : tmps[p]?.getD undef = .pointer (some ⟨g, 0, none⟩) := by simpa using hp
  have hq' : tmps[q]?.getD undef = x := by simpa using hq
  simp [results, h, hp', hq', asAddr, run_loadVar_row w g t ty cs fr d hg hu hd hi]
/-- What shaWordsOf returns: whether h is eight words, and these words if so. -/
def OfW (h : List Int) (w : World) (e : Ending) (w' : World) : Prop :=
  ∃ ws : List Nat, ws.length = 8 ∧ (hOk h → ws = h.map Int.toNat) ∧ e = .returned (.tuple #[.agg (cw ws), .bool (decide (hOk h))]) ∧ Below w.heap.size w w'
/-- The words behind k rounds. -/
def ofK (h : List Int) (k : Nat) : List Nat := (h.take k).map Int.toNat ++ List.replicate (8 - k) 0
theorem ofK_length {h : List Int} (hl : h.length = 8) {k : Nat} (hk : k ≤ 8) : (ofK h k).length = 8 := by simp [ofK, hl]; omega
theorem ofK_set {h : List Int} (hl : h.length = 8) {k : Nat} (hk : k < 8) (x : Nat) (hx : it h k = (x : Int)) : (ofK h k).set k x = ofK h (k + 1) := by
  have e : ((h.take k).map Int.toNat).length = k := by simp [hl]; omega
  have e2 : 8 - k = (8 - (k + 1)) + 1 := by omega
  have e3 : h[k]? = some (x : Int) := by
    rw [List.getElem?_eq_getElem (by omega)]
    congr 1
    rw [← hx]
    simp [it, List.getD_eq_getElem?_getD, List.getElem?_eq_getElem (show k < h.length by omega)]
  unfold ofK
  rw [List.set_append_right _ _ (by omega), e, Nat.sub_self, e2, List.replicate_succ, List.set_cons_zero, List.take_add_one, e3]
  simp
theorem ofK_full {h : List Int} (hl : h.length = 8) : ofK h 8 = h.map Int.toNat := by simp [ofK, List.take_of_length_le (Nat.le_of_eq hl)]
set_option maxRecDepth 100000 in
set_option maxHeartbeats 4000000 in
theorem shaWordsOf_any (v : Value) (h : List Int) (w : World) (hs : SlI w w.heap.size v h) (_hbig : h.length ≤ 4294967296) :
    Calls Tryd.prog 27 #[v] w (OfW h w) := by
  have hA0 : Arr 43 ((w.alloc (.cells (cw (List.replicate 8 0)) 43)).alloc (.cells (cw (List.replicate 8 0)) 43)) w.heap.size (List.replicate 8 0) := (arr_new _ w _).alloc _
  have hA1 : Arr 43 ((w.alloc (.cells (cw (List.replicate 8 0)) 43)).alloc (.cells (cw (List.replicate 8 0)) 43)) (w.heap.size + 1) (List.replicate 8 0) := by
    have e : (w.alloc (.cells (cw (List.replicate 8 0)) 43)).heap.size = w.heap.size + 1 := by simp
    rw [← e]
    exact arr_new _ _ _
  have hB1 : Below w.heap.size w ((w.alloc (.cells (cw (List.replicate 8 0)) 43)).alloc (.cells (cw (List.replicate 8 0)) 43)) := ((Below.refl _ _).alloc (Nat.le_refl _) _).alloc (by simp) _
  obtain ⟨A, c, rfl, h1, h2, h0, h3⟩ := hs
  unfold maxLen at h2
  clear h0
  by_cases hl : h.length = 8
  · obtain ⟨p, off, rfl, hpb, hcell⟩ := h3 (by omega)
    have HC := Lib.hid hcell
    have HL := Lib.hid hl
    rw [hl] at h1 ⊢
    clear h3 hcell hl
    go_enter Tryd.func27, Tryd.ntmps27
    go_wp2
    change Code.wp _ _ _ _ ((w.alloc (.cells (cw (List.replicate 8 0)) 43)).alloc (.cells (cw (List.replicate 8 0)) 43))
    generalize (w.alloc (.cells (cw (List.replicate 8 0)) 43)).alloc (.cells (cw (List.replicate 8 0)) 43) = w2 at hA0 hA1 hB1 ⊢
    go_loopw [13] (fun i wr => ∃ k : Nat, k ≤ 8 ∧ i = .int .i64 k ∧ (∀ j, j < k → 0 ≤ it h j ∧ it h j ≤ 4294967295) ∧ Arr 43 wr w.heap.size (List.replicate 8 0) ∧ Arr 43 wr (w.heap.size + 1) (ofK h k) ∧ Below w.heap.size w wr)
      (fun i _ => 8 - (intOf i).toNat)
    case atStart => exact ⟨0, Nat.zero_le _, rfl, fun j hj => absurd hj (Nat.not_lt_zero _), hA0, hA1, hB1⟩
    case round =>
      clear hA0 hA1 hB1
      obtain ⟨k, hk, rfl, hall, hA, hC, hbel⟩ := hrel
      have HALL := Lib.hid hall
      clear hall
      by_cases hlt : k < 8
      · have hlt8 : (k : Int) < 8 := by omega
        have hc0 := (hbel.cell (p := ⟨p, off + k, none⟩) hpb).trans (HC.out k (by rw [HL.out]; exact hlt))
        obtain ⟨x, hx⟩ : ∃ x, x = it h k := ⟨_, rfl⟩
        rw [← hx] at hc0
        have HX := Lib.hid hx
        clear hx
        by_cases hwd : 0 ≤ x ∧ x ≤ 4294967295
        · have hd : decide (0 ≤ x ∧ x ≤ 4294967295) = true := decide_eq_true hwd
          obtain ⟨y, hy⟩ := Int.eq_ofNat_of_zero_le hwd.1
          have hyl : y < 4294967296 := by omega
          have hof := ofK_set HL.out hlt y (by rw [← HX.out, hy])
          have hcc := hC.at k (by rw [ofK_length HL.out hk]; exact hlt)
          have hcf := hC.free k
          have hst := hC.set k y
          rw [hof] at hst
          have HST := Lib.hid hst
          have HA := Lib.hid (hA.beside (g' := w.heap.size + 1) k (.int .u32 (y : Int)) (by omega))
          have HALL' : Hid (∀ j, j < k + 1 → 0 ≤ it h j ∧ it h j ≤ 4294967295) := Lib.hid fun j hj => by
            by_cases e : j < k
            · exact HALL.out j e
            · obtain rfl : j = k := by omega
              rw [← HX.out]
              exact hwd
          rw [hy] at hc0 hd
          clear hst hof hwd hA hC
          go_wp2_with fail
          refine (isWord_any _ _).mono ?_
          rw [hd]
          clear hd
          rintro ev _ ⟨rfl, rfl⟩
          go_wp2
          go_roundw
          case rel => exact ⟨k + 1, by omega, by go_num, HALL'.out, HA.out, HST.out, hbel.setCell (Nat.le_succ _) _⟩
          case measure => simp [intOf]; omega
        · have hd : decide (0 ≤ x ∧ x ≤ 4294967295) = false := decide_eq_false hwd
          have hno : ¬ hOk h := fun e => hwd (by
            rw [HX.out, it, List.getD_eq_getElem?_getD, List.getElem?_eq_getElem (show k < h.length by rw [e.1]; exact hlt)]
            exact e.2 _ (List.getElem_mem _))
          clear hwd hC
          go_wp2_with fail
          refine (isWord_any _ _).mono ?_
          rw [hd]
          clear hd
          rintro ev _ ⟨rfl, rfl⟩
          go_wp2_with (refine wpList_store_row rfl _ _ _ rfl w.heap.size (cw (List.replicate 8 0)) rfl rfl _ _ hA (wSize rfl) rfl (cw_cell _) ?_)
          exact bodyPost_ret (results_cell_tmp rfl _ _ w.heap.size _ (cw (List.replicate 8 0)) (0, 0) _ (.bool false) rfl rfl (setRow_heap wr w.heap.size _ _ _ _ hA) wDesc rfl (wSize rfl)) rfl
            ⟨List.replicate 8 0, rfl, fun e => absurd e hno, by rw [decide_eq_false hno], hbel.trans (setRow_below (Nat.le_refl _))⟩
      · have hk8 : k = 8 := by omega
        have hki : (k : Int) = 8 := by omega
        rw [hki]
        rw [hk8, ofK_full HL.out] at hC
        have hyes : hOk h := ⟨HL.out, fun x hx => by
          obtain ⟨j, hj, rfl⟩ := List.mem_iff_getElem.1 hx
          have := HALL.out j (by rw [HL.out] at hj; omega)
          simpa [it, List.getD_eq_getElem?_getD, List.getElem?_eq_getElem hj] using this⟩
        have hlw : (h.map Int.toNat).length = 8 := by rw [List.length_map, HL.out]
        have hsz := wSize hlw
        obtain ⟨ws, hws⟩ : ∃ ws, ws = h.map Int.toNat := ⟨_, rfl⟩
        rw [← hws] at hC hlw hsz
        have HW := Lib.hid hws
        have HY := Lib.hid hyes
        have hs2 : (cw (List.replicate 8 0)).size = (cw ws).size := by rw [cw_size, cw_size, hlw]; rfl
        have HLW := Lib.hid hlw
        clear hk hk8 hki hlt hws hyes hlw
        go_wp2_with (first
          | (refine wpList_load_row rfl _ _ rfl (w.heap.size + 1) rfl _ _ _ _ hC wDesc rfl hsz ?_)
          | (refine wpList_store_row rfl _ _ _ rfl w.heap.size (cw ws) rfl rfl _ _ hA hsz hs2 (cw_cell _) ?_))
        exact bodyPost_ret (results_cell_tmp rfl _ _ w.heap.size _ (cw ws) (0, 0) _ (.bool true) rfl rfl (setRow_heap wr w.heap.size _ _ _ _ hA) wDesc rfl hsz) rfl
          ⟨ws, HLW.out, fun _ => HW.out, by rw [decide_eq_true HY.out], hbel.trans (setRow_below (Nat.le_refl _))⟩
  · have hno : ¬ hOk h := fun e => hl e.1
    have hl' : ((h.length : Int) != 8) = true := by simp; omega
    have HNO := Lib.hid hno
    clear hno hl h3
    go_enter Tryd.func27, Tryd.ntmps27
    go_wp2
    exact bodyPost_ret (results_cell_tmp rfl _ _ w.heap.size _ (cw (List.replicate 8 0)) (0, 0) _ (.bool false) rfl rfl hA0 wDesc rfl (wSize rfl)) rfl
      ⟨List.replicate 8 0, rfl, fun e => absurd e HNO.out, by rw [decide_eq_false HNO.out], hB1⟩
theorem ownsI_nil (E : TypeId) (w : World) (B : Nat) : OwnI E w B (.slice none 0 0) [] := World.ownsRow_nil _ _ _ _
theorem shaBlockL_yes {h : List Int} {b : List UInt8} (ho : hOk h) (hb : b.length = 64) : shaBlockL h b = wi (blockW (h.map Int.toNat) b) := if_pos ⟨ho, hb⟩
theorem shaBlockL_no {h : List Int} {b : List UInt8} (ho : ¬ (hOk h ∧ b.length = 64)) : shaBlockL h b = [] := if_neg ho
set_option maxRecDepth 100000 in
set_option maxHeartbeats 4000000 in
theorem implShaBlock_any (v u : Value) (h : List Int) (b : List UInt8) (w : World) (hs : SlI w w.heap.size v h) (hs' : Sl w w.heap.size u b) (hbig : h.length ≤ 4294967296) (_hbig' : b.length ≤ 4294967296)
    (hG : Glob w 1 kk) :
    Calls Tryd.prog 10 #[v, u] w (FreshI w (shaBlockL h b)) := by
  have hsb := hs'
  obtain ⟨A', c', rfl, h1', h2', h0', h3'⟩ := hs'
  unfold maxLen at h2'
  clear h0' h3'
  obtain ⟨L, hL⟩ : ∃ L, L = shaBlockL h b := ⟨_, rfl⟩
  rw [← hL]
  have HL := Lib.hid hL
  clear hL
  by_cases ho : hOk h
  · by_cases hb : b.length = 64
    · rw [hb] at h1' hsb ⊢
      have HB := Lib.hid hb
      have HO := Lib.hid ho
      clear hb ho
      go_enter Tryd.func10, Tryd.ntmps10
      go_wp2_with fail
      refine (shaWordsOf_any _ h _ hs hbig).mono ?_
      rintro ev w1 ⟨ws, hl, hws, rfl, hb1⟩
      rw [decide_eq_true HO.out]
      have hws' := hws HO.out
      have HW := Lib.hid hws'
      have hwd : Words ws := by rw [hws']; exact (wi_toNat HO.out).2
      have HLN := Lib.hid hl
      have hsz := wSize hl
      have hZ : Arr 43 (w1.alloc (.cells (cw (List.replicate 8 0)) 43)) w1.heap.size (List.replicate 8 0) := arr_new _ w1 _
      have hs2 : (cw (List.replicate 8 0)).size = (cw ws).size := by rw [cw_size, cw_size, hl]; rfl
      clear hws hws' hl
      go_wp2_with (refine wpList_store_row rfl _ _ _ rfl w1.heap.size (cw ws) rfl rfl _ _ hZ hsz hs2 (cw_cell _) ?_)
      change Calls _ _ _ ((w1.alloc (.cells (cw (List.replicate 8 0)) 43)).setRow w1.heap.size (cw ws)) _
      have hW2 : Arr 43 ((w1.alloc (.cells (cw (List.replicate 8 0)) 43)).setRow w1.heap.size (cw ws)) w1.heap.size ws := setRow_heap _ _ _ _ _ _ hZ
      have hb2 : Below w.heap.size w ((w1.alloc (.cells (cw (List.replicate 8 0)) 43)).setRow w1.heap.size (cw ws)) := (hb1.alloc hb1.size _).trans (setRow_below hb1.size)
      have hg1 := hb1.size
      generalize (w1.alloc (.cells (cw (List.replicate 8 0)) 43)).setRow w1.heap.size (cw ws) = w2 at hW2 hb2 ⊢
      refine (compress_any w1.heap.size ws _ b w2 hW2 HLN.out hwd (hsb.up hb2) HB.out (hG.below hG.lt hb2)).mono ?_
      rintro ev w3 ⟨rfl, hW3, hg3⟩
      have hb3 : Below w.heap.size w w3 := hb2.grown hg3 hb2.size (by rintro k hk; cases hk; exact hg1)
      have hfin : wi (blockW ws b) = L := by rw [HL.out, shaBlockL_yes HO.out HB.out, HW.out]
      have hzl := blockW_length b HLN.out
      have hzw := blockW_words ws b
      have HF := Lib.hid hfin
      have hszz := wSize hzl
      clear hW2 hb2 hg3 hfin
      generalize blockW ws b = z at hW3 hzl hzw hszz HF
      have HZL := Lib.hid hzl
      clear hzl
      go_wp2_with (refine wpList_load_row rfl _ _ rfl w1.heap.size rfl _ _ _ _ hW3 wDesc rfl hszz ?_)
      refine (ints_any z HZL.out hzw w3).mono ?_
      rintro ev w4 ⟨v4, rfl, hown, hb4⟩
      rw [HF.out] at hown
      go_wp2
      go_ret
      exact ⟨_, rfl, hown.mono hb3.size, hb3.trans (hb4.mono hb3.size)⟩
    · have e : L = [] := by rw [HL.out, shaBlockL_no fun x => hb x.2]
      subst e
      have hne : ((b.length : Int) != 64) = true := by simp; omega
      have HO := Lib.hid ho
      clear hb ho HL
      go_enter Tryd.func10, Tryd.ntmps10
      go_wp2_with fail
      refine (shaWordsOf_any _ h _ hs hbig).mono ?_
      rintro ev w1 ⟨ws, hl, hws, rfl, hb1⟩
      rw [decide_eq_true HO.out]
      have hsz := wSize hl
      have hZ : Arr 43 (w1.alloc (.cells (cw (List.replicate 8 0)) 43)) w1.heap.size (List.replicate 8 0) := arr_new _ w1 _
      have hs2 : (cw (List.replicate 8 0)).size = (cw ws).size := by rw [cw_size, cw_size, hl]; rfl
      clear hws hl
      go_wp2_with (refine wpList_store_row rfl _ _ _ rfl w1.heap.size (cw ws) rfl rfl _ _ hZ hsz hs2 (cw_cell _) ?_)
      go_ret
      exact ⟨_, rfl, ownsI_nil _ _ _, (hb1.alloc hb1.size _).trans (setRow_below hb1.size)⟩
  · have e : L = [] := by rw [HL.out, shaBlockL_no fun x => ho x.1]
    subst e
    have HO := Lib.hid ho
    clear ho HL
    go_enter Tryd.func10, Tryd.ntmps10
    go_wp2_with fail
    refine (shaWordsOf_any _ h _ hs hbig).mono ?_
    rintro ev w1 ⟨ws, hl, hws, rfl, hb1⟩
    rw [decide_eq_false HO.out]
    have hsz := wSize hl
    have hZ : Arr 43 (w1.alloc (.cells (cw (List.replicate 8 0)) 43)) w1.heap.size (List.replicate 8 0) := arr_new _ w1 _
    have hs2 : (cw (List.replicate 8 0)).size = (cw ws).size := by rw [cw_size, cw_size, hl]; rfl
    clear hws hl
    go_wp2_with (refine wpList_store_row rfl _ _ _ rfl w1.heap.size (cw ws) rfl rfl _ _ hZ hsz hs2 (cw_cell _) ?_)
    go_ret
    exact ⟨_, rfl, ownsI_nil _ _ _, (hb1.alloc hb1.size _).trans (setRow_below hb1.size)⟩
end Go.Proofs.YtnlpmhofikoaaaaDoor
