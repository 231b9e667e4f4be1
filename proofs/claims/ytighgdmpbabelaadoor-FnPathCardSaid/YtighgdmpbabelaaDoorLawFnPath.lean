import Derived.Test.YtighgdmpbabelaaDoorSSBase
import Derived.Test.YtighgdmpbabelaaDoorCur
import Derived.Test.YtighgdmpbabelaaDoorPathOf
import Derived.Test.YtighgdmpbabelaaDoorPathOk
/- Lists of byte strings that a draw makes: l06List, l08List, MakeList; and 'append([][]byte{}, l...)'. -/
namespace Go.Proofs.YtighgdmpbabelaaDoor
open Go.ChangeShapes Go.WideShapes Go.ChangeAt Go.RowKit

/-- 'append(out, x...)' inside a region that draws, out empty and the call's own, x a slice of slices that was there. -/
theorem step_appSS {P : Program} {W w : World} {ops : Array Oper} {o : Oper} {a : Act} {K : Act → World → Prop} {Q : Exit → Act → World → Prop} {F : Prop} (hwt : Region.wanted o (yielded ops a.tmps) = true) (s x : Operand) (t : TypeId)
    (ho : o.op = .call { callee := .builtin .append, args := #[s, x], argTypes := #[t, t] }) (E : TypeId) (i : TypeInfo) (ht : P.underlying t = some (.slice E)) (hi : P.info? E = some i)
    (hz : i.zero = some (.slice none 0 0)) (hsize : i.size = 1) (hby : i.bytes = 24) (v : Value) (hs : a.eval s = v) (u : Value) (L : List (List UInt8))
    (hx : a.eval x = u) (hm : SlS W W.heap.size u L) (hown : w.ownsRow W.heap.size E 1 v 0 []) (hb : Below W.heap.size W w) (hp : 0 < L.length) (hlen : L.length ≤ 1073741824)
    (h : ∀ v' w', SlS w' w'.heap.size v' L → Below W.heap.size W w' → K (a.put o.dst v') w') :
    if Region.wanted o (yielded ops a.tmps) = true then Oper.wp P o a w K Q else F := by
  rw [if_pos hwt]
  obtain ⟨A, c, rfl, h1, h2, h0, h3⟩ := hm
  obtain ⟨b, off, rfl, hbb, hcell⟩ := h3 hp
  obtain ⟨vs, hvl, hv⟩ := named (P := fun k y => W.cell? ⟨b, off + k, none⟩ = some y ∧ Sl W W.heap.size y (L.getD k [])) L.length hcell
  have hadd : ∀ k, (⟨b, off, none⟩ : Addr).add k = ⟨b, off + k, none⟩ := fun k => by
    unfold Addr.add
    split
    · rename_i h0; subst h0; rfl
    · rfl
  refine wp_append_own _ s x t ho W.heap.size E i (.slice none 0 0) 1 24 ht hi hz hsize hby rfl (by omega) v 0 [] hs hown ⟨b, off, none⟩ L.length c vs hx (by omega) ?_ ?_ (by unfold maxLen; omega) (by omega) hb.size ?_
  · intro j y hj
    rw [hadd]
    exact (hb.cell (p := ⟨b, off + j, none⟩) hbb).trans (hv j y hj).1
  · intro y hy
    obtain ⟨j, hj, he⟩ := List.mem_iff_getElem.1 hy
    exact (hv j y (by rw [List.getElem?_eq_getElem hj, he])).2.one
  · intro v' w' k1 k2 _
    have hb' : Below W.heap.size W w' := hb.grown k2 hb.size fun k hk => (World.ownsRow.lt hown k hk).1
    have hG : GOwn w' W.heap.size (E, v', vs) := by
      unfold GOwn
      simp only
      rw [hvl]
      simpa using k1
    obtain ⟨A', c', rfl, j1, j2, j0, j3⟩ := hG.cells
    rw [hvl] at j1 j3
    refine h _ w' ⟨A', c', by rw [hvl], j1, j2, j0, fun hp' => ?_⟩ hb'
    obtain ⟨g, rfl, hg, hc⟩ := j3 hp'
    refine ⟨g, 0, rfl, hg, fun k hk => ?_⟩
    have hvk : vs[k]? = some (vs.getD k (.bool false)) := getD_at vs k (.bool false) (by omega)
    exact ⟨vs.getD k (.bool false), by rw [Nat.zero_add, hc k hk, hvk], (hv k _ hvk).2.up hb'⟩

/-- A list has been drawn: its rows lie behind w's memory. -/
def DrewList (w : World) (B g : Nat) (l : List UInt8) (most bulk : Nat) (L : List (List UInt8)) (u : Value) (vs : List Value) (w' : World) : Prop :=
  vs.length = L.length ∧ L.length ≤ most ∧ sumL L ≤ bulk ∧ Rws w.heap.size w' ((22, u, vs) :: rowsS 5 vs L) ∧ Cur w' B g l ∧ w.grownBy w' (some g)

/-- The rows with one more. -/
theorem rws_snoc {B : Nat} {w : World} {E2 E : TypeId} {u x : Value} {vs : List Value} {L : List (List UInt8)} {t : List UInt8} (hv : vs.length = L.length) (H : Rws B w ((E2, u, vs ++ [x]) :: (E, x, us t) :: rowsS E vs L)) :
    Rws B w ((E2, u, vs ++ [x]) :: rowsS E (vs ++ [x]) (L ++ [t])) := by
  rw [rowsS_snoc E vs L x t hv]
  exact H.perm (List.Perm.cons _ (List.perm_append_singleton _ _).symm)

set_option maxHeartbeats 2000000 in
theorem l06List_any (B g most : Nat) (l : List UInt8) (w : World) (h : Cur w B g l) (hl : l.length ≤ 4294967296) (hn : most ≤ 1000) :
    Calls Tryd.prog 53 #[.pointer (some ⟨g, 0, none⟩), .int .i64 (most : Int)] w (fun e w' => ∃ L u vs, e = .returned u ∧ DrewList w B g l most (4 * most) L u vs w') := by
  obtain ⟨i0, hi, hz0, hz1, hz2⟩ := info_parts sbinfo
  have hlt0 : g < w.heap.size := h.2.1
  have hBg : B ≤ g := h.1
  have hg0 : w.grownBy (w.alloc (.cells #[] 22)) none := World.grownBy_alloc w _ _
  have hR0 : Rws w.heap.size (w.alloc (.cells #[] 22)) [(22, .slice (some ⟨w.heap.size, 0, none⟩) 0 0, [])] :=
    Rws.more (rs := []) (w := w) Rws.nil_ (World.ownsRow_lit w #[] 0 (Nat.le_refl _) (by simp [maxLen]) rfl) (Nat.le_refl _) hg0 (fun j e => by cases e)
  have hC0 : Cur (w.alloc (.cells #[] 22)) B g l := h.kept hg0 (by simp) (by simp)
  go_enter Tryd.func53, Tryd.ntmps53
  go_wp2_with fail
  refine (l01Below_any B g l ((most : Int) + 1) _ hC0 hl (by omega) (by omega)).mono ?_
  rintro e w1 ⟨m, rfl, hm0, hm1, hC1, hg1⟩
  have hgw : w.grownBy w1 (some g) := gtrans (World.grownBy_alloc w _ _) hg1
  have hR1 := hR0.kept hg1 (fun j e => by injection e with e; omega)
  clear hg0 hR0 hC0 hg1
  go_wp2
  go_loopw [5, 6] (fun b n wr => ∃ (L : List (List UInt8)) (vs : List Value) (k : Nat), n = .int .i64 k ∧ L.length + k ≤ most ∧ DrewList w B g l most (4 * L.length) L b vs wr)
    (fun _ n _ => (intOf n).toNat)
  case atStart =>
    obtain ⟨k, rfl⟩ := Int.eq_ofNat_of_zero_le hm0
    exact ⟨[], [], k, rfl, by simp; omega, rfl, by simp, by simp [sumL], hR1, hC1, hgw⟩
  case round =>
    clear hR1 hC1 hgw
    obtain ⟨L, vs, k, rfl, hLk, hvl, hLm, hLs, hR, hC, hgr⟩ := hrel
    have hle : w.heap.size ≤ wr.heap.size := hgr.size
    have Hvl := Lib.hid hvl
    have HLs := Lib.hid hLs
    have HLk := Lib.hid hLk
    have hv4 : vs.length ≤ 1000 := by omega
    have hk4 : k ≤ 1000 := by omega
    clear hvl hLs hLm hLk
    by_cases hk : 0 < k
    · have hk' : (0 : Int) < (k : Int) := by omega
      go_wp2_with fail
      refine (l01Bytes_any B g l 4 _ hC hl (by omega) (by omega)).mono ?_
      rintro e w2 ⟨x, t, rfl, ht, ho2, hC2, hg2⟩
      have hR2 := Rws.more hR (GOwn.b.2 ho2) hle hg2 (fun j e => by injection e with e; omega)
      have hR3 := hR2.perm (List.Perm.swap _ _ _)
      have hbl := (hR3.1 _ (.head _)).lt
      simp only at hbl
      obtain ⟨A3, c3, rfl, m1, m2, m0, m3⟩ := ho2.sl
      clear m0 m1 m2 m3 hR hR2 ho2
      have hB2 : w.heap.size ≤ w2.heap.size := Nat.le_trans hle hg2.size
      go_wp2_with (at_builtin; refine wpList_appS1 (w := w2) rfl _ _ 23 rfl 22 i0 Tryd.underlying23 hi hz0 hz1 hz2 w.heap.size _ vs (by rfl) (.slice A3 t.length c3) rfl rfl hB2 hR3 (by omega) ?_; intro v4 w4 hR4 hg4)
      go_roundw
      case rel =>
        refine ⟨L ++ [t], vs ++ [.slice A3 t.length c3], k - 1, by go_num, ?_, ?_, ?_, ?_, rws_snoc Hvl.out hR4, ?_, ?_⟩
        · have := HLk.out; simp; omega
        · have := Hvl.out; simp; omega
        · have := HLk.out; simp; omega
        · have := HLs.out; rw [sumL_app]; simp [sumL]; omega
        · exact hC2.kept hg4 (fun e => by have := (hbl g e).1; omega) (fun j e => by have := (hbl j e).1; omega)
        · exact gand (gtrans hgr hg2) hg4 (fun j e => (hbl j e).1)
      case measure => simp [intOf]; omega
    · obtain rfl : k = 0 := by omega
      go_wp2
      go_ret
      exact ⟨L, _, vs, rfl, Hvl.out, by have := HLk.out; omega, by have := HLs.out; have := HLk.out; omega, hR, hC, hgr⟩

set_option maxHeartbeats 2000000 in
theorem l08List_any (B g : Nat) (l : List UInt8) (w : World) (h : Cur w B g l) (hl : l.length ≤ 4294967296) :
    Calls Tryd.prog 28 #[.pointer (some ⟨g, 0, none⟩)] w (fun e w' => ∃ L u vs x, e = .returned (.tuple #[u, .int .i64 x]) ∧ 0 ≤ x ∧ x < L.length ∧ DrewList w B g l 9 35 L u vs w') := by
  obtain ⟨i0, hi, hz0, hz1, hz2⟩ := info_parts sbinfo
  have hlt0 : g < w.heap.size := h.2.1
  have hBg : B ≤ g := h.1
  go_enter Tryd.func28, Tryd.ntmps28
  go_wp2_with fail
  refine (l06List_any B g 8 l _ h hl (by omega)).mono ?_
  rintro e w1 ⟨L, u, vs, rfl, hvl, hLm, hLs, hR, hC, hgr⟩
  have hle : w.heap.size ≤ w1.heap.size := hgr.size
  go_wp2_with fail
  refine (l01Bytes_any B g l 3 _ hC hl (by omega) (by omega)).mono ?_
  rintro e w2 ⟨x, t, rfl, ht, ho2, hC2, hg2⟩
  have hR2 := Rws.more hR (GOwn.b.2 ho2) hle hg2 (fun j e => by injection e with e; omega)
  have hR3 := hR2.perm (List.Perm.swap _ _ _)
  have hbl := (hR3.1 _ (.head _)).lt
  simp only at hbl
  obtain ⟨A3, c3, rfl, m1, m2, m0, m3⟩ := ho2.sl
  clear m0 m1 m2 m3 hR hR2 ho2
  have hB2 : w.heap.size ≤ w2.heap.size := Nat.le_trans hle hg2.size
  have hv4 : vs.length ≤ 1000 := by omega
  have Hvl := Lib.hid hvl
  obtain ⟨M, hM⟩ : ∃ M, M = L ++ [t] := ⟨_, rfl⟩
  have HM := Lib.hid hM
  have hln : (vs ++ [Value.slice A3 t.length c3]).length = M.length := by rw [hM]; simp [hvl]
  have hn9 : M.length ≤ 9 := by rw [hM]; simp; omega
  have hn1 : 0 < M.length := by rw [hM]; simp
  have hs9 : sumL M ≤ 35 := by rw [hM, sumL_app]; simp [sumL]; omega
  have Hln := Lib.hid hln
  clear hvl hM hln
  go_wp2_with (at_builtin; refine wpList_appS1 (w := w2) rfl _ _ 23 rfl 22 i0 Tryd.underlying23 hi hz0 hz1 hz2 w.heap.size _ vs (by rfl) (.slice A3 t.length c3) rfl rfl hB2 hR3 (by omega) ?_; intro v4 w4 hR4 hg4; obtain ⟨A4, c4, e4, n1, n2, n0, n3⟩ := (hR4.1 _ (.head _)).cells; subst e4; rw [Hln.out] at n1 ⊢; unfold maxLen at n2; clear n0 n3)
  have hC4 := hC2.kept hg4 (fun e => by have := (hbl g e).1; omega) (fun j e => by have := (hbl j e).1; omega)
  have hg5 := gand (gtrans hgr hg2) hg4 (fun j e => (hbl j e).1)
  have hR5 := rws_snoc Hvl.out hR4
  rw [← HM.out, Hln.out] at hR5
  clear hR4 hR3
  refine (l01Below_any B g l (M.length : Int) _ hC4 hl (by omega) (by omega)).mono ?_
  rintro e w6 ⟨y, rfl, hy0, hy1, hC6, hg6⟩
  go_wp2
  go_ret2
  exact ⟨M, _, _, y, rfl, hy0, hy1, Hln.out, hn9, hs9, hR5.kept hg6 (fun j e => by injection e with e; omega), hC6, gtrans hg5 hg6⟩

set_option maxHeartbeats 2000000 in
theorem MakeList_any (v : Value) (l : List UInt8) (w : World) (h : Sl w w.heap.size v l) (hl : l.length ≤ 1073741824) :
    Calls Tryd.prog 7 #[v] w (fun e w' => ∃ L u vs, e = .returned u ∧ vs.length = L.length ∧ 0 < L.length ∧ L.length ≤ 9 ∧ sumL L ≤ 35 ∧ InvG w w' (segS 22 5 u vs L)) := by
  go_enter Tryd.func7, Tryd.ntmps7
  go_wp2_with fail
  refine (l01New_any v l _ h hl).mono ?_
  rintro e w1 ⟨g, rfl, hC, hb1⟩
  go_wp2_with fail
  refine (l08List_any _ g l _ hC (by omega)).mono ?_
  rintro e w2 ⟨L, u, vs, x, rfl, hx0, hx1, hvl, hLm, hLs, hR, hC2, hg2⟩
  have Hvl := Lib.hid hvl
  clear hvl
  go_wp2
  go_ret
  have hb2 : Below w.heap.size w w2 := hb1.grown hg2 hb1.size (fun k e => by injection e with e; have := hC.1; omega)
  exact ⟨L, u, vs, rfl, Hvl.out, by omega, hLm, hLs, hb2, fun p hp => (hR.1 p hp).mono hb1.size, hR.2⟩
end Go.Proofs.YtighgdmpbabelaaDoor
/- The walk of the law FnPath: for every argument the law answers true and leaves all memory that was there as it was. -/
namespace Go.Proofs.YtighgdmpbabelaaDoor
open Go.ChangeShapes Go.WideShapes Go.ChangeAt Go.RowKit

section
variable {L : List (List UInt8)} {k : Nat}
theorem ofP_path (h : k < L.length) : ofP L (k : Int) = pathL L k := by
  unfold ofP
  rw [leafB_yes (by omega), if_pos rfl]
  rfl
theorem plenZ_path (h : k < L.length) (hL : L.length ≤ 1048576) : plenZ (k : Int) (L.length : Int) = ((pathL L k).length : Int) := by
  unfold plenZ
  rw [if_pos (pathB_yes (by omega)), pathL_length]
  rfl
theorem rootB_path (h : k < L.length) (hL : L.length ≤ 1048576) : rootB (leafL (L.getD k [])) (k : Int) (L.length : Int) (pathL L k) = true :=
  rootB_yes ⟨leafL_length _, pathB_yes (by omega), (plenZ_path h hL).symm, all32_of (pathL_32 L k)⟩
theorem rootP_path (h : k < L.length) (hL : L.length ≤ 1048576) : rootP (leafL (L.getD k [])) (k : Int) (L.length : Int) (pathL L k) = treeL L := by
  unfold rootP
  rw [rootB_path h hL, if_pos rfl]
  exact rootR_path L.length L k (Nat.le_refl _) h
theorem leadsB_path (h : k < L.length) (hL : L.length ≤ 1048576) : leadsB (L.getD k []) (k : Int) (L.length : Int) (pathL L k) (treeL L) = true := by
  unfold leadsB
  rw [rootB_path h hL, rootP_path h hL]
  simp
end

set_option maxRecDepth 100000 in
set_option maxHeartbeats 8000000 in
theorem FnPath_walk (v0 : Value) (l0 : List UInt8) (W : World) (h0 : Sl W W.heap.size v0 l0)
    (hgI : Glob W 0 initW) (hg : Glob W 1 kk) :
    Calls Tryd.prog 3 #[v0] W (Yes W) := by
  have hs0 := h0
  obtain ⟨A0, c0, rfl, p0, q0, r0, z0⟩ := h0
  unfold maxLen at q0
  clear r0 z0
  by_cases hbig0 : 1048576 < l0.length
  · have hb : (1048576 : Int) < (l0.length : Int) := by omega
    go_enter Tryd.func3, Tryd.ntmps3
    go_wp2
    go_ret
    exact ⟨rfl, Below.refl _ _⟩
  have hb0 : ¬ ((1048576 : Int) < (l0.length : Int)) := by omega
  go_enter Tryd.func3, Tryd.ntmps3
  go_wp2_with fail
  refine (MakeList_any _ l0 _ hs0 (by omega)).mono ?_
  rintro e w1 ⟨L, u, vs, rfl, hvl, hL0, hL9, hLs, K⟩
  have hb1 := K.bel
  have hS : SlS w1 w1.heap.size u L := ((InvF.start W).more K).slS 22 5 hvl (.head _)
  have hI1 := hgI.below hgI.lt hb1
  have hG1 := hg.below hg.lt hb1
  clear hvl K p0 q0 hb0 hs0 hgI hg
  have HS := Lib.hid hS
  have HG := Lib.hid (And.intro hI1 hG1)
  have HLS : Hid (sumL L ≤ 1073741000 ∧ L.length ≤ 1048576 ∧ L.length ≤ 1073741824) := Lib.hid ⟨by omega, by omega, by omega⟩
  have HB1 := Lib.hid hb1
  obtain ⟨A, c, rfl, h1, h2, k0, h3⟩ := hS
  unfold maxLen at h2
  obtain ⟨b, off, rfl, hbb, hcell⟩ := h3 hL0
  have HCELL := Lib.hid hcell
  clear k0 h3 hI1 hG1 hLs hb1 hcell
  go_wp2_with fail
  refine (implTreeRoot_any _ L w1 HS.out HLS.out.1 HLS.out.2.2 HG.out.1 HG.out.2).mono ?_
  rintro e w2 ⟨v4, rfl, ho4, hb2⟩
  have HUP : Hid (∀ w, Below w2.heap.size w2 w → SlS w w.heap.size (.slice (some ⟨b, off, none⟩) L.length c) L ∧ Sl w w.heap.size v4 (treeL L) ∧ Glob w 0 initW ∧ Glob w 1 kk ∧ Below W.heap.size W w ∧
      ∀ k, k < L.length → ∃ x, w.cell? ⟨b, off + k, none⟩ = some x ∧ Sl w w.heap.size x (L.getD k [])) := Lib.hid fun w hb => by
    have h12 := hb2.trans (hb.mono hb2.size)
    refine ⟨HS.out.up h12, ho4.sl.up hb, HG.out.1.up h12, HG.out.2.up h12, HB1.out.trans (h12.mono HB1.out.size), fun k hk => ?_⟩
    obtain ⟨x, hx0, hx⟩ := HCELL.out k hk
    exact ⟨x, (h12.cell (p := ⟨b, off + k, none⟩) hbb).trans hx0, hx.up h12⟩
  clear HS HG HB1 HCELL ho4 hb2
  go_wp2
  go_loopw [22] (fun i wr => ∃ k : Nat, k ≤ L.length ∧ i = .int .i64 k ∧ Below w2.heap.size w2 wr)
    (fun i _ => L.length - (intOf i).toNat)
  case atStart => exact ⟨0, Nat.zero_le _, rfl, Below.refl _ _⟩
  case round =>
    obtain ⟨k, hk, rfl, hbr⟩ := hrel
    by_cases hlt : k < L.length
    · have hklt : (k : Int) < (L.length : Int) := by omega
      obtain ⟨xv, hx0, hx⟩ := (HUP.out wr hbr).2.2.2.2.2 k hlt
      have HX := Lib.hid hx
      have hlf : leafB (k : Int) (L.length : Int) = true := leafB_yes (by omega)
      have hsum := sumL_one L k hlt
      have HPO := Lib.hid (fun v w h1 h2 h3 => implPathOf_any v L (k : Int) w h1 HLS.out.2.1 HLS.out.1 h2 h3)
      rw [hlf, ofP_path hlt] at HPO
      have HYS : Hid ((L.getD k []).length ≤ 1073741000) := Lib.hid (by have := HLS.out.1; omega)
      have HPR := Lib.hid (fun u v w h1 h2 h3 h4 => implPathRoot_any u v (leafL (L.getD k [])) (k : Int) (L.length : Int) (pathL L k) w h1 h2 h3 h4)
      rw [rootB_path hlt HLS.out.2.1, rootP_path hlt HLS.out.2.1] at HPR
      have HPL := Lib.hid (fun w => implPathLen_any (k : Int) (L.length : Int) w)
      rw [plenZ_path hlt HLS.out.2.1] at HPL
      have HPK := Lib.hid (fun u v z w h1 h2 h3 h4 h5 => implPathOk_any u v z (L.getD k []) (k : Int) (L.length : Int) (pathL L k) (treeL L) w h1 h2 h3 HYS.out h4 h5)
      rw [leadsB_path hlt HLS.out.2.1] at HPK
      have HPS : Hid (∀ w w', Below w.heap.size w w' → ∀ v, SlS w w.heap.size v (pathL L k) → SlS w' w'.heap.size v (pathL L k)) := Lib.hid fun w w' hb v h => h.up hb
      generalize L.getD k [] = y at HX HYS HPR HPK
      generalize pathL L k = P at HPO HPR HPL HPK HPS
      have HLH := Lib.hid (fun v w h1 h2 h3 => implLeafHash_any v y w h1 HYS.out h2 h3)
      generalize leafL y = ly at HPR HLH
      clear hx hlf hsum
      have HBR := Lib.hid hbr
      go_wp2_with fail
      refine (HPO.out _ wr (HUP.out wr hbr).1 (HUP.out wr hbr).2.2.1 (HUP.out wr hbr).2.2.2.1).mono ?_
      rintro e w5 ⟨u5, vs5, rfl, hv5, K5⟩
      have hp5 : SlS w5 w5.heap.size u5 P := InvG.slS K5 5 22 hv5 (.head _) (fun _ hp => .tail _ hp)
      have hb5 := hbr.trans (K5.bel.mono hbr.size)
      have HX5 := Lib.hid (HX.out.up K5.bel)
      have HP5 := Lib.hid hp5
      obtain ⟨A5, c5, rfl, m1, m2, m0, m3⟩ := hp5
      clear hv5 K5 m0 m3 HX HPO
      unfold maxLen at m2
      go_wp2_with fail
      refine (HLH.out xv w5 HX5.out (HUP.out w5 hb5).2.2.1 (HUP.out w5 hb5).2.2.2.1).mono ?_
      rintro e w6 ⟨v6, rfl, ho6, hb6'⟩
      have hb6 := hb5.trans (hb6'.mono hb5.size)
      have HX6 := Lib.hid (HX5.out.up hb6')
      have HP6 := Lib.hid (HPS.out _ _ hb6' _ HP5.out)
      go_wp2_with fail
      refine (HPR.out v6 _ w6 ho6.sl HP6.out (HUP.out w6 hb6).2.2.1 (HUP.out w6 hb6).2.2.2.1).mono ?_
      rintro e w7 ⟨v7, rfl, ho7, hb7'⟩
      have hb7 := hb6.trans (hb7'.mono hb6.size)
      have HX7 := Lib.hid (HX6.out.up hb7')
      have HP7 := Lib.hid (HPS.out _ _ hb7' _ HP6.out)
      clear ho6 hb6' hb7'
      go_wp2_with fail
      refine (HPL.out w7).mono ?_
      rintro e w8 ⟨rfl, hb8'⟩
      have hb8 := hb7.trans (hb8'.mono hb7.size)
      have HX8 := Lib.hid (HX7.out.up hb8')
      have HP8 := Lib.hid (HPS.out _ _ hb8' _ HP7.out)
      have HO8 := Lib.hid (ho7.sl.up hb8')
      have hne : ((P.length : Int) != (P.length : Int)) = false := by simp
      clear ho7 hb8'
      go_wp2_with fail
      refine (implSameBytes_any v7 v4 (treeL L) (treeL L) w8 HO8.out (HUP.out w8 hb8).2.1).mono ?_
      rintro e w' ⟨rfl, hw⟩
      obtain rfl : w8 = w' := hw
      rw [show (treeL L == treeL L) = true from by simp]
      go_wp2_with fail
      refine (HPK.out xv _ v4 w8 HX8.out HP8.out (HUP.out w8 hb8).2.1 (HUP.out w8 hb8).2.2.1 (HUP.out w8 hb8).2.2.2.1).mono ?_
      rintro e w9 ⟨rfl, hb9'⟩
      have HB9 := Lib.hid (hb8.trans (hb9'.mono hb8.size))
      clear hb9'
      go_wp2
      go_roundw
      case rel => exact ⟨k + 1, by omega, by go_num, HB9.out⟩
      case measure => simp [intOf]; omega
    · obtain rfl : k = L.length := by omega
      have HPO := Lib.hid (fun v w h1 h2 h3 => implPathOf_any v L (L.length : Int) w h1 HLS.out.2.1 HLS.out.1 h2 h3)
      rw [leafB_no (by omega)] at HPO
      go_wp2_with fail
      refine (HPO.out _ wr (HUP.out wr hbr).1 (HUP.out wr hbr).2.2.1 (HUP.out wr hbr).2.2.2.1).mono ?_
      rintro e w5 ⟨u5, vs5, rfl, hv5, K5⟩
      have HB5 := Lib.hid (HUP.out w5 (hbr.trans (K5.bel.mono hbr.size))).2.2.2.2.1
      clear hv5 K5
      go_wp2
      go_ret
      exact ⟨rfl, HB5.out⟩
end Go.Proofs.YtighgdmpbabelaaDoor
