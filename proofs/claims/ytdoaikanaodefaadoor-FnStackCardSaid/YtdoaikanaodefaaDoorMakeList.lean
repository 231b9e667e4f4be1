/- Lists of byte strings that a draw makes: l06List, l08List, MakeList; and 'append([][]byte{}, l...)'. -/
import Derived.Test.YtdoaikanaodefaaDoorStackBase
import Derived.Test.YtdoaikanaodefaaDoorCur
namespace Go.Proofs.YtdoaikanaodefaaDoor
open Go.ChangeShapes Go.WideShapes Go.ChangeAt Go.RowKit

/-- 'append(out, x...)' inside a region that draws, out empty and the call's own, x a slice of slices that was there. -/
theorem step_appSS {P : Program} {W w : World} {ops : Array Oper} {o : Oper} {a : Act} {K : Act → World → Prop} {Q : Exit → Act → World → Prop} {F : Prop} (hwt : Region.wanted o (yielded ops a.tmps) = true) (s x : Operand) (t : TypeId)
    (ho : o.op = .call { callee := .builtin .append, args := #[s, x], argTypes := #[t, t] }) (E : TypeId) (i : TypeInfo) (ht : P.underlying t = some (.slice E)) (hi : P.info? E = some i)
    (hz : i.zero = some (.slice none 0 0)) (hsize : i.size = 1) (hby : i.bytes = 24) (v : Value) (hs : a.eval s = v) (u : Value) (L : List (List UInt8))
    (hx : a.eval x = u) (hm : SlS W W.heap.size u L) (hown : w.ownsRow W.heap.size E 1 v 0 []) (hb : Below W.heap.size W w) (hp : 0 < L.length) (hlen : L.length ≤ 1073741824)
    (h : ∀ v' w', SlS w' w'.heap.size v' L → Below W.heap.size W w' → K (a.put o.dst v') w') :
    if Region.wanted o (yielded ops a.tmps) = true then Oper.wp P o a w K Q else F := by
  rw [if_pos hwt]
  obtain ⟨A, c, rfl, h1, h2, h0, h3⟩ := hm
  obtain ⟨b, off, rfl, hbb, hcell⟩ := h3 hp
  obtain ⟨vs, hvl, hv⟩ := named (P := fun k y => W.cell? ⟨b, off + k, none⟩ = some y ∧ Sl W W.heap.size y (L.getD k [])) L.length hcell
  have hadd : ∀ k, (⟨b, off, none⟩ : Addr).add k = ⟨b, off + k, none⟩ := fun k => by
    unfold Addr.add
    split
    · rename_i h0; subst h0; rfl
    · rfl
  refine wp_append_own _ s x t ho W.heap.size E i (.slice none 0 0) 1 24 ht hi hz hsize hby rfl (by omega) v 0 [] hs hown ⟨b, off, none⟩ L.length c vs hx (by omega) ?_ ?_ (by unfold maxLen; omega) (by omega) hb.size ?_
  · intro j y hj
    rw [hadd]
    exact (hb.cell (p := ⟨b, off + j, none⟩) hbb).trans (hv j y hj).1
  · intro y hy
    obtain ⟨j, hj, he⟩ := List.mem_iff_getElem.1 hy
    exact (hv j y (by rw [List.getElem?_eq_getElem hj, he])).2.one
  · intro v' w' k1 k2 _
    have hb' : Below W.heap.size W w' := hb.grown k2 hb.size fun k hk => (World.ownsRow.lt hown k hk).1
    have hG : GOwn w' W.heap.size (E, v', vs) := by
      unfold GOwn
      simp only
      rw [hvl]
      simpa using k1
    obtain ⟨A', c', rfl, j1, j2, j0, j3⟩ := hG.cells
    rw [hvl] at j1 j3
    refine h _ w' ⟨A', c', by rw [hvl], j1, j2, j0, fun hp' => ?_⟩ hb'
    obtain ⟨g, rfl, hg, hc⟩ := j3 hp'
    refine ⟨g, 0, rfl, hg, fun k hk => ?_⟩
    have hvk : vs[k]? = some (vs.getD k (.bool false)) := getD_at vs k (.bool false) (by omega)
    exact ⟨vs.getD k (.bool false), by rw [Nat.zero_add, hc k hk, hvk], (hv k _ hvk).2.up hb'⟩

/-- A list has been drawn: its rows lie behind w's memory. -/
def DrewList (w : World) (B g : Nat) (l : List UInt8) (most bulk : Nat) (L : List (List UInt8)) (u : Value) (vs : List Value) (w' : World) : Prop :=
  vs.length = L.length ∧ L.length ≤ most ∧ sumL L ≤ bulk ∧ Rws w.heap.size w' ((22, u, vs) :: rowsS 5 vs L) ∧ Cur w' B g l ∧ w.grownBy w' (some g)

/-- The rows with one more. -/
theorem rws_snoc {B : Nat} {w : World} {E2 E : TypeId} {u x : Value} {vs : List Value} {L : List (List UInt8)} {t : List UInt8} (hv : vs.length = L.length) (H : Rws B w ((E2, u, vs ++ [x]) :: (E, x, us t) :: rowsS E vs L)) :
    Rws B w ((E2, u, vs ++ [x]) :: rowsS E (vs ++ [x]) (L ++ [t])) := by
  rw [rowsS_snoc E vs L x t hv]
  exact H.perm (List.Perm.cons _ (List.perm_append_singleton _ _).symm)

set_option maxHeartbeats 2000000 in
theorem l06List_any (B g most : Nat) (l : List UInt8) (w : World) (h : Cur w B g l) (hl : l.length ≤ 4294967296) (hn : most ≤ 1000) :
    Calls Tryd.prog 73 #[.pointer (some ⟨g, 0, none⟩), .int .i64 (most : Int)] w (fun e w' => ∃ L u vs, e = .returned u ∧ DrewList w B g l most (4 * most) L u vs w') := by
  obtain ⟨i0, hi, hz0, hz1, hz2⟩ := info_parts sbinfo
  have hlt0 : g < w.heap.size := h.2.1
  have hBg : B ≤ g := h.1
  have hg0 : w.grownBy (w.alloc (.cells #[] 22)) none := World.grownBy_alloc w _ _
  have hR0 : Rws w.heap.size (w.alloc (.cells #[] 22)) [(22, .slice (some ⟨w.heap.size, 0, none⟩) 0 0, [])] :=
    Rws.more (rs := []) (w := w) Rws.nil_ (World.ownsRow_lit w #[] 0 (Nat.le_refl _) (by simp [maxLen]) rfl) (Nat.le_refl _) hg0 (fun j e => by cases e)
  have hC0 : Cur (w.alloc (.cells #[] 22)) B g l := h.kept hg0 (by simp) (by simp)
  go_enter Tryd.func73, Tryd.ntmps73
  go_wp2_with fail
  refine (l01Below_any B g l ((most : Int) + 1) _ hC0 hl (by omega) (by omega)).mono ?_
  rintro e w1 ⟨m, rfl, hm0, hm1, hC1, hg1⟩
  have hgw : w.grownBy w1 (some g) := gtrans (World.grownBy_alloc w _ _) hg1
  have hR1 := hR0.kept hg1 (fun j e => by injection e with e; omega)
  clear hg0 hR0 hC0 hg1
  go_wp2
  go_loopw [5, 6] (fun b n wr => ∃ (L : List (List UInt8)) (vs : List Value) (k : Nat), n = .int .i64 k ∧ L.length + k ≤ most ∧ DrewList w B g l most (4 * L.length) L b vs wr)
    (fun _ n _ => (intOf n).toNat)
  case atStart =>
    obtain ⟨k, rfl⟩ := Int.eq_ofNat_of_zero_le hm0
    exact ⟨[], [], k, rfl, by simp; omega, rfl, by simp, by simp [sumL], hR1, hC1, hgw⟩
  case round =>
    clear hR1 hC1 hgw
    obtain ⟨L, vs, k, rfl, hLk, hvl, hLm, hLs, hR, hC, hgr⟩ := hrel
    have hle : w.heap.size ≤ wr.heap.size := hgr.size
    have Hvl := Lib.hid hvl
    have HLs := Lib.hid hLs
    have HLk := Lib.hid hLk
    have hv4 : vs.length ≤ 1000 := by omega
    have hk4 : k ≤ 1000 := by omega
    clear hvl hLs hLm hLk
    by_cases hk : 0 < k
    · have hk' : (0 : Int) < (k : Int) := by omega
      go_wp2_with fail
      refine (l01Bytes_any B g l 4 _ hC hl (by omega) (by omega)).mono ?_
      rintro e w2 ⟨x, t, rfl, ht, ho2, hC2, hg2⟩
      have hR2 := Rws.more hR (GOwn.b.2 ho2) hle hg2 (fun j e => by injection e with e; omega)
      have hR3 := hR2.perm (List.Perm.swap _ _ _)
      have hbl := (hR3.1 _ (.head _)).lt
      simp only at hbl
      obtain ⟨A3, c3, rfl, m1, m2, m0, m3⟩ := ho2.sl
      clear m0 m1 m2 m3 hR hR2 ho2
      have hB2 : w.heap.size ≤ w2.heap.size := Nat.le_trans hle hg2.size
      go_wp2_with (at_builtin; refine wpList_appS1 (w := w2) rfl _ _ 23 rfl 22 i0 Tryd.underlying23 hi hz0 hz1 hz2 w.heap.size _ vs (by rfl) (.slice A3 t.length c3) rfl rfl hB2 hR3 (by omega) ?_; intro v4 w4 hR4 hg4)
      go_roundw
      case rel =>
        refine ⟨L ++ [t], vs ++ [.slice A3 t.length c3], k - 1, by go_num, ?_, ?_, ?_, ?_, rws_snoc Hvl.out hR4, ?_, ?_⟩
        · have := HLk.out; simp; omega
        · have := Hvl.out; simp; omega
        · have := HLk.out; simp; omega
        · have := HLs.out; rw [sumL_app]; simp [sumL]; omega
        · exact hC2.kept hg4 (fun e => by have := (hbl g e).1; omega) (fun j e => by have := (hbl j e).1; omega)
        · exact gand (gtrans hgr hg2) hg4 (fun j e => (hbl j e).1)
      case measure => simp [intOf]; omega
    · obtain rfl : k = 0 := by omega
      go_wp2
      go_ret
      exact ⟨L, _, vs, rfl, Hvl.out, by have := HLk.out; omega, by have := HLs.out; have := HLk.out; omega, hR, hC, hgr⟩

set_option maxHeartbeats 2000000 in
theorem l08List_any (B g : Nat) (l : List UInt8) (w : World) (h : Cur w B g l) (hl : l.length ≤ 4294967296) :
    Calls Tryd.prog 37 #[.pointer (some ⟨g, 0, none⟩)] w (fun e w' => ∃ L u vs x, e = .returned (.tuple #[u, .int .i64 x]) ∧ 0 ≤ x ∧ x < L.length ∧ DrewList w B g l 9 35 L u vs w') := by
  obtain ⟨i0, hi, hz0, hz1, hz2⟩ := info_parts sbinfo
  have hlt0 : g < w.heap.size := h.2.1
  have hBg : B ≤ g := h.1
  go_enter Tryd.func37, Tryd.ntmps37
  go_wp2_with fail
  refine (l06List_any B g 8 l _ h hl (by omega)).mono ?_
  rintro e w1 ⟨L, u, vs, rfl, hvl, hLm, hLs, hR, hC, hgr⟩
  have hle : w.heap.size ≤ w1.heap.size := hgr.size
  go_wp2_with fail
  refine (l01Bytes_any B g l 3 _ hC hl (by omega) (by omega)).mono ?_
  rintro e w2 ⟨x, t, rfl, ht, ho2, hC2, hg2⟩
  have hR2 := Rws.more hR (GOwn.b.2 ho2) hle hg2 (fun j e => by injection e with e; omega)
  have hR3 := hR2.perm (List.Perm.swap _ _ _)
  have hbl := (hR3.1 _ (.head _)).lt
  simp only at hbl
  obtain ⟨A3, c3, rfl, m1, m2, m0, m3⟩ := ho2.sl
  clear m0 m1 m2 m3 hR hR2 ho2
  have hB2 : w.heap.size ≤ w2.heap.size := Nat.le_trans hle hg2.size
  have hv4 : vs.length ≤ 1000 := by omega
  have Hvl := Lib.hid hvl
  obtain ⟨M, hM⟩ : ∃ M, M = L ++ [t] := ⟨_, rfl⟩
  have HM := Lib.hid hM
  have hln : (vs ++ [Value.slice A3 t.length c3]).length = M.length := by rw [hM]; simp [hvl]
  have hn9 : M.length ≤ 9 := by rw [hM]; simp; omega
  have hn1 : 0 < M.length := by rw [hM]; simp
  have hs9 : sumL M ≤ 35 := by rw [hM, sumL_app]; simp [sumL]; omega
  have Hln := Lib.hid hln
  clear hvl hM hln
  go_wp2_with (at_builtin; refine wpList_appS1 (w := w2) rfl _ _ 23 rfl 22 i0 Tryd.underlying23 hi hz0 hz1 hz2 w.heap.size _ vs (by rfl) (.slice A3 t.length c3) rfl rfl hB2 hR3 (by omega) ?_; intro v4 w4 hR4 hg4; obtain ⟨A4, c4, e4, n1, n2, n0, n3⟩ := (hR4.1 _ (.head _)).cells; subst e4; rw [Hln.out] at n1 ⊢; unfold maxLen at n2; clear n0 n3)
  have hC4 := hC2.kept hg4 (fun e => by have := (hbl g e).1; omega) (fun j e => by have := (hbl j e).1; omega)
  have hg5 := gand (gtrans hgr hg2) hg4 (fun j e => (hbl j e).1)
  have hR5 := rws_snoc Hvl.out hR4
  rw [← HM.out, Hln.out] at hR5
  clear hR4 hR3
  refine (l01Below_any B g l (M.length : Int) _ hC4 hl (by omega) (by omega)).mono ?_
  rintro e w6 ⟨y, rfl, hy0, hy1, hC6, hg6⟩
  go_wp2
  go_ret2
  exact ⟨M, _, _, y, rfl, hy0, hy1, Hln.out, hn9, hs9, hR5.kept hg6 (fun j e => by injection e with e; omega), hC6, gtrans hg5 hg6⟩

set_option maxHeartbeats 2000000 in
theorem MakeList_any (v : Value) (l : List UInt8) (w : World) (h : Sl w w.heap.size v l) (hl : l.length ≤ 1073741824) :
    Calls Tryd.prog 7 #[v] w (fun e w' => ∃ L u vs, e = .returned u ∧ vs.length = L.length ∧ 0 < L.length ∧ L.length ≤ 9 ∧ sumL L ≤ 35 ∧ InvG w w' (segS 22 5 u vs L)) := by
  go_enter Tryd.func7, Tryd.ntmps7
  go_wp2_with fail
  refine (l01New_any v l _ h hl).mono ?_
  rintro e w1 ⟨g, rfl, hC, hb1⟩
  go_wp2_with fail
  refine (l08List_any _ g l _ hC (by omega)).mono ?_
  rintro e w2 ⟨L, u, vs, x, rfl, hx0, hx1, hvl, hLm, hLs, hR, hC2, hg2⟩
  have Hvl := Lib.hid hvl
  clear hvl
  go_wp2
  go_ret
  have hb2 : Below w.heap.size w w2 := hb1.grown hg2 hb1.size (fun k e => by injection e with e; have := hC.1; omega)
  exact ⟨L, u, vs, rfl, Hvl.out, by omega, hLm, hLs, hb2, fun p hp => (hR.1 p hp).mono hb1.size, hR.2⟩
end Go.Proofs.YtdoaikanaodefaaDoor
