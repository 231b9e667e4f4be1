/- qcOf of the program: the certificate of votes. -/
import Derived.Test.YtdoaikanaodefaaFromM
import Derived.Test.YtdoaikanaodefaaQcCopy
import Derived.Deep.RegionHeld3
namespace Go.Proofs.Ytdoaikanaodefaa
open Go.ChangeShapes Go.WideShapes Go.ChangeAt Go.RowKit

section
variable {W w w' : World} {ss : List (List Row)}
/-- The first row alone has turned; it may have moved to a new block. -/
theorem InvF.movedR {E : TypeId} {v v' : Value} {l l' : List Value} (H : InvF W w ([(E, v, l)] :: ss)) (ho : GOwn w' W.heap.size (E, v', l')) (hg : w.grownBy w' v.ownBlock) (hat : v'.ownBlock = v.ownBlock ∨ v'.ownBlock = some w.heap.size) : InvF W w' ([(E, v', l')] :: ss) := by
  have hown : GOwn w W.heap.size (E, v, l) := H.2.1 _ (.head _)
  have hb : Below W.heap.size W w' := H.1.grown hg H.le (fun k hk => (hown.lt k hk).1)
  have hr : Rws W.heap.size w ((E, v, l) :: ss.flatten) := ⟨H.2.1, H.2.2⟩
  have h := hr.moved (v' := v') (x' := l') ho hg hat
  exact h.inv hb
end
/-- 'append(out, x)' for one slice x that is not the call's own. -/
theorem wpList_appRF {P : Program} {W w : World} {ops : Array Oper} {rest : List Oper} {o : Oper} {a : Act} {Q : Exit → Act → World → Prop} {ss : List (List Row)} (hgd : o.guard = none) (s x : Operand) (t : TypeId)
    (ho : o.op = .call { callee := .builtin .append, args := #[s, x], argTypes := #[t, t] }) (E : TypeId) (i : TypeInfo) (ht : P.underlying t = some (.slice E)) (hi : P.info? E = some i)
    (hz : i.zero = some (.slice none 0 0)) (hsize : i.size = 1) (hby : i.bytes = 24) (v : Value) (l : List Value) (hs : a.eval s = v) (u : Value) (hu : u.oneCell' = true)
    (hx : a.eval x = .slice (some ⟨w.heap.size, 0, none⟩) 1 1) (H : InvF W w ([(E, v, l)] :: ss)) (hlen : l.length ≤ 1073741824)
    (h : ∀ v' w', InvF W w' ([(E, v', l ++ [u])] :: ss) → wpList P ops Q rest (a.put o.dst v') w') : wpList P ops Q (o :: rest) a (w.alloc (.cells #[u] E)) := by
  have Ha : InvF W (w.alloc (.cells #[u] E)) ([(E, v, l)] :: ss) := H.up ((Below.refl _ _).alloc (Nat.le_refl _) _)
  have hown : GOwn (w.alloc (.cells #[u] E)) W.heap.size (E, v, l) := Ha.2.1 _ (.head _)
  unfold GOwn at hown
  refine wpList_append_own_at _ hgd s x t ho W.heap.size E i (.slice none 0 0) 1 24 ht hi hz hsize hby rfl (by omega) v l.length l hs hown ⟨w.heap.size, 0, none⟩ 1 1 [u] hx rfl (cell_one_new w u E) (by simpa using hu) ?_ ?_ Ha.le (fun v' w' k1 k2 _ k4 => h v' w' (Ha.movedR ?_ k2 k4))
  · unfold maxLen; omega
  · omega
  · unfold GOwn
    simp only [List.length_append, List.length_singleton]
    exact k1
theorem slS_of_row {w : World} {B : Nat} {E : TypeId} {v : Value} {vs : List Value} {L : List (List UInt8)} (h : GOwn w B (E, v, vs)) (hv : vs.length = L.length) (hs : ∀ i, i < L.length → ∃ x, vs[i]? = some x ∧ Sl w w.heap.size x (L.getD i [])) : SlS w w.heap.size v L := by
  obtain ⟨A, c, e, h1, h2, h0, h3⟩ := h.cells
  rw [hv] at e h1 h3
  refine ⟨A, c, e, h1, h2, h0, fun hp => ?_⟩
  obtain ⟨b, rfl, hb, hc⟩ := h3 hp
  refine ⟨b, 0, rfl, hb, fun k hk => ?_⟩
  obtain ⟨x, hx, hsl⟩ := hs k hk
  exact ⟨x, by rw [Nat.zero_add]; exact (hc k hk).trans hx, hsl⟩

set_option maxRecDepth 100000 in
set_option maxHeartbeats 8000000 in
theorem qcOf_any (a b c d e : Int) (v : Value) (V : List Vt) (w : World) (h : SlV w w.heap.size v V) (hV : volV V + V.length ≤ 1048576) (hpos : 0 < V.length) :
    Calls Try.prog 28 #[.agg #[.int .i64 a, .int .i64 b, .int .i64 c, .int .i64 d, .int .i64 e], v] w (FreshQ w (hdV V).x (hdV V).y (hdV V).l (bitsV V a) (ksV V)) := by
  obtain ⟨i0, hi, hz0, hz1, hz2⟩ := info_parts sbinfo
  obtain ⟨j0, hjI, hy0, hy1, hy2⟩ := info_parts i64info
  obtain ⟨A, n, rfl, h1, h2, h0, h3⟩ := h
  unfold maxLen at h2
  clear h0
  obtain ⟨b0, off, rfl, hbb, hcell⟩ := h3 hpos
  clear h3
  have h0l : (0 : Int) < (V.length : Int) := by omega
  have hsub : Hid (∀ (j : Nat) (t : Vt), V[j]? = some t → t.l.length ≤ 1048576 ∧ t.k.length ≤ 1048576) := Lib.hid (fun j t ht => by have := volV_mem (List.mem_of_getElem? ht); omega)
  have hks : Hid ((ksV V).length ≤ 1048576 ∧ sumL (ksV V) ≤ 1048576 ∧ (zsV V).length ≤ 4294967296 ∧ (ksV V).length = V.length) := Lib.hid (by have := ksV_sum V; rw [ksV_len, zsV_len]; omega)
  have hkb : Hid (ofL (zsV V) a = bitsV V a) := Lib.hid rfl
  have H0 := ((InvF.start w).newG 32 #[.int .i64 a, .int .i64 b, .int .i64 c, .int .i64 d, .int .i64 e] w.heap.size).newG 29 #[.int .i64 0, .int .i64 0, .slice none 0 0, .slice none 0 0, .slice none 0 0] (w.heap.size + 1)
  have H1 : Hid (InvF w _ [segI 3 (.slice none 0 0) (zsV (V.take 0)), [(26, .slice none 0 0, [])], segX 29 (w.heap.size + 1) [.int .i64 0, .int .i64 0, .slice none 0 0, .slice none 0 0, .slice none 0 0], segX 32 w.heap.size [.int .i64 a, .int .i64 b, .int .i64 c, .int .i64 d, .int .i64 e]]) := Lib.hid (by
    have ha := H0.more (s := [(26, .slice none 0 0, [])]) ((InvG.start _).moreG (p := (26, .slice none 0 0, [])) (World.ownsRow_nil _ _ _ _) (Below.refl _ _))
    exact ha.more (s := segI 3 (.slice none 0 0) []) ((InvG.start _).moreG (p := (3, .slice none 0 0, [])) (World.ownsRow_nil _ _ _ _) (Below.refl _ _)))
  clear H0
  go_enter Try.func28, Try.ntmps28
  go_wp2
  go_loopw [5, 6, 14] (fun o p i wr => ∃ (j : Nat) (ov tv : Value) (vs : List Value), ov = o ∧ tv = p ∧ j ≤ V.length ∧ i = .int .i64 (j : Int) ∧ Hid (vs.length = j) ∧ Hid (∀ k, k < j → ∃ x, vs[k]? = some x ∧ Sl w w.heap.size x ((ksV V).getD k [])) ∧ Hid (InvF w wr [segI 3 ov (zsV (V.take j)), [(26, tv, vs)], segX 29 (w.heap.size + 1) [.int .i64 0, .int .i64 0, .slice none 0 0, .slice none 0 0, .slice none 0 0], segX 32 w.heap.size [.int .i64 a, .int .i64 b, .int .i64 c, .int .i64 d, .int .i64 e]]))
    (fun _ _ i _ => V.length - (intOf i).toNat)
  case atStart => exact ⟨0, _, _, [], rfl, rfl, Nat.zero_le _, rfl, Lib.hid rfl, Lib.hid (fun k hk => absurd hk (Nat.not_lt_zero _)), H1⟩
  case round =>
    clear H1
    obtain ⟨j, o, tv, vs, rfl, rfl, hj, rfl, hvs, hrd, Hj⟩ := hrel
    by_cases hlt : j < V.length
    · obtain ⟨tj, htj⟩ := get_default hlt
      have hjl : (j : Int) < (V.length : Int) := by omega
      obtain ⟨y1, y2, g0, g1, g2, g3, g4, s1, s2⟩ := hcell j tj htj
      replace g0 := (Hj.out.bel.cell (p := ⟨b0, off + j * 5, none⟩) hbb).trans g0
      replace g1 := (Hj.out.bel.cell (p := ⟨b0, off + j * 5 + 1, none⟩) hbb).trans g1
      replace g2 := (Hj.out.bel.cell (p := ⟨b0, off + j * 5 + 2, none⟩) hbb).trans g2
      replace g3 := (Hj.out.bel.cell (p := ⟨b0, off + j * 5 + 3, none⟩) hbb).trans g3
      replace g4 := (Hj.out.bel.cell (p := ⟨b0, off + j * 5 + 4, none⟩) hbb).trans g4
      obtain ⟨Ay, cy, rfl, _⟩ := id s1
      obtain ⟨Az, cz, rfl, _⟩ := id s2
      have HZT := Lib.hid (zsV_take V j tj htj)
      have hlz : Hid ((zsV (V.take j)).length = j) := Lib.hid (by rw [zsV_len, List.length_take]; omega)
      have hrd2 : Hid (∀ k, k < j + 1 → ∃ x, (vs ++ [.slice Az tj.k.length cz])[k]? = some x ∧ Sl w w.heap.size x ((ksV V).getD k [])) := Lib.hid (fun k hk => by
        by_cases hkj : k < j
        · obtain ⟨x, hx, hs⟩ := hrd.out k hkj
          exact ⟨x, by rw [List.getElem?_append_left (by rw [hvs.out]; exact hkj)]; exact hx, hs⟩
        · obtain rfl : k = j := by omega
          refine ⟨_, by rw [List.getElem?_append_right (by rw [hvs.out]; exact Nat.le_refl _), hvs.out, Nat.sub_self]; rfl, ?_⟩
          have hg : (ksV V).getD k [] = tj.k := by
            unfold ksV
            rw [List.getD_eq_getElem?_getD, List.getElem?_map, htj]
            rfl
          rw [hg]
          exact s2)
      have HW := Lib.hid (Hj.out.newG 59 #[.int .i64 tj.x, .int .i64 tj.y, .slice Ay tj.l.length cy, .int .i64 tj.z, .slice Az tj.k.length cz] wr.heap.size)
      clear s1 s2 htj
      generalize zsV (V.take j) = zj at *
      obtain ⟨v0, v1, v2, v3, v4⟩ := HW.out.c5 (.head _)
      have HW2 := Lib.hid (HW.out.front 1 rfl)
      have HSZ : Hid ((wr.alloc (.cells #[.int .i64 tj.x, .int .i64 tj.y, .slice Ay tj.l.length cy, .int .i64 tj.z, .slice Az tj.k.length cz] 59)).heap.size = wr.heap.size + 1) := Lib.hid (by simp)
      go_wp2_with (first
        | (at_builtin; refine wpList_appIF (W := w) rfl _ _ 58 rfl 3 j0 Try.underlying58 hjI hy0 hy1 hy2 _ zj (by rfl) tj.z (by rw [HSZ.out]; rfl) HW2.out (by have := hlz.out; omega) ?_; intro v2' w2 HX; have p4 := HX.atX (.tail _ (.head _)) 4 rfl; have HT := Lib.hid (HX.front 2 rfl); clear HX)
        | (at_builtin; refine wpList_appRF (W := w) rfl _ _ 27 rfl 26 i0 Try.underlying27 hi hz0 hz1 hz2 _ vs (by rfl) (.slice Az tj.k.length cz) rfl rfl HT.out (by have := hvs.out; omega) ?_; intro v3' w3 HX))
      have HF := Lib.hid ((HX.sub (qs := [[(26, v3', vs ++ [.slice Az tj.k.length cz])], segI 3 v2' (zj ++ [tj.z]), segX 29 (w.heap.size + 1) [.int .i64 0, .int .i64 0, .slice none 0 0, .slice none 0 0, .slice none 0 0], segX 32 w.heap.size [.int .i64 a, .int .i64 b, .int .i64 c, .int .i64 d, .int .i64 e]]) (.cons_cons _ (.cons_cons _ (.cons _ (List.Sublist.refl _))))).front 1 rfl)
      clear p4 HT HX v0 v1 v2 v3 v4 HW HW2 HSZ g0 g1 g2 g3 g4
      go_roundw
      case rel => exact ⟨j + 1, v2', v3', vs ++ [.slice Az tj.k.length cz], rfl, rfl, by omega, by go_num, Lib.hid (by rw [List.length_append, hvs.out]; rfl), hrd2, Lib.hid (by rw [HZT.out]; exact HF.out)⟩
      case measure => simp [intOf]; omega
    · obtain rfl : j = V.length := by omega
      have hfull : V.take V.length = V := List.take_length
      rw [hfull] at Hj
      clear hfull
      have HO := Lib.hid (Hj.out.ownI 3 (.head _)).sl
      obtain ⟨Av, cv, rfl, _⟩ := (Hj.out.2.1 _ (InvF.mem (.tail _ (.head _)) (.head _))).cells
      obtain ⟨Ao, co, rfl, _⟩ := id HO.out
      obtain ⟨l0, l1, l2, l3, l4⟩ := Hj.out.c5 (.tail _ (.tail _ (.tail _ (.head _))))
      go_wp2_with fail
      refine (implBitsOf_any _ (zsV V) a _ (HO.out) hks.out.2.2.1).mono ?_
      rw [hkb.out]
      rintro ev w5 ⟨u5, rfl, ho5, hb5⟩
      obtain ⟨A5, c5, rfl, _⟩ := id ho5.sl
      have H7 := Lib.hid (Hj.out.moreB ho5 hb5)
      clear Hj HO ho5 hb5 l0 l1 l2 l3 l4
      have hV0 : ∃ t, V[0]? = some t := get_default hpos
      obtain ⟨t, ht⟩ := hV0
      have hd : (hdV V).x = t.x ∧ (hdV V).y = t.y ∧ (hdV V).l = t.l := by
        rcases V with _ | ⟨q, V'⟩
        · cases ht
        · cases ht
          exact ⟨rfl, rfl, rfl⟩
      have HDV := Lib.hid hd
      have hsz := hsub.out 0 t ht
      obtain ⟨y1, y2, g0, g1, g2, g3, g4, s1, s2⟩ := hcell 0 t ht
      rw [Nat.zero_mul, Nat.add_zero] at g0 g1 g2 g3 g4
      replace g0 := (H7.out.bel.cell (p := ⟨b0, off, none⟩) hbb).trans g0
      replace g1 := (H7.out.bel.cell (p := ⟨b0, off + 1, none⟩) hbb).trans g1
      replace g2 := (H7.out.bel.cell (p := ⟨b0, off + 2, none⟩) hbb).trans g2
      replace g3 := (H7.out.bel.cell (p := ⟨b0, off + 3, none⟩) hbb).trans g3
      replace g4 := (H7.out.bel.cell (p := ⟨b0, off + 4, none⟩) hbb).trans g4
      obtain ⟨Au, cu, rfl, _⟩ := id s1
      obtain ⟨Aw, cw, rfl, _⟩ := id s2
      have S1 := Lib.hid s1
      have HV0 := Lib.hid (H7.out.newG 59 #[.int .i64 t.x, .int .i64 t.y, .slice Au t.l.length cu, .int .i64 t.z, .slice Aw t.k.length cw] w5.heap.size)
      have hbl : (bitsV V a).length ≤ 2 := ofL_len _ _
      generalize bitsV V a = kb at *
      clear s1 s2 ht hd H7
      have HSL : Hid (∀ w', Below w.heap.size w w' → ∀ i, i < (ksV V).length → ∃ x, vs[i]? = some x ∧ Sl w' w'.heap.size x ((ksV V).getD i [])) := Lib.hid (fun w' hb i hi => by
        obtain ⟨x, hx, hs⟩ := hrd.out i (by have := hks.out.2.2.2; omega)
        exact ⟨x, hx, hs.up hb⟩)
      obtain ⟨v0, v1, v2, v3, v4⟩ := HV0.out.c5 (.head _)
      go_wp2_with fail
      refine (qcCopy_any t.x t.y _ _ _ t.l kb (ksV V) _ (S1.out.up HV0.out.bel) (HV0.out.slB 5 (.tail _ (.head _))) (slS_of_row (HV0.out.2.1 _ (InvF.mem (.tail _ (.tail _ (.tail _ (.head _)))) (.head _))) (by rw [hvs.out, hks.out.2.2.2]) (HSL.out _ HV0.out.bel)) (by omega) (by omega) hks.out.1 hks.out.2.1).mono ?_
      rintro ev w9 ⟨x7, x8, x9, vs9, rfl, hv9, K9⟩
      have H9 := HV0.out.moreF K9
      clear v0 v1 v2 v3 v4 K9
      obtain ⟨A7, c7, rfl⟩ := H9.openB' (.head _)
      obtain ⟨A8, c8, rfl⟩ := H9.openB' (.tail _ (.head _))
      obtain ⟨A9, c9, rfl⟩ := H9.openS hv9 (.tail _ (.tail _ (.head _)))
      have HV9 := Lib.hid hv9
      have hT2 := H9.thereX (.tail _ (.tail _ (.tail _ (.tail _ (.tail _ (.tail _ (.tail _ (.head _)))))))) 0 5 (by simp)
      have KR := (H9.front 7 rfl).setsL [.int .i64 t.x, .int .i64 t.y, .slice A7 t.l.length c7, .slice A8 kb.length c8, .slice A9 (ksV V).length c9] 0
      replace KR : InvF w _ (segX 29 (w.heap.size + 1) [.int .i64 t.x, .int .i64 t.y, .slice A7 t.l.length c7, .slice A8 kb.length c8, .slice A9 (ksV V).length c9] :: _) := KR
      have hR2 := KR.rangeX (.head _)
      have HF := Lib.hid (KR.sub (qs := [segB 5 (.slice A7 t.l.length c7) t.l, segB 5 (.slice A8 kb.length c8) kb, segS 26 5 (.slice A9 (ksV V).length c9) vs9 (ksV V)]) (.cons _ (.cons_cons _ (.cons_cons _ (.cons_cons _ (.cons _ (.cons _ (.cons _ (.cons _ (.cons _ .slnil))))))))))
      clear KR H9 hv9
      go_simp
      go_step
      refine wpList_store_mid rfl 29 (.tmp 4) (.tmp 48) rfl (w.heap.size + 1) 0 #[.int .i64 t.x, .int .i64 t.y, .slice A7 t.l.length c7, .slice A8 kb.length c8, .slice A9 (ksV V).length c9] rfl rfl hT2 (by kernel_rfl) (by simp [Value.oneCell']) ?_
      repeat go_step
      refine bodyPost_ret (results_cell_mid Try.results28 _ _ (w.heap.size + 1) 0 [.int .i64 t.x, .int .i64 t.y, .slice A7 t.l.length c7, .slice A8 kb.length c8, .slice A9 (ksV V).length c9] _ rfl hR2 Try.underlying29 rfl (by kernel_rfl)) rfl ?_
      rw [HDV.out.1, HDV.out.2.1, HDV.out.2.2]
      exact ⟨_, _, _, vs9, rfl, HV9.out, HF.out⟩
end Go.Proofs.Ytdoaikanaodefaa
