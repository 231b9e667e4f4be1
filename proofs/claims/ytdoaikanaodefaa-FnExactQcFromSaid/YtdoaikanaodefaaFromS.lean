/- QcFrom of the model. -/
import Derived.Test.YtdoaikanaodefaaFromM
import Derived.Deep.RegionHeld3
import Derived.Deep.CutRange
namespace Go.Proofs.Ytdoaikanaodefaa
open Go.ChangeShapes Go.WideShapes Go.ChangeAt Go.RowKit

theorem nilCase (a b c d e : Int) : fromB a b c d e [] = false := rfl

set_option maxRecDepth 100000 in
set_option maxHeartbeats 8000000 in
theorem specQcFrom_any (a b c d e : Int) (v : Value) (V : List Vt) (w : World) (h : SlV w w.heap.size v V) (hV : volV V + V.length ≤ 1048576) :
    Calls Try.prog 6 #[.agg #[.int .i64 a, .int .i64 b, .int .i64 c, .int .i64 d, .int .i64 e], v] w (GotFrom w (fromB a b c d e V) a V) := by
  obtain ⟨i0, hi, hz0, hz1, hz2⟩ := info_parts sbinfo
  obtain ⟨j0, hjI, hy0, hy1, hy2⟩ := info_parts i64info
  have HV := Lib.hid h
  obtain ⟨A, n, rfl, h1, h2, h0, h3⟩ := h
  unfold maxLen at h2
  clear h0
  have H0 := ((InvF.start w).newG 32 #[.int .i64 a, .int .i64 b, .int .i64 c, .int .i64 d, .int .i64 e] w.heap.size).newG 29 #[.int .i64 0, .int .i64 0, .slice none 0 0, .slice none 0 0, .slice none 0 0] (w.heap.size + 1)
  rcases hVV : V with _ | ⟨t, V'⟩
  · subst hVV
    have hlen : (([] : List Vt).length : Int) = 0 := rfl
    go_enter Try.func6, Try.ntmps6
    obtain ⟨r0, r1, r2, r3, r4⟩ := H0.c5 (.head _)
    obtain ⟨s0, s1, s2, s3, s4⟩ := H0.f5 (.head _)
    have h7 := H0.ltX (.head _)
    go_wp2
    refine bodyPost_ret (v := .tuple #[.agg #[.int .i64 0, .int .i64 0, .slice none 0 0, .slice none 0 0, .slice none 0 0], .bool false]) (by simp [results, Try.results6, go_sem, r0, r1, r2, r3, r4]) rfl (gotFrom_no rfl rfl H0.bel)
  rw [← hVV]
  have hpos : 0 < V.length := by rw [hVV]; simp
  have HVV := Lib.hid hVV
  clear hVV
  obtain ⟨B0, hB0⟩ : ∃ B, B = fromB a b c d e V := ⟨_, rfl⟩
  rw [← hB0]
  have HB := Lib.hid hB0
  clear hB0
  have hne : ((V.length : Int) == 0) = false := by rw [beq_eq_false_iff_ne]; omega
  have h0l : (0 : Int) < (V.length : Int) := by omega
  obtain ⟨x0, hx0⟩ : ∃ x, x = limB a b c d e := ⟨_, rfl⟩
  have HX0 := Lib.hid hx0
  clear hx0
  rcases x0 with _ | _
  · have hBf : Hid (B0 = false) := Lib.hid (by rw [HB.out, HVV.out]; unfold fromB; simp only; rw [← HX0.out]; rfl)
    go_enter Try.func6, Try.ntmps6
    obtain ⟨l0, l1, l2, l3, l4⟩ := H0.c5 (.tail _ (.head _))
    go_wp2_with fail
    refine (specLimitsOk_any a b c d e _).mono ?_
    rw [← HX0.out]
    rintro ev w1 ⟨rfl, hb1⟩
    have H1 := Lib.hid (H0.up hb1)
    clear l0 l1 l2 l3 l4 H0 hb1
    obtain ⟨r0, r1, r2, r3, r4⟩ := H1.out.c5 (.head _)
    obtain ⟨s0, s1, s2, s3, s4⟩ := H1.out.f5 (.head _)
    have h7 := H1.out.ltX (.head _)
    go_wp2
    have H2 := H1.out.over5 (.int .i64 0) (.int .i64 0) (.slice none 0 0) (.slice none 0 0) (.slice none 0 0)
    obtain ⟨q0, q1, q2, q3, q4⟩ := H2.c5 (.head _)
    refine bodyPost_ret (v := .tuple #[.agg #[.int .i64 0, .int .i64 0, .slice none 0 0, .slice none 0 0, .slice none 0 0], .bool false]) (by simp [results, Try.results6, go_sem, q0, q1, q2, q3, q4]) rfl (gotFrom_no hBf.out rfl H2.bel)
  go_enter Try.func6, Try.ntmps6
  obtain ⟨l0, l1, l2, l3, l4⟩ := H0.c5 (.tail _ (.head _))
  go_wp2_with fail
  refine (specLimitsOk_any a b c d e _).mono ?_
  rw [← HX0.out]
  rintro ev w1 ⟨rfl, hb1⟩
  have H1 := Lib.hid (H0.up hb1)
  clear l0 l1 l2 l3 l4 H0 hb1
  have H2 : Hid (InvF w (w1.alloc (.cells #[] 3)) [segI 3 (.slice (some ⟨w1.heap.size, 0, none⟩) 0 0) [], segX 29 (w.heap.size + 1) [.int .i64 0, .int .i64 0, .slice none 0 0, .slice none 0 0, .slice none 0 0], segX 32 w.heap.size [.int .i64 a, .int .i64 b, .int .i64 c, .int .i64 d, .int .i64 e]]) :=
    Lib.hid (H1.out.moreI (World.ownsRow_lit w1 #[] 0 (Nat.le_refl _) (by simp [maxLen]) rfl) ((Below.refl _ _).alloc (Nat.le_refl _) _))
  clear H1
  obtain ⟨b0, off, rfl, hbb, hcell⟩ := h3 hpos
  have ht0 : V[0]? = some t := by rw [HVV.out]; rfl
  obtain ⟨u, u', g0, g1, g2, _, _, su, _⟩ := hcell 0 t ht0
  have hmem := volV_mem (List.mem_of_getElem? ht0)
  have hvl : t.l.length ≤ 1048576 := by omega
  have hc := fun (o : Nat) (w' : World) (hb : Below w.heap.size w w') => hb.cell (p := ⟨b0, o, none⟩) hbb
  rw [Nat.zero_mul, Nat.add_zero] at g0 g1 g2
  obtain ⟨Au, cu, rfl, _⟩ := id su
  have HE := Lib.hid H2.out.drew1
  have three : Hid (∀ w', Below w.heap.size w w' → w'.cell? ⟨b0, off, none⟩ = some (.int .i64 t.x) ∧ w'.cell? ⟨b0, off + 1, none⟩ = some (.int .i64 t.y) ∧ w'.cell? ⟨b0, off + 2, none⟩ = some (.slice Au t.l.length cu)) :=
    Lib.hid (fun w' hb => ⟨(hc _ _ hb).trans g0, (hc _ _ hb).trans g1, (hc _ _ hb).trans g2⟩)
  have L0 := Lib.hid (three.out _ HE.out.bel)
  have SU := Lib.hid su
  clear g0 g1 g2 su hc hmem
  go_upto_region 4 with fail
  go_cut [7] from 24 to 37 (fun p wx => ∃ (g : Nat) (A3 : Option Addr) (c3 : Nat), p = .pointer (some ⟨g, 0, none⟩) ∧ Hid (InvF w wx [segI 3 (.slice (some ⟨w1.heap.size, 0, none⟩) 0 0) [], segX 29 g [.int .i64 t.x, .int .i64 t.y, .slice A3 t.l.length c3, .slice none 0 0, .slice none 0 0], segS 26 5 (.slice none 0 0) [] [], segB 5 (.slice A3 t.l.length c3) t.l, segX 29 (w.heap.size + 1) [.int .i64 0, .int .i64 0, .slice none 0 0, .slice none 0 0, .slice none 0 0], segX 32 w.heap.size [.int .i64 a, .int .i64 b, .int .i64 c, .int .i64 d, .int .i64 e]]))
  case first =>
    have HZ := Lib.hid (H2.out.newG 29 #[.int .i64 0, .int .i64 0, .slice none 0 0, .slice none 0 0, .slice none 0 0] (w1.heap.size + 1))
    have M0 := Lib.hid (three.out _ HZ.out.bel)
    have HZD := Lib.hid HZ.out.drew1
    have M0d := Lib.hid (three.out _ HZD.out.bel)
    go_region_held3 (fun w' => w'.cell? ⟨b0, off, none⟩ = some (.int .i64 t.x) ∧ w'.cell? ⟨b0, off + 1, none⟩ = some (.int .i64 t.y) ∧ w'.cell? ⟨b0, off + 2, none⟩ = some (.slice Au t.l.length cu))
      (first
        | with_reducible exact L0.out
        | with_reducible exact M0.out
        | with_reducible exact M0d.out
        | with_reducible exact M1.out
        | with_reducible exact M1a.out
        | with_reducible exact L1.out
        | with_reducible exact L1a.out
        | with_reducible exact L1b.out
        | fail)
      (first
        | (go_at_call 22; refine (l01Copy_any _ t.l _ (SU.out.up HE.out.bel) (by omega)).mono ?_; rintro ev w3 ⟨u3, rfl, ho3, hb3⟩; obtain ⟨A3, c3, rfl, _⟩ := id ho3.sl; have H3 := Lib.hid (HE.out.moreB ho3 hb3); have L1 := Lib.hid (three.out _ H3.out.bel); have HQ := Lib.hid (H3.out.newG 29 #[.int .i64 0, .int .i64 0, .slice none 0 0, .slice none 0 0, .slice none 0 0] w3.heap.size); have L1a := Lib.hid (three.out _ HQ.out.bel); have HS := Lib.hid (H3.out.newG 29 #[.int .i64 t.x, .int .i64 t.y, .slice A3 t.l.length c3, .slice none 0 0, .slice none 0 0] w3.heap.size); have L1b := Lib.hid (three.out _ HS.out.bel); clear ho3 hb3)
        | (go_at_call 22; refine (l01Copy_any _ t.l _ (SU.out.up HZD.out.bel) (by omega)).mono ?_; rintro ev w3 ⟨u3, rfl, ho3, hb3⟩; obtain ⟨A3, c3, rfl, _⟩ := id ho3.sl; have H3 := Lib.hid ((HZD.out.moreB ho3 hb3).front 1 rfl); have M1 := Lib.hid (three.out _ H3.out.bel); obtain ⟨q0, q1, q2, q3, q4⟩ := H3.out.c5 (.head _); obtain ⟨s0, s1, s2, s3, s4⟩ := H3.out.f5 (.head _); have h7 := H3.out.ltX (.head _); have HS := Lib.hid (H3.out.over5 (.int .i64 t.x) (.int .i64 t.y) (.slice A3 t.l.length c3) (.slice none 0 0) (.slice none 0 0)); have M1a := Lib.hid (three.out _ HS.out.bel); clear ho3 hb3))
    all_goals
      go_wp2_with fail
      go_meet
      case rel =>
        have h := HS.out.more (s := segS 26 5 (.slice none 0 0) [] []) ((InvG.start _).moreG (p := (26, .slice none 0 0, [])) (World.ownsRow_nil _ _ _ _) (Below.refl _ _))
        exact ⟨_, A3, c3, rfl, Lib.hid ((h.front 1 rfl).front 3 rfl)⟩
  case rest =>
    obtain ⟨g, A3, c3, rfl, H5⟩ := hcut
    clear H2 HE L0 three
    have hzl := zsV_len V
    have H6 : Hid (InvF w wc [segI 3 (.slice (some ⟨w1.heap.size, 0, none⟩) 0 0) (zsV (V.take 0)), segX 29 g [.int .i64 t.x, .int .i64 t.y, .slice A3 t.l.length c3, .slice none 0 0, .slice none 0 0], segS 26 5 (.slice none 0 0) [] (ksV (V.take 0)), segB 5 (.slice A3 t.l.length c3) t.l, segX 29 (w.heap.size + 1) [.int .i64 0, .int .i64 0, .slice none 0 0, .slice none 0 0, .slice none 0 0], segX 32 w.heap.size [.int .i64 a, .int .i64 b, .int .i64 c, .int .i64 d, .int .i64 e]]) := H5
    clear H5 hzl
    go_wp2
    go_loopw [6, 40] (fun o i wr => ∃ (j : Nat) (ov : Value) (At : Option Addr) (ct : Nat) (vs : List Value), ov = o ∧ j ≤ V.length ∧ i = .int .i64 (j : Int) ∧ Hid (vs.length = j) ∧ Hid (InvF w wr [segI 3 ov (zsV (V.take j)), segX 29 g [.int .i64 t.x, .int .i64 t.y, .slice A3 t.l.length c3, .slice none 0 0, .slice At j ct], segS 26 5 (.slice At j ct) vs (ksV (V.take j)), segB 5 (.slice A3 t.l.length c3) t.l, segX 29 (w.heap.size + 1) [.int .i64 0, .int .i64 0, .slice none 0 0, .slice none 0 0, .slice none 0 0], segX 32 w.heap.size [.int .i64 a, .int .i64 b, .int .i64 c, .int .i64 d, .int .i64 e]]))
      (fun _ i _ => V.length - (intOf i).toNat)
    case atStart => exact ⟨0, _, none, 0, [], rfl, Nat.zero_le _, rfl, Lib.hid rfl, H6⟩
    case round =>
      clear H6
      obtain ⟨j, o, At, ct, vs, rfl, hj, rfl, hvs, Hj⟩ := hrel
      by_cases hlt : j < V.length
      · obtain ⟨tj, htj⟩ := get_default hlt
        have hjl : (j : Int) < (V.length : Int) := by omega
        obtain ⟨y1, y2, g0, g1, g2, g3, g4, s1, s2⟩ := hcell j tj htj
        replace g0 := (Hj.out.bel.cell (p := ⟨b0, off + j * 5, none⟩) hbb).trans g0
        replace g1 := (Hj.out.bel.cell (p := ⟨b0, off + j * 5 + 1, none⟩) hbb).trans g1
        replace g2 := (Hj.out.bel.cell (p := ⟨b0, off + j * 5 + 2, none⟩) hbb).trans g2
        replace g3 := (Hj.out.bel.cell (p := ⟨b0, off + j * 5 + 3, none⟩) hbb).trans g3
        replace g4 := (Hj.out.bel.cell (p := ⟨b0, off + j * 5 + 4, none⟩) hbb).trans g4
        have hmj := volV_mem (List.mem_of_getElem? htj)
        have hkl : tj.k.length ≤ 1048576 := by omega
        obtain ⟨Ay, cy, rfl, _⟩ := id s1
        obtain ⟨Az, cz, rfl, _⟩ := id s2
        have HZT := Lib.hid (zsV_take V j tj htj)
        have HKT := Lib.hid (ksV_take V j tj htj)
        have hlz : Hid ((zsV (V.take j)).length = j) := Lib.hid (by rw [zsV_len, List.length_take]; omega)
        have hlk : Hid ((ksV (V.take j)).length = j) := Lib.hid (by rw [ksV_len, List.length_take]; omega)
        have SK := Lib.hid s2
        have HW := Lib.hid (Hj.out.newG 59 #[.int .i64 tj.x, .int .i64 tj.y, .slice Ay tj.l.length cy, .int .i64 tj.z, .slice Az tj.k.length cz] wr.heap.size)
        clear s1 s2 hmj htj
        generalize zsV (V.take j) = zj at *
        generalize ksV (V.take j) = kj at *
        obtain ⟨v0, v1, v2, v3, v4⟩ := HW.out.c5 (.head _)
        have HW2 := Lib.hid (HW.out.front 1 rfl)
        have hsz : (wr.alloc (.cells #[.int .i64 tj.x, .int .i64 tj.y, .slice Ay tj.l.length cy, .int .i64 tj.z, .slice Az tj.k.length cz] 59)).heap.size = wr.heap.size + 1 := by simp
        have HSZ := Lib.hid hsz
        clear hsz
        go_wp2_with (at_builtin; refine wpList_appIF (W := w) rfl _ _ 58 rfl 3 j0 Try.underlying58 hjI hy0 hy1 hy2 _ zj (by rfl) tj.z (by rw [HSZ.out]; rfl) HW2.out (by have := hlz.out; omega) ?_; intro v2' w2 HX)
        have HD := Lib.hid HX.drew1
        have o4 := HX.atX (.tail _ (.tail _ (.head _))) 4 rfl
        have p4 := HX.atX (.tail _ (.head _)) 4 rfl
        clear HX v0 v1 v2 v3 v4 HW HW2 HSZ g0 g1 g2 g3 g4
        go_wp2_with fail
        go_region_law (first
          | (refine step_appFS (W := w) (w := w12) (E := 5) (E2 := 26) (s := .slice At j ct) (u := .slice A12 tj.k.length c12) (vs := vs) (L := kj) (r := tj.k) (by rfl) (.tmp 50) (.tmp 54) 27 rfl i0 Try.underlying27 hi hz0 hz1 hz2 (by rfl) (by rfl) rfl (by rw [hvs.out, hlk.out]) K12.out (by rw [hlk.out]; omega) ?_; intro v14 w14 H14; obtain ⟨A14, c14, e14⟩ := H14.openS (by simp only [List.length_append]; rw [hvs.out, hlk.out]; rfl) (.head _); simp only [List.length_append, List.length_singleton, hlk.out] at e14; subst e14; have o6 := H14.atX (.tail _ (.tail _ (.tail _ (.head _)))) 4 rfl; have f6 := H14.frX (.tail _ (.tail _ (.tail _ (.head _)))) 4; have K14 := Lib.hid H14; clear H14)
          | (go_simp; go_at_call 22; refine (l01Copy_any _ tj.k _ (SK.out.up HD.out.bel) (by omega)).mono ?_; rintro ev w12 ⟨u12, rfl, ho12, hb12⟩; obtain ⟨A12, c12, rfl, _⟩ := id ho12.sl; have H12 := HD.out.moreB ho12 hb12; have o5 := H12.atX (.tail _ (.tail _ (.tail _ (.head _)))) 4 rfl; have o5a := (H12.up ((Below.refl _ _).alloc (Nat.le_refl _) (.cells #[.slice A12 tj.k.length c12] 26))).atX (.tail _ (.tail _ (.tail _ (.head _)))) 4 rfl; have K12 := Lib.hid (H12.front 4 rfl); clear H12 ho12 hb12; dsimp only))
        all_goals
          have HF := Lib.hid ((((K14.out.front 3 rfl).setX 4 (.slice A14 (j + 1) c14)).sub (qs := [segX 29 g [.int .i64 t.x, .int .i64 t.y, .slice A3 t.l.length c3, .slice none 0 0, .slice A14 (j + 1) c14], segS 26 5 (.slice A14 (j + 1) c14) (vs ++ [.slice A12 tj.k.length c12]) (kj ++ [tj.k]), segI 3 v2' (zj ++ [tj.z]), segB 5 (.slice A3 t.l.length c3) t.l, segX 29 (w.heap.size + 1) [.int .i64 0, .int .i64 0, .slice none 0 0, .slice none 0 0, .slice none 0 0], segX 32 w.heap.size [.int .i64 a, .int .i64 b, .int .i64 c, .int .i64 d, .int .i64 e]]) (.cons_cons _ (.cons_cons _ (.cons_cons _ (.cons _ (List.Sublist.refl _)))))).front 2 rfl)
          clear o4 p4 o5 o5a o6 f6 K12 K14
          go_wp2
          go_roundw
          case rel => exact ⟨j + 1, v2', A14, c14, vs ++ [.slice A12 tj.k.length c12], rfl, by omega, by go_num, Lib.hid (by rw [List.length_append, hvs.out]; rfl), Lib.hid (by rw [HZT.out, HKT.out]; exact HF.out)⟩
          case measure => simp [intOf]; omega
      · obtain rfl : j = V.length := by omega
        have hfull : V.take V.length = V := List.take_length
        rw [hfull] at Hj
        have HO := Lib.hid (Hj.out.ownI 3 (.head _)).sl
        obtain ⟨Ao, co, rfl, _⟩ := id HO.out
        obtain ⟨l0, l1, l2, l3, l4⟩ := Hj.out.c5 (.tail _ (.tail _ (.tail _ (.tail _ (.tail _ (.head _))))))
        have hB : Hid (B0 = (ofB (zsV V) a && (qcB a b c d e t.x t.y t.l (bitsV V a) (ksV V) && eqVs V (qcV t.x t.y t.l (bitsV V a) (ksV V))))) := Lib.hid (by
          have h := HX0.out
          rw [HB.out]
          have h2 : fromB a b c d e V = (limB a b c d e && (ofB (zsV V) a && (qcB a b c d e t.x t.y t.l (bitsV V a) (ksV V) && eqVs V (qcV t.x t.y t.l (bitsV V a) (ksV V))))) := by
            rw [HVV.out]
            rfl
          rw [h2, ← h, Bool.true_and])
        have hmem : Hid (∀ r ∈ ksV V, r.length ≤ 4294967296) := Lib.hid (fun r hr => by
          obtain ⟨q, hq, rfl⟩ := List.mem_map.1 hr
          have := volV_mem hq
          omega)
        have hzl : (zsV V).length ≤ 4294967296 := by rw [zsV_len]; omega
        have hkl : (ksV V).length ≤ 1073741824 := by rw [ksV_len]; omega
        have hbl : (bitsV V a).length ≤ 2 := ofL_len _ _
        have hd : Hid ((hdV V).x = t.x ∧ (hdV V).y = t.y ∧ (hdV V).l = t.l) := Lib.hid (by rw [HVV.out]; exact ⟨rfl, rfl, rfl⟩)
        obtain ⟨x1, hx1⟩ : ∃ x, x = ofB (zsV V) a := ⟨_, rfl⟩
        have hkb : Hid (ofL (zsV V) a = bitsV V a) := Lib.hid rfl
        have HKL := Lib.hid (ksV_len V)
        have hgetk : Hid (vs.length = (ksV V).length) := Lib.hid (by rw [ksV_len]; exact hvs.out)
        generalize hkk : bitsV V a = kb at *
        obtain ⟨x2, hx2⟩ : ∃ x, x = qcB a b c d e t.x t.y t.l kb (ksV V) := ⟨_, rfl⟩
        rw [← hx1, ← hx2] at hB
        have HX1 := Lib.hid hx1
        have HX2 := Lib.hid hx2
        have HKK := Lib.hid hkk
        clear hx1 hx2 hkk hfull
        obtain ⟨N, hN⟩ : ∃ N, N = V.length := ⟨_, rfl⟩
        obtain ⟨W, hW⟩ : ∃ W, W = qcV t.x t.y t.l kb (ksV V) := ⟨_, rfl⟩
        rw [← hW] at hB
        have HWE := Lib.hid hW
        clear hW
        go_wp2_with fail
        refine (specBitsOf_any _ (zsV V) a _ (HO.out) hzl).mono ?_
        rw [← HX1.out, hkb.out]
        rintro ev w5 ⟨u5, rfl, ho5, hb5⟩
        obtain ⟨A5, c5, rfl, _⟩ := id ho5.sl
        have H7 := Hj.out.moreB ho5 hb5
        have o3 := H7.atX (.tail _ (.tail _ (.head _))) 3 rfl
        have f3 := H7.frX (.tail _ (.tail _ (.head _))) 3
        have H8 := Lib.hid (((H7.front 2 rfl).setX 3 (.slice A5 kb.length c5)).sub (qs := [segX 29 g [.int .i64 t.x, .int .i64 t.y, .slice A3 t.l.length c3, .slice A5 kb.length c5, .slice At V.length ct], segB 5 (.slice A5 kb.length c5) kb, segS 26 5 (.slice At V.length ct) vs (ksV V), segB 5 (.slice A3 t.l.length c3) t.l, segX 29 (w.heap.size + 1) [.int .i64 0, .int .i64 0, .slice none 0 0, .slice none 0 0, .slice none 0 0], segX 32 w.heap.size [.int .i64 a, .int .i64 b, .int .i64 c, .int .i64 d, .int .i64 e]]) (.cons_cons _ (.cons_cons _ (.cons _ (List.Sublist.refl _)))))
        obtain ⟨o0', o1', o2', o3', o4'⟩ := H8.out.c5 (.head _)
        clear Hj HO ho5 hb5 H7 l0 l1 l2 l3 l4
        go_wp2_with fail
        refine (specQcVotes_any t.x t.y _ _ _ t.l kb (ksV V) _ (H8.out.slB 5 (.tail _ (.tail _ (.tail _ (.head _))))) (H8.out.slB 5 (.tail _ (.head _))) (H8.out.slS 26 5 hgetk.out (.tail _ (.tail _ (.head _)))) (by omega) (by omega) (by omega) hmem.out).mono ?_
        rw [← HWE.out]
        rintro ev w9 ⟨v9, ps9, rfl, hb9, ho9⟩
        have H9 := Lib.hid (H8.out.up hb9)
        obtain ⟨A9, c9, rfl, z1, z2, z0, z3⟩ := ho9.sl
        unfold maxLen at z2
        clear H8 hb9 ho9 o0' o1' o2' o3' o4' o3 f3 z0
        obtain ⟨l0, l1, l2, l3, l4⟩ := H9.out.c5 (.tail _ (.tail _ (.tail _ (.tail _ (.tail _ (.head _))))))
        obtain ⟨o0, o1, o2, o3, o4⟩ := H9.out.c5 (.head _)
        rcases x1 with _ | _
        · have hBf : Hid (B0 = false) := Lib.hid (by rw [hB.out]; rfl)
          clear hB
          have HQ := Lib.hid (H9.out.front 4 rfl)
          obtain ⟨r0, r1, r2, r3, r4⟩ := HQ.out.c5 (.head _)
          obtain ⟨s0, s1, s2, s3, s4⟩ := HQ.out.f5 (.head _)
          have h7 := HQ.out.ltX (.head _)
          go_wp2
          have H2 := HQ.out.over5 (.int .i64 0) (.int .i64 0) (.slice none 0 0) (.slice none 0 0) (.slice none 0 0)
          obtain ⟨q0, q1, q2, q3, q4⟩ := H2.c5 (.head _)
          refine bodyPost_ret (v := .tuple #[.agg #[.int .i64 0, .int .i64 0, .slice none 0 0, .slice none 0 0, .slice none 0 0], .bool false]) (by simp [results, Try.results6, go_sem, q0, q1, q2, q3, q4]) rfl (gotFrom_no hBf.out rfl H2.bel)
        rcases x2 with _ | _
        · have hBf : Hid (B0 = false) := Lib.hid (by rw [hB.out]; rfl)
          clear hB
          go_wp2_with fail
          refine (specQcOk_any a b c d e t.x t.y _ _ _ t.l kb (ksV V) _ (H9.out.slB 5 (.tail _ (.tail _ (.tail _ (.head _))))) (H9.out.slB 5 (.tail _ (.head _))) (H9.out.slS 26 5 hgetk.out (.tail _ (.tail _ (.head _)))) (by omega)).mono ?_
          rw [← HX2.out]
          rintro ev w10 ⟨rfl, hb10⟩
          have H10 := Lib.hid (H9.out.up hb10)
          clear H9 hb10 l0 l1 l2 l3 l4 o0 o1 o2 o3 o4
          have HQ := Lib.hid (H10.out.front 4 rfl)
          obtain ⟨r0, r1, r2, r3, r4⟩ := HQ.out.c5 (.head _)
          obtain ⟨s0, s1, s2, s3, s4⟩ := HQ.out.f5 (.head _)
          have h7 := HQ.out.ltX (.head _)
          go_wp2
          have H2 := HQ.out.over5 (.int .i64 0) (.int .i64 0) (.slice none 0 0) (.slice none 0 0) (.slice none 0 0)
          obtain ⟨q0, q1, q2, q3, q4⟩ := H2.c5 (.head _)
          refine bodyPost_ret (v := .tuple #[.agg #[.int .i64 0, .int .i64 0, .slice none 0 0, .slice none 0 0, .slice none 0 0], .bool false]) (by simp [results, Try.results6, go_sem, q0, q1, q2, q3, q4]) rfl (gotFrom_no hBf.out rfl H2.bel)
        by_cases hlen : V.length = W.length
        case neg =>
          have hBf : Hid (B0 = false) := Lib.hid (by rw [hB.out, eqVs_len hlen]; rfl)
          have hcmp : ((W.length : Int) != (V.length : Int)) = true := by rw [bne_iff_ne]; omega
          clear hB hlen
          go_wp2_with fail
          refine (specQcOk_any a b c d e t.x t.y _ _ _ t.l kb (ksV V) _ (H9.out.slB 5 (.tail _ (.tail _ (.tail _ (.head _))))) (H9.out.slB 5 (.tail _ (.head _))) (H9.out.slS 26 5 hgetk.out (.tail _ (.tail _ (.head _)))) (by omega)).mono ?_
          rw [← HX2.out]
          rintro ev w10 ⟨rfl, hb10⟩
          have H10 := Lib.hid (H9.out.up hb10)
          clear H9 hb10 l0 l1 l2 l3 l4 o0 o1 o2 o3 o4
          have HQ := Lib.hid (H10.out.front 4 rfl)
          obtain ⟨r0, r1, r2, r3, r4⟩ := HQ.out.c5 (.head _)
          obtain ⟨s0, s1, s2, s3, s4⟩ := HQ.out.f5 (.head _)
          have h7 := HQ.out.ltX (.head _)
          go_wp2
          have H2 := HQ.out.over5 (.int .i64 0) (.int .i64 0) (.slice none 0 0) (.slice none 0 0) (.slice none 0 0)
          obtain ⟨q0, q1, q2, q3, q4⟩ := H2.c5 (.head _)
          refine bodyPost_ret (v := .tuple #[.agg #[.int .i64 0, .int .i64 0, .slice none 0 0, .slice none 0 0, .slice none 0 0], .bool false]) (by simp [results, Try.results6, go_sem, q0, q1, q2, q3, q4]) rfl (gotFrom_no hBf.out rfl H2.bel)
        have hcmp : ((W.length : Int) != (V.length : Int)) = false := by rw [bne_eq_false_iff_eq]; omega
        obtain ⟨b9, off9, rfl, hbb9, hcell9⟩ := z3 (by omega)
        have HLEN := Lib.hid hlen
        clear hlen z3
        go_wp2_with fail
        refine (specQcOk_any a b c d e t.x t.y _ _ _ t.l kb (ksV V) _ (H9.out.slB 5 (.tail _ (.tail _ (.tail _ (.head _))))) (H9.out.slB 5 (.tail _ (.head _))) (H9.out.slS 26 5 hgetk.out (.tail _ (.tail _ (.head _)))) (by omega)).mono ?_
        rw [← HX2.out]
        rintro ev w10 ⟨rfl, hb10⟩
        have H10 := Lib.hid (H9.out.up hb10)
        have HB10 := Lib.hid hb10
        clear H9 hb10 l0 l1 l2 l3 l4 o0 o1 o2 o3 o4
        go_wp2
        clear hcmp
        go_loopw [13, 87] (fun _ i wr => ∃ j : Nat, j ≤ V.length ∧ i = .int .i64 (j : Int) ∧ Hid (∀ (i : Nat) (p q : Vt), i < j → V[i]? = some p → W[i]? = some q → sameT p q = true) ∧ Hid (Below w10.heap.size w10 wr))
          (fun _ i _ => V.length - (intOf i).toNat)
        case atStart => exact ⟨0, Nat.zero_le _, rfl, Lib.hid (fun i p q hi => absurd hi (Nat.not_lt_zero _)), Lib.hid (Below.refl _ _)⟩
        case round =>
          obtain ⟨j, hj, rfl, hsame, HBj⟩ := hrel
          by_cases hlt : j < V.length
          · obtain ⟨tj, htj⟩ := get_default hlt
            have hlw : j < W.length := by have := HLEN.out; omega
            obtain ⟨uj, huj⟩ := get_default hlw
            have hjl : (j : Int) < (V.length : Int) := by omega
            have hjw : (j : Int) < (W.length : Int) := by omega
            have hbv : Below w.heap.size w wr := H10.out.bel.trans (HBj.out.mono H10.out.le)
            have hbw : Below w9.heap.size w9 wr := HB10.out.trans (HBj.out.mono HB10.out.size)
            obtain ⟨y1, y2, g0, g1, g2, g3, g4, s1, s2⟩ := hcell j tj htj
            obtain ⟨y3, y4, k0, k1, k2, k3, k4, s3, s4⟩ := hcell9 j uj huj
            obtain ⟨Ay, cy, rfl, _⟩ := id s1
            obtain ⟨Az, cz, rfl, _⟩ := id s2
            obtain ⟨Bu, bu, rfl, _⟩ := id s3
            obtain ⟨Bw, bw, rfl, _⟩ := id s4
            have TEN : Hid (∀ w', Below wr.heap.size wr w' → w'.cell? ⟨b0, off + j * 5, none⟩ = some (.int .i64 tj.x) ∧ w'.cell? ⟨b0, off + j * 5 + 1, none⟩ = some (.int .i64 tj.y) ∧ w'.cell? ⟨b0, off + j * 5 + 2, none⟩ = some (.slice Ay tj.l.length cy) ∧ w'.cell? ⟨b0, off + j * 5 + 3, none⟩ = some (.int .i64 tj.z) ∧ w'.cell? ⟨b0, off + j * 5 + 4, none⟩ = some (.slice Az tj.k.length cz) ∧ w'.cell? ⟨b9, off9 + j * 5, none⟩ = some (.int .i64 uj.x) ∧ w'.cell? ⟨b9, off9 + j * 5 + 1, none⟩ = some (.int .i64 uj.y) ∧ w'.cell? ⟨b9, off9 + j * 5 + 2, none⟩ = some (.slice Bu uj.l.length bu) ∧ w'.cell? ⟨b9, off9 + j * 5 + 3, none⟩ = some (.int .i64 uj.z) ∧ w'.cell? ⟨b9, off9 + j * 5 + 4, none⟩ = some (.slice Bw uj.k.length bw)) := Lib.hid (fun w' hb => by
              have c1 : Below w.heap.size w w' := hbv.trans (hb.mono hbv.size)
              have c2 : Below w9.heap.size w9 w' := hbw.trans (hb.mono hbw.size)
              exact ⟨(c1.cell (p := ⟨b0, off + j * 5, none⟩) hbb).trans g0, (c1.cell (p := ⟨b0, off + j * 5 + 1, none⟩) hbb).trans g1, (c1.cell (p := ⟨b0, off + j * 5 + 2, none⟩) hbb).trans g2, (c1.cell (p := ⟨b0, off + j * 5 + 3, none⟩) hbb).trans g3, (c1.cell (p := ⟨b0, off + j * 5 + 4, none⟩) hbb).trans g4, (c2.cell (p := ⟨b9, off9 + j * 5, none⟩) hbb9).trans k0, (c2.cell (p := ⟨b9, off9 + j * 5 + 1, none⟩) hbb9).trans k1, (c2.cell (p := ⟨b9, off9 + j * 5 + 2, none⟩) hbb9).trans k2, (c2.cell (p := ⟨b9, off9 + j * 5 + 3, none⟩) hbb9).trans k3, (c2.cell (p := ⟨b9, off9 + j * 5 + 4, none⟩) hbb9).trans k4⟩)
            have HD : Below wr.heap.size wr wr.drew := (Below.refl _ wr).drew
            have L0 := Lib.hid (TEN.out wr.drew HD)
            have Q1 := Lib.hid (s1.up (hbv.trans (HD.mono hbv.size)))
            have Q2 := Lib.hid (s2.up (hbv.trans (HD.mono hbv.size)))
            have Q3 := Lib.hid (s3.up (hbw.trans (HD.mono hbw.size)))
            have Q4 := Lib.hid (s4.up (hbw.trans (HD.mono hbw.size)))
            have HDH := Lib.hid HD
            obtain ⟨sb, hsb⟩ : ∃ sb, sb = sameVB tj.x tj.y tj.z tj.l tj.k uj.x uj.y uj.z uj.l uj.k := ⟨_, rfl⟩
            have HSB := Lib.hid hsb
            have HTJ := Lib.hid htj
            have HUJ := Lib.hid huj
            clear g0 g1 g2 g3 g4 k0 k1 k2 k3 k4 s1 s2 s3 s4 hbv hbw HD hsb htj huj
            rcases sb with _ | _
            · have hBf : Hid (B0 = false) := Lib.hid (by rw [hB.out, eqVs_no HTJ.out HUJ.out (by unfold sameT; exact HSB.out.symm)]; rfl)
              clear hB
              go_wp2_with fail
              go_region_held3 (fun w' => w'.cell? ⟨b0, off + j * 5, none⟩ = some (.int .i64 tj.x) ∧ w'.cell? ⟨b0, off + j * 5 + 1, none⟩ = some (.int .i64 tj.y) ∧ w'.cell? ⟨b0, off + j * 5 + 2, none⟩ = some (.slice Ay tj.l.length cy) ∧ w'.cell? ⟨b0, off + j * 5 + 3, none⟩ = some (.int .i64 tj.z) ∧ w'.cell? ⟨b0, off + j * 5 + 4, none⟩ = some (.slice Az tj.k.length cz) ∧ w'.cell? ⟨b9, off9 + j * 5, none⟩ = some (.int .i64 uj.x) ∧ w'.cell? ⟨b9, off9 + j * 5 + 1, none⟩ = some (.int .i64 uj.y) ∧ w'.cell? ⟨b9, off9 + j * 5 + 2, none⟩ = some (.slice Bu uj.l.length bu) ∧ w'.cell? ⟨b9, off9 + j * 5 + 3, none⟩ = some (.int .i64 uj.z) ∧ w'.cell? ⟨b9, off9 + j * 5 + 4, none⟩ = some (.slice Bw uj.k.length bw))
                (first
                  | exact L0.out
                  | exact L1.out)
                (first
                  | (go_at_call 26; refine (specVoteSame_any tj.x tj.y tj.z uj.x uj.y uj.z _ _ _ _ tj.l tj.k uj.l uj.k _ Q1.out Q2.out Q3.out Q4.out).mono ?_; rw [← HSB.out]; rintro ev w11 ⟨rfl, hb11⟩; have HB11 := Lib.hid (HDH.out.trans (hb11.mono HDH.out.size)); have L1 := Lib.hid (TEN.out w11 HB11.out); clear hb11))
              have H11 := Lib.hid (H10.out.up (HBj.out.trans (HB11.out.mono HBj.out.size)))
              clear L0 L1 TEN H10
              have HQ := Lib.hid (H11.out.front 4 rfl)
              obtain ⟨r0, r1, r2, r3, r4⟩ := HQ.out.c5 (.head _)
              obtain ⟨s0, s1, s2, s3, s4⟩ := HQ.out.f5 (.head _)
              have h7 := HQ.out.ltX (.head _)
              go_wp2
              have H2 := HQ.out.over5 (.int .i64 0) (.int .i64 0) (.slice none 0 0) (.slice none 0 0) (.slice none 0 0)
              obtain ⟨q0, q1, q2, q3, q4⟩ := H2.c5 (.head _)
              refine bodyPost_ret (v := .tuple #[.agg #[.int .i64 0, .int .i64 0, .slice none 0 0, .slice none 0 0, .slice none 0 0], .bool false]) (by simp [results, Try.results6, go_sem, q0, q1, q2, q3, q4]) rfl (gotFrom_no hBf.out rfl H2.bel)
            · go_wp2_with fail
              go_region_held3 (fun w' => w'.cell? ⟨b0, off + j * 5, none⟩ = some (.int .i64 tj.x) ∧ w'.cell? ⟨b0, off + j * 5 + 1, none⟩ = some (.int .i64 tj.y) ∧ w'.cell? ⟨b0, off + j * 5 + 2, none⟩ = some (.slice Ay tj.l.length cy) ∧ w'.cell? ⟨b0, off + j * 5 + 3, none⟩ = some (.int .i64 tj.z) ∧ w'.cell? ⟨b0, off + j * 5 + 4, none⟩ = some (.slice Az tj.k.length cz) ∧ w'.cell? ⟨b9, off9 + j * 5, none⟩ = some (.int .i64 uj.x) ∧ w'.cell? ⟨b9, off9 + j * 5 + 1, none⟩ = some (.int .i64 uj.y) ∧ w'.cell? ⟨b9, off9 + j * 5 + 2, none⟩ = some (.slice Bu uj.l.length bu) ∧ w'.cell? ⟨b9, off9 + j * 5 + 3, none⟩ = some (.int .i64 uj.z) ∧ w'.cell? ⟨b9, off9 + j * 5 + 4, none⟩ = some (.slice Bw uj.k.length bw))
                (first
                  | exact L0.out
                  | exact L1.out)
                (first
                  | (go_at_call 26; refine (specVoteSame_any tj.x tj.y tj.z uj.x uj.y uj.z _ _ _ _ tj.l tj.k uj.l uj.k _ Q1.out Q2.out Q3.out Q4.out).mono ?_; rw [← HSB.out]; rintro ev w11 ⟨rfl, hb11⟩; have HB11 := Lib.hid (HDH.out.trans (hb11.mono HDH.out.size)); have L1 := Lib.hid (TEN.out w11 HB11.out); clear hb11))
              have HB12 := Lib.hid (HBj.out.trans (HB11.out.mono HBj.out.size))
              have HS12 : Hid (∀ (i : Nat) (p q : Vt), i < j + 1 → V[i]? = some p → W[i]? = some q → sameT p q = true) := Lib.hid (fun i p q hi hp hq => by
                by_cases hij : i < j
                · exact hsame.out i p q hij hp hq
                · obtain rfl : i = j := by omega
                  rw [HTJ.out] at hp
                  rw [HUJ.out] at hq
                  cases hp
                  cases hq
                  unfold sameT
                  exact HSB.out.symm)
              clear L0 L1 TEN
              go_wp2
              go_roundw
              case rel => exact ⟨j + 1, by omega, by go_num, HS12, HB12⟩
              case measure => simp [intOf]; omega
          · obtain rfl : j = V.length := by omega
            have hBt : Hid (B0 = true) := Lib.hid (by
              rw [hB.out, eqVs_yes HLEN.out (fun i p q hp hq => hsame.out i p q (List.getElem?_eq_some_iff.1 hp).1 hp hq)]
              rfl)
            have H11 := Lib.hid ((H10.out.up HBj.out).front 4 rfl)
            obtain ⟨o0, o1, o2, o3, o4⟩ := H11.out.c5 (.tail _ (.head _))
            obtain ⟨r0, r1, r2, r3, r4⟩ := H11.out.c5 (.head _)
            obtain ⟨s0, s1, s2, s3, s4⟩ := H11.out.f5 (.head _)
            have h7 := H11.out.ltX (.head _)
            go_wp2
            have H2 := H11.out.over5 (.int .i64 t.x) (.int .i64 t.y) (.slice A3 t.l.length c3) (.slice A5 kb.length c5) (.slice At V.length ct)
            obtain ⟨q0, q1, q2, q3, q4⟩ := H2.c5 (.head _)
            have H3 := (H2.sub (qs := [segB 5 (.slice A5 kb.length c5) kb, segS 26 5 (.slice At V.length ct) vs (ksV V), segB 5 (.slice A3 t.l.length c3) t.l]) (.cons _ (.cons _ (.cons_cons _ (.cons_cons _ (.cons_cons _ (.cons _ .slnil))))))).front 2 rfl
            refine bodyPost_ret (v := .tuple #[.agg #[.int .i64 t.x, .int .i64 t.y, .slice A3 t.l.length c3, .slice A5 kb.length c5, .slice At V.length ct], .bool true]) (by simp [results, Try.results6, go_sem, q0, q1, q2, q3, q4]) rfl (gotFrom_yes hBt.out (by rw [hd.out.1, hd.out.2.1]) hgetk.out ?_)
            rw [hd.out.2.2, HKK.out]
            exact H3
end Go.Proofs.Ytdoaikanaodefaa
