/- TcOk of the model. -/
import Derived.Test.YtickneafppbegaaTcM
import Derived.Test.YtickneafppbegaaEnt
import Derived.Test.YtickneafppbegaaWat
namespace Go.Proofs.Ytickneafppbegaa
open Go.ChangeShapes Go.WideShapes Go.ChangeAt Go.RowKit
set_option linter.unusedSimpArgs false

set_option maxRecDepth 100000 in
set_option maxHeartbeats 8000000 in
theorem specTcOk_any (a b c0 d e x : Int) (s : Value) (L : List Et) (w : World) (hs : SlE w w.heap.size s L) :
    Calls Try.prog 9 #[.agg #[.int .i64 a, .int .i64 b, .int .i64 c0, .int .i64 d, .int .i64 e], .agg #[.int .i64 x, s]] w (BoolB w (tcB a b c0 d e x L)) := by
  obtain ⟨A, c, rfl, h1, h2, h0, h3⟩ := hs
  unfold maxLen at h2
  clear h0
  obtain ⟨ss, hss⟩ : ∃ ss, ss = [segX 33 (w.heap.size + 1) [.int .i64 x, .slice A L.length c], segX 29 w.heap.size [.int .i64 a, .int .i64 b, .int .i64 c0, .int .i64 d, .int .i64 e]] := ⟨_, rfl⟩
  have H0 := ((InvF.start w).newG 29 #[.int .i64 a, .int .i64 b, .int .i64 c0, .int .i64 d, .int .i64 e] w.heap.size).newG 33 #[.int .i64 x, .slice A L.length c] (w.heap.size + 1)
  have H1 : InvF w ((w.alloc (.cells #[.int .i64 a, .int .i64 b, .int .i64 c0, .int .i64 d, .int .i64 e] 29)).alloc (.cells #[.int .i64 x, .slice A L.length c] 33)) ss := by rw [hss]; exact H0
  have HM1 : (segX 33 (w.heap.size + 1) [.int .i64 x, .slice A L.length c] ∈ ss) := by rw [hss]; exact .head _
  have HM2 : (segX 29 w.heap.size [.int .i64 a, .int .i64 b, .int .i64 c0, .int .i64 d, .int .i64 e] ∈ ss) := by rw [hss]; exact .tail _ (.head _)
  obtain ⟨R, hR⟩ : ∃ R, R = tcB a b c0 d e x L := ⟨_, rfl⟩
  rw [← hR]
  unfold tcB at hR
  obtain ⟨x0, g0⟩ : ∃ x0, x0 = limB a b c0 d e := ⟨_, rfl⟩
  obtain ⟨x1, g1⟩ : ∃ x1, x1 = isNumB x := ⟨_, rfl⟩
  have HLIM : Hid (x0 = true → a ≤ 1048576) := Lib.hid (fun h => by
    have h5 := (limB_yes (g0.symm.trans h)).1
    unfold cntOk at h5
    omega)
  rw [← g0, ← g1] at hR
  have G0 := Lib.hid g0; have G1 := Lib.hid g1
  have HR := Lib.hid hR
  have HSS := Lib.hid hss
  clear g0 g1 hss H0 hR
  go_enter Try.func9, Try.ntmps9
  go_wp2_with fail
  refine (specLimitsOk_any a b c0 d e _).mono ?_
  rw [← G0.out]
  rintro ev w4 ⟨rfl, hb4⟩
  have H4 := H1.up hb4
  clear H1 hb4
  obtain ⟨o0, o1⟩ := H4.c2 HM1
  obtain ⟨t0, t1, t2, t3, t4⟩ := H4.c5 HM2
  rcases x0 with _ | _
  · obtain rfl : R = false := by rw [HR.out]; simp
    have hb := H4.bel
    go_wp2
    go_ret
    exact ⟨rfl, hb⟩
  go_wp2_with fail
  refine (l01Num_any x _).mono ?_
  rw [← G1.out]
  rintro ev _ ⟨rfl, rfl⟩
  rcases x1 with _ | _
  · obtain rfl : R = false := by rw [HR.out]; simp
    have hb := H4.bel
    go_wp2
    go_ret
    exact ⟨rfl, hb⟩
  by_cases hlen : a < (L.length : Int)
  · obtain rfl : R = false := by rw [HR.out, decide_eq_false (by omega)]; simp
    have hb := H4.bel
    go_wp2
    go_ret
    exact ⟨rfl, hb⟩
  have hla : (L.length : Int) ≤ a := by omega
  have hR := HR.out
  rw [decide_eq_true hla, Bool.true_and, Bool.true_and, Bool.true_and] at hR
  have HRE := Lib.hid hR
  have hal := HLIM.out (by simp)
  clear hR HR
  have HO1 : Hid (∀ z : WF w ss, z.w.cell? ⟨w.heap.size + 1, 1, none⟩ = some (.slice A L.length c)) := Lib.hid (fun z => z.h.atX HM1 1 rfl)
  go_wp2
  clear o0 o1 t0 t1 t2 t3 t4
  go_loopw [27] (fun i wr => ∃ j : Nat, j ≤ L.length ∧ i = .int .i64 j ∧ Hid (EntsTo a x L j) ∧ ∃ z : WF w ss, wr = z.w)
    (fun i _ => L.length - (intOf i).toNat)
  case atStart => exact ⟨0, Nat.zero_le _, rfl, Lib.hid EntsTo.zero, ⟨_, H4⟩, rfl⟩
  case round =>
    clear H4
    obtain ⟨j, hj, rfl, HE, z, rfl⟩ := hrel
    by_cases hlt : j < L.length
    · obtain ⟨bb, off, rfl, hbb, hcell⟩ := h3 (by omega)
      obtain ⟨t, ht⟩ := getE hlt
      obtain ⟨u, g0, g1, g2, s1⟩ := hcell j t ht
      replace g0 := (z.h.bel.cell (p := ⟨bb, off + j * 3, none⟩) hbb).trans g0
      replace g1 := (z.h.bel.cell (p := ⟨bb, off + j * 3 + 1, none⟩) hbb).trans g1
      replace g2 := (z.h.bel.cell (p := ⟨bb, off + j * 3 + 2, none⟩) hbb).trans g2
      have HNO : Hid ((entB a x t && nextB (L.take j) t.x) = false → R = false) := Lib.hid (fun hb => by rw [HRE.out]; exact entsB_no ht hb)
      have HYES : Hid (entB a x t = true → nextB (L.take j) t.x = true → EntsTo a x L (j + 1)) := Lib.hid (fun e1 e2 => HE.out.succ ht e1 e2)
      have hprev : ∀ j0, j = j0 + 1 → ∃ t0, L[j0]? = some t0 := fun j0 h => ⟨L[j0], List.getElem?_eq_getElem (by omega)⟩
      have hprevN : ∀ j0 t0, j = j0 + 1 → L[j0]? = some t0 → nextB (L.take j) t.x = decide (t0.x < t.x) := fun j0 t0 h h' => by rw [h]; exact nextB_take h' _
      have hfirst : j = 0 → nextB (L.take j) t.x = true := fun h => by rw [h]; rfl
      have hcl0 : ∀ j0 t0, j = j0 + 1 → L[j0]? = some t0 → w.cell? ⟨bb, off + j0 * 3, none⟩ = some (.int .i64 t0.x) := fun j0 t0 h h' => by
        obtain ⟨u0, e0, _⟩ := hcell j0 t0 h'
        exact e0
      have hs1 := s1
      obtain ⟨A1, e1, rfl, _⟩ := s1
      unfold entB at HNO HYES
      obtain ⟨tx, ty, tk⟩ := t
      dsimp only at *
      generalize nextB (L.take j) tx = nb at *
      obtain ⟨s3, hs3⟩ : ∃ s3, s3 = [segX 53 z.w.heap.size [.int .i64 tx, .int .i64 ty, .slice A1 tk.length e1], segX 33 (w.heap.size + 1) [.int .i64 x, .slice (some ⟨bb, off, none⟩) L.length c], segX 29 w.heap.size [.int .i64 a, .int .i64 b, .int .i64 c0, .int .i64 d, .int .i64 e]] := ⟨_, rfl⟩
      have HZ : InvF w z.w [segX 33 (w.heap.size + 1) [.int .i64 x, .slice (some ⟨bb, off, none⟩) L.length c], segX 29 w.heap.size [.int .i64 a, .int .i64 b, .int .i64 c0, .int .i64 d, .int .i64 e]] := by rw [← HSS.out]; exact z.h
      have H3 : InvF w (z.w.alloc (.cells #[.int .i64 tx, .int .i64 ty, .slice A1 tk.length e1] 53)) s3 := by rw [hs3]; exact HZ.newG 53 #[.int .i64 tx, .int .i64 ty, .slice A1 tk.length e1] z.w.heap.size
      have hback : Hid (∀ y : WF w s3, ∃ z' : WF w ss, y.w = z'.w) := Lib.hid (fun y => ⟨⟨y.w, by rw [HSS.out]; exact (show InvF w y.w s3 from y.h).sub (by rw [hs3]; exact .cons _ (List.Sublist.refl _))⟩, rfl⟩)
      have m0 := fun y : WF w s3 => y.h.atX (T := 53) (g := z.w.heap.size) (xs := [.int .i64 tx, .int .i64 ty, .slice A1 tk.length e1]) (by rw [hs3]; exact .head _) 0 rfl
      have m1 := fun y : WF w s3 => y.h.atX (T := 53) (g := z.w.heap.size) (xs := [.int .i64 tx, .int .i64 ty, .slice A1 tk.length e1]) (by rw [hs3]; exact .head _) 1 rfl
      have m2 := fun y : WF w s3 => y.h.atX (T := 53) (g := z.w.heap.size) (xs := [.int .i64 tx, .int .i64 ty, .slice A1 tk.length e1]) (by rw [hs3]; exact .head _) 2 rfl
      have q0 := fun y : WF w s3 => y.h.atX (T := 33) (g := w.heap.size + 1) (xs := [.int .i64 x, .slice (some ⟨bb, off, none⟩) L.length c]) (by rw [hs3]; exact .tail _ (.head _)) 0 rfl
      have q1 := fun y : WF w s3 => y.h.atX (T := 33) (g := w.heap.size + 1) (xs := [.int .i64 x, .slice (some ⟨bb, off, none⟩) L.length c]) (by rw [hs3]; exact .tail _ (.head _)) 1 rfl
      have r0 := fun y : WF w s3 => y.h.atX (T := 29) (g := w.heap.size) (xs := [.int .i64 a, .int .i64 b, .int .i64 c0, .int .i64 d, .int .i64 e]) (by rw [hs3]; exact .tail _ (.tail _ (.head _))) 0 rfl
      have k1 := fun y : WF w s3 => y.same (l01In_any tx 0 (a - 1) y.w)
      have k2 := fun y : WF w s3 => y.same (l07Hash_any (.slice A1 tk.length e1) tk y.w (hs1.up y.h.bel))
      have hin : decide (0 ≤ tx ∧ tx ≤ a - 1) = isIn tx a := by unfold isIn; congr 1; apply propext; constructor <;> intro h <;> omega
      rw [hin] at k1
      have hH : (((tk.length : Int) == 32) : Bool) = hashLB tk := rfl
      simp only [hH] at k2
      obtain ⟨y1, f1⟩ : ∃ y1, y1 = isIn tx a := ⟨_, rfl⟩
      obtain ⟨y4, f4⟩ : ∃ y4, y4 = hashLB tk := ⟨_, rfl⟩
      rw [← f1, ← f4] at HNO HYES
      rw [← f1] at k1; rw [← f4] at k2
      have K1 := Lib.hid k1; have K2 := Lib.hid k2
      have HS3 := Lib.hid H3
      have hwr : w.heap.size < z.w.heap.size := HZ.ltX (.tail _ (.head _))
      have q := z.h.bel.size
      have hne : Nonempty (WF w s3) := ⟨⟨_, H3⟩⟩
      have HP := Lib.hid hprev; have HPN := Lib.hid hprevN; have HF := Lib.hid hfirst; have HC0 := Lib.hid hcl0
      have HBB := Lib.hid hbb
      have pp1 := HO1.out z
      clear k1 k2 f1 f4 hin hH H3 HZ hs1 hs3 hcell ht hprev hprevN hfirst hcl0 hbb
      rcases y1 with _ | _
      · obtain rfl : R = false := HNO.out (by simp)
        go_wp2_with fail
        refine wp_region_wf (by kernel_rfl) (by kernel_rfl) HS3.out ?_
        repeat (go_big_quiet_step (first
          | (go_at_call 30; exact K1.out _)
          | (go_at_call 31; exact K2.out _)))
        refine wpQuiet_nil ?_
        rintro _ ⟨yy, rfl⟩
        have hb := yy.h.bel
        go_wp2
        go_ret
        exact ⟨rfl, hb⟩
      by_cases c2 : ty < 0
      · obtain rfl : R = false := HNO.out (by rw [decide_eq_false (show ¬ 0 ≤ ty by omega)]; simp)
        go_wp2_with fail
        refine wp_region_wf (by kernel_rfl) (by kernel_rfl) HS3.out ?_
        repeat (go_big_quiet_step (first
          | (go_at_call 30; exact K1.out _)
          | (go_at_call 31; exact K2.out _)))
        refine wpQuiet_nil ?_
        rintro _ ⟨yy, rfl⟩
        have hb := yy.h.bel
        go_wp2
        go_ret
        exact ⟨rfl, hb⟩
      have d2 : decide (ty < 0) = false := decide_eq_false c2
      by_cases c3 : x ≤ ty
      · obtain rfl : R = false := HNO.out (by rw [decide_eq_false (show ¬ ty < x by omega)]; simp)
        go_wp2_with fail
        refine wp_region_wf (by kernel_rfl) (by kernel_rfl) HS3.out ?_
        repeat (go_big_quiet_step (first
          | (go_at_call 30; exact K1.out _)
          | (go_at_call 31; exact K2.out _)))
        refine wpQuiet_nil ?_
        rintro _ ⟨yy, rfl⟩
        have hb := yy.h.bel
        go_wp2
        go_ret
        exact ⟨rfl, hb⟩
      have d3 : decide (x ≤ ty) = false := decide_eq_false c3
      rcases y4 with _ | _
      · obtain rfl : R = false := HNO.out (by simp)
        go_wp2_with fail
        refine wp_region_wf (by kernel_rfl) (by kernel_rfl) HS3.out ?_
        repeat (go_big_quiet_step (first
          | (go_at_call 30; exact K1.out _)
          | (go_at_call 31; exact K2.out _)))
        refine wpQuiet_nil ?_
        rintro _ ⟨yy, rfl⟩
        have hb := yy.h.bel
        go_wp2
        go_ret
        exact ⟨rfl, hb⟩
      have HE1 : Hid ((true && (decide (0 ≤ ty) && (decide (ty < x) && true))) = true) := Lib.hid (by rw [decide_eq_true (show 0 ≤ ty by omega), decide_eq_true (show ty < x by omega)]; rfl)
      by_cases hj0 : j = 0
      · obtain rfl : nb = true := HF.out hj0
        have d6 : decide (0 < (j : Int)) = false := decide_eq_false (by omega)
        have d7 : decide (0 < j) = false := decide_eq_false (by omega)
        clear hj0
        go_wp2_with fail
        refine wp_region_wf (by kernel_rfl) (by kernel_rfl) HS3.out ?_
        repeat (go_big_quiet_step (first
          | (go_at_call 30; exact K1.out _)
          | (go_at_call 31; exact K2.out _)))
        refine wpQuiet_nil ?_
        rintro _ ⟨yy, rfl⟩
        obtain ⟨z2, hz2⟩ := hback.out yy
        have HG := Lib.hid (HYES.out (HE1.out) (by simp))
        go_wp2
        go_roundw
        case rel => exact ⟨j + 1, by omega, by go_num, HG, z2, by first | exact hz2 | rfl⟩
        case measure => simp [intOf]; omega
      obtain ⟨j0, rfl⟩ : ∃ j0, j = j0 + 1 := ⟨j - 1, by omega⟩
      obtain ⟨t0, ht0⟩ := HP.out j0 rfl
      have HN0 := Lib.hid (HPN.out j0 t0 rfl ht0)
      have hc0 := HC0.out j0 t0 rfl ht0
      have v0 := fun y : WF w s3 => (y.h.bel.cell (p := ⟨bb, off + j0 * 3, none⟩) HBB.out).trans hc0
      clear hc0 ht0
      generalize t0.x = px at *
      have hjl : j0 < L.length := by omega
      by_cases c5 : tx ≤ px
      · obtain rfl : R = false := HNO.out (by rw [HN0.out, decide_eq_false (show ¬ px < tx by omega)]; simp)
        go_wp2_with fail
        refine wp_region_wf (by kernel_rfl) (by kernel_rfl) HS3.out ?_
        repeat (go_big_quiet_step (first
          | (go_at_call 30; exact K1.out _)
          | (go_at_call 31; exact K2.out _)))
        refine wpQuiet_nil ?_
        rintro _ ⟨yy, rfl⟩
        have hb := yy.h.bel
        go_wp2
        go_ret
        exact ⟨rfl, hb⟩
      have d5 : decide (tx ≤ px) = false := decide_eq_false c5
      have HE2 : Hid (nb = true) := Lib.hid (by rw [HN0.out, decide_eq_true (show px < tx by omega)])
      go_wp2_with fail
      refine wp_region_wf (by kernel_rfl) (by kernel_rfl) HS3.out ?_
      repeat (go_big_quiet_step (first
        | (go_at_call 30; exact K1.out _)
        | (go_at_call 31; exact K2.out _)))
      refine wpQuiet_nil ?_
      rintro _ ⟨yy, rfl⟩
      obtain ⟨z2, hz2⟩ := hback.out yy
      have HG := Lib.hid (HYES.out (HE1.out) (HE2.out))
      go_wp2
      go_roundw
      case rel => exact ⟨j0 + 1 + 1, by omega, by go_num, HG, z2, by first | exact hz2 | rfl⟩
      case measure => simp [intOf]; omega
    · obtain rfl : j = L.length := by omega
      obtain rfl : R = true := by rw [HRE.out]; exact entsB_yes HE.out
      have hb := z.h.bel
      have pp1 := HO1.out z
      go_wp2
      go_ret
      exact ⟨rfl, hb⟩
end Go.Proofs.Ytickneafppbegaa
