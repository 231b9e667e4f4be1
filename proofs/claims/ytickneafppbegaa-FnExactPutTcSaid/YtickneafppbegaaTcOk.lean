/- TcOk of the program: entryOk, areEntries, TcOk. -/
import Derived.Test.YtickneafppbegaaTcNext
import Derived.Test.YtickneafppbegaaWat
namespace Go.Proofs.Ytickneafppbegaa
open Go.ChangeShapes Go.WideShapes Go.ChangeAt Go.RowKit
set_option linter.unusedSimpArgs false

set_option maxHeartbeats 4000000 in
theorem entryOk_any (a b c0 d e x tx ty : Int) (u : Value) (tk : List UInt8) (w : World) (hs : Sl w w.heap.size u tk) :
    Calls Try.prog 51 #[.agg #[.int .i64 a, .int .i64 b, .int .i64 c0, .int .i64 d, .int .i64 e], .int .i64 x, .agg #[.int .i64 tx, .int .i64 ty, u]] w (BoolB w (entB a x ⟨tx, ty, tk⟩)) := by
  obtain ⟨A, c, rfl, p1, p2, p0, p3⟩ := id hs
  clear p1 p2 p0 p3
  have H0 := ((InvF.start w).newG 29 #[.int .i64 a, .int .i64 b, .int .i64 c0, .int .i64 d, .int .i64 e] w.heap.size).newG 53 #[.int .i64 tx, .int .i64 ty, .slice A tk.length c] (w.heap.size + 1)
  have hb := H0.bel
  have HSL := Lib.hid (hs.up hb)
  obtain ⟨R, hR⟩ : ∃ R, R = entB a x ⟨tx, ty, tk⟩ := ⟨_, rfl⟩
  rw [← hR]
  unfold entB at hR
  dsimp only at hR
  obtain ⟨y1, f1⟩ : ∃ y1, y1 = isIn tx a := ⟨_, rfl⟩
  obtain ⟨y4, f4⟩ : ∃ y4, y4 = hashLB tk := ⟨_, rfl⟩
  rw [← f1, ← f4] at hR
  have G1 := Lib.hid f1; have G4 := Lib.hid f4; have HR := Lib.hid hR
  clear f1 f4 hR hs H0
  go_enter Try.func51, Try.ntmps51
  go_wp2_with fail
  refine (isSigner_any tx a _).mono ?_
  rw [← G1.out]
  rintro ev _ ⟨rfl, rfl⟩
  rcases y1 with _ | _
  · obtain rfl : R = false := by rw [HR.out]; simp
    go_wp2
    go_ret
    exact ⟨rfl, hb⟩
  by_cases c2 : ty < 0
  · obtain rfl : R = false := by rw [HR.out, decide_eq_false (show ¬ 0 ≤ ty by omega)]; simp
    go_wp2
    go_ret
    exact ⟨rfl, hb⟩
  have d2 : 0 ≤ ty := by omega
  have d2' : decide (0 ≤ ty) = true := decide_eq_true d2
  by_cases c3 : x ≤ ty
  · obtain rfl : R = false := by rw [HR.out, decide_eq_false (show ¬ ty < x by omega)]; simp
    have d3 : decide (ty < x) = false := decide_eq_false (by omega)
    go_wp2
    go_ret
    exact ⟨rfl, hb⟩
  have d3 : ty < x := by omega
  have d3' : decide (ty < x) = true := decide_eq_true d3
  go_wp2_with fail
  refine (isHash_any (.slice A tk.length c) tk _ HSL.out).mono ?_
  rw [show (((tk.length : Int) == 32) : Bool) = hashLB tk from rfl, ← G4.out]
  rintro ev _ ⟨rfl, rfl⟩
  obtain rfl : R = y4 := by rw [HR.out, decide_eq_true (show 0 ≤ ty by omega), decide_eq_true (show ty < x by omega)]; simp
  go_wp2
  go_ret
  exact ⟨rfl, hb⟩

set_option maxRecDepth 100000 in
set_option maxHeartbeats 8000000 in
theorem areEntries_any (a b c0 d e x : Int) (s : Value) (L : List Et) (w : World) (hs : SlE w w.heap.size s L) :
    Calls Try.prog 35 #[.agg #[.int .i64 a, .int .i64 b, .int .i64 c0, .int .i64 d, .int .i64 e], .int .i64 x, s] w (BoolB w (decide ((L.length : Int) ≤ a) && entsB a x L)) := by
  obtain ⟨A, c, rfl, h1, h2, h0, h3⟩ := id hs
  unfold maxLen at h2
  clear h0
  have HSE := Lib.hid hs
  clear hs
  obtain ⟨R, hR⟩ : ∃ R, R = (decide ((L.length : Int) ≤ a) && entsB a x L) := ⟨_, rfl⟩
  rw [← hR]
  have H1 := (InvF.start w).newG 29 #[.int .i64 a, .int .i64 b, .int .i64 c0, .int .i64 d, .int .i64 e] w.heap.size
  have hb1 := H1.bel
  by_cases hlen : a < (L.length : Int)
  · obtain rfl : R = false := by rw [hR, decide_eq_false (by omega)]; rfl
    clear hR
    go_enter Try.func35, Try.ntmps35
    go_wp2
    go_ret
    exact ⟨rfl, hb1⟩
  rw [decide_eq_true (show (L.length : Int) ≤ a by omega), Bool.true_and] at hR
  have HRE := Lib.hid hR
  clear hR
  obtain ⟨ss, hss⟩ : ∃ ss, ss = [segX 29 w.heap.size [.int .i64 a, .int .i64 b, .int .i64 c0, .int .i64 d, .int .i64 e]] := ⟨_, rfl⟩
  have H4 : InvF w (w.alloc (.cells #[.int .i64 a, .int .i64 b, .int .i64 c0, .int .i64 d, .int .i64 e] 29)) ss := by rw [hss]; exact H1
  have HSS := Lib.hid hss
  clear hss H1
  go_enter Try.func35, Try.ntmps35
  go_wp2
  go_loopw [16] (fun i wr => ∃ j : Nat, j ≤ L.length ∧ i = .int .i64 j ∧ Hid (EntsTo a x L j) ∧ ∃ z : WF w ss, wr = z.w)
    (fun i _ => L.length - (intOf i).toNat)
  case atStart => exact ⟨0, Nat.zero_le _, rfl, Lib.hid EntsTo.zero, ⟨_, H4⟩, rfl⟩
  case round =>
    clear H4 hb1
    obtain ⟨j, hj, rfl, HE, z, rfl⟩ := hrel
    by_cases hlt : j < L.length
    · obtain ⟨bb, off, rfl, hbb, hcell⟩ := h3 (by omega)
      obtain ⟨t, ht⟩ := getE hlt
      obtain ⟨u, g0, g1, g2, s1⟩ := hcell j t ht
      replace g0 := (z.h.bel.cell (p := ⟨bb, off + j * 3, none⟩) hbb).trans g0
      replace g1 := (z.h.bel.cell (p := ⟨bb, off + j * 3 + 1, none⟩) hbb).trans g1
      replace g2 := (z.h.bel.cell (p := ⟨bb, off + j * 3 + 2, none⟩) hbb).trans g2
      have HNO : Hid ((entB a x t && nextB (L.take j) t.x) = false → R = false) := Lib.hid (fun hb => by rw [HRE.out]; exact entsB_no ht hb)
      have HYES : Hid (entB a x t = true → nextB (L.take j) t.x = true → EntsTo a x L (j + 1)) := Lib.hid (fun e1 e2 => HE.out.succ ht e1 e2)
      have hs1 := s1
      have HAS := Lib.hid HE.out.asc
      obtain ⟨A1, e1, rfl, _⟩ := s1
      obtain ⟨tx, ty, tk⟩ := t
      dsimp only at *
      obtain ⟨s3, hs3⟩ : ∃ s3, s3 = [segX 53 z.w.heap.size [.int .i64 tx, .int .i64 ty, .slice A1 tk.length e1], segX 29 w.heap.size [.int .i64 a, .int .i64 b, .int .i64 c0, .int .i64 d, .int .i64 e]] := ⟨_, rfl⟩
      have HZ : InvF w z.w [segX 29 w.heap.size [.int .i64 a, .int .i64 b, .int .i64 c0, .int .i64 d, .int .i64 e]] := by rw [← HSS.out]; exact z.h
      have H3 : InvF w (z.w.alloc (.cells #[.int .i64 tx, .int .i64 ty, .slice A1 tk.length e1] 53)) s3 := by rw [hs3]; exact HZ.newG 53 #[.int .i64 tx, .int .i64 ty, .slice A1 tk.length e1] z.w.heap.size
      have hback : Hid (∀ y : WF w s3, ∃ z' : WF w ss, y.w = z'.w) := Lib.hid (fun y => ⟨⟨y.w, by rw [HSS.out]; exact (show InvF w y.w s3 from y.h).sub (by rw [hs3]; exact .cons _ (List.Sublist.refl _))⟩, rfl⟩)
      have m0 := fun y : WF w s3 => y.h.atX (T := 53) (g := z.w.heap.size) (xs := [.int .i64 tx, .int .i64 ty, .slice A1 tk.length e1]) (by rw [hs3]; exact .head _) 0 rfl
      have m1 := fun y : WF w s3 => y.h.atX (T := 53) (g := z.w.heap.size) (xs := [.int .i64 tx, .int .i64 ty, .slice A1 tk.length e1]) (by rw [hs3]; exact .head _) 1 rfl
      have m2 := fun y : WF w s3 => y.h.atX (T := 53) (g := z.w.heap.size) (xs := [.int .i64 tx, .int .i64 ty, .slice A1 tk.length e1]) (by rw [hs3]; exact .head _) 2 rfl
      have r0 := fun y : WF w s3 => y.h.atX (T := 29) (g := w.heap.size) (xs := [.int .i64 a, .int .i64 b, .int .i64 c0, .int .i64 d, .int .i64 e]) (by rw [hs3]; exact .tail _ (.head _)) 0 rfl
      have r1 := fun y : WF w s3 => y.h.atX (T := 29) (g := w.heap.size) (xs := [.int .i64 a, .int .i64 b, .int .i64 c0, .int .i64 d, .int .i64 e]) (by rw [hs3]; exact .tail _ (.head _)) 1 rfl
      have r2 := fun y : WF w s3 => y.h.atX (T := 29) (g := w.heap.size) (xs := [.int .i64 a, .int .i64 b, .int .i64 c0, .int .i64 d, .int .i64 e]) (by rw [hs3]; exact .tail _ (.head _)) 2 rfl
      have r3 := fun y : WF w s3 => y.h.atX (T := 29) (g := w.heap.size) (xs := [.int .i64 a, .int .i64 b, .int .i64 c0, .int .i64 d, .int .i64 e]) (by rw [hs3]; exact .tail _ (.head _)) 3 rfl
      have r4 := fun y : WF w s3 => y.h.atX (T := 29) (g := w.heap.size) (xs := [.int .i64 a, .int .i64 b, .int .i64 c0, .int .i64 d, .int .i64 e]) (by rw [hs3]; exact .tail _ (.head _)) 4 rfl
      have k1 := fun y : WF w s3 => y.below (entryOk_any a b c0 d e x tx ty (.slice A1 tk.length e1) tk y.w (hs1.up y.h.bel))
      have k2 := fun y : WF w s3 => y.below ((isNext_any (.slice (some ⟨bb, off, none⟩) j c) (.slice A1 tk.length e1) (L.take j) tx ty y.w ((HSE.out.take hj).up y.h.bel)).mono (R' := fun ev w' => ev = .returned (.bool (nextB (L.take j) tx)) ∧ Below y.w.heap.size y.w w') (fun ev w' hh => by
        obtain ⟨r, rfl, hb, hr⟩ := hh
        exact ⟨by rw [hr HAS.out], hb⟩))
      obtain ⟨y1, f1⟩ : ∃ y1, y1 = entB a x ⟨tx, ty, tk⟩ := ⟨_, rfl⟩
      obtain ⟨y2, f2⟩ : ∃ y2, y2 = nextB (L.take j) tx := ⟨_, rfl⟩
      rw [← f1, ← f2] at HNO HYES
      rw [← f1] at k1; rw [← f2] at k2
      have K1 := Lib.hid k1; have K2 := Lib.hid k2
      have HS3 := Lib.hid H3
      have hwr : w.heap.size < z.w.heap.size := HZ.ltX (.head _)
      have hne : Nonempty (WF w s3) := ⟨⟨_, H3⟩⟩
      have hjc : j ≤ c := by omega
      clear k1 k2 f1 f2 H3 HZ hs1 hs3 hcell ht hbb
      rcases y1 with _ | _
      · obtain rfl : R = false := HNO.out (by simp)
        go_wp2_with fail
        refine wp_region_wf (by kernel_rfl) (by kernel_rfl) HS3.out ?_
        repeat (go_big_quiet_step (first
          | (go_at_call 51; exact K1.out _)
          | (go_at_call 52; exact K2.out _)))
        refine wpQuiet_nil ?_
        rintro _ ⟨yy, rfl⟩
        have hb := yy.h.bel
        go_wp2
        go_ret
        exact ⟨rfl, hb⟩
      rcases y2 with _ | _
      · obtain rfl : R = false := HNO.out (by simp)
        go_wp2_with fail
        refine wp_region_wf (by kernel_rfl) (by kernel_rfl) HS3.out ?_
        repeat (go_big_quiet_step (first
          | (go_at_call 51; exact K1.out _)
          | (go_at_call 52; exact K2.out _)))
        refine wpQuiet_nil ?_
        rintro _ ⟨yy, rfl⟩
        have hb := yy.h.bel
        go_wp2
        go_ret
        exact ⟨rfl, hb⟩
      go_wp2_with fail
      refine wp_region_wf (by kernel_rfl) (by kernel_rfl) HS3.out ?_
      repeat (go_big_quiet_step (first
        | (go_at_call 51; exact K1.out _)
        | (go_at_call 52; exact K2.out _)))
      refine wpQuiet_nil ?_
      rintro _ ⟨yy, rfl⟩
      obtain ⟨z2, hz2⟩ := hback.out yy
      have HG := Lib.hid (HYES.out (by simp) (by simp))
      go_wp2
      go_roundw
      case rel => exact ⟨j + 1, by omega, by go_num, HG, z2, by first | exact hz2 | rfl⟩
      case measure => simp [intOf]; omega
    · obtain rfl : j = L.length := by omega
      obtain rfl : R = true := by rw [HRE.out]; exact entsB_yes HE.out
      have hb := z.h.bel
      go_wp2
      go_ret
      exact ⟨rfl, hb⟩

set_option maxHeartbeats 4000000 in
theorem implTcOk_any (a b c0 d e x : Int) (s : Value) (L : List Et) (w : World) (hs : SlE w w.heap.size s L) :
    Calls Try.prog 12 #[.agg #[.int .i64 a, .int .i64 b, .int .i64 c0, .int .i64 d, .int .i64 e], .agg #[.int .i64 x, s]] w (BoolB w (tcB a b c0 d e x L)) := by
  obtain ⟨A, c, rfl, p1, p2, p0, p3⟩ := id hs
  clear p1 p2 p0 p3
  have H1 := ((InvF.start w).newG 29 #[.int .i64 a, .int .i64 b, .int .i64 c0, .int .i64 d, .int .i64 e] w.heap.size).newG 33 #[.int .i64 x, .slice A L.length c] (w.heap.size + 1)
  have HSL := Lib.hid hs
  obtain ⟨R, hR⟩ : ∃ R, R = tcB a b c0 d e x L := ⟨_, rfl⟩
  rw [← hR]
  unfold tcB at hR
  obtain ⟨x0, g0⟩ : ∃ x0, x0 = limB a b c0 d e := ⟨_, rfl⟩
  obtain ⟨x1, g1⟩ : ∃ x1, x1 = isNumB x := ⟨_, rfl⟩
  obtain ⟨x2, g2⟩ : ∃ x2, x2 = (decide ((L.length : Int) ≤ a) && entsB a x L) := ⟨_, rfl⟩
  rw [← g0, ← g1, ← g2] at hR
  have G0 := Lib.hid g0; have G1 := Lib.hid g1; have G2 := Lib.hid g2; have HR := Lib.hid hR
  clear g0 g1 g2 hR hs
  go_enter Try.func12, Try.ntmps12
  go_wp2_with fail
  refine (implLimitsOk_any a b c0 d e _).mono ?_
  rw [← G0.out]
  rintro ev w4 ⟨rfl, hb4⟩
  have H4 := H1.up hb4
  clear H1 hb4
  obtain ⟨o0, o1⟩ := H4.c2 (.head _)
  obtain ⟨t0, t1, t2, t3, t4⟩ := H4.c5 (.tail _ (.head _))
  have hb := H4.bel
  rcases x0 with _ | _
  · obtain rfl : R = false := by rw [HR.out]; simp
    go_wp2
    go_ret
    exact ⟨rfl, hb⟩
  go_wp2_with fail
  refine (isNum_any x _).mono ?_
  rw [← G1.out]
  rintro ev _ ⟨rfl, rfl⟩
  rcases x1 with _ | _
  · obtain rfl : R = false := by rw [HR.out]; simp
    go_wp2
    go_ret
    exact ⟨rfl, hb⟩
  go_wp2_with fail
  refine (areEntries_any a b c0 d e x _ L _ (HSL.out.up hb)).mono ?_
  rw [← G2.out]
  rintro ev w6 ⟨rfl, hb6⟩
  have HB6 := Lib.hid (hb.trans (hb6.mono hb.size))
  obtain rfl : R = x2 := by rw [HR.out]; simp
  clear hb6
  go_wp2
  go_ret
  exact ⟨rfl, HB6.out⟩
end Go.Proofs.Ytickneafppbegaa
