/- PutQc, of the program and of its model. -/
import Derived.Test.YtopbalemfljphaaQcOk
import Derived.Test.YtopbalemfljphaaPutVote
import Derived.Test.YtopbalemfljphaaPutTags
import Derived.Test.YtopbalemfljphaaAppF
import Derived.Deep.RegionHeld3
namespace Go.Proofs.Ytopbalemfljphaa
open Go.ChangeShapes Go.WideShapes Go.ChangeAt Go.RowKit

/-- What PutQc writes of a valid certificate behind l. -/
def qcL (l : List UInt8) (x y : Int) (m k : List UInt8) (L : List (List UInt8)) : List UInt8 := putVarL (putVarL l x) y ++ m ++ k ++ catL L
def putQcL (a b c d e : Int) (l : List UInt8) (x y : Int) (m k : List UInt8) (L : List (List UInt8)) : List UInt8 := if qcB a b c d e x y m k L = true then qcL l x y m k L else []
theorem putQcL_len (a b c d e : Int) (l : List UInt8) (x y : Int) (m k : List UInt8) (L : List (List UInt8)) : (putQcL a b c d e l x y m k L).length ≤ l.length + m.length + k.length + sumL L + 18 := by
  unfold putQcL qcL
  split
  · rw [List.length_append, List.length_append, List.length_append, catL_length]
    have h1 := putVarL_len l x
    have h2 := putVarL_len (putVarL l x) y
    omega
  · simp
/-- A valid certificate is small. -/
theorem qcB_tag {a b c d e x y : Int} {m k : List UInt8} {L : List (List UInt8)} (h : qcB a b c d e x y m k L = true) : m.length = 32 ∧ 0 < k.length ∧ k.length ≤ 2 ∧ L.length ≤ 16 ∧ all32 L = true := by
  unfold qcB at h
  simp only [Bool.and_eq_true] at h
  obtain ⟨_, _, _, hm, hk, hL⟩ := h
  have h1 := hashLB_len hm
  have h2 : okP k a := of_decide_eq_true hk
  have h3 := sizeB_ok h2.1
  have h4 := h2.2.1
  obtain ⟨h5, h6⟩ := hashesB_tag hL
  have h7 := listI_len k
  have h8 : cntB k = ((listI k).length : Int) := by simp [cntB, listI]
  exact ⟨h1, by omega, by omega, by omega, h6⟩

set_option maxRecDepth 100000 in
set_option maxHeartbeats 4000000 in
theorem implPutQc_any (a b c d e x y : Int) (t u v s : Value) (l m k : List UInt8) (L : List (List UInt8)) (w : World) (ht : Sl w w.heap.size t l) (hu : Sl w w.heap.size u m) (hv : Sl w w.heap.size v k) (hs : SlS w w.heap.size s L) (hl : l.length ≤ 1073741824) (hk : k.length ≤ 4294967296) :
    Calls Try.prog 63 #[.agg #[.int .i64 a, .int .i64 b, .int .i64 c, .int .i64 d, .int .i64 e], t, .agg #[.int .i64 x, .int .i64 y, u, v, s]] w (Fresh2 w (putQcL a b c d e l x y m k L) (.bool (qcB a b c d e x y m k L))) := by
  have HT0 := Lib.hid ht
  have HU0 := Lib.hid hu
  have HV0 := Lib.hid hv
  have HS0 := Lib.hid hs
  obtain ⟨A, n, rfl, p1, p2, p0, p3⟩ := ht
  obtain ⟨B, n', rfl, q1, q2, q0, q3⟩ := hu
  obtain ⟨D, n'', rfl, r1, r2, r0, r3⟩ := hv
  obtain ⟨C, f, rfl, t1, t2, t0, t3⟩ := hs
  clear p1 p2 p0 p3 q1 q2 q0 q3 r1 r2 r0 r3 t1 t2 t0 t3
  have c0 := fun W h h' h'' => implQcOk_any a b c d e x y (.slice B m.length n') (.slice D k.length n'') (.slice C L.length f) m k L W h h' h'' hk
  have hP : qcB a b c d e x y m k L = true → (m.length = 32 ∧ 0 < k.length ∧ k.length ≤ 2 ∧ L.length ≤ 16 ∧ all32 L = true) ∧ putQcL a b c d e l x y m k L = putVarL (putVarL l x) y ++ m ++ k ++ catL L := fun h => ⟨qcB_tag h, if_pos h⟩
  have hN : qcB a b c d e x y m k L = false → putQcL a b c d e l x y m k L = [] := fun h => if_neg (by simp [h])
  obtain ⟨R, hR⟩ : ∃ R, R = putQcL a b c d e l x y m k L := ⟨_, rfl⟩
  obtain ⟨x0, g0⟩ : ∃ x0, x0 = qcB a b c d e x y m k L := ⟨_, rfl⟩
  rw [← hR] at hP hN ⊢
  rw [← g0] at hP hN ⊢
  simp only [← g0] at c0
  have C0 := Lib.hid c0
  have HP := Lib.hid hP
  have HN := Lib.hid hN
  clear c0 hP hN hR g0
  have H0 := ((InvF.start w).newG 33 #[.int .i64 a, .int .i64 b, .int .i64 c, .int .i64 d, .int .i64 e] w.heap.size).newG 36 #[.int .i64 x, .int .i64 y, .slice B m.length n', .slice D k.length n'', .slice C L.length f] (w.heap.size + 1)
  go_enter Try.func63, Try.ntmps63
  go_wp2_with fail
  refine (C0.out _ (HU0.out.up H0.bel) (HV0.out.up H0.bel) (HS0.out.up H0.bel)).mono ?_
  rintro ev w1 ⟨rfl, hb1⟩
  have H := H0.up hb1
  clear H0 hb1
  rcases x0 with _ | _
  · go_wp2
    go_ret2
    exact ⟨_, rfl, by rw [HN.out (by first | trivial | rfl)]; exact World.ownsRow_nil _ _ _ _, H.bel⟩
  obtain ⟨hsm, hRe⟩ := HP.out rfl
  have HSM := Lib.hid hsm
  have HRE := Lib.hid hRe
  clear HP HN hsm hRe
  obtain ⟨o0, o1, o2, o3, o4⟩ := H.c5 (.head _)
  go_wp2_with fail
  have hI := Lib.hid (show OwnI 3 (w1.alloc (.cells #[.int .i64 x, .int .i64 y] 3)) w1.heap.size (.slice (some ⟨w1.heap.size, 0, none⟩) 2 2) [x, y] from World.ownsRow_lit w1 #[.int .i64 x, .int .i64 y] 2 (Nat.le_refl _) (by simp [maxLen]) rfl).sl
  have H1 := H.up ((Below.refl _ _).alloc (Nat.le_refl _) (.cells #[.int .i64 x, .int .i64 y] 3))
  clear H o0 o1 o2 o3 o4
  refine (putNumbers_any _ _ l [x, y] _ (HT0.out.up H1.bel) hI.out (by simp) (by simp) (by omega)).mono ?_
  rintro ev w2 ⟨v2, rfl, ho2, hb2⟩
  have H2 : InvF w w2 [segB 5 v2 (putVarL (putVarL l x) y), segX 36 (w.heap.size + 1) [.int .i64 x, .int .i64 y, .slice B m.length n', .slice D k.length n'', .slice C L.length f], segX 33 w.heap.size [.int .i64 a, .int .i64 b, .int .i64 c, .int .i64 d, .int .i64 e]] := H1.moreB ho2 hb2
  have hl2 : Hid ((putVarL (putVarL l x) y).length ≤ 1073741900) := Lib.hid (by have h1 := putVarL_len l x; have h2 := putVarL_len (putVarL l x) y; omega)
  clear H1 hI ho2 hb2
  obtain ⟨o0, o1, o2, o3, o4⟩ := H2.c5 (.tail _ (.head _))
  go_wp2_with fail
  refine (joined_any _ _ _ m _ (H2.slB 5 (.head _)) (HU0.out.up H2.bel) (by have := hl2.out; omega) (by have := HSM.out.1; omega)).mono ?_
  rintro ev w3 ⟨v3, rfl, ho3, hb3⟩
  have H3 := H2.moreB ho3 hb3
  have hl3 : Hid ((putVarL (putVarL l x) y ++ m).length ≤ 1073742000) := Lib.hid (by rw [List.length_append]; have := hl2.out; have := HSM.out.1; omega)
  clear H2 ho3 hb3 o0 o1 o2 o3 o4
  obtain ⟨o0, o1, o2, o3, o4⟩ := H3.c5 (.tail _ (.tail _ (.head _)))
  go_wp2_with fail
  refine (joined_any _ _ _ k _ (H3.slB 5 (.head _)) (HV0.out.up H3.bel) (by have := hl3.out; omega) (by have := HSM.out.2.2.1; omega)).mono ?_
  rintro ev w4 ⟨v4, rfl, ho4, hb4⟩
  have H4 := H3.moreB ho4 hb4
  have hl4 : Hid ((putVarL (putVarL l x) y ++ m ++ k).length ≤ 1073742100) := Lib.hid (by rw [List.length_append]; have := hl3.out; have := HSM.out.2.2.1; omega)
  clear H3 ho4 hb4 o0 o1 o2 o3 o4
  obtain ⟨o0, o1, o2, o3, o4⟩ := H4.c5 (.tail _ (.tail _ (.tail _ (.head _))))
  go_wp2_with fail
  refine (putTags_any _ _ _ L _ (H4.slB 5 (.head _)) (HS0.out.up H4.bel) HSM.out.2.2.2.2 (by have := hl4.out; omega) (by have := HSM.out.2.2.2.1; omega)).mono ?_
  rintro ev w6 ⟨v6, rfl, ho6, hb6⟩
  have H6 := Lib.hid (H4.moreB ho6 hb6)
  clear H4 ho6 hb6 o0 o1 o2 o3 o4
  go_wp2
  go_ret2
  exact ⟨_, rfl, by rw [HRE.out]; exact H6.out.ownB 5 (.head _), H6.out.bel⟩

set_option maxRecDepth 100000 in
set_option maxHeartbeats 4000000 in
theorem specPutQc_any (a b c d e x y : Int) (t u v s : Value) (l m k : List UInt8) (L : List (List UInt8)) (w : World) (ht : Sl w w.heap.size t l) (hu : Sl w w.heap.size u m) (hv : Sl w w.heap.size v k) (hs : SlS w w.heap.size s L) (hl : l.length ≤ 1073741824) (hk : k.length ≤ 4294967296) :
    Calls Try.prog 58 #[.agg #[.int .i64 a, .int .i64 b, .int .i64 c, .int .i64 d, .int .i64 e], t, .agg #[.int .i64 x, .int .i64 y, u, v, s]] w (Fresh2 w (putQcL a b c d e l x y m k L) (.bool (qcB a b c d e x y m k L))) := by
  obtain ⟨i0, hi, hz0, hz1, hz2⟩ := info_parts u8info
  have HT0 := Lib.hid ht
  have HU0 := Lib.hid hu
  have HV0 := Lib.hid hv
  have HS0 := Lib.hid hs
  obtain ⟨A, n, rfl, p1, p2, p0, p3⟩ := ht
  obtain ⟨B, n', rfl, q1, q2, q0, q3⟩ := hu
  obtain ⟨D, n'', rfl, r1, r2, r0, r3⟩ := hv
  obtain ⟨C, f, rfl, t1, t2, t0, t3⟩ := hs
  have t2' := t2
  unfold maxLen at t2'
  clear p1 p2 p0 p3 q1 q2 q0 q3 r1 r2 r0 r3 t2 t0
  have c0 := fun W h h' h'' => specQcOk_any a b c d e x y (.slice B m.length n') (.slice D k.length n'') (.slice C L.length f) m k L W h h' h'' hk
  have hP : qcB a b c d e x y m k L = true → (m.length = 32 ∧ 0 < k.length ∧ k.length ≤ 2 ∧ L.length ≤ 16 ∧ all32 L = true) ∧ putQcL a b c d e l x y m k L = putVarL (putVarL l x) y ++ m ++ k ++ catL L := fun h => ⟨qcB_tag h, if_pos h⟩
  have hN : qcB a b c d e x y m k L = false → putQcL a b c d e l x y m k L = [] := fun h => if_neg (by simp [h])
  obtain ⟨R, hR⟩ : ∃ R, R = putQcL a b c d e l x y m k L := ⟨_, rfl⟩
  obtain ⟨x0, g0⟩ : ∃ x0, x0 = qcB a b c d e x y m k L := ⟨_, rfl⟩
  rw [← hR] at hP hN ⊢
  rw [← g0] at hP hN ⊢
  simp only [← g0] at c0
  have C0 := Lib.hid c0
  have HP := Lib.hid hP
  have HN := Lib.hid hN
  clear c0 hP hN hR g0
  have H0 := ((InvF.start w).newG 33 #[.int .i64 a, .int .i64 b, .int .i64 c, .int .i64 d, .int .i64 e] w.heap.size).newG 36 #[.int .i64 x, .int .i64 y, .slice B m.length n', .slice D k.length n'', .slice C L.length f] (w.heap.size + 1)
  go_enter Try.func58, Try.ntmps58
  go_wp2_with fail
  refine (C0.out _ (HU0.out.up H0.bel) (HV0.out.up H0.bel) (HS0.out.up H0.bel)).mono ?_
  rintro ev w1 ⟨rfl, hb1⟩
  have H := H0.up hb1
  clear H0 hb1
  rcases x0 with _ | _
  · go_wp2
    go_ret2
    exact ⟨_, rfl, by rw [HN.out (by first | trivial | rfl)]; exact World.ownsRow_nil _ _ _ _, H.bel⟩
  obtain ⟨hsm, hRe⟩ := HP.out rfl
  have HSM := Lib.hid hsm
  have HRE := Lib.hid hRe
  have hm2 : Hid (0 < m.length ∧ m.length ≤ 64) := Lib.hid (by omega)
  clear HP HN hsm hRe
  have hlen : Hid ((putVarL l x).length ≤ 4294967296 ∧ (putVarL (putVarL l x) y).length + m.length ≤ 2147483648 ∧ (putVarL (putVarL l x) y ++ m).length + k.length ≤ 4294967296) := Lib.hid (by
    have h1 := putVarL_len l x; have h2 := putVarL_len (putVarL l x) y
    rw [List.length_append]
    have := hm2.out; have := HSM.out.2.2.1
    omega)
  have hlen2 : Hid (∀ j, j ≤ L.length → (putVarL (putVarL l x) y ++ m ++ k ++ catL (L.take j)).length ≤ 8589934592) := Lib.hid (fun j hj => by
    have h1 := putVarL_len l x; have h2 := putVarL_len (putVarL l x) y
    rw [List.length_append, List.length_append, List.length_append, cat32 HSM.out.2.2.2.2 j hj]
    have := hm2.out; have := HSM.out.2.2.1; have := HSM.out.2.2.2.1
    omega)
  replace H := H.drewN 1
  have HX := Lib.hid H
  clear H
  obtain ⟨o0, o1, o2, o3, o4⟩ := (show w1.cell? ⟨w.heap.size + 1, 0, none⟩ = _ ∧ w1.cell? ⟨w.heap.size + 1, 1, none⟩ = _ ∧ w1.cell? ⟨w.heap.size + 1, 2, none⟩ = _ ∧ w1.cell? ⟨w.heap.size + 1, 3, none⟩ = _ ∧ w1.cell? ⟨w.heap.size + 1, 4, none⟩ = _ from HX.out.c5 (.head _))
  go_wp2_with fail
  go_region_held3 (fun w' => w'.cell? ⟨w.heap.size + 1, 0, none⟩ = some (.int .i64 x) ∧ w'.cell? ⟨w.heap.size + 1, 1, none⟩ = some (.int .i64 y) ∧ w'.cell? ⟨w.heap.size + 1, 2, none⟩ = some (.slice B m.length n'))
    (first
      | go_keep
      | exact HK2.out
      | exact HK3.out
      | exact HK4.out)
    (first
      | (go_at_call_of 56 (Value.slice A l.length n); refine (l11Num_any (.slice A l.length n) l x _ (HT0.out.up HX.out.bel) (by omega)).mono ?_; rintro e w2 ⟨v2, rfl, ho2, hb2⟩; have H2 := Lib.hid (HX.out.moreB ho2 hb2); have HK2 := Lib.hid (three (H2.out.c5 (.tail _ (.head _)))); clear ho2 hb2)
      | (go_at_call_of 56 v2; refine (l11Num_any v2 (putVarL l x) y _ (H2.out.slB 5 (.head _)) hlen.out.1).mono ?_; rintro e w3 ⟨v3, rfl, ho3, hb3⟩; have H3 := Lib.hid (H2.out.moreB ho3 hb3); have HK3 := Lib.hid (three (H3.out.c5 (.tail _ (.tail _ (.head _))))); clear ho3 hb3)
      | (refine step_appF (W := w) (w := w3) (by rfl) (.tmp 21) (.tmp 23) 25 rfl 5 i0 Try.underlying25 hi hz0 hz1 hz2 v3 (putVarL (putVarL l x) y) (by rfl) _ m (by rfl) (HU0.out.up H3.out.bel) hm2.out.1 H3.out (by have := hlen.out.2.1; omega) ?_; intro v4 w4 hh4; have H4 := Lib.hid hh4; have HK4 := Lib.hid (three (H4.out.c5 (.tail _ (.tail _ (.head _))))); clear hh4))
  have H5 : Hid (InvF w w4 [segB 5 v4 (putVarL (putVarL l x) y ++ m), segX 36 (w.heap.size + 1) [.int .i64 x, .int .i64 y, .slice B m.length n', .slice D k.length n'', .slice C L.length f]]) := Lib.hid (H4.out.sub (.cons_cons _ (.cons _ (.cons_cons _ (.cons _ .slnil)))))
  clear HK2 HK3 HK4 H2 H3 H4 HX o0 o1 o2 o3 o4
  obtain ⟨o0, o1, o2, o3, o4⟩ := H5.out.c5 (.tail _ (.head _))
  go_wp2_with (at_builtin; refine wpList_appF (W := w) (w := w4) rfl _ _ 25 rfl 5 i0 Try.underlying25 hi hz0 hz1 hz2 _ (putVarL (putVarL l x) y ++ m) (by rfl) _ k (by rfl) (HV0.out.up H5.out.bel) H5.out (by have := hlen.out.2.2; omega) ?_; intro v6 w6 hh6; have H6 := Lib.hid hh6; clear hh6 o0 o1 o2 o3 o4; obtain ⟨o0, o1, o2, o3, o4⟩ := H6.out.c5 (.tail _ (.head _)))
  clear H5
  have hb6 := H6.out.bel
  have ho6 : Own 5 w6 w.heap.size v6 (putVarL (putVarL l x) y ++ m ++ k ++ catL (L.take 0)) := by
    have h := H6.out.ownB 5 (.head _)
    simpa [catL] using h
  clear o0 o1 o2 o3 o4 H6
  generalize putVarL (putVarL l x) y ++ m ++ k = Z at ho6 hlen2 HRE
  go_loopw [8, 32] (fun o i wq => ∃ j : Nat, j ≤ L.length ∧ i = .int .i64 j ∧ Own 5 wq w.heap.size o (Z ++ catL (L.take j)) ∧ Below w.heap.size w wq)
    (fun _ i _ => L.length - (intOf i).toNat)
  case atStart => exact ⟨0, Nat.zero_le _, rfl, ho6, hb6⟩
  case round =>
    clear ho6 hb6
    obtain ⟨j, hj, rfl, hown, hbel⟩ := hrel
    by_cases hlj : j < L.length
    · obtain ⟨bb, off, rfl, hbb, hcell⟩ := t3 (by omega)
      obtain ⟨z, hc0, hz⟩ := hcell j hlj
      have hc1 := (hbel.cell (p := ⟨bb, off + j, none⟩) hbb).trans hc0
      have hx1 := hz.up hbel
      have hct := catL_take L j hlj
      have hr32 : (L.getD j []).length = 32 := all32_at HSM.out.2.2.2.2 _ (by simp [List.getD_eq_getElem?_getD, List.getElem?_eq_getElem hlj])
      have hlt2 : (Z ++ catL (L.take j)).length + (L.getD j []).length ≤ 70368744177664 := by
        have := hlen2.out j hj
        omega
      generalize L.getD j [] = r at hx1 hct hlt2
      have HX := Lib.hid hx1
      have HC := Lib.hid (show Z ++ catL (L.take (j + 1)) = Z ++ catL (L.take j) ++ r by rw [hct, List.append_assoc])
      have HB := Lib.hid hlt2
      generalize Z ++ catL (L.take j) = Y at hown HC HB
      clear hcell hc0 hz hx1 hct hlt2 hr32
      go_wp2_with (at_builtin; refine wpList_appS (W := w) rfl _ _ 25 rfl 5 i0 Try.underlying25 hi hz0 hz1 hz2 _ Y (by rfl) _ r (by rfl) HX.out hown hbel HB.out ?_; intro v7 w7 hown7 hb7)
      go_roundw
      case rel => exact ⟨j + 1, by omega, by go_num, by rw [HC.out]; exact hown7, hb7⟩
      case measure => simp [intOf]; omega
    · obtain rfl : j = L.length := by omega
      rw [List.take_length] at hown
      go_wp2
      go_ret2
      exact ⟨_, rfl, by rw [HRE.out]; exact hown, hbel⟩
end Go.Proofs.Ytopbalemfljphaa
