/- PutHead, of the program and of its model. -/
import Derived.Test.YtopbalemfljphaaHeadOk
import Derived.Test.YtopbalemfljphaaPutQc
import Derived.Deep.RegionHeld3
namespace Go.Proofs.Ytopbalemfljphaa
open Go.ChangeShapes Go.WideShapes Go.ChangeAt Go.RowKit

/-- What PutHead writes of a valid header behind l. -/
def headL (l : List UInt8) (x y z qx qy : Int) (m k ql qk : List UInt8) (L : List (List UInt8)) : List UInt8 := qcL (putVarL (putVarL (putVarL l x) y) z ++ m ++ k) qx qy ql qk L
def putHeadL (a b c d e : Int) (l : List UInt8) (x y z qx qy : Int) (m k ql qk : List UInt8) (L : List (List UInt8)) : List UInt8 := if headB a b c d e x y z qx qy m k ql qk L = true then headL l x y z qx qy m k ql qk L else []
theorem qcL_len (l : List UInt8) (x y : Int) (m k : List UInt8) (L : List (List UInt8)) : (qcL l x y m k L).length ≤ l.length + m.length + k.length + sumL L + 18 := by
  unfold qcL
  rw [List.length_append, List.length_append, List.length_append, catL_length]
  have h1 := putVarL_len l x
  have h2 := putVarL_len (putVarL l x) y
  omega
theorem num3_len (l : List UInt8) (x y z : Int) : (putVarL (putVarL (putVarL l x) y) z).length ≤ l.length + 27 := by
  have h1 := putVarL_len l x
  have h2 := putVarL_len (putVarL l x) y
  have h3 := putVarL_len (putVarL (putVarL l x) y) z
  omega
theorem putHeadL_len (a b c d e : Int) (l : List UInt8) (x y z qx qy : Int) (m k ql qk : List UInt8) (L : List (List UInt8)) : (putHeadL a b c d e l x y z qx qy m k ql qk L).length ≤ l.length + m.length + k.length + ql.length + qk.length + sumL L + 45 := by
  unfold putHeadL headL
  split
  · have h1 := qcL_len (putVarL (putVarL (putVarL l x) y) z ++ m ++ k) qx qy ql qk L
    have h2 := num3_len l x y z
    rw [List.length_append, List.length_append] at h1
    omega
  · simp
theorem headB_tag {a b c d e x y z qx qy : Int} {m k ql qk : List UInt8} {L : List (List UInt8)} (h : headB a b c d e x y z qx qy m k ql qk L = true) : m.length = 32 ∧ k.length = 32 ∧ qcB a b c d e qx qy ql qk L = true := by
  unfold headB at h
  simp only [Bool.and_eq_true] at h
  obtain ⟨_, _, _, _, hm, hk, hq, _⟩ := h
  exact ⟨hashLB_len hm, hashLB_len hk, hq⟩
section
variable {w : World} {g : Nat} {a b c d e f i j k m : Value}
theorem ten_fst (h : Ten w g a b c d e f i j k m) : w.cell? ⟨g, 0, none⟩ = some a ∧ w.cell? ⟨g, 1, none⟩ = some b ∧ w.cell? ⟨g, 2, none⟩ = some c := ⟨h.1, h.2.1, h.2.2.1⟩
theorem ten_mid (h : Ten w g a b c d e f i j k m) : w.cell? ⟨g, 3, none⟩ = some d ∧ w.cell? ⟨g, 4, none⟩ = some e := ⟨h.2.2.2.1, h.2.2.2.2.1⟩
end

set_option maxRecDepth 100000 in
set_option maxHeartbeats 8000000 in
theorem implPutHead_any (a b c d e x y z qx qy : Int) (t u v qu qv qs : Value) (l m k ql qk : List UInt8) (L : List (List UInt8)) (w : World) (ht : Sl w w.heap.size t l) (hu : Sl w w.heap.size u m) (hv : Sl w w.heap.size v k) (hqu : Sl w w.heap.size qu ql) (hqv : Sl w w.heap.size qv qk) (hqs : SlS w w.heap.size qs L) (hl : l.length ≤ 1073741000) (hqk : qk.length ≤ 4294967296) :
    Calls Try.prog 60 #[.agg #[.int .i64 a, .int .i64 b, .int .i64 c, .int .i64 d, .int .i64 e], t, .agg #[.int .i64 x, .int .i64 y, .int .i64 z, u, v, .int .i64 qx, .int .i64 qy, qu, qv, qs]] w (Fresh2 w (putHeadL a b c d e l x y z qx qy m k ql qk L) (.bool (headB a b c d e x y z qx qy m k ql qk L))) := by
  have HT0 := Lib.hid ht
  have HU0 := Lib.hid hu
  have HV0 := Lib.hid hv
  have HQU := Lib.hid hqu
  have HQV := Lib.hid hqv
  have HQS := Lib.hid hqs
  obtain ⟨T, tc, rfl, p1, p2, p0, p3⟩ := ht
  clear p1 p2 p0 p3
  obtain ⟨A, ac, rfl, p1, p2, p0, p3⟩ := hu
  clear p1 p2 p0 p3
  obtain ⟨B, bc, rfl, p1, p2, p0, p3⟩ := hv
  clear p1 p2 p0 p3
  obtain ⟨C, cc, rfl, p1, p2, p0, p3⟩ := hqu
  clear p1 p2 p0 p3
  obtain ⟨D, dc, rfl, p1, p2, p0, p3⟩ := hqv
  clear p1 p2 p0 p3
  obtain ⟨E, ec, rfl, p1, p2, p0, p3⟩ := hqs
  clear p1 p2 p0 p3
  have c0 := fun W h1 h2 h3 h4 h5 => implHeadOk_any a b c d e x y z qx qy (.slice A m.length ac) (.slice B k.length bc) (.slice C ql.length cc) (.slice D qk.length dc) (.slice E L.length ec) m k ql qk L W h1 h2 h3 h4 h5 hqk
  have hP : headB a b c d e x y z qx qy m k ql qk L = true → (m.length = 32 ∧ k.length = 32 ∧ qcB a b c d e qx qy ql qk L = true) ∧ putHeadL a b c d e l x y z qx qy m k ql qk L = qcL (putVarL (putVarL (putVarL l x) y) z ++ m ++ k) qx qy ql qk L := fun h => ⟨headB_tag h, if_pos h⟩
  have hN : headB a b c d e x y z qx qy m k ql qk L = false → putHeadL a b c d e l x y z qx qy m k ql qk L = [] := fun h => if_neg (by simp [h])
  obtain ⟨R, hR⟩ : ∃ R, R = putHeadL a b c d e l x y z qx qy m k ql qk L := ⟨_, rfl⟩
  obtain ⟨x0, g0⟩ : ∃ x0, x0 = headB a b c d e x y z qx qy m k ql qk L := ⟨_, rfl⟩
  rw [← hR] at hP hN ⊢
  rw [← g0] at hP hN ⊢
  simp only [← g0] at c0
  have C0 := Lib.hid c0
  have HP := Lib.hid hP
  have HN := Lib.hid hN
  clear c0 hP hN hR g0
  have H0 : InvF w _ [segX 67 (w.heap.size + 1) [.int .i64 x, .int .i64 y, .int .i64 z, .slice A m.length ac, .slice B k.length bc, .int .i64 qx, .int .i64 qy, .slice C ql.length cc, .slice D qk.length dc, .slice E L.length ec], segX 33 w.heap.size [.int .i64 a, .int .i64 b, .int .i64 c, .int .i64 d, .int .i64 e]] := ((InvF.start w).newG 33 #[.int .i64 a, .int .i64 b, .int .i64 c, .int .i64 d, .int .i64 e] w.heap.size).newG 67 #[.int .i64 x, .int .i64 y, .int .i64 z, .slice A m.length ac, .slice B k.length bc, .int .i64 qx, .int .i64 qy, .slice C ql.length cc, .slice D qk.length dc, .slice E L.length ec] (w.heap.size + 1)
  go_enter Try.func60, Try.ntmps60
  go_wp2_with fail
  refine (C0.out _ (HU0.out.up H0.bel) (HV0.out.up H0.bel) (HQU.out.up H0.bel) (HQV.out.up H0.bel) (HQS.out.up H0.bel)).mono ?_
  rintro ev w1 ⟨rfl, hb1⟩
  have H := H0.up hb1
  clear H0 hb1
  rcases x0 with _ | _
  · go_wp2
    go_ret2
    exact ⟨_, rfl, by rw [HN.out (by first | trivial | rfl)]; exact World.ownsRow_nil _ _ _ _, H.bel⟩
  obtain ⟨hsm, hRe⟩ := HP.out rfl
  have HSM := Lib.hid hsm
  have HRE := Lib.hid hRe
  clear HP HN hsm hRe
  have hl3 : Hid ((putVarL (putVarL (putVarL l x) y) z).length ≤ 1073741100 ∧ ((putVarL (putVarL (putVarL l x) y) z) ++ m).length ≤ 1073741200 ∧ ((putVarL (putVarL (putVarL l x) y) z) ++ m ++ k).length ≤ 1073741300) := Lib.hid (by have h := num3_len l x y z; simp only [List.length_append]; have h1 := HSM.out.1; have h2 := HSM.out.2.1; omega)
  obtain ⟨o0, o1, o2, o3, o4, o5, o6, o7, o8, o9⟩ := H.c10 (.head _)
  go_wp2_with fail
  have hI := Lib.hid (show OwnI 3 (w1.alloc (.cells #[.int .i64 x, .int .i64 y, .int .i64 z] 3)) w1.heap.size (.slice (some ⟨w1.heap.size, 0, none⟩) 3 3) [x, y, z] from World.ownsRow_lit w1 #[.int .i64 x, .int .i64 y, .int .i64 z] 3 (Nat.le_refl _) (by simp [maxLen]) rfl).sl
  have H1 := H.up ((Below.refl _ _).alloc (Nat.le_refl _) (.cells #[.int .i64 x, .int .i64 y, .int .i64 z] 3))
  clear H o0 o1 o2 o3 o4 o5 o6 o7 o8 o9
  refine (putNumbers_any _ _ l [x, y, z] _ (HT0.out.up H1.bel) hI.out (by simp) (by simp) (by omega)).mono ?_
  rintro ev w2 ⟨v2, rfl, ho2, hb2⟩
  have H2 : InvF w w2 [segB 5 v2 (putVarL (putVarL (putVarL l x) y) z), segX 67 (w.heap.size + 1) [.int .i64 x, .int .i64 y, .int .i64 z, .slice A m.length ac, .slice B k.length bc, .int .i64 qx, .int .i64 qy, .slice C ql.length cc, .slice D qk.length dc, .slice E L.length ec], segX 33 w.heap.size [.int .i64 a, .int .i64 b, .int .i64 c, .int .i64 d, .int .i64 e]] := H1.moreB ho2 hb2
  clear H1 hI ho2 hb2
  obtain ⟨o0, o1, o2, o3, o4, o5, o6, o7, o8, o9⟩ := H2.c10 (.tail _ (.head _))
  go_wp2_with fail
  refine (joined_any _ _ _ m _ (H2.slB 5 (.head _)) (HU0.out.up H2.bel) (by have := hl3.out.1; omega) (by have := HSM.out.1; omega)).mono ?_
  rintro ev w3 ⟨v3, rfl, ho3, hb3⟩
  have H3 := H2.moreB ho3 hb3
  clear H2 ho3 hb3 o0 o1 o2 o3 o4 o5 o6 o7 o8 o9
  obtain ⟨o0, o1, o2, o3, o4, o5, o6, o7, o8, o9⟩ := H3.c10 (.tail _ (.tail _ (.head _)))
  go_wp2_with fail
  refine (joined_any _ _ _ k _ (H3.slB 5 (.head _)) (HV0.out.up H3.bel) (by have := hl3.out.2.1; omega) (by have := HSM.out.2.1; omega)).mono ?_
  rintro ev w4 ⟨v4, rfl, ho4, hb4⟩
  have H4 : InvF w w4 [segB 5 v4 ((putVarL (putVarL (putVarL l x) y) z) ++ m ++ k), segB 5 v3 ((putVarL (putVarL (putVarL l x) y) z) ++ m), segB 5 v2 (putVarL (putVarL (putVarL l x) y) z), segX 67 (w.heap.size + 1) [.int .i64 x, .int .i64 y, .int .i64 z, .slice A m.length ac, .slice B k.length bc, .int .i64 qx, .int .i64 qy, .slice C ql.length cc, .slice D qk.length dc, .slice E L.length ec], segX 33 w.heap.size [.int .i64 a, .int .i64 b, .int .i64 c, .int .i64 d, .int .i64 e]] := H3.moreB ho4 hb4
  clear H3 ho4 hb4 o0 o1 o2 o3 o4 o5 o6 o7 o8 o9
  obtain ⟨o0, o1, o2, o3, o4, o5, o6, o7, o8, o9⟩ := H4.c10 (.tail _ (.tail _ (.tail _ (.head _))))
  obtain ⟨t0, t1, t2, t3, t4⟩ := H4.c5 (.tail _ (.tail _ (.tail _ (.tail _ (.head _)))))
  have c1 := fun W h1 h2 h3 h4 => implPutQc_any a b c d e qx qy v4 (.slice C ql.length cc) (.slice D qk.length dc) (.slice E L.length ec) ((putVarL (putVarL (putVarL l x) y) z) ++ m ++ k) ql qk L W h1 h2 h3 h4 (by have := hl3.out.2.2; omega) hqk
  unfold putQcL at c1
  simp only [HSM.out.2.2, if_pos] at c1
  have C1 := Lib.hid c1
  clear c1
  go_wp2_with fail
  refine (C1.out _ (H4.slB 5 (.head _)) (HQU.out.up H4.bel) (HQV.out.up H4.bel) (HQS.out.up H4.bel)).mono ?_
  rintro ev w8 ⟨v8, rfl, ho8, hb8⟩
  have H8 := Lib.hid (H4.moreB ho8 hb8)
  clear H4 ho8 hb8 o0 o1 o2 o3 o4 o5 o6 o7 o8 o9 t0 t1 t2 t3 t4
  go_wp2
  go_ret2
  exact ⟨_, rfl, by rw [HRE.out]; exact H8.out.ownB 5 (.head _), H8.out.bel⟩

set_option maxRecDepth 100000 in
set_option maxHeartbeats 8000000 in
theorem specPutHead_any (a b c d e x y z qx qy : Int) (t u v qu qv qs : Value) (l m k ql qk : List UInt8) (L : List (List UInt8)) (w : World) (ht : Sl w w.heap.size t l) (hu : Sl w w.heap.size u m) (hv : Sl w w.heap.size v k) (hqu : Sl w w.heap.size qu ql) (hqv : Sl w w.heap.size qv qk) (hqs : SlS w w.heap.size qs L) (hl : l.length ≤ 1073741000) (hqk : qk.length ≤ 4294967296) :
    Calls Try.prog 57 #[.agg #[.int .i64 a, .int .i64 b, .int .i64 c, .int .i64 d, .int .i64 e], t, .agg #[.int .i64 x, .int .i64 y, .int .i64 z, u, v, .int .i64 qx, .int .i64 qy, qu, qv, qs]] w (Fresh2 w (putHeadL a b c d e l x y z qx qy m k ql qk L) (.bool (headB a b c d e x y z qx qy m k ql qk L))) := by
  obtain ⟨i0, hi, hz0, hz1, hz2⟩ := info_parts u8info
  have HT0 := Lib.hid ht
  have HU0 := Lib.hid hu
  have HV0 := Lib.hid hv
  have HQU := Lib.hid hqu
  have HQV := Lib.hid hqv
  have HQS := Lib.hid hqs
  obtain ⟨T, tc, rfl, p1, p2, p0, p3⟩ := ht
  clear p1 p2 p0 p3
  obtain ⟨A, ac, rfl, p1, p2, p0, p3⟩ := hu
  clear p1 p2 p0 p3
  obtain ⟨B, bc, rfl, p1, p2, p0, p3⟩ := hv
  clear p1 p2 p0 p3
  obtain ⟨C, cc, rfl, p1, p2, p0, p3⟩ := hqu
  clear p1 p2 p0 p3
  obtain ⟨D, dc, rfl, p1, p2, p0, p3⟩ := hqv
  clear p1 p2 p0 p3
  obtain ⟨E, ec, rfl, p1, p2, p0, p3⟩ := hqs
  clear p1 p2 p0 p3
  have c0 := fun W h1 h2 h3 h4 h5 => specHeadOk_any a b c d e x y z qx qy (.slice A m.length ac) (.slice B k.length bc) (.slice C ql.length cc) (.slice D qk.length dc) (.slice E L.length ec) m k ql qk L W h1 h2 h3 h4 h5 hqk
  have hP : headB a b c d e x y z qx qy m k ql qk L = true → (m.length = 32 ∧ k.length = 32 ∧ qcB a b c d e qx qy ql qk L = true) ∧ putHeadL a b c d e l x y z qx qy m k ql qk L = qcL (putVarL (putVarL (putVarL l x) y) z ++ m ++ k) qx qy ql qk L := fun h => ⟨headB_tag h, if_pos h⟩
  have hN : headB a b c d e x y z qx qy m k ql qk L = false → putHeadL a b c d e l x y z qx qy m k ql qk L = [] := fun h => if_neg (by simp [h])
  obtain ⟨R, hR⟩ : ∃ R, R = putHeadL a b c d e l x y z qx qy m k ql qk L := ⟨_, rfl⟩
  obtain ⟨x0, g0⟩ : ∃ x0, x0 = headB a b c d e x y z qx qy m k ql qk L := ⟨_, rfl⟩
  rw [← hR] at hP hN ⊢
  rw [← g0] at hP hN ⊢
  simp only [← g0] at c0
  have C0 := Lib.hid c0
  have HP := Lib.hid hP
  have HN := Lib.hid hN
  clear c0 hP hN hR g0
  have H0 : InvF w _ [segX 67 (w.heap.size + 1) [.int .i64 x, .int .i64 y, .int .i64 z, .slice A m.length ac, .slice B k.length bc, .int .i64 qx, .int .i64 qy, .slice C ql.length cc, .slice D qk.length dc, .slice E L.length ec], segX 33 w.heap.size [.int .i64 a, .int .i64 b, .int .i64 c, .int .i64 d, .int .i64 e]] := ((InvF.start w).newG 33 #[.int .i64 a, .int .i64 b, .int .i64 c, .int .i64 d, .int .i64 e] w.heap.size).newG 67 #[.int .i64 x, .int .i64 y, .int .i64 z, .slice A m.length ac, .slice B k.length bc, .int .i64 qx, .int .i64 qy, .slice C ql.length cc, .slice D qk.length dc, .slice E L.length ec] (w.heap.size + 1)
  go_enter Try.func57, Try.ntmps57
  go_wp2_with fail
  refine (C0.out _ (HU0.out.up H0.bel) (HV0.out.up H0.bel) (HQU.out.up H0.bel) (HQV.out.up H0.bel) (HQS.out.up H0.bel)).mono ?_
  rintro ev w1 ⟨rfl, hb1⟩
  have H := H0.up hb1
  clear H0 hb1
  rcases x0 with _ | _
  · go_wp2
    go_ret2
    exact ⟨_, rfl, by rw [HN.out (by first | trivial | rfl)]; exact World.ownsRow_nil _ _ _ _, H.bel⟩
  obtain ⟨hsm, hRe⟩ := HP.out rfl
  have HSM := Lib.hid hsm
  have HRE := Lib.hid hRe
  clear HP HN hsm hRe
  have hl3 : Hid ((putVarL (putVarL (putVarL l x) y) z).length ≤ 1073741100 ∧ ((putVarL (putVarL (putVarL l x) y) z) ++ m).length ≤ 1073741200 ∧ ((putVarL (putVarL (putVarL l x) y) z) ++ m ++ k).length ≤ 1073741300) := Lib.hid (by have h := num3_len l x y z; simp only [List.length_append]; have h1 := HSM.out.1; have h2 := HSM.out.2.1; omega)
  have hlen : Hid ((putVarL l x).length ≤ 4294967296 ∧ (putVarL (putVarL l x) y).length ≤ 4294967296 ∧ 0 < m.length ∧ 0 < k.length ∧ (putVarL (putVarL (putVarL l x) y) z).length + m.length ≤ 2147483648 ∧ ((putVarL (putVarL (putVarL l x) y) z) ++ m).length + k.length ≤ 2147483648) := Lib.hid (by have h1 := putVarL_len l x; have h2 := putVarL_len (putVarL l x) y; have h3 := num3_len l x y z; simp only [List.length_append]; have h4 := HSM.out.1; have h5 := HSM.out.2.1; omega)
  have HX := Lib.hid (H.drewN 1)
  obtain ⟨o0, o1, o2, o3, o4, o5, o6, o7, o8, o9⟩ := H.c10 (.head _)
  clear H
  go_wp2_with fail
  go_region_held3 (fun w' => w'.cell? ⟨w.heap.size + 1, 0, none⟩ = some (.int .i64 x) ∧ w'.cell? ⟨w.heap.size + 1, 1, none⟩ = some (.int .i64 y) ∧ w'.cell? ⟨w.heap.size + 1, 2, none⟩ = some (.int .i64 z))
    (first
      | go_keep
      | exact HK2.out
      | exact HK3.out
      | exact HK4.out)
    (first
      | (go_at_call_of 56 (Value.slice T l.length tc); refine (l11Num_any (.slice T l.length tc) l x _ (HT0.out.up HX.out.bel) (by omega)).mono ?_; rintro e w2 ⟨v2, rfl, ho2, hb2⟩; have H2 := Lib.hid (HX.out.moreB ho2 hb2); have HK2 := Lib.hid (ten_fst (H2.out.c10 (.tail _ (.head _)))); clear ho2 hb2)
      | (go_at_call_of 56 v2; refine (l11Num_any v2 (putVarL l x) y _ (H2.out.slB 5 (.head _)) hlen.out.1).mono ?_; rintro e w3 ⟨v3, rfl, ho3, hb3⟩; have H3 := Lib.hid (H2.out.moreB ho3 hb3); have HK3 := Lib.hid (ten_fst (H3.out.c10 (.tail _ (.tail _ (.head _))))); clear ho3 hb3)
      | (go_at_call_of 56 v3; refine (l11Num_any v3 (putVarL (putVarL l x) y) z _ (H3.out.slB 5 (.head _)) hlen.out.2.1).mono ?_; rintro e w4 ⟨v4, rfl, ho4, hb4⟩; have H4 := Lib.hid (H3.out.moreB ho4 hb4); have HK4 := Lib.hid (ten_fst (H4.out.c10 (.tail _ (.tail _ (.tail _ (.head _)))))); clear ho4 hb4))
  have H5 : InvF w w4 [segB 5 v4 (putVarL (putVarL (putVarL l x) y) z), segX 67 (w.heap.size + 1) [.int .i64 x, .int .i64 y, .int .i64 z, .slice A m.length ac, .slice B k.length bc, .int .i64 qx, .int .i64 qy, .slice C ql.length cc, .slice D qk.length dc, .slice E L.length ec], segX 33 w.heap.size [.int .i64 a, .int .i64 b, .int .i64 c, .int .i64 d, .int .i64 e]] := H4.out.sub (.cons_cons _ (.cons _ (.cons _ (.cons_cons _ (.cons_cons _ .slnil)))))
  clear HK2 HK3 HK4 H2 H3 H4 HX o0 o1 o2 o3 o4 o5 o6 o7 o8 o9
  obtain ⟨o0, o1, o2, o3, o4, o5, o6, o7, o8, o9⟩ := H5.c10 (.tail _ (.head _))
  have HX := Lib.hid H5.drew1
  have HK := Lib.hid (ten_mid (HX.out.c10 (.tail _ (.head _))))
  clear H5
  go_wp2_with fail
  go_region_held3 (fun w' => w'.cell? ⟨w.heap.size + 1, 3, none⟩ = some (.slice A m.length ac) ∧ w'.cell? ⟨w.heap.size + 1, 4, none⟩ = some (.slice B k.length bc))
    (first
      | go_keep
      | exact HK.out
      | exact HK6.out
      | exact HK7.out)
    (first
      | (refine step_appF (W := w) (w := w4.drew) (by rfl) (.tmp 23) (.tmp 25) 25 rfl 5 i0 Try.underlying25 hi hz0 hz1 hz2 v4 (putVarL (putVarL (putVarL l x) y) z) (by rfl) _ m (by rfl) (HU0.out.up HX.out.bel) hlen.out.2.2.1 HX.out (by have := hlen.out.2.2.2.2.1; omega) ?_; intro v6 w6 hh6; have H6 := Lib.hid hh6; have HK6 := Lib.hid (ten_mid (H6.out.c10 (.tail _ (.head _)))); clear hh6)
      | (refine step_appF (W := w) (w := w6) (by rfl) (.tmp 26) (.tmp 28) 25 rfl 5 i0 Try.underlying25 hi hz0 hz1 hz2 v6 ((putVarL (putVarL (putVarL l x) y) z) ++ m) (by rfl) _ k (by rfl) (HV0.out.up H6.out.bel) hlen.out.2.2.2.1 H6.out (by have := hlen.out.2.2.2.2.2; omega) ?_; intro v7 w7 hh7; have H7 := Lib.hid hh7; have HK7 := Lib.hid (ten_mid (H7.out.c10 (.tail _ (.head _)))); clear hh7))
  have H4 : InvF w w7 [segB 5 v7 ((putVarL (putVarL (putVarL l x) y) z) ++ m ++ k), segX 67 (w.heap.size + 1) [.int .i64 x, .int .i64 y, .int .i64 z, .slice A m.length ac, .slice B k.length bc, .int .i64 qx, .int .i64 qy, .slice C ql.length cc, .slice D qk.length dc, .slice E L.length ec], segX 33 w.heap.size [.int .i64 a, .int .i64 b, .int .i64 c, .int .i64 d, .int .i64 e]] := H7.out
  clear HK HK6 HK7 H6 H7 HX o0 o1 o2 o3 o4 o5 o6 o7 o8 o9
  obtain ⟨o0, o1, o2, o3, o4, o5, o6, o7, o8, o9⟩ := H4.c10 (.tail _ (.head _))
  obtain ⟨t0, t1, t2, t3, t4⟩ := H4.c5 (.tail _ (.tail _ (.head _)))
  have c1 := fun W h1 h2 h3 h4 => specPutQc_any a b c d e qx qy v7 (.slice C ql.length cc) (.slice D qk.length dc) (.slice E L.length ec) ((putVarL (putVarL (putVarL l x) y) z) ++ m ++ k) ql qk L W h1 h2 h3 h4 (by have := hl3.out.2.2; omega) hqk
  unfold putQcL at c1
  simp only [HSM.out.2.2, if_pos] at c1
  have C1 := Lib.hid c1
  clear c1
  go_wp2_with fail
  refine (C1.out _ (H4.slB 5 (.head _)) (HQU.out.up H4.bel) (HQV.out.up H4.bel) (HQS.out.up H4.bel)).mono ?_
  rintro ev w8 ⟨v8, rfl, ho8, hb8⟩
  have H8 := Lib.hid (H4.moreB ho8 hb8)
  clear H4 ho8 hb8 o0 o1 o2 o3 o4 o5 o6 o7 o8 o9 t0 t1 t2 t3 t4
  go_wp2
  go_ret2
  exact ⟨_, rfl, by rw [HRE.out]; exact H8.out.ownB 5 (.head _), H8.out.bel⟩

end Go.Proofs.Ytopbalemfljphaa
