/- PutIncl of the program: the function literal, partList.put. -/
import Derived.Test.YtopbalemfljphaaInclOk
import Derived.Test.YtopbalemfljphaaPutInclS
namespace Go.Proofs.Ytopbalemfljphaa
open Go.ChangeShapes Go.WideShapes Go.ChangeAt Go.RowKit
set_option linter.unusedSimpArgs false

set_option maxHeartbeats 1000000 in
theorem putHashF_any (v u : Value) (l m : List UInt8) (w : World) (h : Sl w w.heap.size v l) (h' : Sl w w.heap.size u m) (hl : l.length ≤ 4294967296) (hm : m.length ≤ 4294967296) :
    Calls Try.prog 82 #[v, u] w (Fresh w (l ++ m)) := by
  go_enter Try.func82, Try.ntmps82
  go_wp2_with fail
  refine (joined_any v u l m _ h h' hl hm).mono ?_
  rintro ev w1 ⟨v1, rfl, ho1, hb1⟩
  go_wp2
  go_ret
  exact ⟨_, rfl, ho1, hb1⟩

set_option maxRecDepth 100000 in
set_option maxHeartbeats 4000000 in
theorem putHashes_any (s bv : Value) (l : List UInt8) (L : List (List UInt8)) (W w : World) (ss : List (List Row)) (K : InvF W w (segB 5 bv l :: ss)) (hs : SlS W W.heap.size s L) (hbd : ∀ j, j < L.length → (l ++ catL (L.take j)).length ≤ 4294967296 ∧ (L.getD j []).length ≤ 4294967296) :
    Calls Try.prog 85 #[s, bv, .func (Fn.func 82) #[] #[]] w (fun ev w' => ∃ u, ev = .returned u ∧ InvF W w' (segB 5 u (l ++ catL L) :: ss)) := by
  obtain ⟨A, c, rfl, h1, h2, h0, h3⟩ := hs
  unfold maxLen at h2
  clear h0
  have HBDA := Lib.hid hbd
  have H5 : Hid (InvF W w (segB 5 bv (l ++ catL (L.take 0)) :: ss)) := Lib.hid (by simpa [catL] using K)
  clear hbd K
  go_enter Try.func85, Try.ntmps85
  go_wp2
  go_loopw [1, 11] (fun bv i wr => ∃ (j : Nat) (ov : Value), ov = bv ∧ j ≤ L.length ∧ i = .int .i64 (j : Int) ∧ Hid (InvF W wr (segB 5 ov (l ++ catL (L.take j)) :: ss)))
    (fun _ i _ => L.length - (intOf i).toNat)
  case atStart => exact ⟨0, _, rfl, Nat.zero_le _, rfl, H5⟩
  case round =>
    clear H5
    obtain ⟨j, ov, rfl, hj, rfl, Hj⟩ := hrel
    by_cases hlt : j < L.length
    · obtain ⟨bb, off, rfl, hbb, hcell⟩ := h3 (by omega)
      obtain ⟨zz, hc0, hzz⟩ := hcell j hlt
      have hjl : (j : Int) < (L.length : Int) := by omega
      have hc1 := (Hj.out.bel.cell (p := ⟨bb, off + j, none⟩) hbb).trans hc0
      have HX := Lib.hid (hzz.up Hj.out.bel)
      have HC : Hid (l ++ catL (L.take (j + 1)) = l ++ catL (L.take j) ++ L.getD j []) := Lib.hid (by rw [catL_take L j hlt, List.append_assoc])
      have HB := Lib.hid (HBDA.out j hlt)
      generalize L.getD j [] = r at HX HC HB
      generalize l ++ catL (L.take j) = Y at HC HB Hj
      clear hcell hc0 hzz
      go_wp2_with fail
      refine (putHashF_any ov zz Y r _ (Hj.out.slB 5 (.head _)) HX.out HB.out.1 HB.out.2).mono ?_
      rintro ev w5 ⟨v5, rfl, ho5, hb5⟩
      have HF : Hid (InvF W w5 (segB 5 v5 (l ++ catL (L.take (j + 1))) :: ss)) := Lib.hid (by rw [HC.out]; exact (Hj.out.moreB ho5 hb5).sub (.cons_cons _ (.cons _ (List.Sublist.refl _))))
      clear ho5 hb5 Hj hc1 HX HC
      go_wp2
      go_roundw
      case rel => exact ⟨j + 1, v5, rfl, by omega, by go_num, HF⟩
      case measure => simp [intOf]; omega
    · obtain rfl : j = L.length := by omega
      rw [List.take_length] at Hj
      go_wp2
      go_ret
      exact ⟨_, rfl, Hj.out⟩

set_option maxRecDepth 100000 in
set_option maxHeartbeats 8000000 in
theorem implPutIncl_any (a b c d e x y z : Int) (t u s : Value) (l k : List UInt8) (L : List (List UInt8)) (w : World) (ht : Sl w w.heap.size t l) (hu : Sl w w.heap.size u k) (hs : SlS w w.heap.size s L) (hk : k.length ≤ 1048576) (hN : sumL L ≤ 1048576) (hl : l.length ≤ 536870912) :
    Calls Try.prog 32 #[.agg #[.int .i64 a, .int .i64 b, .int .i64 c, .int .i64 d, .int .i64 e], t, .agg #[.int .i64 x, .int .i64 y, .int .i64 z, u, s]] w (Fresh2 w (putInclL a b c d e l x y z k L) (.bool (inclB a b c d e x y z k L))) := by
  have HT0 := Lib.hid ht
  have HU0 := Lib.hid hu
  have HS0 := Lib.hid hs
  obtain ⟨A, n, rfl, p1, p2, p0, p3⟩ := ht
  obtain ⟨B, n', rfl, q1, q2, q0, q3⟩ := hu
  obtain ⟨C, f, rfl, t1, t2, t0, t3⟩ := hs
  have t2' := t2
  unfold maxLen at t2'
  clear p1 p2 p0 p3 q1 q2 q0 q3 t2 t0 t3
  have c0 := fun W h h' => implInclOk_any a b c d e x y z (.slice B k.length n') (.slice C L.length f) k L W h h'
  have hP : inclB a b c d e x y z k L = true → putInclL a b c d e l x y z k L = inclL l x y z k L := fun h => if_pos h
  have hNo : inclB a b c d e x y z k L = false → putInclL a b c d e l x y z k L = [] := fun h => if_neg (by simp [h])
  obtain ⟨R, hR⟩ : ∃ R, R = putInclL a b c d e l x y z k L := ⟨_, rfl⟩
  obtain ⟨x0, g0⟩ : ∃ x0, x0 = inclB a b c d e x y z k L := ⟨_, rfl⟩
  rw [← hR] at hP hNo ⊢
  rw [← g0] at hP hNo ⊢
  simp only [← g0] at c0
  have C0 := Lib.hid c0
  have HP := Lib.hid hP
  have HNo := Lib.hid hNo
  clear c0 hP hNo hR g0
  have H0 := ((InvF.start w).newG 33 #[.int .i64 a, .int .i64 b, .int .i64 c, .int .i64 d, .int .i64 e] w.heap.size).newG 54 #[.int .i64 x, .int .i64 y, .int .i64 z, .slice B k.length n', .slice C L.length f] (w.heap.size + 1)
  go_enter Try.func32, Try.ntmps32
  go_wp2_with fail
  refine (C0.out _ (HU0.out.up H0.bel) (HS0.out.up H0.bel)).mono ?_
  rintro ev w1 ⟨rfl, hb1⟩
  have H := H0.up hb1
  clear H0 hb1
  rcases x0 with _ | _
  · go_wp2
    go_ret2
    exact ⟨_, rfl, by rw [HNo.out (by first | trivial | rfl)]; exact World.ownsRow_nil _ _ _ _, H.bel⟩
  have hRe := HP.out (by first | trivial | rfl)
  unfold inclL at hRe
  have HRE := Lib.hid hRe
  clear HP HNo hRe
  have hlen : Hid ((putVarL l x).length ≤ 4294967296 ∧ (putVarL (putVarL l x) y).length ≤ 4294967296 ∧ (putVarL (putVarL (putVarL l x) y) z).length ≤ 1073741824 ∧ k.length ≤ 1073741824) := Lib.hid (by
    have h1 := putVarL_len l x; have h2 := putVarL_len (putVarL l x) y; have h3 := putVarL_len (putVarL (putVarL l x) y) z
    omega)
  have hlen2 : Hid (∀ j, j < L.length → (putTextL (putVarL (putVarL (putVarL l x) y) z) k ++ catL (L.take j)).length ≤ 4294967296 ∧ (L.getD j []).length ≤ 4294967296) := Lib.hid (fun j hj => by
    have h1 := putVarL_len l x; have h2 := putVarL_len (putVarL l x) y; have h3 := putVarL_len (putVarL (putVarL l x) y) z
    have h0 := putTextL_len (putVarL (putVarL (putVarL l x) y) z) k (by omega)
    have h4 := catL_take L j hj
    have h5 : (catL (L.take (j + 1))).length ≤ sumL L := by
      have e := catL_app (L.take (j + 1)) (L.drop (j + 1))
      rw [List.take_append_drop] at e
      have e2 := congrArg List.length e
      rw [List.length_append, catL_length] at e2
      omega
    rw [h4, List.length_append] at h5
    rw [List.length_append]
    omega)
  obtain ⟨o0, o1, o2, o3, o4⟩ := H.c5 (.head _)
  go_wp2_with fail
  have hI := Lib.hid (show OwnI 3 (w1.alloc (.cells #[.int .i64 x, .int .i64 y, .int .i64 z] 3)) w1.heap.size (.slice (some ⟨w1.heap.size, 0, none⟩) 3 3) [x, y, z] from World.ownsRow_lit w1 #[.int .i64 x, .int .i64 y, .int .i64 z] 3 (Nat.le_refl _) (by simp [maxLen]) rfl).sl
  have H1 := H.up ((Below.refl _ _).alloc (Nat.le_refl _) (.cells #[.int .i64 x, .int .i64 y, .int .i64 z] 3))
  clear H o0 o1 o2 o3 o4
  refine (putNumbers_any _ _ l [x, y, z] _ (HT0.out.up H1.bel) hI.out (by simp) (by simp) (by omega)).mono ?_
  rintro ev w2 ⟨v2, rfl, ho2, hb2⟩
  have H2 : InvF w w2 (segB 5 v2 (putVarL (putVarL (putVarL l x) y) z) :: [segX 54 (w.heap.size + 1) [.int .i64 x, .int .i64 y, .int .i64 z, .slice B k.length n', .slice C L.length f], segX 33 w.heap.size [.int .i64 a, .int .i64 b, .int .i64 c, .int .i64 d, .int .i64 e]]) := H1.moreB ho2 hb2
  clear H1 hI ho2 hb2
  obtain ⟨o0, o1, o2, o3, o4⟩ := H2.c5 (.tail _ (.head _))
  have K2 := Lib.hid H2
  clear H2
  go_wp2_with fail
  refine (implPutText_any v2 _ (putVarL (putVarL (putVarL l x) y) z) k _ (K2.out.slB 5 (.head _)) (HU0.out.up K2.out.bel) hlen.out.2.2.1 hlen.out.2.2.2).mono ?_
  rintro ev w3 ⟨v3, rfl, ho3, hb3⟩
  have K3 := K2.out.moreB ho3 hb3
  clear K2 ho3 hb3 o0 o1 o2 o3 o4
  obtain ⟨o0, o1, o2, o3, o4⟩ := K3.c5 (.tail _ (.tail _ (.head _)))
  have HK3 := Lib.hid K3
  clear K3
  generalize putTextL (putVarL (putVarL (putVarL l x) y) z) k = h8 at *
  go_wp2_with fail
  refine (putHashes_any _ v3 h8 L w _ _ HK3.out HS0.out hlen2.out).mono ?_
  rintro ev w4 ⟨v4, rfl, K4⟩
  have HK4 := Lib.hid K4
  clear K4 HK3 o0 o1 o2 o3 o4
  go_wp2
  go_ret2
  exact ⟨_, rfl, by rw [HRE.out]; exact HK4.out.ownB 5 (.head _), HK4.out.bel⟩
end Go.Proofs.Ytopbalemfljphaa
