/- TcBits, of the program and of its model. -/
import Derived.Test.YtickneafppbegaaTcOkS
import Derived.Test.YtickneafppbegaaTcOk
import Derived.Test.YtickneafppbegaaOf
import Derived.Test.YtickneafppbegaaAppI
namespace Go.Proofs.Ytickneafppbegaa
open Go.ChangeShapes Go.WideShapes Go.ChangeAt Go.RowKit

def whosE (L : List Et) : List Int := L.map (·.x)
theorem whosE_take (L : List Et) (j : Nat) (t : Et) (h : L[j]? = some t) : whosE (L.take (j + 1)) = whosE (L.take j) ++ [t.x] := by
  unfold whosE
  rw [List.take_add_one, h, List.map_append]
  rfl
theorem whosE_len (L : List Et) : (whosE L).length = L.length := by simp [whosE]
noncomputable def tcBitsL (a b c d e x : Int) (L : List Et) : List UInt8 := if tcB a b c d e x L = true then ofL (whosE L) a else []
noncomputable def tcBitsB (a b c d e x : Int) (L : List Et) : Bool := tcB a b c d e x L && ofB (whosE L) a
theorem tcBitsL_len (a b c d e x : Int) (L : List Et) : (tcBitsL a b c d e x L).length ≤ 2 := by
  unfold tcBitsL
  split
  · exact ofL_len _ _
  · simp
theorem tcB_small {a b c d e x : Int} {L : List Et} (h : tcB a b c d e x L = true) : L.length ≤ 10 := by
  obtain ⟨h1, h2, h3, h4⟩ := tcB_yes h
  have h5 := (limB_yes h1).1
  unfold cntOk at h5
  omega

set_option maxRecDepth 100000 in
set_option maxHeartbeats 8000000 in
theorem implTcBits_any (a b c0 d e x : Int) (s : Value) (L : List Et) (w : World) (hs : SlE w w.heap.size s L) :
    Calls Try.prog 26 #[.agg #[.int .i64 a, .int .i64 b, .int .i64 c0, .int .i64 d, .int .i64 e], .agg #[.int .i64 x, s]] w (Fresh2 w (tcBitsL a b c0 d e x L) (.bool (tcBitsB a b c0 d e x L))) := by
  obtain ⟨j0, hjI, hy0, hy1, hy2⟩ := info_parts i64info
  have HS0 := Lib.hid hs
  obtain ⟨A, c, rfl, h1, h2, h0, h3⟩ := hs
  unfold maxLen at h2
  clear h0
  have hP : tcB a b c0 d e x L = true → L.length ≤ 10 ∧ tcBitsL a b c0 d e x L = ofL (whosE L) a ∧ tcBitsB a b c0 d e x L = ofB (whosE L) a := fun h => ⟨tcB_small h, if_pos h, by unfold tcBitsB; rw [h]; rfl⟩
  have hN : tcB a b c0 d e x L = false → tcBitsL a b c0 d e x L = [] ∧ tcBitsB a b c0 d e x L = false := fun h => ⟨if_neg (by simp [h]), by unfold tcBitsB; rw [h]; rfl⟩
  obtain ⟨R, hR⟩ : ∃ R, R = tcBitsL a b c0 d e x L := ⟨_, rfl⟩
  obtain ⟨S, hS⟩ : ∃ S, S = tcBitsB a b c0 d e x L := ⟨_, rfl⟩
  obtain ⟨x0, g0⟩ : ∃ x0, x0 = tcB a b c0 d e x L := ⟨_, rfl⟩
  rw [← hR, ← hS] at hP hN ⊢
  rw [← g0] at hP hN
  have G0 := Lib.hid g0
  have HP := Lib.hid hP
  have HN := Lib.hid hN
  clear hP hN hR hS g0
  have H0 : InvF w _ [segX 33 (w.heap.size + 1) [.int .i64 x, .slice A L.length c], segX 29 w.heap.size [.int .i64 a, .int .i64 b, .int .i64 c0, .int .i64 d, .int .i64 e]] := ((InvF.start w).newG 29 #[.int .i64 a, .int .i64 b, .int .i64 c0, .int .i64 d, .int .i64 e] w.heap.size).newG 33 #[.int .i64 x, .slice A L.length c] (w.heap.size + 1)
  go_enter Try.func26, Try.ntmps26
  go_wp2_with fail
  refine (implTcOk_any a b c0 d e x _ L _ (HS0.out.up H0.bel)).mono ?_
  rw [← G0.out]
  rintro ev w1 ⟨rfl, hb1⟩
  have H := H0.up hb1
  clear H0 hb1
  rcases x0 with _ | _
  · obtain rfl : S = false := (HN.out (by first | trivial | rfl)).2
    go_wp2
    go_ret2
    exact ⟨_, rfl, by rw [(HN.out (by first | trivial | rfl)).1]; exact World.ownsRow_nil _ _ _ _, H.bel⟩
  obtain ⟨hT8, hRe, hSe⟩ := HP.out (by first | trivial | rfl)
  have HRE := Lib.hid hRe
  have HSE := Lib.hid hSe
  have hst := Lib.hid (fun j t hj => whosE_take L j t hj)
  clear HP HN hRe hSe
  have H5 : Hid (InvF w w1 [segI 3 (.slice none 0 0) (whosE (L.take 0)), segX 33 (w.heap.size + 1) [.int .i64 x, .slice A L.length c], segX 29 w.heap.size [.int .i64 a, .int .i64 b, .int .i64 c0, .int .i64 d, .int .i64 e]]) := Lib.hid (H.more (s := segI 3 (.slice none 0 0) []) ((InvG.start _).moreG (p := (3, .slice none 0 0, [])) (World.ownsRow_nil _ _ _ _) (Below.refl _ _)))
  obtain ⟨o0, o1⟩ := H.c2 (.head _)
  clear H
  go_wp2
  go_loopw [6, 16] (fun bv i wr => ∃ (j : Nat) (ov : Value), ov = bv ∧ j ≤ L.length ∧ i = .int .i64 (j : Int) ∧ Hid (InvF w wr [segI 3 ov (whosE (L.take j)), segX 33 (w.heap.size + 1) [.int .i64 x, .slice A L.length c], segX 29 w.heap.size [.int .i64 a, .int .i64 b, .int .i64 c0, .int .i64 d, .int .i64 e]]))
    (fun _ i _ => L.length - (intOf i).toNat)
  case atStart => exact ⟨0, _, rfl, Nat.zero_le _, rfl, H5⟩
  case round =>
    clear H5 o0 o1
    obtain ⟨j, ov, rfl, hj, rfl, Hj⟩ := hrel
    by_cases hlt : j < L.length
    · obtain ⟨b0, off, rfl, hbb, hcell⟩ := h3 (by omega)
      obtain ⟨t, ht⟩ := getE hlt
      obtain ⟨u, g0, g1, g2, s1⟩ := hcell j t ht
      replace g0 := (Hj.out.bel.cell (p := ⟨b0, off + j * 3, none⟩) hbb).trans g0
      replace g1 := (Hj.out.bel.cell (p := ⟨b0, off + j * 3 + 1, none⟩) hbb).trans g1
      replace g2 := (Hj.out.bel.cell (p := ⟨b0, off + j * 3 + 2, none⟩) hbb).trans g2
      have HST := Lib.hid (hst.out j t ht)
      have HLN : Hid ((whosE (L.take j)).length ≤ 4398046511104) := Lib.hid (by rw [whosE_len, List.length_take]; omega)
      obtain ⟨A1, e1, rfl, _⟩ := s1
      obtain ⟨tx, ty, tk⟩ := t
      dsimp only at *
      clear hcell ht
      have HE : InvF w _ [segX 53 wr.heap.size [.int .i64 tx, .int .i64 ty, .slice A1 tk.length e1], segI 3 ov (whosE (L.take j)), segX 33 (w.heap.size + 1) [.int .i64 x, .slice (some ⟨b0, off, none⟩) L.length c], segX 29 w.heap.size [.int .i64 a, .int .i64 b, .int .i64 c0, .int .i64 d, .int .i64 e]] := Hj.out.newG 53 #[.int .i64 tx, .int .i64 ty, .slice A1 tk.length e1] wr.heap.size
      obtain ⟨m0, m1, m2⟩ := HE.c3 (.head _)
      have HW2 := Lib.hid (HE.front 1 rfl)
      have HSZ : Hid ((wr.alloc (.cells #[.int .i64 tx, .int .i64 ty, .slice A1 tk.length e1] 53)).heap.size = wr.heap.size + 1) := Lib.hid (by simp)
      clear HE
      go_wp2_with (first | (at_builtin; refine wpList_appIF (W := w) rfl _ _ 65 rfl 3 j0 Try.underlying65 hjI hy0 hy1 hy2 ov (whosE (L.take j)) (by rfl) tx (by rw [HSZ.out]; rfl) HW2.out HLN.out ?_; intro v6 w6 HX; have HX6 := Lib.hid HX; clear HX))
      have HF : Hid (InvF w w6 [segI 3 v6 (whosE (L.take (j + 1))), segX 33 (w.heap.size + 1) [.int .i64 x, .slice (some ⟨b0, off, none⟩) L.length c], segX 29 w.heap.size [.int .i64 a, .int .i64 b, .int .i64 c0, .int .i64 d, .int .i64 e]]) := Lib.hid (by rw [HST.out]; exact HX6.out.sub (.cons_cons _ (.cons _ (.cons_cons _ (.cons_cons _ .slnil)))))
      clear HX6 HW2 m0 m1 m2
      go_wp2
      go_roundw
      case rel => exact ⟨j + 1, v6, rfl, by omega, by go_num, HF⟩
      case measure => simp [intOf]; omega
    · obtain rfl : j = L.length := by omega
      have hfull : L.take L.length = L := List.take_length
      rw [hfull] at Hj
      clear hfull
      obtain ⟨t0, t1, t2, t3, t4⟩ := Hj.out.c5 (.tail _ (.tail _ (.head _)))
      go_wp2_with fail
      refine (implBitsOf_any ov (whosE L) a _ (Hj.out.slI 3 (.head _)) (by rw [whosE_len]; omega)).mono ?_
      rw [← HRE.out, ← HSE.out]
      rintro ev w7 ⟨v7, rfl, ho7, hb7⟩
      have H7 := Lib.hid (Hj.out.moreB ho7 hb7)
      clear ho7 hb7 t0 t1 t2 t3 t4
      go_wp2
      go_ret2
      exact ⟨_, rfl, H7.out.ownB 5 (.head _), H7.out.bel⟩

set_option maxRecDepth 100000 in
set_option maxHeartbeats 8000000 in
theorem specTcBits_any (a b c0 d e x : Int) (s : Value) (L : List Et) (w : World) (hs : SlE w w.heap.size s L) :
    Calls Try.prog 25 #[.agg #[.int .i64 a, .int .i64 b, .int .i64 c0, .int .i64 d, .int .i64 e], .agg #[.int .i64 x, s]] w (Fresh2 w (tcBitsL a b c0 d e x L) (.bool (tcBitsB a b c0 d e x L))) := by
  obtain ⟨j0, hjI, hy0, hy1, hy2⟩ := info_parts i64info
  have HS0 := Lib.hid hs
  obtain ⟨A, c, rfl, h1, h2, h0, h3⟩ := hs
  unfold maxLen at h2
  clear h0
  have hP : tcB a b c0 d e x L = true → L.length ≤ 10 ∧ tcBitsL a b c0 d e x L = ofL (whosE L) a ∧ tcBitsB a b c0 d e x L = ofB (whosE L) a := fun h => ⟨tcB_small h, if_pos h, by unfold tcBitsB; rw [h]; rfl⟩
  have hN : tcB a b c0 d e x L = false → tcBitsL a b c0 d e x L = [] ∧ tcBitsB a b c0 d e x L = false := fun h => ⟨if_neg (by simp [h]), by unfold tcBitsB; rw [h]; rfl⟩
  obtain ⟨R, hR⟩ : ∃ R, R = tcBitsL a b c0 d e x L := ⟨_, rfl⟩
  obtain ⟨S, hS⟩ : ∃ S, S = tcBitsB a b c0 d e x L := ⟨_, rfl⟩
  obtain ⟨x0, g0⟩ : ∃ x0, x0 = tcB a b c0 d e x L := ⟨_, rfl⟩
  rw [← hR, ← hS] at hP hN ⊢
  rw [← g0] at hP hN
  have G0 := Lib.hid g0
  have HP := Lib.hid hP
  have HN := Lib.hid hN
  clear hP hN hR hS g0
  have H0 : InvF w _ [segX 33 (w.heap.size + 1) [.int .i64 x, .slice A L.length c], segX 29 w.heap.size [.int .i64 a, .int .i64 b, .int .i64 c0, .int .i64 d, .int .i64 e]] := ((InvF.start w).newG 29 #[.int .i64 a, .int .i64 b, .int .i64 c0, .int .i64 d, .int .i64 e] w.heap.size).newG 33 #[.int .i64 x, .slice A L.length c] (w.heap.size + 1)
  go_enter Try.func25, Try.ntmps25
  go_wp2_with fail
  refine (specTcOk_any a b c0 d e x _ L _ (HS0.out.up H0.bel)).mono ?_
  rw [← G0.out]
  rintro ev w1 ⟨rfl, hb1⟩
  have H := H0.up hb1
  clear H0 hb1
  rcases x0 with _ | _
  · obtain rfl : S = false := (HN.out (by first | trivial | rfl)).2
    go_wp2
    go_ret2
    exact ⟨_, rfl, by rw [(HN.out (by first | trivial | rfl)).1]; exact World.ownsRow_nil _ _ _ _, H.bel⟩
  obtain ⟨hT8, hRe, hSe⟩ := HP.out (by first | trivial | rfl)
  have HRE := Lib.hid hRe
  have HSE := Lib.hid hSe
  have hst := Lib.hid (fun j t hj => whosE_take L j t hj)
  clear HP HN hRe hSe
  have H5 : Hid (InvF w (w1.alloc (.cells #[] 3)) [segI 3 (.slice (some ⟨w1.heap.size, 0, none⟩) 0 0) (whosE (L.take 0)), segX 33 (w.heap.size + 1) [.int .i64 x, .slice A L.length c], segX 29 w.heap.size [.int .i64 a, .int .i64 b, .int .i64 c0, .int .i64 d, .int .i64 e]]) := Lib.hid (H.more (s := segI 3 (.slice (some ⟨w1.heap.size, 0, none⟩) 0 0) []) ((InvG.start _).moreG (p := (3, .slice (some ⟨w1.heap.size, 0, none⟩) 0 0, [])) (World.ownsRow_lit (base := w1.heap.size) (e := 3) (size := 1) w1 #[] 0 (Nat.le_refl _) (by simp [maxLen]) rfl) ((Below.refl _ _).alloc (Nat.le_refl _) _)))
  obtain ⟨o0, o1⟩ := H5.out.c2 (.tail _ (.head _))
  clear H
  go_wp2
  go_loopw [6, 17] (fun bv i wr => ∃ (j : Nat) (ov : Value), ov = bv ∧ j ≤ L.length ∧ i = .int .i64 (j : Int) ∧ Hid (InvF w wr [segI 3 ov (whosE (L.take j)), segX 33 (w.heap.size + 1) [.int .i64 x, .slice A L.length c], segX 29 w.heap.size [.int .i64 a, .int .i64 b, .int .i64 c0, .int .i64 d, .int .i64 e]]))
    (fun _ i _ => L.length - (intOf i).toNat)
  case atStart => exact ⟨0, _, rfl, Nat.zero_le _, rfl, H5⟩
  case round =>
    clear H5 o0 o1
    obtain ⟨j, ov, rfl, hj, rfl, Hj⟩ := hrel
    by_cases hlt : j < L.length
    · obtain ⟨b0, off, rfl, hbb, hcell⟩ := h3 (by omega)
      obtain ⟨t, ht⟩ := getE hlt
      obtain ⟨u, g0, g1, g2, s1⟩ := hcell j t ht
      replace g0 := (Hj.out.bel.cell (p := ⟨b0, off + j * 3, none⟩) hbb).trans g0
      replace g1 := (Hj.out.bel.cell (p := ⟨b0, off + j * 3 + 1, none⟩) hbb).trans g1
      replace g2 := (Hj.out.bel.cell (p := ⟨b0, off + j * 3 + 2, none⟩) hbb).trans g2
      have HST := Lib.hid (hst.out j t ht)
      have HLN : Hid ((whosE (L.take j)).length ≤ 4398046511104) := Lib.hid (by rw [whosE_len, List.length_take]; omega)
      obtain ⟨A1, e1, rfl, _⟩ := s1
      obtain ⟨tx, ty, tk⟩ := t
      dsimp only at *
      clear hcell ht
      have HE : InvF w _ [segX 53 wr.heap.size [.int .i64 tx, .int .i64 ty, .slice A1 tk.length e1], segI 3 ov (whosE (L.take j)), segX 33 (w.heap.size + 1) [.int .i64 x, .slice (some ⟨b0, off, none⟩) L.length c], segX 29 w.heap.size [.int .i64 a, .int .i64 b, .int .i64 c0, .int .i64 d, .int .i64 e]] := Hj.out.newG 53 #[.int .i64 tx, .int .i64 ty, .slice A1 tk.length e1] wr.heap.size
      obtain ⟨m0, m1, m2⟩ := HE.c3 (.head _)
      have HW2 := Lib.hid (HE.front 1 rfl)
      have HSZ : Hid ((wr.alloc (.cells #[.int .i64 tx, .int .i64 ty, .slice A1 tk.length e1] 53)).heap.size = wr.heap.size + 1) := Lib.hid (by simp)
      clear HE
      go_wp2_with (first | (at_builtin; refine wpList_appIF (W := w) rfl _ _ 65 rfl 3 j0 Try.underlying65 hjI hy0 hy1 hy2 ov (whosE (L.take j)) (by rfl) tx (by rw [HSZ.out]; rfl) HW2.out HLN.out ?_; intro v6 w6 HX; have HX6 := Lib.hid HX; clear HX))
      have HF : Hid (InvF w w6 [segI 3 v6 (whosE (L.take (j + 1))), segX 33 (w.heap.size + 1) [.int .i64 x, .slice (some ⟨b0, off, none⟩) L.length c], segX 29 w.heap.size [.int .i64 a, .int .i64 b, .int .i64 c0, .int .i64 d, .int .i64 e]]) := Lib.hid (by rw [HST.out]; exact HX6.out.sub (.cons_cons _ (.cons _ (.cons_cons _ (.cons_cons _ .slnil)))))
      clear HX6 HW2 m0 m1 m2
      go_wp2
      go_roundw
      case rel => exact ⟨j + 1, v6, rfl, by omega, by go_num, HF⟩
      case measure => simp [intOf]; omega
    · obtain rfl : j = L.length := by omega
      have hfull : L.take L.length = L := List.take_length
      rw [hfull] at Hj
      clear hfull
      obtain ⟨t0, t1, t2, t3, t4⟩ := Hj.out.c5 (.tail _ (.tail _ (.head _)))
      go_wp2_with fail
      refine (specBitsOf_any ov (whosE L) a _ (Hj.out.slI 3 (.head _)) (by rw [whosE_len]; omega)).mono ?_
      rw [← HRE.out, ← HSE.out]
      rintro ev w7 ⟨v7, rfl, ho7, hb7⟩
      have H7 := Lib.hid (Hj.out.moreB ho7 hb7)
      clear ho7 hb7 t0 t1 t2 t3 t4
      go_wp2
      go_ret2
      exact ⟨_, rfl, H7.out.ownB 5 (.head _), H7.out.bel⟩

end Go.Proofs.Ytickneafppbegaa
