import Derived.Test.YtdoaikanaodefaaGreatDoorBkM
import Derived.Test.YtdoaikanaodefaaGreatDoorTextRd
import Derived.Test.YtdoaikanaodefaaGreatDoorGetHeadI
import Derived.WalkSmall
import Derived.Deep.RegionHeld3
import Derived.Deep.RegionLaw
import Derived.Test.YtdoaikanaodefaaGreatDoorBlockOk
/- The parts of the program's block decoder: stopAtError, header, count, tx; where there is an error they panic with it. -/
namespace Go.Proofs.YtdoaikanaodefaaGreatDoor
open Go.ChangeShapes Go.WideShapes Go.ChangeAt Go.RowKit

/-- The panic with the error e; the rows ss stand. -/
def Pan (W : World) (ss : List (List Row)) (e : Int) (ev : Ending) (w' : World) : Prop := ev = .panicked [{ v := errV e, recovered := false }] ∧ InvF W w' ss
theorem errV_oneCell (e : Int) : (errV e).oneCell' = true := errV_cell e

set_option maxRecDepth 100000 in
set_option maxHeartbeats 2000000 in
theorem stop_ok (I : Int × Int × Int × Int) (T : TypeId) (W w : World) (g : Nat) (v : Value) (n p : Int) (ss : List (List Row)) (H : Dec I T W w g v n p 0 ss) :
    Calls Tryz.prog 80 #[.pointer (some ⟨g, 0, none⟩)] w (fun ev w' => ev = .returned (.tuple #[]) ∧ Dec I T W w' g v n p 0 ss) := by
  obtain ⟨i0, i1, i2, i3, i4, b, q, K0, hq⟩ := H
  have HK := Lib.hid (And.intro K0 hq)
  rw [errV_zero] at K0
  have q7 := K0.atX (.head _) 7 rfl
  clear K0 hq
  go_enter Tryz.func80, Tryz.ntmps80
  go_wp2
  go_end0
  exact ⟨rfl, _, _, _, _, _, _, _, HK.out.1, fun h => HK.out.2 (by first | exact h | trivial)⟩
set_option maxRecDepth 100000 in
set_option maxHeartbeats 2000000 in
theorem stop_err (I : Int × Int × Int × Int) (T : TypeId) (W w : World) (g : Nat) (v : Value) (n p e : Int) (ss : List (List Row)) (H : Dec I T W w g v n p e ss) (he : e ≠ 0) :
    Calls Tryz.prog 80 #[.pointer (some ⟨g, 0, none⟩)] w (Pan W ss e) := by
  unfold Pan
  obtain ⟨i0, i1, i2, i3, i4, b, q, K0, hq⟩ := H
  have HK := Lib.hid (K0.sub (.cons _ (List.Sublist.refl _)))
  rw [errV_no he] at K0 ⊢
  have q7 := K0.atX (.head _) 7 rfl
  clear K0 hq he
  go_enter Tryz.func80, Tryz.ntmps80
  go_wp2
  exact ⟨rfl, rfl, HK.out⟩

/-- require, its decoder cell by cell. -/
theorem requireO_any (T : TypeId) (W w : World) (g : Nat) (i0 i1 i2 i3 i4 q e c : Int) (B : Value) (ok : Bool) (hc : c ≠ 0) (ss : List (List Row)) (K0 : InvF W w (segX T g [.int .i64 i0, .int .i64 i1, .int .i64 i2, .int .i64 i3, .int .i64 i4, B, .int .i64 q, errV e] :: ss)) :
    Calls Tryz.prog 79 #[.pointer (some ⟨g, 0, none⟩), .bool ok, .int .i64 c] w (fun ev w' => ev = .returned (.tuple #[]) ∧ InvF W w' (segX T g [.int .i64 i0, .int .i64 i1, .int .i64 i2, .int .i64 i3, .int .i64 i4, B, .int .i64 q, errV (fE e ok c)] :: ss)) := by
  have HK := Lib.hid K0
  have HN := Lib.hid (errV_no hc)
  by_cases he : e = 0
  · subst he
    rw [fE_yes]
    have r7 := K0.frX (.head _) 7
    rw [errV_zero] at K0
    have q7 := K0.atX (.head _) 7 rfl
    clear K0 hc
    rcases ok with _ | _
    · go_enter Tryz.func79, Tryz.ntmps79
      go_wp2
      go_end0
      exact ⟨rfl, by rw [HN.out]; exact HK.out.setX 7 (.iface 76 (.agg #[.int .i64 c]))⟩
    · go_enter Tryz.func79, Tryz.ntmps79
      go_wp2
      go_end0
      exact ⟨rfl, HK.out⟩
  · rw [fE_no he]
    rw [errV_no he] at K0
    have q7 := K0.atX (.head _) 7 rfl
    clear K0 he hc
    go_enter Tryz.func79, Tryz.ntmps79
    go_wp2
    go_end0
    exact ⟨rfl, HK.out⟩

set_option maxRecDepth 100000 in
set_option maxHeartbeats 2000000 in
/-- text, its decoder cell by cell, where there is no error. -/
theorem textO_any (T : TypeId) (W w : World) (g : Nat) (i0 i1 i2 i3 i4 q m : Int) (v : Value) (l : List UInt8) (ss : List (List Row)) (K0 : InvF W w (segX T g [.int .i64 i0, .int .i64 i1, .int .i64 i2, .int .i64 i3, .int .i64 i4, v, .int .i64 q, errV 0] :: ss)) (hv : Sp W W.heap.size v l) (hl : l.length ≤ 4294967296) :
    Calls Tryz.prog 118 #[.pointer (some ⟨g, 0, none⟩), .int .i64 m] w (fun ev w' => ∃ u, ev = .returned u ∧ InvF W w' (segX T g [.int .i64 i0, .int .i64 i1, .int .i64 i2, .int .i64 i3, .int .i64 i4, v, .int .i64 (txN l q m), errV (txE l q m)] :: segB 5 u (txL l q m) :: ss)) := by
  obtain ⟨A, M, rfl, k1⟩ := hv.sl
  clear k1
  have hc := fun W h => readText_any (.slice A l.length M) l q m W h hl
  unfold Fresh3 at hc
  obtain ⟨x, hx⟩ : ∃ r, r = txL l q m := ⟨_, rfl⟩
  obtain ⟨y, hy⟩ : ∃ r, r = txN l q m := ⟨_, rfl⟩
  obtain ⟨z, hz⟩ : ∃ r, r = txE l q m := ⟨_, rfl⟩
  rw [← hx, ← hy, ← hz]
  rw [← hx, ← hy, ← hz] at hc
  have HC := Lib.hid hc
  clear hx hy hz hc
  have HV := Lib.hid hv
  rw [errV_zero] at K0
  have q5 := K0.atX (.head _) 5 rfl
  have q6 := K0.atX (.head _) 6 rfl
  have q7 := K0.atX (.head _) 7 rfl
  have HE := Lib.hid K0.drew1
  clear K0 hv
  by_cases hz : z = 0
  · subst hz
    simp only [errV_zero] at HC
    go_enter Tryz.func118, Tryz.ntmps118
    go_wp2_with fail
    go_region_held3 (fun w' => w'.cell? ⟨g, 5, none⟩ = some (.slice A l.length M) ∧ w'.cell? ⟨g, 6, none⟩ = some (.int .i64 q))
      (first
        | go_keep
        | exact ⟨HE1.out.atX (.head _) 5 rfl, HE1.out.atX (.head _) 6 rfl⟩)
      (first
        | (go_at_call 142; refine (HC.out _ (HV.out.up HE.out.bel)).mono ?_; rintro ev w1 ⟨u, rfl, ho1, hb1⟩; have HE1 := Lib.hid ((HE.out.moreB ho1 hb1).front 1 rfl); clear ho1 hb1))
    have t6 := HE1.out.atX (.head _) 6 rfl
    have t7 := HE1.out.atX (.head _) 7 rfl
    have r6 := HE1.out.frX (.head _) 6
    have r7 := HE1.out.frX (.head _) 7
    clear q5 q6 q7 HE
    go_wp2
    go_ret
    exact ⟨_, rfl, (HE1.out.setX 6 (.int .i64 y)).setX 7 .nilIface⟩
  · simp only [errV_no hz] at HC
    have HN := Lib.hid (errV_no hz)
    clear hz
    go_enter Tryz.func118, Tryz.ntmps118
    go_wp2_with fail
    go_region_held3 (fun w' => w'.cell? ⟨g, 5, none⟩ = some (.slice A l.length M) ∧ w'.cell? ⟨g, 6, none⟩ = some (.int .i64 q))
      (first
        | go_keep
        | exact ⟨HE1.out.atX (.head _) 5 rfl, HE1.out.atX (.head _) 6 rfl⟩)
      (first
        | (go_at_call 142; refine (HC.out _ (HV.out.up HE.out.bel)).mono ?_; rintro ev w1 ⟨u, rfl, ho1, hb1⟩; have HE1 := Lib.hid ((HE.out.moreB ho1 hb1).front 1 rfl); clear ho1 hb1))
    have t6 := HE1.out.atX (.head _) 6 rfl
    have t7 := HE1.out.atX (.head _) 7 rfl
    have r6 := HE1.out.frX (.head _) 6
    have r7 := HE1.out.frX (.head _) 7
    clear q5 q6 q7 HE
    go_wp2
    go_ret
    exact ⟨_, rfl, by rw [HN.out]; exact (HE1.out.setX 6 (.int .i64 y)).setX 7 (.iface 76 (.agg #[.int .i64 z]))⟩

set_option maxRecDepth 100000 in
set_option maxHeartbeats 8000000 in
theorem header_ok (I : Int × Int × Int × Int) (T : TypeId) (W w : World) (g : Nat) (v : Value) (l : List UInt8) (n p e0 : Int) (ss : List (List Row)) (H : Dec I T W w g v n p e0 ss) (hv : Sp W W.heap.size v l) (hl : l.length ≤ 1073741824) (hp : p ≤ 9223372036854775807) (he : (hdAt l n p e0).e = 0) :
    Calls Tryz.prog 76 #[.pointer (some ⟨g, 0, none⟩)] w (DecHdI I T W g v n (hdAt l n p e0) ss) := by
  have HV := Lib.hid hv
  have HL := Lib.hid hl
  have HP := Lib.hid hp
  obtain ⟨r, hr⟩ : ∃ r, r = hdAt l n p e0 := ⟨_, rfl⟩
  rw [← hr] at he ⊢
  have HR := Lib.hid hr
  clear hr hv hp hl
  obtain ⟨x, y, z, m, k, ⟨qx, qy, qm, qk, qL, qp, qe⟩, ee⟩ := r
  obtain rfl : ee = 0 := he
  have Ha : Dec I T W (w.alloc (.cells #[.int .i64 0, .int .i64 0, .int .i64 0, .slice none 0 0, .slice none 0 0, .int .i64 0, .int .i64 0, .slice none 0 0, .slice none 0 0, .slice none 0 0] 40)) g v n p e0 (segX 40 w.heap.size [.int .i64 0, .int .i64 0, .int .i64 0, .slice none 0 0, .slice none 0 0, .int .i64 0, .int .i64 0, .slice none 0 0, .slice none 0 0, .slice none 0 0] :: ss) := H.beside (fun d K => (K.newG 40 #[.int .i64 0, .int .i64 0, .int .i64 0, .slice none 0 0, .slice none 0 0, .int .i64 0, .int .i64 0, .slice none 0 0, .slice none 0 0, .slice none 0 0] w.heap.size rfl).front 1 rfl)
  clear H
  go_enter Tryz.func76, Tryz.ntmps76
  go_wp2_with fail
  refine (head_any I T W _ g v l n p e0 _ Ha HV.out HL.out HP.out).mono ?_
  rw [← HR.out]
  rintro ev w2 ⟨u1, u2, u3, u4, u5, row, vs, rfl, hvs, hrd, D⟩
  dsimp only at hvs hrd D ⊢
  obtain ⟨B1, d1, rfl⟩ := D.rest.openB' (.tail _ (.tail _ (.tail _ (.tail _ (.head _)))))
  obtain ⟨B2, d2, rfl⟩ := D.rest.openB' (.tail _ (.tail _ (.tail _ (.head _))))
  obtain ⟨B3, d3, rfl⟩ := D.rest.openB' (.tail _ (.tail _ (.head _)))
  obtain ⟨B4, d4, rfl⟩ := D.rest.openB' (.tail _ (.head _))
  obtain ⟨B5, d5, rfl⟩ := D.rest.openT hvs hrd
  have HVS := Lib.hid hvs
  have HRD := Lib.hid hrd
  clear hvs hrd Ha
  have D2 : Dec I T W (w2.alloc (.cells #[.int .i64 x, .int .i64 y, .int .i64 z, .slice B1 m.length d1, .slice B2 k.length d2, .int .i64 qx, .int .i64 qy, .slice B3 qm.length d3, .slice B4 qk.length d4, .slice B5 qL.length d5] 40)) g v n qp 0 (segX 40 w2.heap.size [.int .i64 x, .int .i64 y, .int .i64 z, (.slice B1 m.length d1), (.slice B2 k.length d2), .int .i64 qx, .int .i64 qy, (.slice B3 qm.length d3), (.slice B4 qk.length d4), (.slice B5 qL.length d5)] :: (row :: rowsS 5 vs qL) :: segB 5 (.slice B4 qk.length d4) qk :: segB 5 (.slice B3 qm.length d3) qm :: segB 5 (.slice B2 k.length d2) k :: segB 5 (.slice B1 m.length d1) m :: segX 40 w.heap.size [.int .i64 0, .int .i64 0, .int .i64 0, .slice none 0 0, .slice none 0 0, .int .i64 0, .int .i64 0, .slice none 0 0, .slice none 0 0, .slice none 0 0] :: ss) := D.beside (fun d K => by have h := (K.newG 40 #[.int .i64 x, .int .i64 y, .int .i64 z, .slice B1 m.length d1, .slice B2 k.length d2, .int .i64 qx, .int .i64 qy, .slice B3 qm.length d3, .slice B4 qk.length d4, .slice B5 qL.length d5] w2.heap.size rfl).front 1 rfl; exact h)
  have DH := Lib.hid D2
  clear D D2
  go_wp2_with fail
  refine (stop_ok I T W _ g v n qp _ DH.out).mono ?_
  rintro ev w3 ⟨rfl, D3⟩
  clear DH
  obtain ⟨j0, j1, j2, j3, j4, bb, qq, K0, hqq⟩ := D3
  have HQQ := Lib.hid hqq
  clear hqq
  replace K0 : InvF W w3 (segX T g [.int .i64 j0, .int .i64 j1, .int .i64 j2, .int .i64 j3, .int .i64 j4, bb, .int .i64 qq, errV 0] :: segX 40 w2.heap.size [.int .i64 x, .int .i64 y, .int .i64 z, (.slice B1 m.length d1), (.slice B2 k.length d2), .int .i64 qx, .int .i64 qy, (.slice B3 qm.length d3), (.slice B4 qk.length d4), (.slice B5 qL.length d5)] :: (row :: rowsS 5 vs qL) :: segB 5 (.slice B4 qk.length d4) qk :: segB 5 (.slice B3 qm.length d3) qm :: segB 5 (.slice B2 k.length d2) k :: segB 5 (.slice B1 m.length d1) m :: segX 40 w.heap.size [.int .i64 0, .int .i64 0, .int .i64 0, .slice none 0 0, .slice none 0 0, .int .i64 0, .int .i64 0, .slice none 0 0, .slice none 0 0, .slice none 0 0] :: ss) := K0
  obtain ⟨o0, o1, o2, o3, o4, o5, o6, o7, o8, o9⟩ := K0.k10 (.tail _ (.head _))
  obtain ⟨r0, r1, r2, r3, r4, r5, r6, r7, r8, r9⟩ := K0.k10 (.tail _ (.tail _ (.tail _ (.tail _ (.tail _ (.tail _ (.tail _ (.head _))))))))
  obtain ⟨s0, s1, s2, s3, s4, s5, s6, s7, s8, s9⟩ := K0.f10 (.tail _ (.tail _ (.tail _ (.tail _ (.tail _ (.tail _ (.tail _ (.head _))))))))
  have h6 := K0.ltX (.tail _ (.head _))
  have h7 := K0.ltX (.tail _ (.tail _ (.tail _ (.tail _ (.tail _ (.tail _ (.tail _ (.head _))))))))
  have K1 := (K0.front 7 rfl).over10 (.int .i64 x) (.int .i64 y) (.int .i64 z) (.slice B1 m.length d1) (.slice B2 k.length d2) (.int .i64 qx) (.int .i64 qy) (.slice B3 qm.length d3) (.slice B4 qk.length d4) (.slice B5 qL.length d5)
  have hR := K1.rangeX (.head _)
  have KF := Lib.hid (K1.sub (qs := segX T g [.int .i64 j0, .int .i64 j1, .int .i64 j2, .int .i64 j3, .int .i64 j4, bb, .int .i64 qq, errV 0] :: (row :: rowsS 5 vs qL) :: segB 5 (.slice B4 qk.length d4) qk :: segB 5 (.slice B3 qm.length d3) qm :: segB 5 (.slice B2 k.length d2) k :: segB 5 (.slice B1 m.length d1) m :: ss) (.cons _ (.cons_cons _ (.cons _ (List.Sublist.refl _)))))
  clear K0 K1
  go_simp
  repeat go_step
  refine bodyPost_ret (results_cell_mid Tryz.results76 _ _ w.heap.size 0 [.int .i64 x, .int .i64 y, .int .i64 z, .slice B1 m.length d1, .slice B2 k.length d2, .int .i64 qx, .int .i64 qy, .slice B3 qm.length d3, .slice B4 qk.length d4, .slice B5 qL.length d5] _ rfl hR Tryz.underlying40 rfl (by kernel_rfl)) rfl ⟨_, _, _, _, _, row, vs, rfl, HVS.out, HRD.out, _, _, _, _, _, _, _, KF.out, HQQ.out⟩

set_option maxRecDepth 100000 in
set_option maxHeartbeats 8000000 in
theorem header_err (I : Int × Int × Int × Int) (T : TypeId) (W w : World) (g : Nat) (v : Value) (l : List UInt8) (n p e0 : Int) (ss : List (List Row)) (H : Dec I T W w g v n p e0 ss) (hv : Sp W W.heap.size v l) (hl : l.length ≤ 1073741824) (hp : p ≤ 9223372036854775807) (he : (hdAt l n p e0).e ≠ 0) :
    Calls Tryz.prog 76 #[.pointer (some ⟨g, 0, none⟩)] w (Pan W ss (hdAt l n p e0).e) := by
  have HV := Lib.hid hv
  have HL := Lib.hid hl
  have HP := Lib.hid hp
  obtain ⟨r, hr⟩ : ∃ r, r = hdAt l n p e0 := ⟨_, rfl⟩
  rw [← hr] at he ⊢
  have HR := Lib.hid hr
  clear hr hv hp hl
  obtain ⟨x, y, z, m, k, ⟨qx, qy, qm, qk, qL, qp, qe⟩, ee⟩ := r
  have he' : ee ≠ 0 := he
  show Calls _ _ _ _ (Pan W ss ee)
  have HEE := Lib.hid he'
  clear he he'
  have Ha : Dec I T W (w.alloc (.cells #[.int .i64 0, .int .i64 0, .int .i64 0, .slice none 0 0, .slice none 0 0, .int .i64 0, .int .i64 0, .slice none 0 0, .slice none 0 0, .slice none 0 0] 40)) g v n p e0 (segX 40 w.heap.size [.int .i64 0, .int .i64 0, .int .i64 0, .slice none 0 0, .slice none 0 0, .int .i64 0, .int .i64 0, .slice none 0 0, .slice none 0 0, .slice none 0 0] :: ss) := H.beside (fun d K => (K.newG 40 #[.int .i64 0, .int .i64 0, .int .i64 0, .slice none 0 0, .slice none 0 0, .int .i64 0, .int .i64 0, .slice none 0 0, .slice none 0 0, .slice none 0 0] w.heap.size rfl).front 1 rfl)
  clear H
  go_enter Tryz.func76, Tryz.ntmps76
  go_wp2_with fail
  refine (head_any I T W _ g v l n p e0 _ Ha HV.out HL.out HP.out).mono ?_
  rw [← HR.out]
  rintro ev w2 ⟨u1, u2, u3, u4, u5, row, vs, rfl, hvs, hrd, D⟩
  dsimp only at hvs hrd D ⊢
  obtain ⟨B1, d1, rfl⟩ := D.rest.openB' (.tail _ (.tail _ (.tail _ (.tail _ (.head _)))))
  obtain ⟨B2, d2, rfl⟩ := D.rest.openB' (.tail _ (.tail _ (.tail _ (.head _))))
  obtain ⟨B3, d3, rfl⟩ := D.rest.openB' (.tail _ (.tail _ (.head _)))
  obtain ⟨B4, d4, rfl⟩ := D.rest.openB' (.tail _ (.head _))
  obtain ⟨B5, d5, rfl⟩ := D.rest.openT hvs hrd
  have HVS := Lib.hid hvs
  have HRD := Lib.hid hrd
  clear hvs hrd Ha
  have D2 : Dec I T W (w2.alloc (.cells #[.int .i64 x, .int .i64 y, .int .i64 z, .slice B1 m.length d1, .slice B2 k.length d2, .int .i64 qx, .int .i64 qy, .slice B3 qm.length d3, .slice B4 qk.length d4, .slice B5 qL.length d5] 40)) g v n qp ee (segX 40 w2.heap.size [.int .i64 x, .int .i64 y, .int .i64 z, (.slice B1 m.length d1), (.slice B2 k.length d2), .int .i64 qx, .int .i64 qy, (.slice B3 qm.length d3), (.slice B4 qk.length d4), (.slice B5 qL.length d5)] :: (row :: rowsS 5 vs qL) :: segB 5 (.slice B4 qk.length d4) qk :: segB 5 (.slice B3 qm.length d3) qm :: segB 5 (.slice B2 k.length d2) k :: segB 5 (.slice B1 m.length d1) m :: segX 40 w.heap.size [.int .i64 0, .int .i64 0, .int .i64 0, .slice none 0 0, .slice none 0 0, .int .i64 0, .int .i64 0, .slice none 0 0, .slice none 0 0, .slice none 0 0] :: ss) := D.beside (fun d K => by have h := (K.newG 40 #[.int .i64 x, .int .i64 y, .int .i64 z, .slice B1 m.length d1, .slice B2 k.length d2, .int .i64 qx, .int .i64 qy, .slice B3 qm.length d3, .slice B4 qk.length d4, .slice B5 qL.length d5] w2.heap.size rfl).front 1 rfl; exact h)
  have DH := Lib.hid D2
  clear D D2
  go_wp2_with fail
  refine (stop_err I T W _ g v n qp ee _ DH.out HEE.out).mono ?_
  rintro ev w3 ⟨rfl, hb⟩
  exact ⟨rfl, rfl, hb.sub (.cons _ (.cons _ (.cons _ (.cons _ (.cons _ (.cons _ (.cons _ (List.Sublist.refl _))))))))⟩

set_option maxRecDepth 100000 in
set_option maxHeartbeats 8000000 in
theorem count_ok (I : Int × Int × Int × Int) (T : TypeId) (W w : World) (g : Nat) (v : Value) (l : List UInt8) (n p : Int) (ss : List (List Row)) (H : Dec I T W w g v n p 0 ss) (hv : Sp W W.heap.size v l) (hl : l.length ≤ 1073741824) (he : (fE (nE l p 0) (decide (nV l p 0 ≤ I.2.1)) 3) = 0) :
    Calls Tryz.prog 77 #[.pointer (some ⟨g, 0, none⟩)] w (fun ev w' => ev = .returned (.int .i64 (nV l p 0)) ∧ Dec I T W w' g v n (nP l p 0) 0 ss) := by
  have HC := Lib.hid (number_any I T W w g v l n p 0 ss H hv (by omega))
  obtain ⟨N, hN⟩ : ∃ x, x = nV l p 0 := ⟨_, rfl⟩
  obtain ⟨p1, hp1⟩ : ∃ x, x = nP l p 0 := ⟨_, rfl⟩
  obtain ⟨e1, he1⟩ : ∃ x, x = nE l p 0 := ⟨_, rfl⟩
  rw [← hN, ← hp1, ← he1] at HC
  rw [← hN, ← he1] at he
  rw [← hN, ← hp1]
  have HE := Lib.hid he
  clear hN hp1 he1 he H hv
  go_enter Tryz.func77, Tryz.ntmps77
  go_wp2_with fail
  refine HC.out.mono ?_
  rintro ev w1 ⟨rfl, D⟩
  obtain ⟨i0, i1, i2, i3, i4, bb, qq, K0, hqq⟩ := D
  have hE2 : fE e1 (decide (N ≤ i2)) 3 = fE e1 (decide (N ≤ I.2.1)) 3 := by
    rcases Decidable.em (e1 = 0) with h | h
    · rw [(hqq h).2.2.2]
    · rw [fE_no h, fE_no h]
  have HE2 := Lib.hid hE2
  have HQQ := Lib.hid hqq
  clear hE2 hqq HC
  have q2 := K0.atX (.head _) 2 rfl
  have HD := Lib.hid K0.drew1
  clear K0
  go_wp2_with fail
  go_region_held3 (fun w' => w'.cell? ⟨g, 2, none⟩ = some (.int .i64 i2))
    (first
      | go_keep
      | exact HE1.out.atX (.head _) 2 rfl)
    (first
      | (go_at_call 79; refine (requireO_any T W _ g i0 i1 i2 i3 i4 qq e1 3 bb (decide (N ≤ i2)) (by decide) ss HD.out).mono ?_; rintro ev w2 ⟨rfl, K1⟩; have HE1 := Lib.hid K1; clear K1))
  have hz : e1 = 0 := by
    rcases Decidable.em (e1 = 0) with h | h
    · exact h
    · have := HE.out
      rw [fE_no h] at this
      exact this
  have D2 : Dec I T W w2 g v n p1 0 ss := ⟨i0, i1, i2, i3, i4, bb, qq, by have h := HE1.out; rw [HE2.out, HE.out] at h; exact h, fun _ => HQQ.out hz⟩
  have DH := Lib.hid D2
  clear D2 hz HE1 HD q2
  go_wp2_with fail
  refine (stop_ok I T W _ g v n p1 ss DH.out).mono ?_
  rintro ev w3 ⟨rfl, D3⟩
  have DH3 := Lib.hid D3
  clear D3 DH
  go_wp2
  go_ret
  exact ⟨rfl, DH3.out⟩

set_option maxRecDepth 100000 in
set_option maxHeartbeats 8000000 in
theorem count_err (I : Int × Int × Int × Int) (T : TypeId) (W w : World) (g : Nat) (v : Value) (l : List UInt8) (n p : Int) (ss : List (List Row)) (H : Dec I T W w g v n p 0 ss) (hv : Sp W W.heap.size v l) (hl : l.length ≤ 1073741824) (he : (fE (nE l p 0) (decide (nV l p 0 ≤ I.2.1)) 3) ≠ 0) :
    Calls Tryz.prog 77 #[.pointer (some ⟨g, 0, none⟩)] w (Pan W ss (fE (nE l p 0) (decide (nV l p 0 ≤ I.2.1)) 3)) := by
  have HC := Lib.hid (number_any I T W w g v l n p 0 ss H hv (by omega))
  obtain ⟨N, hN⟩ : ∃ x, x = nV l p 0 := ⟨_, rfl⟩
  obtain ⟨p1, hp1⟩ : ∃ x, x = nP l p 0 := ⟨_, rfl⟩
  obtain ⟨e1, he1⟩ : ∃ x, x = nE l p 0 := ⟨_, rfl⟩
  rw [← hN, ← hp1, ← he1] at HC
  rw [← hN, ← he1] at he
  rw [← hN, ← he1]
  have HE := Lib.hid he
  clear hN hp1 he1 he H hv
  go_enter Tryz.func77, Tryz.ntmps77
  go_wp2_with fail
  refine HC.out.mono ?_
  rintro ev w1 ⟨rfl, D⟩
  obtain ⟨i0, i1, i2, i3, i4, bb, qq, K0, hqq⟩ := D
  have hE2 : fE e1 (decide (N ≤ i2)) 3 = fE e1 (decide (N ≤ I.2.1)) 3 := by
    rcases Decidable.em (e1 = 0) with h | h
    · rw [(hqq h).2.2.2]
    · rw [fE_no h, fE_no h]
  have HE2 := Lib.hid hE2
  have HQQ := Lib.hid hqq
  clear hE2 hqq HC
  have q2 := K0.atX (.head _) 2 rfl
  have HD := Lib.hid K0.drew1
  clear K0
  go_wp2_with fail
  go_region_held3 (fun w' => w'.cell? ⟨g, 2, none⟩ = some (.int .i64 i2))
    (first
      | go_keep
      | exact HE1.out.atX (.head _) 2 rfl)
    (first
      | (go_at_call 79; refine (requireO_any T W _ g i0 i1 i2 i3 i4 qq e1 3 bb (decide (N ≤ i2)) (by decide) ss HD.out).mono ?_; rintro ev w2 ⟨rfl, K1⟩; have HE1 := Lib.hid K1; clear K1))
  have D2 : Dec I T W w2 g v n p1 (fE e1 (decide (N ≤ I.2.1)) 3) ss := ⟨i0, i1, i2, i3, i4, bb, qq, by rw [← HE2.out]; exact HE1.out, fun h => absurd h HE.out⟩
  have DH := Lib.hid D2
  clear D2 HE1 HD q2
  go_wp2_with fail
  refine (stop_err I T W _ g v n p1 _ ss DH.out HE.out).mono ?_
  rintro ev w3 ⟨rfl, hb⟩
  exact ⟨rfl, rfl, hb⟩

set_option maxRecDepth 100000 in
set_option maxHeartbeats 8000000 in
theorem tx_ok (I : Int × Int × Int × Int) (T : TypeId) (W w : World) (g : Nat) (v : Value) (l : List UInt8) (n p : Int) (ss : List (List Row)) (H : Dec I T W w g v n p 0 ss) (hv : Sp W W.heap.size v l) (hl : l.length ≤ 1073741824) (he : txE l p I.1 = 0) :
    Calls Tryz.prog 78 #[.pointer (some ⟨g, 0, none⟩)] w (fun ev w' => ∃ u, ev = .returned u ∧ Dec I T W w' g v n (txN l p I.1) 0 (segB 5 u (txL l p I.1) :: ss)) := by
  obtain ⟨i0, i1, i2, i3, i4, bb, qq, K0, hqq⟩ := H
  obtain ⟨rfl, rfl, rfl, rfl⟩ := hqq rfl
  dsimp only at he ⊢
  have HC := Lib.hid (fun W' (h : InvF W W' _) => textO_any T W W' g i0 i1 i2 i3 i4 qq i1 bb l ss h hv (by omega))
  obtain ⟨tl, htl⟩ : ∃ x, x = txL l qq i1 := ⟨_, rfl⟩
  obtain ⟨tn, htn⟩ : ∃ x, x = txN l qq i1 := ⟨_, rfl⟩
  obtain ⟨te, hte⟩ : ∃ x, x = txE l qq i1 := ⟨_, rfl⟩
  rw [← hte] at he
  rw [← htl, ← htn, ← hte] at HC
  rw [← htl, ← htn]
  have HE := Lib.hid he
  clear htl htn hte he hv hqq
  have q1 := K0.atX (.head _) 1 rfl
  have HD := Lib.hid K0.drew1
  clear K0
  go_enter Tryz.func78, Tryz.ntmps78
  go_wp2_with fail
  go_region_held3 (fun w' => w'.cell? ⟨g, 1, none⟩ = some (.int .i64 i1))
    (first
      | go_keep
      | exact HE1.out.atX (.head _) 1 rfl)
    (first
      | (go_at_call 118; refine (HC.out _ HD.out).mono ?_; rintro ev w1 ⟨u, rfl, K1⟩; have HE1 := Lib.hid K1; clear K1))
  have D2 : Dec (i1, i2, i3, i4) T W w1 g bb i0 tn 0 (segB 5 u tl :: ss) := ⟨i0, i1, i2, i3, i4, bb, tn, by have h := HE1.out; rw [HE.out] at h; exact h, fun _ => ⟨rfl, rfl, rfl, rfl⟩⟩
  have DH := Lib.hid D2
  clear D2 HE1 HD q1
  go_wp2_with fail
  refine (stop_ok _ T W _ g bb i0 tn _ DH.out).mono ?_
  rintro ev w3 ⟨rfl, D3⟩
  have DH3 := Lib.hid D3
  clear D3 DH
  go_wp2
  go_ret
  exact ⟨_, rfl, DH3.out⟩

set_option maxRecDepth 100000 in
set_option maxHeartbeats 8000000 in
theorem tx_err (I : Int × Int × Int × Int) (T : TypeId) (W w : World) (g : Nat) (v : Value) (l : List UInt8) (n p : Int) (ss : List (List Row)) (H : Dec I T W w g v n p 0 ss) (hv : Sp W W.heap.size v l) (hl : l.length ≤ 1073741824) (he : txE l p I.1 ≠ 0) :
    Calls Tryz.prog 78 #[.pointer (some ⟨g, 0, none⟩)] w (Pan W ss (txE l p I.1)) := by
  obtain ⟨i0, i1, i2, i3, i4, bb, qq, K0, hqq⟩ := H
  obtain ⟨rfl, rfl, rfl, rfl⟩ := hqq rfl
  dsimp only at he ⊢
  have HC := Lib.hid (fun W' (h : InvF W W' _) => textO_any T W W' g i0 i1 i2 i3 i4 qq i1 bb l ss h hv (by omega))
  obtain ⟨tl, htl⟩ : ∃ x, x = txL l qq i1 := ⟨_, rfl⟩
  obtain ⟨tn, htn⟩ : ∃ x, x = txN l qq i1 := ⟨_, rfl⟩
  obtain ⟨te, hte⟩ : ∃ x, x = txE l qq i1 := ⟨_, rfl⟩
  rw [← hte] at he
  rw [← htl, ← htn, ← hte] at HC
  rw [← hte]
  have HE := Lib.hid he
  clear htl htn hte he hv hqq
  have q1 := K0.atX (.head _) 1 rfl
  have HD := Lib.hid K0.drew1
  clear K0
  go_enter Tryz.func78, Tryz.ntmps78
  go_wp2_with fail
  go_region_held3 (fun w' => w'.cell? ⟨g, 1, none⟩ = some (.int .i64 i1))
    (first
      | go_keep
      | exact HE1.out.atX (.head _) 1 rfl)
    (first
      | (go_at_call 118; refine (HC.out _ HD.out).mono ?_; rintro ev w1 ⟨u, rfl, K1⟩; have HE1 := Lib.hid K1; clear K1))
  have D2 : Dec (i1, i2, i3, i4) T W w1 g bb i0 tn te (segB 5 u tl :: ss) := ⟨i0, i1, i2, i3, i4, bb, tn, HE1.out, fun h => absurd h HE.out⟩
  have DH := Lib.hid D2
  clear D2 HE1 HD q1
  go_wp2_with fail
  refine (stop_err _ T W _ g bb i0 tn _ _ DH.out HE.out).mono ?_
  rintro ev w3 ⟨rfl, hb⟩
  exact ⟨rfl, rfl, hb.sub (.cons _ (List.Sublist.refl _))⟩

end Go.Proofs.YtdoaikanaodefaaGreatDoor
/- The method block of the program's decoder: a block, or a panic with the first error. -/
namespace Go.Proofs.YtdoaikanaodefaaGreatDoor
open Go.ChangeShapes Go.WideShapes Go.ChangeAt Go.RowKit

/-- A block has been decoded: its rows beside the decoder. -/
def DecBkI (I : Int × Int × Int × Int) (T : TypeId) (W : World) (g : Nat) (v : Value) (n : Int) (r : BkAt) (ss : List (List Row)) (ev : Ending) (w' : World) : Prop :=
  ∃ a b qa qb qs t row vs vt, ev = .returned (.agg #[.int .i64 r.h.x, .int .i64 r.h.y, .int .i64 r.h.z, a, b, .int .i64 r.h.q.x, .int .i64 r.h.q.y, qa, qb, qs, t]) ∧ vs.length = r.h.q.L.length ∧ Reads0 qs row vs ∧ vt.length = r.T.length ∧
    Dec I T W w' g v n r.p 0 (segS 24 5 t vt r.T :: (row :: rowsS 5 vs r.h.q.L) :: segB 5 qb r.h.q.k :: segB 5 qa r.h.q.m :: segB 5 b r.h.k :: segB 5 a r.h.m :: ss)
/-- A block, or a panic with its error. -/
def BkPost (I : Int × Int × Int × Int) (T : TypeId) (W : World) (g : Nat) (v : Value) (n : Int) (r : BkAt) (ss : List (List Row)) (ev : Ending) (w' : World) : Prop :=
  (r.e = 0 → DecBkI I T W g v n r ss ev w') ∧ (r.e ≠ 0 → Pan W ss r.e ev w')
theorem bkpost_err {I : Int × Int × Int × Int} {T : TypeId} {W : World} {g : Nat} {v : Value} {n : Int} {r : BkAt} {ss : List (List Row)} {ev : Ending} {w' : World} {e : Int} (h : r.e = e) (he : e ≠ 0) (hp : ev = .panicked [{ v := errV e, recovered := false }]) (hb : InvF W w' ss) : BkPost I T W g v n r ss ev w' :=
  ⟨fun h0 => absurd (h.symm.trans h0) he, fun _ => by rw [h]; exact ⟨hp, hb⟩⟩
theorem bkpost_ok {I : Int × Int × Int × Int} {T : TypeId} {W : World} {g : Nat} {v : Value} {n : Int} {r : BkAt} {ss : List (List Row)} {ev : Ending} {w' : World} (h : r.e = 0) (H : DecBkI I T W g v n r ss ev w') : BkPost I T W g v n r ss ev w' :=
  ⟨fun _ => H, fun h0 => absurd h h0⟩

section
variable {P : Program} {md : Region.Mode} {ops : Array Oper} {Q : Exit → Act → World → Prop}
/-- An operation that yields whatever the world is taken first, its slot named. -/
theorem takeA (i : Nat) (v : Value) (d : Option Tmp) {oi : Oper} {fuel : Nat} {listed : Array Bool} {a : Act} {w : World} (hi : ops[i]? = some oi) (hd : oi.dst = d)
    (hs : Region.noSelect ops = true) (hf : Region.free md ops listed i = true) (hr : (Region.ready md ops listed).contains i = true)
    (hQ : ∀ c a w, Q (.panic c) (a.put d v) w → Q (.panic c) a w) (hy : Yields P ops oi v a)
    (h : wpAny P md ops Q fuel (listed.setIfInBounds i true) (a.put d v) w) : wpAny P md ops Q (fuel + 1) listed a w := by
  subst hd
  exact wpAny_take hi hs hf hr hQ hy h
end

set_option maxRecDepth 100000 in
set_option maxHeartbeats 16000000 in
theorem block_any (I : Int × Int × Int × Int) (T : TypeId) (W w : World) (g : Nat) (v : Value) (l : List UInt8) (n p e0 : Int) (ss : List (List Row)) (H : Dec I T W w g v n p e0 ss) (hv : Sp W W.heap.size v l) (hl : l.length ≤ 1073741824) (hp : p ≤ 9223372036854775807) (hlim : e0 = 0 → I.1 ≤ 40 ∧ I.2.1 ≤ 8) (hgI : Glob W 0 initW) (hgG : Glob W 1 kk) :
    Calls Tryz.prog 46 #[.pointer (some ⟨g, 0, none⟩)] w (BkPost I T W g v n (bkAt l n I.1 I.2.1 p e0) ss) := by
  obtain ⟨i0, hi, hz0, hz1, hz2⟩ := info_parts sbinfo
  have HV := Lib.hid hv
  have HL := Lib.hid hl
  have HP := Lib.hid hp
  have HGI := Lib.hid hgI
  have HGG := Lib.hid hgG
  obtain ⟨h, hh⟩ : ∃ h, h = hdAt l n p e0 := ⟨_, rfl⟩
  obtain ⟨RT, hRT⟩ : ∃ x, x = (bkAt l n I.1 I.2.1 p e0).T := ⟨_, rfl⟩
  obtain ⟨RP, hRP⟩ : ∃ x, x = (bkAt l n I.1 I.2.1 p e0).p := ⟨_, rfl⟩
  obtain ⟨RE, hRE⟩ : ∃ x, x = (bkAt l n I.1 I.2.1 p e0).e := ⟨_, rfl⟩
  have hr : bkAt l n I.1 I.2.1 p e0 = ⟨h, RT, RP, RE⟩ := by rw [hRT, hRP, hRE, hh]; rfl
  have HR0 : Hid (h.e ≠ 0 → RE = h.e) := Lib.hid (fun q => by subst hh; rw [hRE, bk_head q])
  have HR1 : Hid (bkE l h I.2.1 ≠ 0 → RE = bkE l h I.2.1) := Lib.hid (fun q => by subst hh; rw [hRE, bk_num q])
  have HN : Hid (bkE l h I.2.1 = 0 → ∃ N : Nat, bkN l h = (N : Int) ∧ N ≤ 8 ∧ (∀ j, j ≤ N → (txsAt l I.1 (nP l h.q.p h.e) 0 j).2.2 ≠ 0 → RE = (txsAt l I.1 (nP l h.q.p h.e) 0 j).2.2) ∧ ((txsAt l I.1 (nP l h.q.p h.e) 0 N).2.2 = 0 → RT = (txsAt l I.1 (nP l h.q.p h.e) 0 N).1 ∧ RP = (txsAt l I.1 (nP l h.q.p h.e) 0 N).2.1 ∧ RE = fE 0 (h.k == treeL (txsAt l I.1 (nP l h.q.p h.e) 0 N).1) 7) ∧ I.1 ≤ 40) := Lib.hid (fun q => by
    subst hh
    obtain ⟨k1, k2, k3⟩ := bk_few q
    have k4 : e0 = 0 := by
      rcases Decidable.em (e0 = 0) with q | q
      · exact q
      · have hs := hd_stop (l := l) (n := n) (p := p) q
        rw [nE_no hs] at k3
        exact absurd k3 hs
    have k5 := hlim k4
    have hT : bkT l (hdAt l n p e0) I.1 I.2.1 = txsAt l I.1 (nP l (hdAt l n p e0).q.p (hdAt l n p e0).e) 0 (bkN l (hdAt l n p e0)).toNat := by unfold bkT; rw [q]
    refine ⟨(bkN l (hdAt l n p e0)).toNat, by omega, by omega, fun j hj hne => ?_, fun h0 => ⟨?_, ?_, ?_⟩, k5.1⟩
    · rw [hRE, bk_txs (j := j) (by omega) (by rw [q]; exact hne), q]
    · rw [hRT]; show (bkT l _ _ _).1 = _; rw [hT]
    · rw [hRP]; show (bkT l _ _ _).2.1 = _; rw [hT]
    · rw [hRE]; show fE (bkT l _ _ _).2.2 (_ == treeL (bkT l _ _ _).1) 7 = _; rw [hT, h0])
  have HH := Lib.hid hh
  rw [hr]
  clear hr hRT hRP hRE hh hv hl hp hlim hgI hgG
  obtain ⟨x, y, z, m, k, ⟨qx, qy, qm, qk, qL, qp, qe⟩, he⟩ := h
  dsimp only at HR0 HN
  have Ha : Dec I T W (w.alloc (.cells #[.int .i64 0, .int .i64 0, .int .i64 0, .slice none 0 0, .slice none 0 0, .int .i64 0, .int .i64 0, .slice none 0 0, .slice none 0 0, .slice none 0 0, .slice none 0 0] 42)) g v n p e0 (segX 42 w.heap.size [.int .i64 0, .int .i64 0, .int .i64 0, .slice none 0 0, .slice none 0 0, .int .i64 0, .int .i64 0, .slice none 0 0, .slice none 0 0, .slice none 0 0, .slice none 0 0] :: ss) := H.beside (fun d K => by have h := (K.newG 42 #[.int .i64 0, .int .i64 0, .int .i64 0, .slice none 0 0, .slice none 0 0, .int .i64 0, .int .i64 0, .slice none 0 0, .slice none 0 0, .slice none 0 0, .slice none 0 0] w.heap.size rfl).front 1 rfl; exact h)
  have H1 : Dec I T W ((w.alloc (.cells #[.int .i64 0, .int .i64 0, .int .i64 0, .slice none 0 0, .slice none 0 0, .int .i64 0, .int .i64 0, .slice none 0 0, .slice none 0 0, .slice none 0 0, .slice none 0 0] 42)).alloc (.cells #[.int .i64 0, .int .i64 0, .int .i64 0, .slice none 0 0, .slice none 0 0, .int .i64 0, .int .i64 0, .slice none 0 0, .slice none 0 0, .slice none 0 0, .slice none 0 0] 42)) g v n p e0 (segX 42 (w.heap.size + 1) [.int .i64 0, .int .i64 0, .int .i64 0, .slice none 0 0, .slice none 0 0, .int .i64 0, .int .i64 0, .slice none 0 0, .slice none 0 0, .slice none 0 0, .slice none 0 0] :: segX 42 w.heap.size [.int .i64 0, .int .i64 0, .int .i64 0, .slice none 0 0, .slice none 0 0, .int .i64 0, .int .i64 0, .slice none 0 0, .slice none 0 0, .slice none 0 0, .slice none 0 0] :: ss) := Ha.beside (fun d K => by have h := (K.newG 42 #[.int .i64 0, .int .i64 0, .int .i64 0, .slice none 0 0, .slice none 0 0, .int .i64 0, .int .i64 0, .slice none 0 0, .slice none 0 0, .slice none 0 0, .slice none 0 0] (w.heap.size + 1)).front 1 rfl; exact h)
  clear Ha H
  go_enter Tryz.func46, Tryz.ntmps46
  go_wp2_with fail
  by_cases hhe : he = 0
  case neg =>
    have h1 := header_err I T W _ g v l n p e0 _ H1 HV.out HL.out HP.out (by rw [← HH.out]; exact hhe)
    rw [← HH.out] at h1
    refine h1.mono ?_
    rintro ev w2 ⟨rfl, hb⟩
    exact ⟨rfl, bkpost_err (HR0.out hhe) hhe rfl (hb.sub (.cons _ (.cons _ (List.Sublist.refl _))))⟩
  subst hhe
  have h1 := header_ok I T W _ g v l n p e0 _ H1 HV.out HL.out HP.out (by rw [← HH.out])
  rw [← HH.out] at h1
  refine h1.mono ?_
  clear h1 HR0 H1
  rintro ev w2 ⟨u1, u2, u3, u4, u5, row, vs, rfl, hvs, hrd, D⟩
  dsimp only at hvs hrd D ⊢
  obtain ⟨B1, d1, rfl⟩ := D.rest.openB' (.tail _ (.tail _ (.tail _ (.tail _ (.head _)))))
  obtain ⟨B2, d2, rfl⟩ := D.rest.openB' (.tail _ (.tail _ (.tail _ (.head _))))
  obtain ⟨B3, d3, rfl⟩ := D.rest.openB' (.tail _ (.tail _ (.head _)))
  obtain ⟨B4, d4, rfl⟩ := D.rest.openB' (.tail _ (.head _))
  obtain ⟨B5, d5, rfl⟩ := D.rest.openT hvs hrd
  have HVS := Lib.hid hvs
  have HRD := Lib.hid hrd
  clear hvs hrd
  replace D : Dec I T W w2 g v n qp 0 ((row :: rowsS 5 vs qL) :: segB 5 (.slice B4 qk.length d4) qk :: segB 5 (.slice B3 qm.length d3) qm :: segB 5 (.slice B2 k.length d2) k :: segB 5 (.slice B1 m.length d1) m :: segX 42 (w.heap.size + 1) [.int .i64 0, .int .i64 0, .int .i64 0, .slice none 0 0, .slice none 0 0, .int .i64 0, .int .i64 0, .slice none 0 0, .slice none 0 0, .slice none 0 0, .slice none 0 0] :: segX 42 w.heap.size [.int .i64 0, .int .i64 0, .int .i64 0, .slice none 0 0, .slice none 0 0, .int .i64 0, .int .i64 0, .slice none 0 0, .slice none 0 0, .slice none 0 0, .slice none 0 0] :: ss) := D
  have hT0 := D.rest.thereX (.tail _ (.tail _ (.tail _ (.tail _ (.tail _ (.head _)))))) 0 10 (by simp)
  have D2 : Dec I T W (w2.setCells (w.heap.size + 1) 0 [.int .i64 x, .int .i64 y, .int .i64 z, .slice B1 m.length d1, .slice B2 k.length d2, .int .i64 qx, .int .i64 qy, .slice B3 qm.length d3, .slice B4 qk.length d4, .slice B5 qL.length d5]) g v n qp 0 (segX 42 (w.heap.size + 1) [.int .i64 x, .int .i64 y, .int .i64 z, (.slice B1 m.length d1), (.slice B2 k.length d2), .int .i64 qx, .int .i64 qy, (.slice B3 qm.length d3), (.slice B4 qk.length d4), (.slice B5 qL.length d5), (.slice none 0 0)] :: (row :: rowsS 5 vs qL) :: segB 5 (.slice B4 qk.length d4) qk :: segB 5 (.slice B3 qm.length d3) qm :: segB 5 (.slice B2 k.length d2) k :: segB 5 (.slice B1 m.length d1) m :: segX 42 w.heap.size [.int .i64 0, .int .i64 0, .int .i64 0, .slice none 0 0, .slice none 0 0, .int .i64 0, .int .i64 0, .slice none 0 0, .slice none 0 0, .slice none 0 0, .slice none 0 0] :: ss) := D.beside (fun d K => by have h := ((K.front 6 rfl).sets11h (.int .i64 x) (.int .i64 y) (.int .i64 z) (.slice B1 m.length d1) (.slice B2 k.length d2) (.int .i64 qx) (.int .i64 qy) (.slice B3 qm.length d3) (.slice B4 qk.length d4) (.slice B5 qL.length d5)).front 1 rfl; exact h)
  have DH2 := Lib.hid D2
  clear D D2
  go_simp
  go_step
  go_step
  go_step
  go_step
  refine wpList_store_mid rfl 40 (.tmp 7) (.tmp 6) rfl (w.heap.size + 1) 0 #[.int .i64 x, .int .i64 y, .int .i64 z, .slice B1 m.length d1, .slice B2 k.length d2, .int .i64 qx, .int .i64 qy, .slice B3 qm.length d3, .slice B4 qk.length d4, .slice B5 qL.length d5] rfl rfl hT0 (by kernel_rfl) (by simp [Value.oneCell']) ?_
  clear hT0
  go_wp2_with fail
  by_cases he2 : bkE l ⟨x, y, z, m, k, ⟨qx, qy, qm, qk, qL, qp, qe⟩, 0⟩ I.2.1 = 0
  case neg =>
    refine (count_err I T W _ g v l n qp _ DH2.out HV.out HL.out he2).mono ?_
    rintro ev w3 ⟨rfl, hb⟩
    exact ⟨rfl, bkpost_err (HR1.out he2) he2 rfl (hb.sub (.cons _ (.cons _ (.cons _ (.cons _ (.cons _ (.cons _ (.cons _ (List.Sublist.refl _)))))))))⟩
  obtain ⟨N, hN1, hN8, hRx, hRn, hb40⟩ := HN.out he2
  have h2 := count_ok I T W _ g v l n qp _ DH2.out HV.out HL.out he2
  rw [show nV l qp 0 = (N : Int) from hN1] at h2
  obtain ⟨p1, hp1⟩ : ∃ q, q = nP l qp 0 := ⟨_, rfl⟩
  rw [← hp1] at h2 hRx hRn
  have HRX := Lib.hid hRx
  have HRN := Lib.hid hRn
  have HB40 := Lib.hid hb40
  refine h2.mono ?_
  rintro ev w3 ⟨rfl, D3⟩
  have DH3 := Lib.hid D3
  have hby : i0.bytes * N ≤ 281474976710656 := by rw [hz2]; omega
  have hml : N ≤ maxLen := by unfold maxLen; omega
  clear h2 HR1 HN hN1 hRx hRn hb40 hp1 he2 DH2 D3 HH
  go_wp2_with (at_make; refine wpList_make_full _ rfl _ _ _ rfl w3.heap.size 24 i0 (.slice none 0 0) 1 Tryz.underlying25 hi hz0 hz1 .i64 .i64 _ _ N rfl rfl rfl rfl hby hml (Nat.le_refl _) ?_; intro w4 hown4 hg4; have D4 : Hid (Dec I T W w4 g v n p1 0 (segX 24 w3.heap.size (CB [] N) :: [] :: segX 42 (w.heap.size + 1) [.int .i64 x, .int .i64 y, .int .i64 z, (.slice B1 m.length d1), (.slice B2 k.length d2), .int .i64 qx, .int .i64 qy, (.slice B3 qm.length d3), (.slice B4 qk.length d4), (.slice B5 qL.length d5), (.slice none 0 0)] :: (row :: rowsS 5 vs qL) :: segB 5 (.slice B4 qk.length d4) qk :: segB 5 (.slice B3 qm.length d3) qm :: segB 5 (.slice B2 k.length d2) k :: segB 5 (.slice B1 m.length d1) m :: segX 42 w.heap.size [.int .i64 0, .int .i64 0, .int .i64 0, .slice none 0 0, .slice none 0 0, .int .i64 0, .int .i64 0, .slice none 0 0, .slice none 0 0, .slice none 0 0, .slice none 0 0] :: ss)) := Lib.hid (DH3.out.beside (fun d K => by have hb4 : Below w3.heap.size w3 w4 := (Below.refl _ _).grown hg4 (Nat.le_refl _) (by simp); have k1 := K.more (s := segX 24 w3.heap.size (CB [] N)) ((InvG.start w3).moreG (p := (24, .slice (some ⟨w3.heap.size, 0, none⟩) (CB [] N).length (CB [] N).length, CB [] N)) (by unfold GOwn; simp only; rw [CB_length (Nat.zero_le _), CB_nil]; have e : (madeCells (Value.slice none 0 0).cells (N * 1)).toList = List.replicate N (.slice none 0 0) := (by rw [Nat.mul_one]; exact toList_madeCells_one _ _); rw [← e]; exact hown4) hb4); have k2 := k1.front 1 rfl; unfold InvF at k2 ⊢; simpa using k2)); have c10 := D4.out.rest.atX (.tail _ (.tail _ (.head _))) 10 rfl; have f10 := D4.out.rest.frX (.tail _ (.tail _ (.head _))) 10; have c10b := D4.out.rest.ltX (.tail _ (.tail _ (.head _))))
  have D5 : Hid (Dec I T W (w4.setCell ⟨w.heap.size + 1, 10, none⟩ (.slice (some ⟨w3.heap.size, 0, none⟩) N N)) g v n p1 0 (segX 24 w3.heap.size (CB [] N) :: rowsS 5 [] [] :: segX 42 (w.heap.size + 1) [.int .i64 x, .int .i64 y, .int .i64 z, (.slice B1 m.length d1), (.slice B2 k.length d2), .int .i64 qx, .int .i64 qy, (.slice B3 qm.length d3), (.slice B4 qk.length d4), (.slice B5 qL.length d5), (.slice (some ⟨w3.heap.size, 0, none⟩) N N)] :: (row :: rowsS 5 vs qL) :: segB 5 (.slice B4 qk.length d4) qk :: segB 5 (.slice B3 qm.length d3) qm :: segB 5 (.slice B2 k.length d2) k :: segB 5 (.slice B1 m.length d1) m :: segX 42 w.heap.size [.int .i64 0, .int .i64 0, .int .i64 0, .slice none 0 0, .slice none 0 0, .int .i64 0, .int .i64 0, .slice none 0 0, .slice none 0 0, .slice none 0 0, .slice none 0 0] :: ss)) := Lib.hid (D4.out.beside (fun d K => by have h := ((K.front 3 rfl).setX 10 (.slice (some ⟨w3.heap.size, 0, none⟩) N N)).perm (List.perm_append_comm (l₁ := [_]) (l₂ := [_, _, _]) |>.append_right _); exact h))
  clear D4 DH3 hown4 hg4 c10 f10 c10b hby hml hi hz0 hz1 hz2 i0
  go_loopw [15] (fun i wr => ∃ (j : Nat) (vt : List Value), j ≤ N ∧ i = .int .i64 (j : Int) ∧ Hid (vt.length = j) ∧ Hid ((txsAt l I.1 p1 0 j).2.2 = 0) ∧ Hid (Dec I T W wr g v n (txsAt l I.1 p1 0 j).2.1 0 (segX 24 w3.heap.size (CB vt N) :: rowsS 5 vt (txsAt l I.1 p1 0 j).1 :: segX 42 (w.heap.size + 1) [.int .i64 x, .int .i64 y, .int .i64 z, (.slice B1 m.length d1), (.slice B2 k.length d2), .int .i64 qx, .int .i64 qy, (.slice B3 qm.length d3), (.slice B4 qk.length d4), (.slice B5 qL.length d5), (.slice (some ⟨w3.heap.size, 0, none⟩) N N)] :: (row :: rowsS 5 vs qL) :: segB 5 (.slice B4 qk.length d4) qk :: segB 5 (.slice B3 qm.length d3) qm :: segB 5 (.slice B2 k.length d2) k :: segB 5 (.slice B1 m.length d1) m :: segX 42 w.heap.size [.int .i64 0, .int .i64 0, .int .i64 0, .slice none 0 0, .slice none 0 0, .int .i64 0, .int .i64 0, .slice none 0 0, .slice none 0 0, .slice none 0 0, .slice none 0 0] :: ss)))
    (fun i _ => N - (intOf i).toNat)
  case atStart => exact ⟨0, [], Nat.zero_le _, rfl, Lib.hid rfl, Lib.hid rfl, D5⟩
  case round =>
    clear D5
    obtain ⟨j, vt, hj, rfl, hvt, hz, Hj⟩ := hrel
    have hlen := Lib.hid (txs_len hz.out)
    have hnx : Hid (∀ A q, txsAt l I.1 p1 0 j = (A, q, 0) → txsAt l I.1 p1 0 (j + 1) = (A ++ [txL l q I.1], txN l q I.1, txE l q I.1)) := Lib.hid (fun A q hq => txs_more hq)
    have hsum := Lib.hid (txs_sum HB40.out l p1 0 j)
    have hRN : Hid (j = N → RT = (txsAt l I.1 p1 0 j).1 ∧ RP = (txsAt l I.1 p1 0 j).2.1 ∧ RE = fE 0 (k == treeL (txsAt l I.1 p1 0 j).1) 7) := Lib.hid (fun q => by subst q; exact HRN.out hz.out)
    have hRX : Hid (j < N → (txsAt l I.1 p1 0 (j + 1)).2.2 ≠ 0 → RE = (txsAt l I.1 p1 0 (j + 1)).2.2) := Lib.hid (fun q h => HRX.out (j + 1) (by omega) h)
    clear HRX HRN HB40
    generalize hT : txsAt l I.1 p1 0 j = st at *
    obtain ⟨L, pj, ej⟩ := st
    simp only at hlen hsum hRN Hj hz
    obtain rfl := hz.out
    by_cases hlt : j < N
    · have hjl : (j : Int) < (N : Int) := by omega
      have hnext := hnx.out L pj rfl
      rw [hnext] at hRX
      obtain ⟨r, hr⟩ : ∃ q, q = txL l pj I.1 := ⟨_, rfl⟩
      obtain ⟨pn, hpn⟩ : ∃ q, q = txN l pj I.1 := ⟨_, rfl⟩
      obtain ⟨en, hen⟩ : ∃ q, q = txE l pj I.1 := ⟨_, rfl⟩
      have DJ : Hid (Dec I T W wr.drew g v n pj 0 (segX 24 w3.heap.size (CB vt N) :: rowsS 5 vt L :: segX 42 (w.heap.size + 1) [.int .i64 x, .int .i64 y, .int .i64 z, (.slice B1 m.length d1), (.slice B2 k.length d2), .int .i64 qx, .int .i64 qy, (.slice B3 qm.length d3), (.slice B4 qk.length d4), (.slice B5 qL.length d5), (.slice (some ⟨w3.heap.size, 0, none⟩) N N)] :: (row :: rowsS 5 vs qL) :: segB 5 (.slice B4 qk.length d4) qk :: segB 5 (.slice B3 qm.length d3) qm :: segB 5 (.slice B2 k.length d2) k :: segB 5 (.slice B1 m.length d1) m :: segX 42 w.heap.size [.int .i64 0, .int .i64 0, .int .i64 0, .slice none 0 0, .slice none 0 0, .int .i64 0, .int .i64 0, .slice none 0 0, .slice none 0 0, .slice none 0 0, .slice none 0 0] :: ss)) := Lib.hid (Hj.out.beside (fun d K => K.drew1))
      have L0 := Lib.hid (DJ.out.rest.atX (.tail _ (.tail _ (.head _))) 10 rfl)
      have q10 := Hj.out.rest.atX (.tail _ (.tail _ (.head _))) 10 rfl
      by_cases htx : txE l pj I.1 = 0
      · have HC := Lib.hid (tx_ok I T W wr.drew g v l n pj _ DJ.out HV.out HL.out htx)
        rw [← hr, ← hpn] at HC
        rw [← hr, ← hpn, htx] at hnext
        have HNX := Lib.hid hnext
        clear hr hpn hen hnext hnx hsum hRN hRX hT htx
        go_wp2_with fail
        go_region_held3 (fun w' => w'.cell? ⟨w.heap.size + 1, 10, none⟩ = some (.slice (some ⟨w3.heap.size, 0, none⟩) N N))
          (first
            | with_reducible exact L0.out
            | with_reducible exact L1.out
            | with_reducible exact L2.out)
          (first
            | (go_at_call 78; refine HC.out.mono ?_; rintro ev w6 ⟨u6, rfl, D6⟩; obtain ⟨A6, c6, rfl⟩ := D6.rest.openB' (.head _); have L1 := Lib.hid (D6.rest.atX (.tail _ (.tail _ (.tail _ (.head _)))) 10 rfl); have hat : (CB vt N)[j]? = some (.slice none 0 0) := (by rw [← hvt.out]; exact CB_at (by rw [hvt.out]; omega)); have oj := D6.rest.atX (.tail _ (.head _)) j hat; have fj := D6.rest.frX (.tail _ (.head _)) j; have hset : (CB vt N).set j (.slice A6 r.length c6) = CB (vt ++ [.slice A6 r.length c6]) N := (by rw [← hvt.out]; exact CB_set _ (by rw [hvt.out]; omega)); have D7 : Hid (Dec I T W (w6.setCell ⟨w3.heap.size, j, none⟩ (.slice A6 r.length c6)) g v n pn 0 (segX 24 w3.heap.size (CB (vt ++ [.slice A6 r.length c6]) N) :: rowsS 5 (vt ++ [.slice A6 r.length c6]) (L ++ [r]) :: segX 42 (w.heap.size + 1) [.int .i64 x, .int .i64 y, .int .i64 z, (.slice B1 m.length d1), (.slice B2 k.length d2), .int .i64 qx, .int .i64 qy, (.slice B3 qm.length d3), (.slice B4 qk.length d4), (.slice B5 qL.length d5), (.slice (some ⟨w3.heap.size, 0, none⟩) N N)] :: (row :: rowsS 5 vs qL) :: segB 5 (.slice B4 qk.length d4) qk :: segB 5 (.slice B3 qm.length d3) qm :: segB 5 (.slice B2 k.length d2) k :: segB 5 (.slice B1 m.length d1) m :: segX 42 w.heap.size [.int .i64 0, .int .i64 0, .int .i64 0, .slice none 0 0, .slice none 0 0, .int .i64 0, .int .i64 0, .slice none 0 0, .slice none 0 0, .slice none 0 0, .slice none 0 0] :: ss)) := Lib.hid (D6.beside (fun d K => by have h := (((K.front 2 rfl).setX j (.slice A6 r.length c6)).front 1 rfl); rw [hset] at h; exact InvF.snocRows2 (by rw [hvt.out, hlen.out]) h)); have L2 := Lib.hid (D7.out.rest.atX (.tail _ (.tail _ (.head _))) 10 rfl); clear D6 hat hset))
        clear L0 L1 L2 HC DJ q10 oj fj
        go_wp2
        go_roundw
        case rel => exact ⟨j + 1, (vt ++ [.slice A6 r.length c6]), by omega, by go_num, Lib.hid (by rw [List.length_append, hvt.out]; rfl), Lib.hid (by rw [HNX.out]), Lib.hid (by rw [HNX.out]; exact D7.out)⟩
        case measure => simp [intOf]; omega
      · have HC := Lib.hid (tx_err I T W wr.drew g v l n pj _ DJ.out HV.out HL.out htx)
        have hre := hRX.out hlt htx
        dsimp only at hre
        rw [← hen] at HC hre htx
        have HF := Lib.hid (fun (w' : World) (hb : InvF W w' ss) => bkpost_err (I := I) (T := T) (g := g) (v := v) (n := n) (r := ⟨⟨x, y, z, m, k, ⟨qx, qy, qm, qk, qL, qp, qe⟩, 0⟩, RT, RP, RE⟩) (ss := ss) hre htx rfl hb)
        clear hr hpn hen hnext hnx hsum hRN hRX hT htx hre
        go_wp2_with fail
        refine wp_region_any (by kernel_rfl) ?_
        change wpAny _ _ _ _ _ _ _ (World.drew _)
        refine takeA 0 (Value.pointer (some ⟨w.heap.size + 1, 10, none⟩)) (some 18) rfl rfl (by kernel_rfl) (by kernel_rfl) (by kernel_rfl) (fun _ _ _ h => h) (Or.inl ⟨by kernel_rfl, fun w' => by go_simp⟩) ?_
        try simp only [Act.put, List.setIfInBounds_toArray, List.set_cons_zero, List.set_cons_succ]
        refine takeA 2 (Value.int .i64 (j : Int)) (some 20) rfl rfl (by kernel_rfl) (by kernel_rfl) (by kernel_rfl) (fun _ _ _ h => h) (Or.inl ⟨by kernel_rfl, fun w' => by go_simp⟩) ?_
        try simp only [Act.put, List.setIfInBounds_toArray, List.set_cons_zero, List.set_cons_succ]
        refine takeA 3 (Value.pointer (some ⟨g, 0, none⟩)) (some 21) rfl rfl (by kernel_rfl) (by kernel_rfl) (by kernel_rfl) (fun _ _ _ h => h) (Or.inl ⟨by kernel_rfl, fun w' => by go_simp⟩) ?_
        try simp only [Act.put, List.setIfInBounds_toArray, List.set_cons_zero, List.set_cons_succ]
        have q10d := L0.out
        refine wpAny_ready (rs := [1, 4]) (by kernel_rfl) (by simp) ?_
        refine AllReady.cons (i := 1) rfl (fun K hK => ?_) (AllReady.cons (i := 4) rfl (fun K hK => ?_) AllReady.nil)
        · rw [if_pos (by rfl)]
          go_simp
          refine hK _ _ ?_
          clear hK K
          try simp only [Act.put, List.setIfInBounds_toArray, List.set_cons_zero, List.set_cons_succ]
          refine wpAny_ready (rs := [4]) (by kernel_rfl) (by simp) ?_
          refine AllReady.cons (i := 4) rfl (fun K hK => ?_) AllReady.nil
          rw [if_pos (by rfl)]
          go_simp
          refine HC.out.mono ?_
          rintro ev w6 ⟨rfl, hb⟩
          dsimp +zetaDelta only [Exit.then, Exit.inBlock]
          exact ⟨rfl, HF.out _ (hb.sub (.cons _ (.cons _ (.cons _ (.cons _ (.cons _ (.cons _ (.cons _ (.cons _ (.cons _ (List.Sublist.refl _)))))))))))⟩
        ·
          rw [if_pos (by rfl)]
          go_simp
          refine HC.out.mono ?_
          rintro ev w6 ⟨rfl, hb⟩
          dsimp +zetaDelta only [Exit.then, Exit.inBlock]
          exact ⟨rfl, HF.out _ (hb.sub (.cons _ (.cons _ (.cons _ (.cons _ (.cons _ (.cons _ (.cons _ (.cons _ (.cons _ (List.Sublist.refl _)))))))))))⟩
    · obtain rfl : j = N := by omega
      obtain ⟨k1, k2, k3⟩ := hRN.out rfl
      replace k1 := k1.symm
      replace k2 := k2.symm
      subst k1 k2
      have hs3 : sumL L ≤ 1073741000 := by have h := hsum.out.1; (try dsimp only at h); omega
      have hl3 : L.length ≤ 1073741824 := by have h := hsum.out.2; (try dsimp only at h); omega
      obtain ⟨rt, hrt⟩ : ∃ q, q = treeL L := ⟨_, rfl⟩
      have C7 := Lib.hid (fun W h1 h2 h3 h4 h5 h6 h7 h8 => hasRoot_any x y z qx qy (.slice B1 m.length d1) (.slice B2 k.length d2) (.slice B3 qm.length d3) (.slice B4 qk.length d4) (.slice B5 qL.length d5) (.slice (some ⟨w3.heap.size, 0, none⟩) j j) m k qm qk qL L W h1 h2 h3 h4 h5 h6 hs3 hl3 h7 h8)
      rw [← hrt] at k3 C7
      have HRE := Lib.hid k3
      have HVT : Hid (vt.length = L.length) := Lib.hid (hvt.out.trans hlen.out.symm)
      have hfull : CB vt j = vt := CB_full hvt.out
      rw [hfull] at Hj
      have DS : Dec I T W wr g v n pj 0 (segS 24 5 (.slice (some ⟨w3.heap.size, 0, none⟩) j j) vt L :: segX 42 (w.heap.size + 1) [.int .i64 x, .int .i64 y, .int .i64 z, (.slice B1 m.length d1), (.slice B2 k.length d2), .int .i64 qx, .int .i64 qy, (.slice B3 qm.length d3), (.slice B4 qk.length d4), (.slice B5 qL.length d5), (.slice (some ⟨w3.heap.size, 0, none⟩) j j)] :: (row :: rowsS 5 vs qL) :: segB 5 (.slice B4 qk.length d4) qk :: segB 5 (.slice B3 qm.length d3) qm :: segB 5 (.slice B2 k.length d2) k :: segB 5 (.slice B1 m.length d1) m :: segX 42 w.heap.size [.int .i64 0, .int .i64 0, .int .i64 0, .slice none 0 0, .slice none 0 0, .int .i64 0, .int .i64 0, .slice none 0 0, .slice none 0 0, .slice none 0 0, .slice none 0 0] :: ss) := Hj.out.beside (fun d K => by have h := InvF.joinRows2 K; rw [hvt.out] at h; exact h)
      obtain ⟨i0, i1, i2, i3, i4, bb, qq, K0, hqq⟩ := DS
      have HQQ := Lib.hid hqq
      have HD := Lib.hid K0.drew1
      have L0 := Lib.hid (HD.out.c11 (.tail _ (.tail _ (.head _))))
      have hq1 : ¬ (j : Int) < (j : Int) := by omega
      clear hqq K0 hrt k3 hfull hRX hRN hsum hnx hT hs3 hl3 Hj hlt
      go_wp2_with fail
      go_region_held3 (fun w' => w'.cell? ⟨w.heap.size + 1, 0, none⟩ = some (.int .i64 x) ∧ w'.cell? ⟨w.heap.size + 1, 1, none⟩ = some (.int .i64 y) ∧ w'.cell? ⟨w.heap.size + 1, 2, none⟩ = some (.int .i64 z) ∧ w'.cell? ⟨w.heap.size + 1, 3, none⟩ = some (.slice B1 m.length d1) ∧ w'.cell? ⟨w.heap.size + 1, 4, none⟩ = some (.slice B2 k.length d2) ∧ w'.cell? ⟨w.heap.size + 1, 5, none⟩ = some (.int .i64 qx) ∧ w'.cell? ⟨w.heap.size + 1, 6, none⟩ = some (.int .i64 qy) ∧ w'.cell? ⟨w.heap.size + 1, 7, none⟩ = some (.slice B3 qm.length d3) ∧ w'.cell? ⟨w.heap.size + 1, 8, none⟩ = some (.slice B4 qk.length d4) ∧ w'.cell? ⟨w.heap.size + 1, 9, none⟩ = some (.slice B5 qL.length d5) ∧ w'.cell? ⟨w.heap.size + 1, 10, none⟩ = some (.slice (some ⟨w3.heap.size, 0, none⟩) j j))
        (first
          | with_reducible exact L0.out
          | with_reducible exact L1.out
          | with_reducible exact L2.out)
        (first
          | (go_at_call 66; refine (C7.out _ (HD.out.slB 5 (.tail _ (.tail _ (.tail _ (.tail _ (.tail _ (.tail _ (.tail _ (.head _))))))))) (HD.out.slB 5 (.tail _ (.tail _ (.tail _ (.tail _ (.tail _ (.tail _ (.head _)))))))) (HD.out.slB 5 (.tail _ (.tail _ (.tail _ (.tail _ (.tail _ (.head _))))))) (HD.out.slB 5 (.tail _ (.tail _ (.tail _ (.tail _ (.head _)))))) (HD.out.slT (E := 5) HVS.out HRD.out (.tail _ (.tail _ (.tail _ (.head _))))) (HD.out.slS 24 5 HVT.out (.tail _ (.head _))) (HGI.out.up HD.out.bel) (HGG.out.up HD.out.bel)).mono ?_; rintro ev w7 ⟨rfl, hb7⟩; have K1 := Lib.hid (HD.out.up hb7); have L1 := Lib.hid (K1.out.c11 (.tail _ (.tail _ (.head _)))); clear hb7)
          | (go_at_call 79; refine (requireO_any T W _ g i0 i1 i2 i3 i4 qq 0 7 bb (k == rt) (by decide) _ K1.out).mono ?_; rw [← HRE.out]; rintro ev w8 ⟨rfl, H8⟩; have K2 := Lib.hid H8; have L2 := Lib.hid (K2.out.c11 (.tail _ (.tail _ (.head _)))); clear H8)
          | fail)
      by_cases hre : RE = 0
      · have D9 : Dec I T W w8 g v n pj 0 (segS 24 5 (.slice (some ⟨w3.heap.size, 0, none⟩) j j) vt L :: segX 42 (w.heap.size + 1) [.int .i64 x, .int .i64 y, .int .i64 z, (.slice B1 m.length d1), (.slice B2 k.length d2), .int .i64 qx, .int .i64 qy, (.slice B3 qm.length d3), (.slice B4 qk.length d4), (.slice B5 qL.length d5), (.slice (some ⟨w3.heap.size, 0, none⟩) j j)] :: (row :: rowsS 5 vs qL) :: segB 5 (.slice B4 qk.length d4) qk :: segB 5 (.slice B3 qm.length d3) qm :: segB 5 (.slice B2 k.length d2) k :: segB 5 (.slice B1 m.length d1) m :: segX 42 w.heap.size [.int .i64 0, .int .i64 0, .int .i64 0, .slice none 0 0, .slice none 0 0, .int .i64 0, .int .i64 0, .slice none 0 0, .slice none 0 0, .slice none 0 0, .slice none 0 0] :: ss) := ⟨i0, i1, i2, i3, i4, bb, qq, by have h := K2.out; rw [hre] at h; exact h, fun _ => HQQ.out (by first | rfl | trivial)⟩
        have HR0 := Lib.hid hre
        have DH := Lib.hid D9
        clear D9 L0 L1 L2 K1 K2 HD HQQ hre
        go_wp2_with fail
        refine (stop_ok I T W _ g v n pj _ DH.out).mono ?_
        rintro ev w9 ⟨rfl, D10⟩
        obtain ⟨j0, j1, j2, j3, j4, bc, qr, K3, hq3⟩ := D10
        have HQ3 := Lib.hid hq3
        clear hq3 DH
        replace K3 : InvF W w9 (segX T g [.int .i64 j0, .int .i64 j1, .int .i64 j2, .int .i64 j3, .int .i64 j4, bc, .int .i64 qr, errV 0] :: segS 24 5 (.slice (some ⟨w3.heap.size, 0, none⟩) j j) vt L :: segX 42 (w.heap.size + 1) [.int .i64 x, .int .i64 y, .int .i64 z, (.slice B1 m.length d1), (.slice B2 k.length d2), .int .i64 qx, .int .i64 qy, (.slice B3 qm.length d3), (.slice B4 qk.length d4), (.slice B5 qL.length d5), (.slice (some ⟨w3.heap.size, 0, none⟩) j j)] :: (row :: rowsS 5 vs qL) :: segB 5 (.slice B4 qk.length d4) qk :: segB 5 (.slice B3 qm.length d3) qm :: segB 5 (.slice B2 k.length d2) k :: segB 5 (.slice B1 m.length d1) m :: segX 42 w.heap.size [.int .i64 0, .int .i64 0, .int .i64 0, .slice none 0 0, .slice none 0 0, .int .i64 0, .int .i64 0, .slice none 0 0, .slice none 0 0, .slice none 0 0, .slice none 0 0] :: ss) := K3
        obtain ⟨o0, o1, o2, o3, o4, o5, o6, o7, o8, o9, o10⟩ := K3.c11 (.tail _ (.tail _ (.head _)))
        obtain ⟨r0, r1, r2, r3, r4, r5, r6, r7, r8, r9, r10⟩ := K3.c11 (.tail _ (.tail _ (.tail _ (.tail _ (.tail _ (.tail _ (.tail _ (.tail _ (.head _)))))))))
        obtain ⟨s0, s1, s2, s3, s4, s5, s6, s7, s8, s9, s10⟩ := K3.f11 (.tail _ (.tail _ (.tail _ (.tail _ (.tail _ (.tail _ (.tail _ (.tail _ (.head _)))))))))
        have h6 := K3.ltX (.tail _ (.tail _ (.head _)))
        have h7 := K3.ltX (.tail _ (.tail _ (.tail _ (.tail _ (.tail _ (.tail _ (.tail _ (.tail _ (.head _)))))))))
        have KR := (K3.front 8 rfl).over11 (.int .i64 x) (.int .i64 y) (.int .i64 z) (.slice B1 m.length d1) (.slice B2 k.length d2) (.int .i64 qx) (.int .i64 qy) (.slice B3 qm.length d3) (.slice B4 qk.length d4) (.slice B5 qL.length d5) (.slice (some ⟨w3.heap.size, 0, none⟩) j j)
        have hR2 := KR.rangeX (.head _)
        have KF := Lib.hid (KR.sub (qs := segX T g [.int .i64 j0, .int .i64 j1, .int .i64 j2, .int .i64 j3, .int .i64 j4, bc, .int .i64 qr, errV 0] :: segS 24 5 (.slice (some ⟨w3.heap.size, 0, none⟩) j j) vt L :: (row :: rowsS 5 vs qL) :: segB 5 (.slice B4 qk.length d4) qk :: segB 5 (.slice B3 qm.length d3) qm :: segB 5 (.slice B2 k.length d2) k :: segB 5 (.slice B1 m.length d1) m :: ss) (.cons _ (.cons_cons _ (.cons_cons _ (.cons _ (List.Sublist.refl _))))))
        clear KR K3
        go_simp
        repeat go_step
        refine bodyPost_ret (results_cell_mid Tryz.results46 _ _ w.heap.size 0 [.int .i64 x, .int .i64 y, .int .i64 z, .slice B1 m.length d1, .slice B2 k.length d2, .int .i64 qx, .int .i64 qy, .slice B3 qm.length d3, .slice B4 qk.length d4, .slice B5 qL.length d5, .slice (some ⟨w3.heap.size, 0, none⟩) j j] _ rfl hR2 Tryz.underlying42 rfl (by kernel_rfl)) rfl (bkpost_ok HR0.out ⟨_, _, _, _, _, _, row, vs, vt, rfl, HVS.out, HRD.out, HVT.out, _, _, _, _, _, _, _, KF.out, HQ3.out⟩)
      · have D9 : Dec I T W w8 g v n pj RE (segS 24 5 (.slice (some ⟨w3.heap.size, 0, none⟩) j j) vt L :: segX 42 (w.heap.size + 1) [.int .i64 x, .int .i64 y, .int .i64 z, (.slice B1 m.length d1), (.slice B2 k.length d2), .int .i64 qx, .int .i64 qy, (.slice B3 qm.length d3), (.slice B4 qk.length d4), (.slice B5 qL.length d5), (.slice (some ⟨w3.heap.size, 0, none⟩) j j)] :: (row :: rowsS 5 vs qL) :: segB 5 (.slice B4 qk.length d4) qk :: segB 5 (.slice B3 qm.length d3) qm :: segB 5 (.slice B2 k.length d2) k :: segB 5 (.slice B1 m.length d1) m :: segX 42 w.heap.size [.int .i64 0, .int .i64 0, .int .i64 0, .slice none 0 0, .slice none 0 0, .int .i64 0, .int .i64 0, .slice none 0 0, .slice none 0 0, .slice none 0 0, .slice none 0 0] :: ss) := ⟨i0, i1, i2, i3, i4, bb, qq, K2.out, fun h => absurd h hre⟩
        have DH := Lib.hid D9
        have HR0 := Lib.hid hre
        clear D9 L0 L1 L2 K1 K2 HD HQQ hre
        go_wp2_with fail
        refine (stop_err I T W _ g v n pj RE _ DH.out HR0.out).mono ?_
        rintro ev w9 ⟨rfl, hb⟩
        exact ⟨rfl, bkpost_err rfl HR0.out rfl (hb.sub (.cons _ (.cons _ (.cons _ (.cons _ (.cons _ (.cons _ (.cons _ (.cons _ (List.Sublist.refl _))))))))))⟩
end Go.Proofs.YtdoaikanaodefaaGreatDoor
