import Derived.Test.YtdoaikanaodefaaGreatDoorBkBlock
import Derived.Defers
import Derived.Recover
import Derived.Laws.Pointers
/- GetBlock of the program: the deferred closure that recovers, and the function. -/
namespace Go.Proofs.YtdoaikanaodefaaGreatDoor
open Go.ChangeShapes Go.WideShapes Go.ChangeAt Go.RowKit

theorem assert_err (e : Int) (w : World) : (Instr.typeAssert (.iface 76 (.agg #[.int .i64 e])) 20 76 true).run Tryz.prog w = .ok (.tuple #[.agg #[.int .i64 e], .bool true]) w := by kernel_rfl
theorem assert_nil (w : World) : (Instr.typeAssert .nilIface 20 76 true).run Tryz.prog w = .ok (.tuple #[.agg #[.int .i64 0], .bool false]) w := by kernel_rfl
set_option maxRecDepth 100000 in
set_option maxHeartbeats 2000000 in
theorem catch_err (p : Addr) (x e : Int) (w : World) (hc : w.cell? p = some (.int .i64 x)) (hz : w.frozen? p = false) (hb : p.block < w.heap.size) :
    CallsD Tryz.prog 44 #[.pointer (some p)] (.panicking [{ v := .iface 76 (.agg #[.int .i64 e]), recovered := false }]) w fun ev u' w' =>
      ev = .returned (.tuple #[]) ∧ u' = .panicking [{ v := .iface 76 (.agg #[.int .i64 e]), recovered := true }] ∧ w' = (w.alloc (.cells #[.int .i64 e] 76)).setCell p (.int .i64 e) := by
  have hA := assert_err
  refine callsD_of_wpS Tryz.func44 rfl fun c₀ cs hu => ?_
  apply wpS_seq
  apply wpS_region
  simp [wpOpsS, go_sem, recoverD, hu, Tryz.ntmps44, Exit.thenS, hA]
  apply wpS_seq
  apply wpS_region
  simp [wpOpsS, go_sem, Exit.thenS]
  refine wpS_cond (t := true) (by simp [Act.eval, Array.replicate]) ?_
  simp only [if_true]
  have hB : Below w.heap.size w (w.alloc (.cells #[.int .i64 e] 76)) := (Below.refl _ _).alloc (Nat.le_refl _) _
  have h1 := (hB.cell (p := p) hb).trans hc
  have h2 := (hB.frozen (p := p) hb).trans hz
  apply wpS_region
  simp [wpOpsS, go_sem, h1, h2, bodyPostS, results, Tryz.results44, Array.replicate]
set_option maxRecDepth 100000 in
set_option maxHeartbeats 2000000 in
theorem catch_idle (p : Addr) (w : World) :
    CallsD Tryz.prog 44 #[.pointer (some p)] .returning w fun ev u' w' => ev = .returned (.tuple #[]) ∧ u' = .returning ∧ w' = w.alloc (.cells #[.int .i64 0] 76) := by
  have hA := assert_nil
  refine callsD_of_wpS Tryz.func44 rfl fun c₀ cs hu => ?_
  apply wpS_seq
  apply wpS_region
  simp [wpOpsS, go_sem, recoverD, hu, Tryz.ntmps44, Exit.thenS, hA]
  apply wpS_seq
  apply wpS_region
  simp [wpOpsS, go_sem, Exit.thenS]
  refine wpS_cond (t := false) (by simp [Act.eval, Array.replicate]) ?_
  simp only [Bool.false_eq_true, if_false]
  refine wpS_of_wp (wp_skip ?_)
  cases c₀
  simp_all [bodyPostS, results, Tryz.results44]

/-- One cell that is no row is read. -/
theorem run_loadVar_one {P : Program} (w : World) (g o : Nat) (ti : TypeId) (v : Value) (d : TypeDesc) (hu : P.underlying ti = some d) (hd : d.isRow = false) (hc : w.cell? ⟨g, o, none⟩ = some v) : (loadVar ti ⟨g, o, none⟩).run P w = .ok v w := by
  have hagg : (isAgg ti).run P w = .ok false w := by
    unfold isAgg
    rw [Sem.run_bind, run_underlying hu w]
    cases d <;> simp_all
  simp [loadVar, Sem.run_bind, hagg, go_sem, hc]
/-- Results: a variable of many cells, a slot, a variable of one cell. -/
theorem results_c3 {P : Program} {fn : Func} {p s q : Tmp} {ty ti : TypeId} (h : fn.results = #[.cell p ty, .tmp s, .cell q ti]) (tmps : Array Value) (w : World) (g o g2 : Nat) (cs : List Value) (d d2 : TypeDesc) (x y : Value)
    (hp : tmps.getD p undef = .pointer (some ⟨g, o, none⟩)) (hx : tmps.getD s undef = x) (hq : tmps.getD q undef = .pointer (some ⟨g2, 0, none⟩)) (hr : w.rangeAt g o cs) (hu : P.underlying ty = some d) (hd : d.isRow = true) (hi : (P.info? ty).map (·.size) = some cs.length)
    (hu2 : P.underlying ti = some d2) (hd2 : d2.isRow = false) (hc : w.cell? ⟨g2, 0, none⟩ = some y) :
    (results fn tmps).run P w = .ok (.tuple #[.agg cs.toArray, x, y]) w := by
  have hp' : tmps[p]?.getD undef = .pointer (some ⟨g, o, none⟩) := by simpa using hp
  have hx' : tmps[s]?.getD undef = x := by simpa using hx
  have hq' : tmps[q]?.getD undef = .pointer (some ⟨g2, 0, none⟩) := by simpa using hq
  simp [results, h, hp', hx', hq', asAddr, run_loadVar_mid w g o ty cs d hr hu hd hi, run_loadVar_one w g2 0 ti y d2 hu2 hd2 hc]
end Go.Proofs.YtdoaikanaodefaaGreatDoor
/- GetBlock of the program. -/
namespace Go.Proofs.YtdoaikanaodefaaGreatDoor
open Go.ChangeShapes Go.WideShapes Go.ChangeAt Go.RowKit

set_option maxRecDepth 100000 in
set_option maxHeartbeats 8000000 in
theorem implGetBlock_any (a b c d e p : Int) (v : Value) (l : List UInt8) (w : World) (hv : Sp w w.heap.size v l) (hl : l.length ≤ 1073741824) (hp : p ≤ 9223372036854775807) (hlim : limE a b c d e = 0 → b ≤ 40 ∧ c ≤ 8) (hgI : Glob w 0 initW) (hgG : Glob w 1 kk) :
    Calls Tryz.prog 19 #[.agg #[.int .i64 a, .int .i64 b, .int .i64 c, .int .i64 d, .int .i64 e], v, .int .i64 p] w (GotBk w (bkAt l a b c p (limE a b c d e))) := by
  have HV := Lib.hid hv
  have HP := Lib.hid hp
  have HL := Lib.hid hl
  have HGI := Lib.hid hgI
  have HGG := Lib.hid hgG
  obtain ⟨A, n, rfl, k1⟩ := hv.sl
  clear k1 hv hp
  have c0 := fun W h => decoderAt_any a b c d e p (.slice A l.length n) W l h
  obtain ⟨e0, he0⟩ : ∃ e0, e0 = limE a b c d e := ⟨_, rfl⟩
  rw [← he0] at c0 hlim ⊢
  have C0 := Lib.hid c0
  have HLIM := Lib.hid hlim
  clear c0 he0 hlim hgI hgG
  obtain ⟨r, hr⟩ : ∃ r, r = bkAt l a b c p e0 := ⟨_, rfl⟩
  rw [← hr]
  have HR := Lib.hid hr
  clear hr
  obtain ⟨⟨x, y, z, m, k, ⟨qx, qy, qm, qk, qL, qp, qe⟩, he⟩, T, tp, ee⟩ := r
  have H0 := (((InvF.start w).newG 35 #[.int .i64 a, .int .i64 b, .int .i64 c, .int .i64 d, .int .i64 e] w.heap.size).newG 42 #[.int .i64 0, .int .i64 0, .int .i64 0, .slice none 0 0, .slice none 0 0, .int .i64 0, .int .i64 0, .slice none 0 0, .slice none 0 0, .slice none 0 0, .slice none 0 0] (w.heap.size + 1)).newG 3 #[.int .i64 0] (w.heap.size + 1 + 1)
  have hmf : ∀ (f : Fn) (first cap : Array Value) (w : World), (Instr.makeFunc f first cap).run Tryz.prog w = .ok (.func f first cap) w := fun _ _ _ _ => rfl
  go_enter_defers Tryz.func19, Tryz.ntmps19
  go_wp2_with fail
  refine (C0.out _ (HV.out.up H0.bel).sl).mono ?_
  rintro ev w1 ⟨i0, i1, i2, i3, i4, B, n1, m1, q, rfl, hq, hb1⟩
  have H1 := H0.up hb1
  clear H0 hb1 C0
  have HQ := Lib.hid hq
  clear hq
  have hst2 : ∀ (W : World) (a : Addr) (m : Mode), (store a (errV e0) m).run Tryz.prog W = stored Tryz.prog W a (errV e0) m := fun W a m => run_store Tryz.prog W a (errV e0) m (errV_cell e0)
  go_wp2_with fail
  have H2 := H1.newX 88 #[.int .i64 i0, .int .i64 i1, .int .i64 i2, .int .i64 i3, .int .i64 i4, .slice B n1 m1, .int .i64 q, errV e0]
  clear H1
  have D2 : Dec (b, c, d, e) 88 w _ w1.heap.size (.slice A l.length n) a p e0 [segX 3 (w.heap.size + 1 + 1) [.int .i64 0], segX 42 (w.heap.size + 1) [.int .i64 0, .int .i64 0, .int .i64 0, .slice none 0 0, .slice none 0 0, .int .i64 0, .int .i64 0, .slice none 0 0, .slice none 0 0, .slice none 0 0, .slice none 0 0], segX 35 w.heap.size [.int .i64 a, .int .i64 b, .int .i64 c, .int .i64 d, .int .i64 e]] := ⟨_, _, _, _, _, _, _, H2, HQ.out⟩
  clear H2 HQ
  refine (block_any (b, c, d, e) 88 w _ w1.heap.size _ l a p e0 _ D2 HV.out HL.out HP.out HLIM.out HGI.out HGG.out).mono ?_
  dsimp only
  rw [← HR.out]
  clear D2 hst2
  rintro ev w3 hpost
  by_cases hz : ee = 0
  · obtain ⟨u1, u2, u3, u4, u5, u6, row, vs, vt, rfl, hvs, hrd, hvt, D3⟩ := hpost.1 hz
    subst hz
    clear hpost
    dsimp only at hvs hrd hvt D3 ⊢
    have hg : u6 = u6 := rfl
    clear hg
    obtain ⟨B6, d6, rfl⟩ := D3.rest.openS hvt (.head _)
    obtain ⟨B5, d5, rfl⟩ := D3.rest.openT hvs hrd
    obtain ⟨B4, d4, rfl⟩ := D3.rest.openB' (.tail _ (.tail _ (.head _)))
    obtain ⟨B3, d3, rfl⟩ := D3.rest.openB' (.tail _ (.tail _ (.tail _ (.head _))))
    obtain ⟨B2, d2, rfl⟩ := D3.rest.openB' (.tail _ (.tail _ (.tail _ (.tail _ (.head _)))))
    obtain ⟨B1, d1, rfl⟩ := D3.rest.openB' (.tail _ (.tail _ (.tail _ (.tail _ (.tail _ (.head _))))))
    have HVS := Lib.hid hvs
    have HRD := Lib.hid hrd
    have HVT := Lib.hid hvt
    clear hvs hrd hvt
    obtain ⟨j0, j1, j2, j3, j4, bb, qq, K3, hqq⟩ := D3
    obtain rfl : qq = tp := (hqq rfl).2.1
    clear hqq
    replace K3 : InvF w w3 (segX 88 w1.heap.size [.int .i64 j0, .int .i64 j1, .int .i64 j2, .int .i64 j3, .int .i64 j4, bb, .int .i64 qq, errV 0] :: segS 24 5 (.slice B6 T.length d6) vt T :: (row :: rowsS 5 vs qL) :: segB 5 (.slice B4 qk.length d4) qk :: segB 5 (.slice B3 qm.length d3) qm :: segB 5 (.slice B2 k.length d2) k :: segB 5 (.slice B1 m.length d1) m :: [segX 3 (w.heap.size + 1 + 1) [.int .i64 0], segX 42 (w.heap.size + 1) [.int .i64 0, .int .i64 0, .int .i64 0, .slice none 0 0, .slice none 0 0, .int .i64 0, .int .i64 0, .slice none 0 0, .slice none 0 0, .slice none 0 0, .slice none 0 0], segX 35 w.heap.size [.int .i64 a, .int .i64 b, .int .i64 c, .int .i64 d, .int .i64 e]]) := K3
    have HY := Lib.hid (fun ev w' => gotk_yes (w := w) (r := ⟨⟨x, y, z, m, k, ⟨qx, qy, qm, qk, qL, qp, qe⟩, he⟩, T, qq, 0⟩) (e := ev) (w' := w') rfl)
    have hT2 := K3.thereX (.tail _ (.tail _ (.tail _ (.tail _ (.tail _ (.tail _ (.tail _ (.tail _ (.head _))))))))) 0 11 (by simp)
    have K4 := (K3.front 8 rfl).sets11 (.int .i64 x) (.int .i64 y) (.int .i64 z) (.slice B1 m.length d1) (.slice B2 k.length d2) (.int .i64 qx) (.int .i64 qy) (.slice B3 qm.length d3) (.slice B4 qk.length d4) (.slice B5 qL.length d5) (.slice B6 T.length d6)
    clear K3 HV HP HR HLIM HGI HGG
    go_simp
    go_step
    refine wpList_store_mid rfl 42 (.tmp 6) (.tmp 18) rfl (w.heap.size + 1) 0 #[.int .i64 x, .int .i64 y, .int .i64 z, .slice B1 m.length d1, .slice B2 k.length d2, .int .i64 qx, .int .i64 qy, .slice B3 qm.length d3, .slice B4 qk.length d4, .slice B5 qL.length d5, .slice B6 T.length d6] rfl rfl hT2 (by kernel_rfl) (by simp [Value.oneCell']) ?_
    generalize w3.setCells (w.heap.size + 1) 0 [.int .i64 x, .int .i64 y, .int .i64 z, .slice B1 m.length d1, .slice B2 k.length d2, .int .i64 qx, .int .i64 qy, .slice B3 qm.length d3, .slice B4 qk.length d4, .slice B5 qL.length d5, .slice B6 T.length d6] = w4 at *
    replace K4 : InvF w w4 (segX 42 (w.heap.size + 1) [.int .i64 x, .int .i64 y, .int .i64 z, (.slice B1 m.length d1), (.slice B2 k.length d2), .int .i64 qx, .int .i64 qy, (.slice B3 qm.length d3), (.slice B4 qk.length d4), (.slice B5 qL.length d5), (.slice B6 T.length d6)] :: segX 88 w1.heap.size [.int .i64 j0, .int .i64 j1, .int .i64 j2, .int .i64 j3, .int .i64 j4, bb, .int .i64 qq, errV 0] :: segS 24 5 (.slice B6 T.length d6) vt T :: (row :: rowsS 5 vs qL) :: segB 5 (.slice B4 qk.length d4) qk :: segB 5 (.slice B3 qm.length d3) qm :: segB 5 (.slice B2 k.length d2) k :: segB 5 (.slice B1 m.length d1) m :: [segX 3 (w.heap.size + 1 + 1) [.int .i64 0], segX 35 w.heap.size [.int .i64 a, .int .i64 b, .int .i64 c, .int .i64 d, .int .i64 e]]) := K4
    have KD := Lib.hid K4.drew1
    have L0 := Lib.hid (And.intro (KD.out.atX (.tail _ (.head _)) 6 rfl) (KD.out.c11 (.head _)))
    have KA0 := K4.over11 (.int .i64 x) (.int .i64 y) (.int .i64 z) (.slice B1 m.length d1) (.slice B2 k.length d2) (.int .i64 qx) (.int .i64 qy) (.slice B3 qm.length d3) (.slice B4 qk.length d4) (.slice B5 qL.length d5) (.slice B6 T.length d6)
    have KA := Lib.hid KA0.drew1
    have L1 := Lib.hid (And.intro (KA.out.atX (.tail _ (.head _)) 6 rfl) (KA.out.c11 (.head _)))
    have KB := Lib.hid (((KA0.front 8 rfl).setX 0 (.int .i64 0)).drew1)
    clear KA0
    have L2 := Lib.hid (And.intro (KB.out.atX (.tail _ (.tail _ (.head _))) 6 rfl) (KB.out.c11 (.tail _ (.head _))))
    obtain ⟨r0, r1, r2, r3, r4, r5, r6, r7, r8, r9, r10⟩ := K4.c11 (.head _)
    obtain ⟨f0, f1, f2, f3, f4, f5, f6, f7, f8, f9, f10⟩ := K4.f11 (.head _)
    have g0 := K4.atX (.tail _ (.tail _ (.tail _ (.tail _ (.tail _ (.tail _ (.tail _ (.tail _ (.head _))))))))) 0 rfl
    have g1 := K4.frX (.tail _ (.tail _ (.tail _ (.tail _ (.tail _ (.tail _ (.tail _ (.tail _ (.head _))))))))) 0
    have h7 := K4.ltX (.head _)
    have h8 := K4.ltX (.tail _ (.tail _ (.tail _ (.tail _ (.tail _ (.tail _ (.tail _ (.tail _ (.head _)))))))))
    clear K4 hT2
    go_wp2_with fail
    go_region_held3 (fun w' => w'.cell? ⟨w1.heap.size, 6, none⟩ = some (.int .i64 qq) ∧ w'.cell? ⟨w.heap.size + 1, 0, none⟩ = some (.int .i64 x) ∧ w'.cell? ⟨w.heap.size + 1, 1, none⟩ = some (.int .i64 y) ∧ w'.cell? ⟨w.heap.size + 1, 2, none⟩ = some (.int .i64 z) ∧ w'.cell? ⟨w.heap.size + 1, 3, none⟩ = some (.slice B1 m.length d1) ∧ w'.cell? ⟨w.heap.size + 1, 4, none⟩ = some (.slice B2 k.length d2) ∧ w'.cell? ⟨w.heap.size + 1, 5, none⟩ = some (.int .i64 qx) ∧ w'.cell? ⟨w.heap.size + 1, 6, none⟩ = some (.int .i64 qy) ∧ w'.cell? ⟨w.heap.size + 1, 7, none⟩ = some (.slice B3 qm.length d3) ∧ w'.cell? ⟨w.heap.size + 1, 8, none⟩ = some (.slice B4 qk.length d4) ∧ w'.cell? ⟨w.heap.size + 1, 9, none⟩ = some (.slice B5 qL.length d5) ∧ w'.cell? ⟨w.heap.size + 1, 10, none⟩ = some (.slice B6 T.length d6))
      (first
        | with_reducible exact L0.out
        | with_reducible exact L1.out
        | with_reducible exact L2.out)
      (fail)
    repeat go_step
    have KC := KB.out.up ((Below.refl _ _).alloc (Nat.le_refl _) (.cells #[.int .i64 0] 76))
    have hR := KC.rangeX (.tail _ (.head _))
    have hcc := KC.atX (.head _) 0 rfl
    have KS := Lib.hid (KC.sub (qs := [segS 24 5 (.slice B6 T.length d6) vt T, (row :: rowsS 5 vs qL), segB 5 (.slice B4 qk.length d4) qk, segB 5 (.slice B3 qm.length d3) qm, segB 5 (.slice B2 k.length d2) k, segB 5 (.slice B1 m.length d1) m]) (.cons _ (.cons _ (.cons _ (.cons_cons _ (.cons_cons _ (.cons_cons _ (.cons_cons _ (.cons_cons _ (.cons_cons _ (.cons _ .slnil)))))))))))
    have HRT := Lib.hid (reads0_row (KC.2.1 _ (InvF.mem (.tail _ (.tail _ (.tail _ (.head _)))) (.head _))))
    clear L0 L1 L2 KD KA
    refine leaves_cons (f := 44) (args := #[.pointer (some ⟨w.heap.size + 1 + 1, 0, none⟩)]) (by simp) (by simp [go_sem]) ?_
    refine (catch_idle ⟨w.heap.size + 1 + 1, 0, none⟩ _).mono ?_
    rintro ev u' w'' ⟨rfl, rfl, rfl⟩
    refine ⟨_, results_c3 Tryz.results19 _ _ (w.heap.size + 1) 0 (w.heap.size + 1 + 1) [.int .i64 x, .int .i64 y, .int .i64 z, .slice B1 m.length d1, .slice B2 k.length d2, .int .i64 qx, .int .i64 qy, .slice B3 qm.length d3, .slice B4 qk.length d4, .slice B5 qL.length d5, .slice B6 T.length d6] _ _ (.int .i64 qq) (.int .i64 0) rfl rfl rfl hR Tryz.underlying42 rfl (by kernel_rfl) Tryz.underlying3 rfl hcc, ?_⟩
    exact HY.out _ _ ⟨_, _, _, _, _, _, row, vs, _, vt, rfl, HVS.out, HRD.out, HVT.out, HRT.out, KS.out.perm (List.reverse_perm _).symm⟩
  · obtain ⟨rfl, K3⟩ := hpost.2 hz
    have HNo := Lib.hid (fun ev w' => gotk_no (w := w) (r := ⟨⟨x, y, z, m, k, ⟨qx, qy, qm, qk, qL, qp, qe⟩, he⟩, T, tp, ee⟩) (e := ev) (w' := w') hz)
    have hg0 := K3.atX (.head _) 0 rfl
    have hg1 := K3.frX (.head _) 0
    have hg2 := K3.ltX (.head _)
    have KH := Lib.hid K3
    dsimp only
    rw [errV_no hz]
    clear hpost K3 hz HV HP HR HLIM HGI HGG
    go_simp
    have KC := (KH.out.up ((Below.refl _ _).alloc (Nat.le_refl _) (.cells #[.int .i64 ee] 76))).setX 0 (.int .i64 ee)
    have hR := KC.rangeX (.tail _ (.head _))
    have hcc := KC.atX (.head _) 0 rfl
    have HB := Lib.hid KC.bel
    clear KC KH
    refine leaves_cons (f := 44) (args := #[.pointer (some ⟨w.heap.size + 1 + 1, 0, none⟩)]) (by simp) (by simp [go_sem]) ?_
    refine (catch_err ⟨w.heap.size + 1 + 1, 0, none⟩ 0 ee _ hg0 hg1 hg2).mono ?_
    rintro ev u' w'' ⟨rfl, rfl, rfl⟩
    refine ⟨_, results_c3 Tryz.results19 _ _ (w.heap.size + 1) 0 (w.heap.size + 1 + 1) [.int .i64 0, .int .i64 0, .int .i64 0, .slice none 0 0, .slice none 0 0, .int .i64 0, .int .i64 0, .slice none 0 0, .slice none 0 0, .slice none 0 0, .slice none 0 0] _ _ (.int .i64 0) (.int .i64 ee) rfl rfl rfl hR Tryz.underlying42 rfl (by kernel_rfl) Tryz.underlying3 rfl hcc, ?_⟩
    exact HNo.out _ _ rfl HB.out
end Go.Proofs.YtdoaikanaodefaaGreatDoor
