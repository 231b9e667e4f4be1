/- BlockOf, of the program and of its model. -/
import Derived.Test.YtdoaikanaodefaaGreatDoorBlockOk
import Derived.Test.YtdoaikanaodefaaGreatDoorHeadCopy
import Derived.Test.YtdoaikanaodefaaGreatDoorSpecCopy
namespace Go.Proofs.YtdoaikanaodefaaGreatDoor
open Go.ChangeShapes Go.WideShapes Go.ChangeAt Go.RowKit

/-- A result that lies in a variable of the call's own, and a value beside it. -/
theorem results_cell2_mid {P : Program} {fn : Func} {p s : Tmp} {ty : TypeId} (h : fn.results = #[.cell p ty, .tmp s]) (tmps : Array Value) (w : World) (g o : Nat) (cs : List Value) (d : TypeDesc) (x : Value)
    (hp : tmps.getD p undef = .pointer (some ⟨g, o, none⟩)) (hx : tmps.getD s undef = x) (hr : w.rangeAt g o cs) (hu : P.underlying ty = some d) (hd : d.isRow = true) (hi : (P.info? ty).map (·.size) = some cs.length) :
    (results fn tmps).run P w = .ok (.tuple #[.agg cs.toArray, x]) w := by
  have hp' : tmps[p]?.getD undef = .pointer (some ⟨g, o, none⟩) := by simpa using hp
  have hx' : tmps[s]?.getD undef = x := by simpa using hx
  simp [results, h, hp', hx', asAddr, run_loadVar_mid w g o ty cs d hr hu hd hi]
/-- A value if the block is valid, else none. -/
def selI (b : Bool) (x : Int) : Int := if b = true then x else 0
def selL (b : Bool) (l : List UInt8) : List UInt8 := if b = true then l else []
def selS (b : Bool) (L : List (List UInt8)) : List (List UInt8) := if b = true then L else []
theorem selL_len (b : Bool) (l : List UInt8) : (selL b l).length ≤ l.length := by unfold selL; split <;> simp
theorem selS_sum (b : Bool) (L : List (List UInt8)) : sumL (selS b L) ≤ sumL L := by unfold selS; split <;> simp [sumL]

/-- The call returns a block of new rows and a bool; nothing that was there has turned. -/
def FreshGB (w : World) (x y z qx qy : Int) (l k ql qk : List UInt8) (L T : List (List UInt8)) (c : Bool) (e : Ending) (w' : World) : Prop :=
  ∃ a b qa qb qs t vs vt, e = .returned (.tuple #[.agg #[.int .i64 x, .int .i64 y, .int .i64 z, a, b, .int .i64 qx, .int .i64 qy, qa, qb, qs, t], .bool c]) ∧ vs.length = L.length ∧ vt.length = T.length ∧ InvF w w' [segB 5 a l, segB 5 b k, segB 5 qa ql, segB 5 qb qk, segS 24 5 qs vs L, segS 24 5 t vt T]
/-- What BlockOf answers: the block if it is valid. -/
def GotB (w : World) (x y z qx qy : Int) (l k ql qk : List UInt8) (L T : List (List UInt8)) (c : Bool) : Ending → World → Prop := FreshGB w (selI c x) (selI c y) (selI c z) (selI c qx) (selI c qy) (selL c l) (selL c k) (selL c ql) (selL c qk) (selS c L) (selS c T) c
theorem gotB_yes {w : World} {x y z qx qy : Int} {l k ql qk : List UInt8} {L T : List (List UInt8)} {e : Ending} {w' : World} (h : FreshGB w x y z qx qy l k ql qk L T true e w') : GotB w x y z qx qy l k ql qk L T true e w' := h
theorem gotB_no {w : World} {x y z qx qy : Int} {l k ql qk : List UInt8} {L T : List (List UInt8)} {e : Ending} {w' : World} (he : e = .returned (.tuple #[.agg #[.int .i64 0, .int .i64 0, .int .i64 0, .slice none 0 0, .slice none 0 0, .int .i64 0, .int .i64 0, .slice none 0 0, .slice none 0 0, .slice none 0 0, .slice none 0 0], .bool false])) (hb : Below w.heap.size w w') : GotB w x y z qx qy l k ql qk L T false e w' := by
  have hg : ∀ (w : World) (B : Nat), GOwn w B (24, .slice none 0 0, []) := fun w B => World.ownsRow_nil _ _ _ _
  refine ⟨.slice none 0 0, .slice none 0 0, .slice none 0 0, .slice none 0 0, .slice none 0 0, .slice none 0 0, [], [], he, rfl, rfl, ?_⟩
  have h0 : InvF w w [segS 24 5 (.slice none 0 0) [] []] := (InvF.start w).more (s := segS 24 5 (.slice none 0 0) [] []) ((InvG.start w).moreG (hg _ _) (Below.refl _ _))
  have h1 := h0.more (s := segS 24 5 (.slice none 0 0) [] []) ((InvG.start w).moreG (hg _ _) (Below.refl _ _))
  have h2 := h1.moreB (E := 5) (v := .slice none 0 0) (l := []) (World.ownsRow_nil _ _ _ _) (Below.refl _ _)
  have h3 := h2.moreB (E := 5) (v := .slice none 0 0) (l := []) (World.ownsRow_nil _ _ _ _) (Below.refl _ _)
  have h4 := h3.moreB (E := 5) (v := .slice none 0 0) (l := []) (World.ownsRow_nil _ _ _ _) (Below.refl _ _)
  have h5 := h4.moreB (E := 5) (v := .slice none 0 0) (l := []) (World.ownsRow_nil _ _ _ _) hb
  exact h5

set_option maxRecDepth 100000 in
set_option maxHeartbeats 8000000 in
theorem specBlockOf_any (a b c d e x y z qx qy : Int) (u v qu qv qs t : Value) (l k ql qk : List UInt8) (L T : List (List UInt8)) (w : World) (hu : Sl w w.heap.size u l) (hv : Sl w w.heap.size v k) (hqu : Sl w w.heap.size qu ql) (hqv : Sl w w.heap.size qv qk) (hqs : SlS w w.heap.size qs L) (ht : SlS w w.heap.size t T) (hl : l.length ≤ 1048576) (hk : k.length ≤ 1048576) (hql : ql.length ≤ 1048576) (hqk : qk.length ≤ 1048576) (hL : L.length ≤ 1048576) (hN : sumL L ≤ 1048576) (hT : T.length ≤ 1048576) (hNT : sumL T ≤ 1048576) :
    Calls Tryz.prog 23 #[.agg #[.int .i64 a, .int .i64 b, .int .i64 c, .int .i64 d, .int .i64 e], .agg #[.int .i64 x, .int .i64 y, .int .i64 z, u, v, .int .i64 qx, .int .i64 qy, qu, qv, qs], t] w (GotB w x y z qx qy l (treeL T) ql qk L T (blockB a b c d e x y z qx qy l (treeL T) ql qk L T)) := by
  obtain ⟨A, ac, rfl, p1, p2, p0, p3⟩ := id hu
  clear p1 p2 p0 p3
  have HU := Lib.hid hu
  obtain ⟨B, bc, rfl, p1, p2, p0, p3⟩ := id hv
  clear p1 p2 p0 p3
  have HV := Lib.hid hv
  obtain ⟨C, cc, rfl, p1, p2, p0, p3⟩ := id hqu
  clear p1 p2 p0 p3
  have HQU := Lib.hid hqu
  obtain ⟨D, dc, rfl, p1, p2, p0, p3⟩ := id hqv
  clear p1 p2 p0 p3
  have HQV := Lib.hid hqv
  obtain ⟨E, ec, rfl, p1, p2, p0, p3⟩ := id hqs
  clear p1 p2 p0 p3
  have HQS := Lib.hid hqs
  obtain ⟨F, fc, rfl, p1, p2, p0, p3⟩ := id ht
  clear p1 p2 p0 p3
  have HT := Lib.hid ht
  have C0 := Lib.hid (fun W h => specTreeRoot_any (.slice F T.length fc) T W h (by omega) (by omega))
  have C1 := Lib.hid (fun v0 v1 v2 v3 v4 v5 W h0 h1 h2 h3 h4 h5 => specBlockOk_any a b c d e x y z qx qy v0 v1 v2 v3 v4 v5 l (treeL T) ql qk L T W h0 h1 h2 h3 h4 h5 (by omega) (by omega) (by omega))
  obtain ⟨OK, hB⟩ : ∃ B, B = blockB a b c d e x y z qx qy l (treeL T) ql qk L T := ⟨_, rfl⟩
  simp only [← hB] at C1
  rw [← hB]
  obtain ⟨r, hr⟩ : ∃ r, r = treeL T := ⟨_, rfl⟩
  simp only [← hr] at C0 C1
  rw [← hr]
  clear hB hr hu hv hqu hqv hqs ht
  have H0 : InvF w _ [segX 42 (w.heap.size + 1 + 1) [.int .i64 0, .int .i64 0, .int .i64 0, .slice none 0 0, .slice none 0 0, .int .i64 0, .int .i64 0, .slice none 0 0, .slice none 0 0, .slice none 0 0, .slice none 0 0], segX 40 (w.heap.size + 1) [.int .i64 x, .int .i64 y, .int .i64 z, (.slice A l.length ac), (.slice B k.length bc), .int .i64 qx, .int .i64 qy, (.slice C ql.length cc), (.slice D qk.length dc), (.slice E L.length ec)], segX 35 w.heap.size [.int .i64 a, .int .i64 b, .int .i64 c, .int .i64 d, .int .i64 e]] := (((InvF.start w).newG 35 #[.int .i64 a, .int .i64 b, .int .i64 c, .int .i64 d, .int .i64 e] w.heap.size).newG 40 #[.int .i64 x, .int .i64 y, .int .i64 z, .slice A l.length ac, .slice B k.length bc, .int .i64 qx, .int .i64 qy, .slice C ql.length cc, .slice D qk.length dc, .slice E L.length ec] (w.heap.size + 1)).newG 42 #[.int .i64 0, .int .i64 0, .int .i64 0, .slice none 0 0, .slice none 0 0, .int .i64 0, .int .i64 0, .slice none 0 0, .slice none 0 0, .slice none 0 0, .slice none 0 0] (w.heap.size + 1 + 1)
  go_enter Tryz.func23, Tryz.ntmps23
  go_wp2_with fail
  refine (l13Copy_any x y z qx qy _ _ _ _ _ l k ql qk L _ (HU.out.up H0.bel) (HV.out.up H0.bel) (HQU.out.up H0.bel) (HQV.out.up H0.bel) (HQS.out.up H0.bel) hl hk hql hqk hL hN).mono ?_
  rintro ev w1 ⟨u1, u2, u3, u4, u5, vs, rfl, hvs, K⟩
  have H1 : InvF w w1 [segB 5 u1 l, segB 5 u2 k, segB 5 u3 ql, segB 5 u4 qk, segS 24 5 u5 vs L, segX 42 (w.heap.size + 1 + 1) [.int .i64 0, .int .i64 0, .int .i64 0, .slice none 0 0, .slice none 0 0, .int .i64 0, .int .i64 0, .slice none 0 0, .slice none 0 0, .slice none 0 0, .slice none 0 0], segX 40 (w.heap.size + 1) [.int .i64 x, .int .i64 y, .int .i64 z, (.slice A l.length ac), (.slice B k.length bc), .int .i64 qx, .int .i64 qy, (.slice C ql.length cc), (.slice D qk.length dc), (.slice E L.length ec)], segX 35 w.heap.size [.int .i64 a, .int .i64 b, .int .i64 c, .int .i64 d, .int .i64 e]] := H0.moreF K
  clear H0 K
  obtain ⟨A1, c1, rfl⟩ := H1.openB' (.head _)
  obtain ⟨A2, c2, rfl⟩ := H1.openB' (.tail _ (.head _))
  obtain ⟨A3, c3, rfl⟩ := H1.openB' (.tail _ (.tail _ (.head _)))
  obtain ⟨A4, c4, rfl⟩ := H1.openB' (.tail _ (.tail _ (.tail _ (.head _))))
  obtain ⟨A5, c5, rfl⟩ := H1.openS hvs (.tail _ (.tail _ (.tail _ (.tail _ (.head _)))))
  have HVS := Lib.hid hvs
  clear hvs
  go_wp2_with fail
  refine (l06Copy_any _ T _ (HT.out.up H1.bel) hT hNT).mono ?_
  rintro ev w2 ⟨u6, vt, rfl, hvt, K⟩
  have H2 := H1.more (s := segS 24 5 u6 vt T) K
  clear H1 K
  obtain ⟨A6, c6, rfl⟩ := H2.openS hvt (.head _)
  have HVT := Lib.hid hvt
  clear hvt
  go_wp2_with fail
  have H3 := H2.newX 42 #[.int .i64 x, .int .i64 y, .int .i64 z, .slice A1 l.length c1, .slice A2 k.length c2, .int .i64 qx, .int .i64 qy, .slice A3 ql.length c3, .slice A4 qk.length c4, .slice A5 L.length c5, .slice A6 T.length c6]
  clear H2
  refine (C0.out _ (HT.out.up H3.bel)).mono ?_
  rintro ev w3 ⟨u7, rfl, ho7, hb7⟩
  have H4 : InvF w w3 [segB 5 u7 r, segX 42 w2.heap.size [.int .i64 x, .int .i64 y, .int .i64 z, (.slice A1 l.length c1), (.slice A2 k.length c2), .int .i64 qx, .int .i64 qy, (.slice A3 ql.length c3), (.slice A4 qk.length c4), (.slice A5 L.length c5), (.slice A6 T.length c6)], segS 24 5 (.slice A6 T.length c6) vt T, segB 5 (.slice A1 l.length c1) l, segB 5 (.slice A2 k.length c2) k, segB 5 (.slice A3 ql.length c3) ql, segB 5 (.slice A4 qk.length c4) qk, segS 24 5 (.slice A5 L.length c5) vs L, segX 42 (w.heap.size + 1 + 1) [.int .i64 0, .int .i64 0, .int .i64 0, .slice none 0 0, .slice none 0 0, .int .i64 0, .int .i64 0, .slice none 0 0, .slice none 0 0, .slice none 0 0, .slice none 0 0], segX 40 (w.heap.size + 1) [.int .i64 x, .int .i64 y, .int .i64 z, (.slice A l.length ac), (.slice B k.length bc), .int .i64 qx, .int .i64 qy, (.slice C ql.length cc), (.slice D qk.length dc), (.slice E L.length ec)], segX 35 w.heap.size [.int .i64 a, .int .i64 b, .int .i64 c, .int .i64 d, .int .i64 e]] := H3.moreB ho7 hb7
  clear H3 ho7 hb7
  obtain ⟨A7, c7, rfl⟩ := H4.openB' (.head _)
  obtain ⟨o0, o1, o2, o3, o4, o5, o6, o7, o8, o9, o10⟩ := H4.c11 (.tail _ (.head _))
  obtain ⟨f0, f1, f2, f3, f4, f5, f6, f7, f8, f9, f10⟩ := H4.f11 (.tail _ (.head _))
  obtain ⟨t0, t1, t2, t3, t4⟩ := H4.c5 (.tail _ (.tail _ (.tail _ (.tail _ (.tail _ (.tail _ (.tail _ (.tail _ (.tail _ (.tail _ (.head _)))))))))))
  have H5 : InvF w _ [segX 42 w2.heap.size [.int .i64 x, .int .i64 y, .int .i64 z, (.slice A1 l.length c1), (.slice A7 r.length c7), .int .i64 qx, .int .i64 qy, (.slice A3 ql.length c3), (.slice A4 qk.length c4), (.slice A5 L.length c5), (.slice A6 T.length c6)], segB 5 (.slice A7 r.length c7) r, segS 24 5 (.slice A6 T.length c6) vt T, segB 5 (.slice A1 l.length c1) l, segB 5 (.slice A2 k.length c2) k, segB 5 (.slice A3 ql.length c3) ql, segB 5 (.slice A4 qk.length c4) qk, segS 24 5 (.slice A5 L.length c5) vs L, segX 42 (w.heap.size + 1 + 1) [.int .i64 0, .int .i64 0, .int .i64 0, .slice none 0 0, .slice none 0 0, .int .i64 0, .int .i64 0, .slice none 0 0, .slice none 0 0, .slice none 0 0, .slice none 0 0], segX 40 (w.heap.size + 1) [.int .i64 x, .int .i64 y, .int .i64 z, (.slice A l.length ac), (.slice B k.length bc), .int .i64 qx, .int .i64 qy, (.slice C ql.length cc), (.slice D qk.length dc), (.slice E L.length ec)], segX 35 w.heap.size [.int .i64 a, .int .i64 b, .int .i64 c, .int .i64 d, .int .i64 e]] := (H4.front 1 rfl).setX 4 (.slice A7 r.length c7)
  have HH := H4.ltX (.tail _ (.head _))
  obtain ⟨q0, q1, q2, q3, q4, q5, q6, q7, q8, q9, q10⟩ := H5.c11 (.head _)
  obtain ⟨x0, x1, x2, x3, x4⟩ := H5.c5 (.tail _ (.tail _ (.tail _ (.tail _ (.tail _ (.tail _ (.tail _ (.tail _ (.tail _ (.tail _ (.head _)))))))))))
  have H5h := Lib.hid H5
  clear H4 H5
  go_wp2_with fail
  refine (C1.out _ _ _ _ _ _ _ (H5h.out.slB 5 (.tail _ (.tail _ (.tail _ (.head _))))) (H5h.out.slB 5 (.tail _ (.head _))) (H5h.out.slB 5 (.tail _ (.tail _ (.tail _ (.tail _ (.tail _ (.head _))))))) (H5h.out.slB 5 (.tail _ (.tail _ (.tail _ (.tail _ (.tail _ (.tail _ (.head _)))))))) (H5h.out.slS 24 5 HVS.out (.tail _ (.tail _ (.tail _ (.tail _ (.tail _ (.tail _ (.tail _ (.head _))))))))) (H5h.out.slS 24 5 HVT.out (.tail _ (.tail _ (.head _))))).mono ?_
  rintro ev w5 ⟨rfl, hb5⟩
  have H6 := H5h.out.up hb5
  clear H5h hb5 HH o0 f0 q0 o1 f1 q1 o2 f2 q2 o3 f3 q3 o4 f4 q4 o5 f5 q5 o6 f6 q6 o7 f7 q7 o8 f8 q8 o9 f9 q9 o10 f10 q10 t0 t1 t2 t3 t4 x0 x1 x2 x3 x4
  rcases OK with _ | _
  · have hT2 := H6.thereX (.tail _ (.tail _ (.tail _ (.tail _ (.tail _ (.tail _ (.tail _ (.tail _ (.head _))))))))) 0 11 (by simp)
    have K := (H6.front 8 rfl).sets11 (.int .i64 0) (.int .i64 0) (.int .i64 0) (.slice none 0 0) (.slice none 0 0) (.int .i64 0) (.int .i64 0) (.slice none 0 0) (.slice none 0 0) (.slice none 0 0) (.slice none 0 0)
    have hR3 := K.rangeX (.head _)
    have KB := Lib.hid K.bel
    clear K H6 C0 C1
    go_simp
    go_step
    go_step
    go_step
    go_step
    go_step
    go_step
    go_step
    go_step
    go_step
    go_step
    go_step
    go_step
    go_step
    refine wpList_store_mid rfl 42 (.tmp 6) (.tmp 22) rfl (w.heap.size + 1 + 1) 0 #[.int .i64 0, .int .i64 0, .int .i64 0, .slice none 0 0, .slice none 0 0, .int .i64 0, .int .i64 0, .slice none 0 0, .slice none 0 0, .slice none 0 0, .slice none 0 0] rfl rfl hT2 (by kernel_rfl) (by simp [Value.oneCell']) ?_
    repeat go_step
    refine bodyPost_ret (results_cell2_mid Tryz.results23 _ _ (w.heap.size + 1 + 1) 0 [.int .i64 0, .int .i64 0, .int .i64 0, .slice none 0 0, .slice none 0 0, .int .i64 0, .int .i64 0, .slice none 0 0, .slice none 0 0, .slice none 0 0, .slice none 0 0] _ (.bool false) rfl rfl hR3 Tryz.underlying42 rfl (by kernel_rfl)) rfl (gotB_no rfl KB.out)
  · have hR1 := H6.rangeX (.head _)
    have hT2 := H6.thereX (.tail _ (.tail _ (.tail _ (.tail _ (.tail _ (.tail _ (.tail _ (.tail _ (.head _))))))))) 0 11 (by simp)
    have K := (H6.front 8 rfl).sets11 (.int .i64 x) (.int .i64 y) (.int .i64 z) (.slice A1 l.length c1) (.slice A7 r.length c7) (.int .i64 qx) (.int .i64 qy) (.slice A3 ql.length c3) (.slice A4 qk.length c4) (.slice A5 L.length c5) (.slice A6 T.length c6)
    have hR3 := K.rangeX (.head _)
    have KF := Lib.hid (K.sub (qs := [segB 5 (.slice A7 r.length c7) r, segS 24 5 (.slice A6 T.length c6) vt T, segB 5 (.slice A1 l.length c1) l, segB 5 (.slice A3 ql.length c3) ql, segB 5 (.slice A4 qk.length c4) qk, segS 24 5 (.slice A5 L.length c5) vs L]) (.cons _ (.cons _ (.cons_cons _ (.cons_cons _ (.cons_cons _ (.cons _ (.cons_cons _ (.cons_cons _ (.cons_cons _ (.cons _ (.cons _ .slnil))))))))))))
    clear K H6 C0 C1
    go_simp
    go_step
    go_step
    go_step
    go_step
    go_step
    go_step
    go_step
    go_step
    go_step
    go_step
    go_step
    go_step
    go_step
    refine wpList_load_mid rfl 42 (.tmp 8) rfl w2.heap.size 0 rfl [.int .i64 x, .int .i64 y, .int .i64 z, .slice A1 l.length c1, .slice A7 r.length c7, .int .i64 qx, .int .i64 qy, .slice A3 ql.length c3, .slice A4 qk.length c4, .slice A5 L.length c5, .slice A6 T.length c6] _ hR1 Tryz.underlying42 rfl (by kernel_rfl) ?_
    refine wpList_store_mid rfl 42 (.tmp 6) (.tmp 23) rfl (w.heap.size + 1 + 1) 0 #[.int .i64 x, .int .i64 y, .int .i64 z, .slice A1 l.length c1, .slice A7 r.length c7, .int .i64 qx, .int .i64 qy, .slice A3 ql.length c3, .slice A4 qk.length c4, .slice A5 L.length c5, .slice A6 T.length c6] rfl rfl hT2 (by kernel_rfl) (by simp [Value.oneCell']) ?_
    repeat go_step
    refine bodyPost_ret (results_cell2_mid Tryz.results23 _ _ (w.heap.size + 1 + 1) 0 [.int .i64 x, .int .i64 y, .int .i64 z, .slice A1 l.length c1, .slice A7 r.length c7, .int .i64 qx, .int .i64 qy, .slice A3 ql.length c3, .slice A4 qk.length c4, .slice A5 L.length c5, .slice A6 T.length c6] _ (.bool true) rfl rfl hR3 Tryz.underlying42 rfl (by kernel_rfl)) rfl (gotB_yes ⟨_, _, _, _, _, _, vs, vt, rfl, HVS.out, HVT.out, ?_⟩)
    exact ((KF.out.front 2 rfl).front 2 rfl).perm (List.perm_append_comm (l₁ := [_]) (l₂ := [_, _, _, _, _]))

set_option maxRecDepth 100000 in
set_option maxHeartbeats 8000000 in
theorem implBlockOf_any (a b c d e x y z qx qy : Int) (u v qu qv qs t : Value) (l k ql qk : List UInt8) (L T : List (List UInt8)) (w : World) (hu : Sl w w.heap.size u l) (hv : Sl w w.heap.size v k) (hqu : Sl w w.heap.size qu ql) (hqv : Sl w w.heap.size qv qk) (hqs : SlS w w.heap.size qs L) (ht : SlS w w.heap.size t T) (hl : l.length ≤ 1048576) (hk : k.length ≤ 1048576) (hql : ql.length ≤ 1048576) (hqk : qk.length ≤ 1048576) (hL : L.length ≤ 1048576) (hN : sumL L ≤ 1048576) (hT : T.length ≤ 1048576) (hNT : sumL T ≤ 1048576) (hI : Glob w 0 initW) (hG : Glob w 1 kk) :
    Calls Tryz.prog 26 #[.agg #[.int .i64 a, .int .i64 b, .int .i64 c, .int .i64 d, .int .i64 e], .agg #[.int .i64 x, .int .i64 y, .int .i64 z, u, v, .int .i64 qx, .int .i64 qy, qu, qv, qs], t] w (GotB w x y z qx qy l (treeL T) ql qk L T (blockB a b c d e x y z qx qy l (treeL T) ql qk L T)) := by
  obtain ⟨A, ac, rfl, p1, p2, p0, p3⟩ := id hu
  clear p1 p2 p0 p3
  have HU := Lib.hid hu
  obtain ⟨B, bc, rfl, p1, p2, p0, p3⟩ := id hv
  clear p1 p2 p0 p3
  have HV := Lib.hid hv
  obtain ⟨C, cc, rfl, p1, p2, p0, p3⟩ := id hqu
  clear p1 p2 p0 p3
  have HQU := Lib.hid hqu
  obtain ⟨D, dc, rfl, p1, p2, p0, p3⟩ := id hqv
  clear p1 p2 p0 p3
  have HQV := Lib.hid hqv
  obtain ⟨E, ec, rfl, p1, p2, p0, p3⟩ := id hqs
  clear p1 p2 p0 p3
  have HQS := Lib.hid hqs
  obtain ⟨F, fc, rfl, p1, p2, p0, p3⟩ := id ht
  clear p1 p2 p0 p3
  have HT := Lib.hid ht
  have HI := Lib.hid hI
  have HG := Lib.hid hG
  clear hI hG
  have C0 := Lib.hid (fun W h h2 h3 => implTreeRoot_any (.slice F T.length fc) T W h (by omega) (by omega) h2 h3)
  have C1 := Lib.hid (fun v0 v1 v2 v3 v4 v5 W h0 h1 h2 h3 h4 h5 h6 h7 => implBlockOk_any a b c d e x y z qx qy v0 v1 v2 v3 v4 v5 l (treeL T) ql qk L T W h0 h1 h2 h3 h4 h5 (by omega) (by omega) (by omega) h6 h7)
  obtain ⟨OK, hB⟩ : ∃ B, B = blockB a b c d e x y z qx qy l (treeL T) ql qk L T := ⟨_, rfl⟩
  simp only [← hB] at C1
  rw [← hB]
  obtain ⟨r, hr⟩ : ∃ r, r = treeL T := ⟨_, rfl⟩
  have hr32 : Hid (r.length ≤ 1048576) := Lib.hid (by rw [hr, treeL_length]; omega)
  simp only [← hr] at C0 C1
  rw [← hr]
  clear hB hr hu hv hqu hqv hqs ht
  have _ := hk
  have H0 : InvF w _ [segX 42 (w.heap.size + 1 + 1) [.int .i64 0, .int .i64 0, .int .i64 0, .slice none 0 0, .slice none 0 0, .int .i64 0, .int .i64 0, .slice none 0 0, .slice none 0 0, .slice none 0 0, .slice none 0 0], segX 40 (w.heap.size + 1) [.int .i64 x, .int .i64 y, .int .i64 z, (.slice A l.length ac), (.slice B k.length bc), .int .i64 qx, .int .i64 qy, (.slice C ql.length cc), (.slice D qk.length dc), (.slice E L.length ec)], segX 35 w.heap.size [.int .i64 a, .int .i64 b, .int .i64 c, .int .i64 d, .int .i64 e]] := (((InvF.start w).newG 35 #[.int .i64 a, .int .i64 b, .int .i64 c, .int .i64 d, .int .i64 e] w.heap.size).newG 40 #[.int .i64 x, .int .i64 y, .int .i64 z, .slice A l.length ac, .slice B k.length bc, .int .i64 qx, .int .i64 qy, .slice C ql.length cc, .slice D qk.length dc, .slice E L.length ec] (w.heap.size + 1)).newG 42 #[.int .i64 0, .int .i64 0, .int .i64 0, .slice none 0 0, .slice none 0 0, .int .i64 0, .int .i64 0, .slice none 0 0, .slice none 0 0, .slice none 0 0, .slice none 0 0] (w.heap.size + 1 + 1)
  go_enter Tryz.func26, Tryz.ntmps26
  go_wp2_with fail
  refine (C0.out _ (HT.out.up H0.bel) (HI.out.up H0.bel) (HG.out.up H0.bel)).mono ?_
  rintro ev w1 ⟨u7, rfl, ho7, hb7⟩
  have H1 := H0.moreB ho7 hb7
  clear H0 ho7 hb7
  obtain ⟨A7, c7, rfl⟩ := H1.openB' (.head _)
  obtain ⟨o0, o1, o2, o3, o4, o5, o6, o7, o8, o9⟩ := H1.c10 (.tail _ (.tail _ (.head _)))
  obtain ⟨f0, f1, f2, f3, f4, f5, f6, f7, f8, f9⟩ := H1.f10 (.tail _ (.tail _ (.head _)))
  obtain ⟨t0, t1, t2, t3, t4⟩ := H1.c5 (.tail _ (.tail _ (.tail _ (.head _))))
  have H2 : InvF w _ [segX 40 (w.heap.size + 1) [.int .i64 x, .int .i64 y, .int .i64 z, (.slice A l.length ac), (.slice A7 r.length c7), .int .i64 qx, .int .i64 qy, (.slice C ql.length cc), (.slice D qk.length dc), (.slice E L.length ec)], segB 5 (.slice A7 r.length c7) r, segX 42 (w.heap.size + 1 + 1) [.int .i64 0, .int .i64 0, .int .i64 0, .slice none 0 0, .slice none 0 0, .int .i64 0, .int .i64 0, .slice none 0 0, .slice none 0 0, .slice none 0 0, .slice none 0 0], segX 35 w.heap.size [.int .i64 a, .int .i64 b, .int .i64 c, .int .i64 d, .int .i64 e]] := (H1.front 2 rfl).setX 4 (.slice A7 r.length c7)
  obtain ⟨q0, q1, q2, q3, q4, q5, q6, q7, q8, q9⟩ := H2.c10 (.head _)
  have H3 := H2.newG 42 #[.int .i64 x, .int .i64 y, .int .i64 z, .slice A l.length ac, .slice A7 r.length c7, .int .i64 qx, .int .i64 qy, .slice C ql.length cc, .slice D qk.length dc, .slice E L.length ec, .slice F T.length fc] w1.heap.size
  obtain ⟨x0, x1, x2, x3, x4⟩ := H2.c5 (.tail _ (.tail _ (.tail _ (.head _))))
  obtain ⟨y0, y1, y2, y3, y4⟩ := H3.c5 (.tail _ (.tail _ (.tail _ (.tail _ (.head _)))))
  have HR := Lib.hid (H3.slB 5 (.tail _ (.tail _ (.head _))))
  have H3h := Lib.hid H3
  clear H1 H2 H3
  go_wp2_with fail
  refine (C1.out _ _ _ _ _ _ _ (HU.out.up H3h.out.bel) HR.out (HQU.out.up H3h.out.bel) (HQV.out.up H3h.out.bel) (HQS.out.up H3h.out.bel) (HT.out.up H3h.out.bel) (HI.out.up H3h.out.bel) (HG.out.up H3h.out.bel)).mono ?_
  rintro ev w5 ⟨rfl, hb5⟩
  have H6 := H3h.out.up hb5
  clear H3h HR hb5 o0 f0 q0 o1 f1 q1 o2 f2 q2 o3 f3 q3 o4 f4 q4 o5 f5 q5 o6 f6 q6 o7 f7 q7 o8 f8 q8 o9 f9 q9 t0 t1 t2 t3 t4 x0 x1 x2 x3 x4 y0 y1 y2 y3 y4
  rcases OK with _ | _
  · have hT2 := H6.thereX (.tail _ (.tail _ (.tail _ (.head _)))) 0 11 (by simp)
    have K := (H6.front 3 rfl).sets11 (.int .i64 0) (.int .i64 0) (.int .i64 0) (.slice none 0 0) (.slice none 0 0) (.int .i64 0) (.int .i64 0) (.slice none 0 0) (.slice none 0 0) (.slice none 0 0) (.slice none 0 0)
    have hR3 := K.rangeX (.head _)
    have KB := Lib.hid K.bel
    clear K H6 C0 C1
    go_simp
    go_step
    go_step
    go_step
    go_step
    go_step
    go_step
    go_step
    go_step
    go_step
    go_step
    go_step
    go_step
    go_step
    refine wpList_store_mid rfl 42 (.tmp 6) (.tmp 19) rfl (w.heap.size + 1 + 1) 0 #[.int .i64 0, .int .i64 0, .int .i64 0, .slice none 0 0, .slice none 0 0, .int .i64 0, .int .i64 0, .slice none 0 0, .slice none 0 0, .slice none 0 0, .slice none 0 0] rfl rfl hT2 (by kernel_rfl) (by simp [Value.oneCell']) ?_
    repeat go_step
    refine bodyPost_ret (results_cell2_mid Tryz.results26 _ _ (w.heap.size + 1 + 1) 0 [.int .i64 0, .int .i64 0, .int .i64 0, .slice none 0 0, .slice none 0 0, .int .i64 0, .int .i64 0, .slice none 0 0, .slice none 0 0, .slice none 0 0, .slice none 0 0] _ (.bool false) rfl rfl hR3 Tryz.underlying42 rfl (by kernel_rfl)) rfl (gotB_no rfl KB.out)
  ·
    obtain ⟨o0, o1, o2, o3, o4, o5, o6, o7, o8, o9, o10⟩ := H6.c11 (.head _)
    go_wp2_with fail
    refine (blockCopy_any x y z qx qy _ _ _ _ _ _ l r ql qk L T _ (HU.out.up H6.bel) (H6.slB 5 (.tail _ (.tail _ (.head _)))) (HQU.out.up H6.bel) (HQV.out.up H6.bel) (HQS.out.up H6.bel) (HT.out.up H6.bel) hl hr32.out hql hqk hL hN hT hNT).mono ?_
    rintro ev w6 ⟨u1, u2, u3, u4, u5, u6, vs, vt, rfl, hvs, hvt, K⟩
    have H7 := H6.moreF K
    clear H6 K o0 o1 o2 o3 o4 o5 o6 o7 o8 o9 o10
    obtain ⟨A1, c1, rfl⟩ := H7.openB' (.head _)
    obtain ⟨A2, c2, rfl⟩ := H7.openB' (.tail _ (.head _))
    obtain ⟨A3, c3, rfl⟩ := H7.openB' (.tail _ (.tail _ (.head _)))
    obtain ⟨A4, c4, rfl⟩ := H7.openB' (.tail _ (.tail _ (.tail _ (.head _))))
    obtain ⟨A5, c5, rfl⟩ := H7.openS hvs (.tail _ (.tail _ (.tail _ (.tail _ (.head _)))))
    obtain ⟨A6, c6, rfl⟩ := H7.openS hvt (.tail _ (.tail _ (.tail _ (.tail _ (.tail _ (.head _))))))
    have HVS := Lib.hid hvs
    have HVT := Lib.hid hvt
    clear hvs hvt
    have hT2 := H7.thereX (.tail _ (.tail _ (.tail _ (.tail _ (.tail _ (.tail _ (.tail _ (.tail _ (.tail _ (.head _)))))))))) 0 11 (by simp)
    have K := (H7.front 9 rfl).sets11 (.int .i64 x) (.int .i64 y) (.int .i64 z) (.slice A1 l.length c1) (.slice A2 r.length c2) (.int .i64 qx) (.int .i64 qy) (.slice A3 ql.length c3) (.slice A4 qk.length c4) (.slice A5 L.length c5) (.slice A6 T.length c6)
    have hR3 := K.rangeX (.head _)
    have KF := Lib.hid (K.sub (qs := [segB 5 (.slice A1 l.length c1) l, segB 5 (.slice A2 r.length c2) r, segB 5 (.slice A3 ql.length c3) ql, segB 5 (.slice A4 qk.length c4) qk, segS 24 5 (.slice A5 L.length c5) vs L, segS 24 5 (.slice A6 T.length c6) vt T]) (.cons _ (.cons_cons _ (.cons_cons _ (.cons_cons _ (.cons_cons _ (.cons_cons _ (.cons_cons _ (.cons _ (.cons _ (.cons _ (.cons _ .slnil))))))))))))
    clear K H7 C0 C1
    go_simp
    go_step
    refine wpList_store_mid rfl 42 (.tmp 6) (.tmp 21) rfl (w.heap.size + 1 + 1) 0 #[.int .i64 x, .int .i64 y, .int .i64 z, .slice A1 l.length c1, .slice A2 r.length c2, .int .i64 qx, .int .i64 qy, .slice A3 ql.length c3, .slice A4 qk.length c4, .slice A5 L.length c5, .slice A6 T.length c6] rfl rfl hT2 (by kernel_rfl) (by simp [Value.oneCell']) ?_
    repeat go_step
    refine bodyPost_ret (results_cell2_mid Tryz.results26 _ _ (w.heap.size + 1 + 1) 0 [.int .i64 x, .int .i64 y, .int .i64 z, .slice A1 l.length c1, .slice A2 r.length c2, .int .i64 qx, .int .i64 qy, .slice A3 ql.length c3, .slice A4 qk.length c4, .slice A5 L.length c5, .slice A6 T.length c6] _ (.bool true) rfl rfl hR3 Tryz.underlying42 rfl (by kernel_rfl)) rfl (gotB_yes ⟨_, _, _, _, _, _, vs, vt, rfl, HVS.out, HVT.out, KF.out⟩)

/-- The same, spelled out. -/
theorem specBlockOfL_any (a b c d e x y z qx qy : Int) (u v qu qv qs t : Value) (l k ql qk : List UInt8) (L T : List (List UInt8)) (w : World) (hu : Sl w w.heap.size u l) (hv : Sl w w.heap.size v k) (hqu : Sl w w.heap.size qu ql) (hqv : Sl w w.heap.size qv qk) (hqs : SlS w w.heap.size qs L) (ht : SlS w w.heap.size t T) (hl : l.length ≤ 1048576) (hk : k.length ≤ 1048576) (hql : ql.length ≤ 1048576) (hqk : qk.length ≤ 1048576) (hL : L.length ≤ 1048576) (hN : sumL L ≤ 1048576) (hT : T.length ≤ 1048576) (hNT : sumL T ≤ 1048576) :
    Calls Tryz.prog 23 #[.agg #[.int .i64 a, .int .i64 b, .int .i64 c, .int .i64 d, .int .i64 e], .agg #[.int .i64 x, .int .i64 y, .int .i64 z, u, v, .int .i64 qx, .int .i64 qy, qu, qv, qs], t] w (FreshGB w (selI (blockB a b c d e x y z qx qy l (treeL T) ql qk L T) x) (selI (blockB a b c d e x y z qx qy l (treeL T) ql qk L T) y) (selI (blockB a b c d e x y z qx qy l (treeL T) ql qk L T) z) (selI (blockB a b c d e x y z qx qy l (treeL T) ql qk L T) qx) (selI (blockB a b c d e x y z qx qy l (treeL T) ql qk L T) qy) (selL (blockB a b c d e x y z qx qy l (treeL T) ql qk L T) l) (selL (blockB a b c d e x y z qx qy l (treeL T) ql qk L T) (treeL T)) (selL (blockB a b c d e x y z qx qy l (treeL T) ql qk L T) ql) (selL (blockB a b c d e x y z qx qy l (treeL T) ql qk L T) qk) (selS (blockB a b c d e x y z qx qy l (treeL T) ql qk L T) L) (selS (blockB a b c d e x y z qx qy l (treeL T) ql qk L T) T) (blockB a b c d e x y z qx qy l (treeL T) ql qk L T)) := specBlockOf_any a b c d e x y z qx qy u v qu qv qs t l k ql qk L T w hu hv hqu hqv hqs ht hl hk hql hqk hL hN hT hNT
/-- The same, spelled out. -/
theorem implBlockOfL_any (a b c d e x y z qx qy : Int) (u v qu qv qs t : Value) (l k ql qk : List UInt8) (L T : List (List UInt8)) (w : World) (hu : Sl w w.heap.size u l) (hv : Sl w w.heap.size v k) (hqu : Sl w w.heap.size qu ql) (hqv : Sl w w.heap.size qv qk) (hqs : SlS w w.heap.size qs L) (ht : SlS w w.heap.size t T) (hl : l.length ≤ 1048576) (hk : k.length ≤ 1048576) (hql : ql.length ≤ 1048576) (hqk : qk.length ≤ 1048576) (hL : L.length ≤ 1048576) (hN : sumL L ≤ 1048576) (hT : T.length ≤ 1048576) (hNT : sumL T ≤ 1048576) (hI : Glob w 0 initW) (hG : Glob w 1 kk) :
    Calls Tryz.prog 26 #[.agg #[.int .i64 a, .int .i64 b, .int .i64 c, .int .i64 d, .int .i64 e], .agg #[.int .i64 x, .int .i64 y, .int .i64 z, u, v, .int .i64 qx, .int .i64 qy, qu, qv, qs], t] w (FreshGB w (selI (blockB a b c d e x y z qx qy l (treeL T) ql qk L T) x) (selI (blockB a b c d e x y z qx qy l (treeL T) ql qk L T) y) (selI (blockB a b c d e x y z qx qy l (treeL T) ql qk L T) z) (selI (blockB a b c d e x y z qx qy l (treeL T) ql qk L T) qx) (selI (blockB a b c d e x y z qx qy l (treeL T) ql qk L T) qy) (selL (blockB a b c d e x y z qx qy l (treeL T) ql qk L T) l) (selL (blockB a b c d e x y z qx qy l (treeL T) ql qk L T) (treeL T)) (selL (blockB a b c d e x y z qx qy l (treeL T) ql qk L T) ql) (selL (blockB a b c d e x y z qx qy l (treeL T) ql qk L T) qk) (selS (blockB a b c d e x y z qx qy l (treeL T) ql qk L T) L) (selS (blockB a b c d e x y z qx qy l (treeL T) ql qk L T) T) (blockB a b c d e x y z qx qy l (treeL T) ql qk L T)) := implBlockOf_any a b c d e x y z qx qy u v qu qv qs t l k ql qk L T w hu hv hqu hqv hqs ht hl hk hql hqk hL hN hT hNT hI hG
end Go.Proofs.YtdoaikanaodefaaGreatDoor
