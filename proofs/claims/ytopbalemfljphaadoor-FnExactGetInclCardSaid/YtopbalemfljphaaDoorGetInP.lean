/- GetIncl of the model. -/
import Derived.Test.YtopbalemfljphaaDoorGetInS
import Derived.Test.YtopbalemfljphaaDoorTagSeg
import Derived.Deep.RegionHeld3
namespace Go.Proofs.YtopbalemfljphaaDoor
open Go.ChangeShapes Go.WideShapes Go.ChangeAt Go.RowKit
set_option linter.unusedSimpArgs false

def FreshI3 (w : World) (x y z : Int) (t : List UInt8) (L : List (List UInt8)) (n c : Int) (e : Ending) (w' : World) : Prop :=
  ∃ a s row vs, e = .returned (.tuple #[.agg #[.int .i64 x, .int .i64 y, .int .i64 z, a, s], .int .i64 n, .int .i64 c]) ∧ vs.length = L.length ∧ Reads0 s row vs ∧ InvF w w' [segB 5 a t, row :: rowsS 5 vs L]
/-- What GetIncl answers. -/
def GotIn (w : World) (r : InAt) : Ending → World → Prop := FreshI3 w (giX r) (giY r) (giZ r) (giT r) (giL r) (giP r) r.e
theorem goti_yes {w : World} {r : InAt} {e : Ending} {w' : World} (h : r.e = 0) (H : FreshI3 w r.x r.y r.z r.t r.L r.p 0 e w') : GotIn w r e w' := by
  obtain ⟨i1, i2, i3, i4, i5, i6⟩ := gi_all h
  unfold GotIn
  rw [i1, i2, i3, i4, i5, i6, h]
  exact H
theorem goti_no {w : World} {r : InAt} {e : Ending} {w' : World} (h : r.e ≠ 0) (he : e = .returned (.tuple #[.agg #[.int .i64 0, .int .i64 0, .int .i64 0, .slice none 0 0, .slice none 0 0], .int .i64 0, .int .i64 r.e])) (hb : Below w.heap.size w w') : GotIn w r e w' := by
  obtain ⟨i1, i2, i3, i4, i5, i6⟩ := gi_none h
  unfold GotIn
  rw [i1, i2, i3, i4, i5, i6]
  have K1 : InvF w w' [segS 24 5 (.slice none 0 0) [] []] := (InvG.start w).moreG (p := (24, .slice none 0 0, [])) (World.ownsRow_nil _ _ _ _) hb
  have K2 := K1.moreB (E := 5) (v := .slice none 0 0) (l := []) (World.ownsRow_nil _ _ _ _) (Below.refl _ _)
  exact ⟨_, _, _, [], he, rfl, reads0_row (K2.2.1 _ (InvF.mem (.tail _ (.head _)) (.head _))), K2⟩
set_option maxRecDepth 100000 in
set_option maxHeartbeats 4000000 in
theorem specGetIncl_any (a b c d e p : Int) (v : Value) (l : List UInt8) (w : World) (hv : Sp w w.heap.size v l) (hl : l.length ≤ 1073741824) :
    Calls Tryd.prog 14 #[.agg #[.int .i64 a, .int .i64 b, .int .i64 c, .int .i64 d, .int .i64 e], v, .int .i64 p] w (GotIn w (inAt l b c p (limE a b c d e))) := by
  have HV := Lib.hid hv
  obtain ⟨A, n, rfl, k1⟩ := hv.sl
  clear k1
  obtain ⟨e0, he0⟩ : ∃ e0, e0 = limE a b c d e := ⟨_, rfl⟩
  have c0 := fun W h => l11New_any a b c d e p (.slice A l.length n) W l h
  rw [← he0] at c0 ⊢
  have C0 := Lib.hid c0
  clear c0 he0 hv
  obtain ⟨r, hr⟩ : ∃ r, r = inAt l b c p e0 := ⟨_, rfl⟩
  rw [← hr]
  have HR := Lib.hid hr
  clear hr
  obtain ⟨x, y, z, t, L, p6, e6⟩ := r
  have H0 := ((InvF.start w).newG 33 #[.int .i64 a, .int .i64 b, .int .i64 c, .int .i64 d, .int .i64 e] w.heap.size).newG 42 #[.int .i64 0, .int .i64 0, .int .i64 0, .slice none 0 0, .slice none 0 0] (w.heap.size + 1)
  go_enter Tryd.func14, Tryd.ntmps14
  go_wp2_with fail
  refine (C0.out _ (HV.out.up H0.bel).sl).mono ?_
  rintro ev w1 ⟨g, rfl, K⟩
  have H1 : InvF w w1 (segX 51 g [.slice A l.length n, .int .i64 p, .int .i64 e0] :: [segX 42 (w.heap.size + 1) [.int .i64 0, .int .i64 0, .int .i64 0, .slice none 0 0, .slice none 0 0], segX 33 w.heap.size [.int .i64 a, .int .i64 b, .int .i64 c, .int .i64 d, .int .i64 e]]) := H0.moreF K
  clear H0 K C0
  obtain ⟨t0, t1, t2, t3, t4⟩ := H1.c5 (.tail _ (.tail _ (.head _)))
  go_wp2_with fail
  refine (l16GetIncl_any w _ g _ l a b c d e p e0 _ H1 HV.out hl).mono ?_
  rw [← HR.out]
  clear H1 t0 t1 t2 t3 t4
  rintro ev w3 ⟨u, s, vs, M, p7, rfl, hv, K3, hlp⟩
  dsimp only at hv K3 hlp ⊢
  have HLP := Lib.hid hlp
  clear hlp
  obtain ⟨A3, c3, rfl⟩ := K3.openB' (.tail _ (.head _))
  obtain ⟨A4, c4, rfl⟩ := K3.openS hv (.tail _ (.tail _ (.head _)))
  have HVS := Lib.hid hv
  have K4 := K3.newX 42 #[.int .i64 x, .int .i64 y, .int .i64 z, .slice A3 t.length c3, .slice A4 M.length c4]
  have q2 := K4.atX (.tail _ (.head _)) 2 rfl
  have q1 := K4.atX (.tail _ (.head _)) 1 rfl
  clear K3 hv
  by_cases he : e6 = 0
  · obtain ⟨hL, hp⟩ := HLP.out he
    subst hL hp he
    have HY := Lib.hid (fun ev w' => goti_yes (w := w) (r := ⟨x, y, z, t, M, p7, 0⟩) (e := ev) (w' := w') rfl)
    go_wp2_with fail
    clear q2 q1
    generalize w3.alloc (.cells #[.int .i64 x, .int .i64 y, .int .i64 z, .slice A3 t.length c3, .slice A4 M.length c4] 42) = w4 at *
    have K14 := Lib.hid (((K4.front 4 rfl).over5 (.int .i64 x) (.int .i64 y) (.int .i64 z) (.slice A3 t.length c3) (.slice A4 M.length c4)).drew1)
    have L13 := Lib.hid (And.intro (K4.drew1.atX (.tail _ (.head _)) 1 rfl) (K4.drew1.c5 (.head _)))
    have L14 := Lib.hid (And.intro (K14.out.atX (.tail _ (.tail _ (.head _))) 1 rfl) (K14.out.c5 (.tail _ (.head _))))
    obtain ⟨r0, r1, r2, r3, r4⟩ := K4.c5 (.tail _ (.tail _ (.tail _ (.tail _ (.head _)))))
    obtain ⟨f0, f1, f2, f3, f4⟩ := K4.f5 (.tail _ (.tail _ (.tail _ (.tail _ (.head _)))))
    obtain ⟨k0, k1, k2, k3, k4⟩ := K14.out.c5 (.head _)
    clear K4 HV HR HLP
    go_region_held3 (fun w' => w'.cell? ⟨g, 1, none⟩ = some (.int .i64 p7) ∧ w'.cell? ⟨w3.heap.size, 0, none⟩ = some (.int .i64 x) ∧ w'.cell? ⟨w3.heap.size, 1, none⟩ = some (.int .i64 y) ∧ w'.cell? ⟨w3.heap.size, 2, none⟩ = some (.int .i64 z) ∧ w'.cell? ⟨w3.heap.size, 3, none⟩ = some (.slice A3 t.length c3) ∧ w'.cell? ⟨w3.heap.size, 4, none⟩ = some (.slice A4 M.length c4))
      (first
        | with_reducible exact L13.out
        | with_reducible exact L14.out)
      (fail)
    go_wp2_with fail
    refine bodyPost_ret (v := .tuple #[.agg #[.int .i64 x, .int .i64 y, .int .i64 z, .slice A3 t.length c3, .slice A4 M.length c4], .int .i64 p7, .int .i64 0]) (by simp [results, Tryd.results14, go_sem, k0, k1, k2, k3, k4]) rfl (HY.out _ _ ⟨_, _, _, vs, rfl, HVS.out, reads0_row (K14.out.2.1 _ (InvF.mem (.tail _ (.tail _ (.tail _ (.tail _ (.head _))))) (.head _))), ?_⟩)
    exact K14.out.sub (qs := [segB 5 (.slice A3 t.length c3) t, segS 24 5 (.slice A4 M.length c4) vs M]) (.cons _ (.cons _ (.cons _ (.cons_cons _ (.cons_cons _ (.cons _ .slnil))))))
  · have HN := Lib.hid (fun ev w' => goti_no (w := w) (r := ⟨x, y, z, t, L, p6, e6⟩) (e := ev) (w' := w') he)
    have hne : (e6 != 0) = true := by simpa using he
    clear he HLP
    go_wp2_with fail
    clear q2 q1
    generalize w3.alloc (.cells #[.int .i64 x, .int .i64 y, .int .i64 z, .slice A3 t.length c3, .slice A4 M.length c4] 42) = w4 at *
    have K14 := Lib.hid (((K4.front 4 rfl).over5 (.int .i64 0) (.int .i64 0) (.int .i64 0) (.slice none 0 0) (.slice none 0 0)).drew1)
    have L13 := Lib.hid (K4.drew1.atX (.tail _ (.head _)) 2 rfl)
    have L14 := Lib.hid (K14.out.atX (.tail _ (.tail _ (.head _))) 2 rfl)
    obtain ⟨r0, r1, r2, r3, r4⟩ := K4.c5 (.tail _ (.tail _ (.tail _ (.tail _ (.head _)))))
    obtain ⟨f0, f1, f2, f3, f4⟩ := K4.f5 (.tail _ (.tail _ (.tail _ (.tail _ (.head _)))))
    obtain ⟨k0, k1, k2, k3, k4⟩ := K14.out.c5 (.head _)
    clear K4 HV HR
    go_region_held3 (fun w' => w'.cell? ⟨g, 2, none⟩ = some (.int .i64 e6))
      (first
        | with_reducible exact L13.out
        | with_reducible exact L14.out)
      (fail)
    go_wp2_with fail
    refine bodyPost_ret (v := .tuple #[.agg #[.int .i64 0, .int .i64 0, .int .i64 0, .slice none 0 0, .slice none 0 0], .int .i64 0, .int .i64 e6]) (by simp [results, Tryd.results14, go_sem, k0, k1, k2, k3, k4]) rfl (HN.out _ _ rfl K14.out.bel)

theorem specGetInclL_any (a b c d e p : Int) (v : Value) (l : List UInt8) (w : World) (hv : Sp w w.heap.size v l) (hl : l.length ≤ 1073741824) :
    Calls Tryd.prog 14 #[.agg #[.int .i64 a, .int .i64 b, .int .i64 c, .int .i64 d, .int .i64 e], v, .int .i64 p] w (FreshI3 w (giX (inAt l b c p (limE a b c d e))) (giY (inAt l b c p (limE a b c d e))) (giZ (inAt l b c p (limE a b c d e))) (giT (inAt l b c p (limE a b c d e))) (giL (inAt l b c p (limE a b c d e))) (giP (inAt l b c p (limE a b c d e))) (inAt l b c p (limE a b c d e)).e) := specGetIncl_any a b c d e p v l w hv hl
end Go.Proofs.YtopbalemfljphaaDoor
