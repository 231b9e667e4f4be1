/- GetHead of the program. -/
import Derived.Test.YtopbalemfljphaaDoorHdM
import Derived.Test.YtopbalemfljphaaDoorGetQcI
import Derived.Deep.RegionHeld3
import Derived.Deep.Cut
namespace Go.Proofs.YtopbalemfljphaaDoor
open Go.ChangeShapes Go.WideShapes Go.ChangeAt Go.RowKit

/-- A header has been decoded: its rows and the decoder behind it. -/
def DecHdI (I : Int × Int × Int × Int) (T : TypeId) (W : World) (g : Nat) (v : Value) (n : Int) (r : HdAt) (ss : List (List Row)) (ev : Ending) (w' : World) : Prop :=
  ∃ a b qa qb qs row vs, ev = .returned (.agg #[.int .i64 r.x, .int .i64 r.y, .int .i64 r.z, a, b, .int .i64 r.q.x, .int .i64 r.q.y, qa, qb, qs]) ∧ vs.length = r.q.L.length ∧ Reads0 qs row vs ∧
    Dec I T W w' g v n r.q.p r.e ((row :: rowsS 5 vs r.q.L) :: segB 5 qb r.q.k :: segB 5 qa r.q.m :: segB 5 b r.k :: segB 5 a r.m :: ss)
theorem matchV_err (b : Bool) : matchV b = errV (fE 0 b 6) := by cases b <;> rfl

set_option maxRecDepth 100000 in
set_option maxHeartbeats 8000000 in
theorem head_any (I : Int × Int × Int × Int) (T : TypeId) (W w : World) (g : Nat) (v : Value) (l : List UInt8) (n p e0 : Int) (ss : List (List Row)) (H : Dec I T W w g v n p e0 ss) (hv : Sp W W.heap.size v l) (hl : l.length ≤ 1073741824) (hp : p ≤ 9223372036854775807) :
    Calls Tryd.prog 45 #[.pointer (some ⟨g, 0, none⟩)] w (DecHdI I T W g v n (hdAt l n p e0) ss) := by
  obtain ⟨x, hx⟩ : ∃ x, x = nV l p e0 := ⟨_, rfl⟩
  obtain ⟨p1, hp1⟩ : ∃ x, x = nP l p e0 := ⟨_, rfl⟩
  obtain ⟨e1, he1⟩ : ∃ x, x = nE l p e0 := ⟨_, rfl⟩
  obtain ⟨y, hy⟩ : ∃ x, x = nV l p1 e1 := ⟨_, rfl⟩
  obtain ⟨p2, hp2⟩ : ∃ x, x = nP l p1 e1 := ⟨_, rfl⟩
  obtain ⟨f2, hf2⟩ : ∃ x, x = nE l p1 e1 := ⟨_, rfl⟩
  obtain ⟨e2, he2⟩ : ∃ x, x = fE f2 (!(y == 0)) 5 := ⟨_, rfl⟩
  obtain ⟨z, hz⟩ : ∃ x, x = nV l p2 e2 := ⟨_, rfl⟩
  obtain ⟨p3, hp3⟩ : ∃ x, x = nP l p2 e2 := ⟨_, rfl⟩
  obtain ⟨f3, hf3⟩ : ∃ x, x = nE l p2 e2 := ⟨_, rfl⟩
  obtain ⟨e3, he3⟩ : ∃ x, x = fE f3 (isIn z n) 5 := ⟨_, rfl⟩
  obtain ⟨m, hm⟩ : ∃ x, x = rV l 32 p3 e3 := ⟨_, rfl⟩
  obtain ⟨p4, hp4⟩ : ∃ x, x = rP l 32 p3 e3 := ⟨_, rfl⟩
  obtain ⟨e4, he4⟩ : ∃ x, x = rE l 32 p3 e3 := ⟨_, rfl⟩
  obtain ⟨k, hk⟩ : ∃ x, x = rV l 32 p4 e4 := ⟨_, rfl⟩
  obtain ⟨p5, hp5⟩ : ∃ x, x = rP l 32 p4 e4 := ⟨_, rfl⟩
  obtain ⟨e5, he5⟩ : ∃ x, x = rE l 32 p4 e4 := ⟨_, rfl⟩
  obtain ⟨q, hq⟩ : ∃ x, x = qcAt l n p5 e5 := ⟨_, rfl⟩
  have hr : hdAt l n p e0 = ⟨x, y, z, m, k, q, fE q.e (fitsB x y q.x q.y m q.m) 6⟩ := by
    unfold hdAt
    simp only [← hx, ← hp1, ← he1, ← hy, ← hp2, ← hf2, ← he2, ← hz, ← hp3, ← hf3, ← he3, ← hm, ← hp4, ← he4, ← hk, ← hp5, ← he5, ← hq]
  rw [hr]
  have hy0 : 0 ≤ y := by rw [hy]; exact nV_lo _ _ _
  have hy1 : y ≤ 1152921504606846975 := by rw [hy]; exact nV_hi _ _ _
  have hz0 : 0 ≤ z := by rw [hz]; exact nV_lo _ _ _
  have b1 : p1 ≤ 9223372036854775807 := by rw [hp1]; exact nP_hi hp (by omega) _
  have b2 : p2 ≤ 9223372036854775807 := by rw [hp2]; exact nP_hi b1 (by omega) _
  have b3 : p3 ≤ 9223372036854775807 := by rw [hp3]; exact nP_hi b2 (by omega) _
  have b4 : p4 ≤ 9223372036854775807 := by rw [hp4]; exact rP_hi b3 (by omega) _ _
  have b5 : p5 ≤ 9223372036854775807 := by rw [hp5]; exact rP_hi b4 (by omega) _ _
  have B3 := Lib.hid b3
  have B4 := Lib.hid b4
  have B5 := Lib.hid b5
  have hl' := Lib.hid (show l.length ≤ 4294967296 by omega)
  have HL := Lib.hid hl
  have HV := Lib.hid hv
  have HY := Lib.hid (And.intro hy0 hy1)
  have S1 := Lib.hid (And.intro hx (And.intro hp1 he1))
  have S2 := Lib.hid (And.intro hy (And.intro hp2 hf2))
  have S3 := Lib.hid (And.intro hz (And.intro hp3 hf3))
  have S4 := Lib.hid (And.intro hm (And.intro hp4 he4))
  have S5 := Lib.hid (And.intro hk (And.intro hp5 he5))
  have E2 := Lib.hid he2
  have E3 := Lib.hid he3
  have HQ := Lib.hid hq
  clear hr hx hp1 he1 hy hp2 hf2 he2 hz hp3 hf3 he3 hm hp4 he4 hk hp5 he5 hq
  clear b1 b2 b3 b4 b5 hv hp hl hy0 hy1 hz0
  have Ha : Dec I T W (w.alloc (.cells #[.int .i64 0, .int .i64 0, .int .i64 0, .slice none 0 0, .slice none 0 0, .int .i64 0, .int .i64 0, .slice none 0 0, .slice none 0 0, .slice none 0 0] 78)) g v n p e0 (segX 78 w.heap.size [.int .i64 0, .int .i64 0, .int .i64 0, .slice none 0 0, .slice none 0 0, .int .i64 0, .int .i64 0, .slice none 0 0, .slice none 0 0, .slice none 0 0] :: ss) := H.beside (fun d K => (K.newG 78 #[.int .i64 0, .int .i64 0, .int .i64 0, .slice none 0 0, .slice none 0 0, .int .i64 0, .int .i64 0, .slice none 0 0, .slice none 0 0, .slice none 0 0] w.heap.size rfl).front 1 rfl)
  have H1 : Dec I T W ((w.alloc (.cells #[.int .i64 0, .int .i64 0, .int .i64 0, .slice none 0 0, .slice none 0 0, .int .i64 0, .int .i64 0, .slice none 0 0, .slice none 0 0, .slice none 0 0] 78)).alloc (.cells #[.int .i64 0, .int .i64 0, .int .i64 0, .slice none 0 0, .slice none 0 0, .int .i64 0, .int .i64 0, .slice none 0 0, .slice none 0 0, .slice none 0 0] 78)) g v n p e0 (segX 78 (w.heap.size + 1) [.int .i64 0, .int .i64 0, .int .i64 0, .slice none 0 0, .slice none 0 0, .int .i64 0, .int .i64 0, .slice none 0 0, .slice none 0 0, .slice none 0 0] :: segX 78 w.heap.size [.int .i64 0, .int .i64 0, .int .i64 0, .slice none 0 0, .slice none 0 0, .int .i64 0, .int .i64 0, .slice none 0 0, .slice none 0 0, .slice none 0 0] :: ss) := Ha.beside (fun d K => (K.newG 78 #[.int .i64 0, .int .i64 0, .int .i64 0, .slice none 0 0, .slice none 0 0, .int .i64 0, .int .i64 0, .slice none 0 0, .slice none 0 0, .slice none 0 0] (w.heap.size + 1)).front 1 rfl)
  clear Ha
  clear H
  go_enter Tryd.func45, Tryd.ntmps45
  go_wp2_with fail
  refine (number_any I T W _ g v l n p e0 _ H1 HV.out hl'.out).mono ?_
  rw [← S1.out.1, ← S1.out.2.1, ← S1.out.2.2]
  rintro ev w2 ⟨rfl, H2⟩
  replace H2 : Dec I T W w2 g v n p1 e1 (segX 78 (w.heap.size + 1) [.int .i64 0, .int .i64 0, .int .i64 0, .slice none 0 0, .slice none 0 0, .int .i64 0, .int .i64 0, .slice none 0 0, .slice none 0 0, .slice none 0 0] :: segX 78 w.heap.size [.int .i64 0, .int .i64 0, .int .i64 0, .slice none 0 0, .slice none 0 0, .int .i64 0, .int .i64 0, .slice none 0 0, .slice none 0 0, .slice none 0 0] :: ss) := H2
  clear H1
  obtain ⟨o0, o1, o2, o3, o4, o5, o6, o7, o8, o9⟩ := H2.rest.c10 (.head _)
  have fr := H2.rest.frX (.head _) 0
  go_wp2_with fail
  have H3 : Dec I T W (w2.setCell ⟨w.heap.size + 1, 0, none⟩ (.int .i64 x)) g v n p1 e1 (segX 78 (w.heap.size + 1) [.int .i64 x, .int .i64 0, .int .i64 0, .slice none 0 0, .slice none 0 0, .int .i64 0, .int .i64 0, .slice none 0 0, .slice none 0 0, .slice none 0 0] :: segX 78 w.heap.size [.int .i64 0, .int .i64 0, .int .i64 0, .slice none 0 0, .slice none 0 0, .int .i64 0, .int .i64 0, .slice none 0 0, .slice none 0 0, .slice none 0 0] :: ss) := H2.beside (fun d K => by have h := ((K.front 1 rfl).setX 0 (.int .i64 x)).front 1 rfl; exact h)
  clear H2 o0 o1 o2 o3 o4 o5 o6 o7 o8 o9 fr
  refine (number_any I T W _ g v l n p1 e1 _ H3 HV.out hl'.out).mono ?_
  rw [← S2.out.1, ← S2.out.2.1, ← S2.out.2.2]
  rintro ev w4 ⟨rfl, H4⟩
  replace H4 : Dec I T W w4 g v n p2 f2 (segX 78 (w.heap.size + 1) [.int .i64 x, .int .i64 0, .int .i64 0, .slice none 0 0, .slice none 0 0, .int .i64 0, .int .i64 0, .slice none 0 0, .slice none 0 0, .slice none 0 0] :: segX 78 w.heap.size [.int .i64 0, .int .i64 0, .int .i64 0, .slice none 0 0, .slice none 0 0, .int .i64 0, .int .i64 0, .slice none 0 0, .slice none 0 0, .slice none 0 0] :: ss) := H4
  clear H3
  obtain ⟨o0, o1, o2, o3, o4, o5, o6, o7, o8, o9⟩ := H4.rest.c10 (.head _)
  have fr := H4.rest.frX (.head _) 1
  have H5 : Dec I T W (w4.setCell ⟨w.heap.size + 1, 1, none⟩ (.int .i64 y)) g v n p2 f2 (segX 78 (w.heap.size + 1) [.int .i64 x, .int .i64 y, .int .i64 0, .slice none 0 0, .slice none 0 0, .int .i64 0, .int .i64 0, .slice none 0 0, .slice none 0 0, .slice none 0 0] :: segX 78 w.heap.size [.int .i64 0, .int .i64 0, .int .i64 0, .slice none 0 0, .slice none 0 0, .int .i64 0, .int .i64 0, .slice none 0 0, .slice none 0 0, .slice none 0 0] :: ss) := H4.beside (fun d K => by have h := ((K.front 1 rfl).setX 1 (.int .i64 y)).front 1 rfl; exact h)
  have HE := Lib.hid (H5.beside (fun d K => K.drew1))
  have s1 := H5.rest.atX (.head _) 1 rfl
  have HK := Lib.hid (HE.out.rest.atX (.head _) 1 rfl)
  go_wp2_with fail
  clear H4 H5 s1 o0 o1 o2 o3 o4 o5 o6 o7 o8 o9 fr
  go_region_held3 (fun w' => w'.cell? ⟨w.heap.size + 1, 1, none⟩ = some (.int .i64 y))
    (first
      | exact HK.out
      | exact HK6.out)
    (first
      | (go_at_call 47; refine (require_any I T W _ g v n p2 f2 (!(y == 0)) _ HE.out).mono ?_; rw [← E2.out]; rintro ev w5 ⟨rfl, H6⟩; have HE6 := Lib.hid H6; have HK6 := Lib.hid (H6.rest.atX (.head _) 1 rfl); clear H6))
  have H6 : Dec I T W w5 g v n p2 e2 (segX 78 (w.heap.size + 1) [.int .i64 x, .int .i64 y, .int .i64 0, .slice none 0 0, .slice none 0 0, .int .i64 0, .int .i64 0, .slice none 0 0, .slice none 0 0, .slice none 0 0] :: segX 78 w.heap.size [.int .i64 0, .int .i64 0, .int .i64 0, .slice none 0 0, .slice none 0 0, .int .i64 0, .int .i64 0, .slice none 0 0, .slice none 0 0, .slice none 0 0] :: ss) := HE6.out
  clear HE HK HE6 HK6
  go_wp2_with fail
  have hcall := signer_any I T W _ g v l n p2 e2 _ H6 HV.out hl'.out
  rw [← S3.out.1, ← S3.out.2.1, ← S3.out.2.2, ← E3.out] at hcall
  refine hcall.mono ?_
  rintro ev w6 ⟨rfl, H7⟩
  replace H7 : Dec I T W w6 g v n p3 e3 (segX 78 (w.heap.size + 1) [.int .i64 x, .int .i64 y, .int .i64 0, .slice none 0 0, .slice none 0 0, .int .i64 0, .int .i64 0, .slice none 0 0, .slice none 0 0, .slice none 0 0] :: segX 78 w.heap.size [.int .i64 0, .int .i64 0, .int .i64 0, .slice none 0 0, .slice none 0 0, .int .i64 0, .int .i64 0, .slice none 0 0, .slice none 0 0, .slice none 0 0] :: ss) := H7
  clear H6 hcall
  obtain ⟨o0, o1, o2, o3, o4, o5, o6, o7, o8, o9⟩ := H7.rest.c10 (.head _)
  have fr := H7.rest.frX (.head _) 2
  go_wp2_with fail
  have H8 : Dec I T W (w6.setCell ⟨w.heap.size + 1, 2, none⟩ (.int .i64 z)) g v n p3 e3 (segX 78 (w.heap.size + 1) [.int .i64 x, .int .i64 y, .int .i64 z, .slice none 0 0, .slice none 0 0, .int .i64 0, .int .i64 0, .slice none 0 0, .slice none 0 0, .slice none 0 0] :: segX 78 w.heap.size [.int .i64 0, .int .i64 0, .int .i64 0, .slice none 0 0, .slice none 0 0, .int .i64 0, .int .i64 0, .slice none 0 0, .slice none 0 0, .slice none 0 0] :: ss) := H7.beside (fun d K => by have h := ((K.front 1 rfl).setX 2 (.int .i64 z)).front 1 rfl; exact h)
  clear H7 o0 o1 o2 o3 o4 o5 o6 o7 o8 o9 fr
  refine (hashRd_any I T W _ g v l n p3 e3 _ H8 HV.out hl'.out B3.out).mono ?_
  rw [← S4.out.1, ← S4.out.2.1, ← S4.out.2.2]
  rintro ev w8 ⟨u8, rfl, H9⟩
  replace H9 : Dec I T W w8 g v n p4 e4 (segB 5 u8 m :: segX 78 (w.heap.size + 1) [.int .i64 x, .int .i64 y, .int .i64 z, .slice none 0 0, .slice none 0 0, .int .i64 0, .int .i64 0, .slice none 0 0, .slice none 0 0, .slice none 0 0] :: segX 78 w.heap.size [.int .i64 0, .int .i64 0, .int .i64 0, .slice none 0 0, .slice none 0 0, .int .i64 0, .int .i64 0, .slice none 0 0, .slice none 0 0, .slice none 0 0] :: ss) := H9
  clear H8
  obtain ⟨A8, c8, rfl⟩ := H9.rest.openB' (.head _)
  obtain ⟨o0, o1, o2, o3, o4, o5, o6, o7, o8, o9⟩ := H9.rest.c10 (.tail _ (.head _))
  have fr := H9.rest.frX (.tail _ (.head _)) 3
  go_wp2_with fail
  have H10 : Dec I T W (w8.setCell ⟨w.heap.size + 1, 3, none⟩ (.slice A8 m.length c8)) g v n p4 e4 (segX 78 (w.heap.size + 1) [.int .i64 x, .int .i64 y, .int .i64 z, .slice A8 m.length c8, .slice none 0 0, .int .i64 0, .int .i64 0, .slice none 0 0, .slice none 0 0, .slice none 0 0] :: segB 5 (.slice A8 m.length c8) m :: segX 78 w.heap.size [.int .i64 0, .int .i64 0, .int .i64 0, .slice none 0 0, .slice none 0 0, .int .i64 0, .int .i64 0, .slice none 0 0, .slice none 0 0, .slice none 0 0] :: ss) := H9.beside (fun d K => by have h := ((K.front 2 rfl).setX 3 (.slice A8 m.length c8)).front 1 rfl; exact h)
  clear H9 o0 o1 o2 o3 o4 o5 o6 o7 o8 o9 fr
  refine (hashRd_any I T W _ g v l n p4 e4 _ H10 HV.out hl'.out B4.out).mono ?_
  rw [← S5.out.1, ← S5.out.2.1, ← S5.out.2.2]
  rintro ev w9 ⟨u9, rfl, H11⟩
  replace H11 : Dec I T W w9 g v n p5 e5 (segB 5 u9 k :: segX 78 (w.heap.size + 1) [.int .i64 x, .int .i64 y, .int .i64 z, .slice A8 m.length c8, .slice none 0 0, .int .i64 0, .int .i64 0, .slice none 0 0, .slice none 0 0, .slice none 0 0] :: segB 5 (.slice A8 m.length c8) m :: segX 78 w.heap.size [.int .i64 0, .int .i64 0, .int .i64 0, .slice none 0 0, .slice none 0 0, .int .i64 0, .int .i64 0, .slice none 0 0, .slice none 0 0, .slice none 0 0] :: ss) := H11
  clear H10
  obtain ⟨A9, c9, rfl⟩ := H11.rest.openB' (.head _)
  obtain ⟨o0, o1, o2, o3, o4, o5, o6, o7, o8, o9⟩ := H11.rest.c10 (.tail _ (.head _))
  have fr := H11.rest.frX (.tail _ (.head _)) 4
  go_wp2_with fail
  have H12 : Dec I T W (w9.setCell ⟨w.heap.size + 1, 4, none⟩ (.slice A9 k.length c9)) g v n p5 e5 (segX 78 (w.heap.size + 1) [.int .i64 x, .int .i64 y, .int .i64 z, .slice A8 m.length c8, .slice A9 k.length c9, .int .i64 0, .int .i64 0, .slice none 0 0, .slice none 0 0, .slice none 0 0] :: segB 5 (.slice A9 k.length c9) k :: segB 5 (.slice A8 m.length c8) m :: segX 78 w.heap.size [.int .i64 0, .int .i64 0, .int .i64 0, .slice none 0 0, .slice none 0 0, .int .i64 0, .int .i64 0, .slice none 0 0, .slice none 0 0, .slice none 0 0] :: ss) := H11.beside (fun d K => by have h := ((K.front 2 rfl).setX 4 (.slice A9 k.length c9)).front 1 rfl; exact h)
  clear H11 o0 o1 o2 o3 o4 o5 o6 o7 o8 o9 fr
  refine (qc_any I T W _ g v l n p5 e5 _ H12 HV.out HL.out B5.out).mono ?_
  rw [← HQ.out]
  obtain ⟨qx, qy, qm, qk, qL, qp, qe⟩ := q
  dsimp only
  rintro ev w10 ⟨u1, u2, u3, row, vs, rfl, hvs, hrd, H14⟩
  dsimp only at hvs hrd H14 ⊢
  replace H14 : Dec I T W w10 g v n qp qe ((row :: rowsS 5 vs qL) :: segB 5 u2 qk :: segB 5 u1 qm :: segX 78 (w.heap.size + 1) [.int .i64 x, .int .i64 y, .int .i64 z, .slice A8 m.length c8, .slice A9 k.length c9, .int .i64 0, .int .i64 0, .slice none 0 0, .slice none 0 0, .slice none 0 0] :: segB 5 (.slice A9 k.length c9) k :: segB 5 (.slice A8 m.length c8) m :: segX 78 w.heap.size [.int .i64 0, .int .i64 0, .int .i64 0, .slice none 0 0, .slice none 0 0, .int .i64 0, .int .i64 0, .slice none 0 0, .slice none 0 0, .slice none 0 0] :: ss) := H14
  clear H12 S1 S2 S3 S4 S5 E2 E3 HQ
  obtain ⟨B1, d1, rfl⟩ := H14.rest.openB' (.tail _ (.tail _ (.head _)))
  obtain ⟨B2, d2, rfl⟩ := H14.rest.openB' (.tail _ (.head _))
  obtain ⟨B3', d3, rfl⟩ := H14.rest.openT hvs hrd
  have HVS := Lib.hid hvs
  have HRD := Lib.hid hrd
  clear hvs hrd
  have hT1 := H14.rest.thereX (.tail _ (.tail _ (.tail _ (.head _)))) 5 5 (by simp)
  have H15 : Dec I T W (w10.setCells (w.heap.size + 1) 5 [.int .i64 qx, .int .i64 qy, .slice B1 qm.length d1, .slice B2 qk.length d2, .slice B3' qL.length d3]) g v n qp qe (segX 78 (w.heap.size + 1) [.int .i64 x, .int .i64 y, .int .i64 z, .slice A8 m.length c8, .slice A9 k.length c9, .int .i64 qx, .int .i64 qy, .slice B1 qm.length d1, .slice B2 qk.length d2, .slice B3' qL.length d3] :: (row :: rowsS 5 vs qL) :: segB 5 (.slice B2 qk.length d2) qk :: segB 5 (.slice B1 qm.length d1) qm :: segB 5 (.slice A9 k.length c9) k :: segB 5 (.slice A8 m.length c8) m :: segX 78 w.heap.size [.int .i64 0, .int .i64 0, .int .i64 0, .slice none 0 0, .slice none 0 0, .int .i64 0, .int .i64 0, .slice none 0 0, .slice none 0 0, .slice none 0 0] :: ss) := H14.beside (fun d K => by have h := ((K.front 4 rfl).sets5 (.int .i64 qx) (.int .i64 qy) (.slice B1 qm.length d1) (.slice B2 qk.length d2) (.slice B3' qL.length d3)).front 1 rfl; exact h)
  clear H14
  go_simp
  go_step
  go_step
  go_step
  go_step
  refine wpList_store_mid rfl 28 (.tmp 46) (.tmp 45) rfl (w.heap.size + 1) 5 #[.int .i64 qx, .int .i64 qy, .slice B1 qm.length d1, .slice B2 qk.length d2, .slice B3' qL.length d3] rfl rfl hT1 (by kernel_rfl) (by simp [Value.oneCell']) ?_
  show wpList _ _ _ _ _ (w10.setCells (w.heap.size + 1) 5 [.int .i64 qx, .int .i64 qy, .slice B1 qm.length d1, .slice B2 qk.length d2, .slice B3' qL.length d3])
  clear hT1
  generalize w10.setCells (w.heap.size + 1) 5 [.int .i64 qx, .int .i64 qy, .slice B1 qm.length d1, .slice B2 qk.length d2, .slice B3' qL.length d3] = w11 at *
  obtain ⟨j0, j1, j2, j3, j4, bb, qq, K0, hqq⟩ := H15
  have HQQ := Lib.hid hqq
  clear hqq
  have KK := Lib.hid K0
  by_cases he : qe = 0
  · subst he
    rw [errV_zero] at K0
    have q7 := K0.atX (.head _) 7 rfl
    clear K0
    go_upto_region 10 with fail
    have R0 := KK.out.rangeX (.tail _ (.head _))
    have hr0 : ∀ j v, ([.int .i64 x, .int .i64 y, .int .i64 z, .slice A8 m.length c8, .slice A9 k.length c9, .int .i64 qx, .int .i64 qy, .slice B1 qm.length d1, .slice B2 qk.length d2, .slice B3' qL.length d3] : List Value)[j]? = some v → w11.cell? ⟨w.heap.size + 1, j, none⟩ = some v := fun j v hv => KK.out.atX (.tail _ (.head _)) j hv
    obtain ⟨o0, o1, o2, o3, o4, o5, o6, o7, o8, o9⟩ := KK.out.c10 (.tail _ (.head _))
    clear R0 hr0
    go_wp2_with fail
    refine (matchError_any x y z qx qy _ _ _ _ _ m k qm qk qL _ (KK.out.slB 5 (.tail _ (.tail _ (.tail _ (.tail _ (.tail _ (.tail _ (.head _)))))))) (KK.out.slB 5 (.tail _ (.tail _ (.tail _ (.tail _ (.tail _ (.head _))))))) (KK.out.slB 5 (.tail _ (.tail _ (.tail _ (.tail _ (.head _)))))) (KK.out.slB 5 (.tail _ (.tail _ (.tail _ (.head _))))) (KK.out.slT HVS.out HRD.out (.tail _ (.tail _ (.head _)))) HY.out.1 HY.out.2).mono ?_
    rintro ev w12 ⟨rfl, hb⟩
    have K6 := KK.out.up hb
    have q7' := K6.atX (.head _) 7 rfl
    have r7' := K6.frX (.head _) 7
    rw [errV_zero] at q7'
    clear hb o0 o1 o2 o3 o4 o5 o6 o7 o8 o9 q7
    obtain ⟨fb, hfb⟩ : ∃ fb, fb = fitsB x y qx qy m qm := ⟨_, rfl⟩
    rw [← hfb]
    have HFB := Lib.hid hfb
    clear hfb
    rcases fb with _ | _
    · rw [matchV_no]
      have K7 := Lib.hid (K6.setX 7 (.iface 83 (.agg #[.int .i64 6])))
      clear K6
      go_upto_region 11 with fail
      clear q7' r7'
      generalize w12.setCell ⟨g, 7, none⟩ (.iface 83 (.agg #[.int .i64 6])) = w13 at *
      have hR2 := K7.out.rangeX (.tail _ (.head _))
      have hT2 := K7.out.thereX (.tail _ (.tail _ (.tail _ (.tail _ (.tail _ (.tail _ (.tail _ (.head _)))))))) 0 10 (by simp)
      have K4 := (K7.out.front 7 rfl).sets10 (.int .i64 x) (.int .i64 y) (.int .i64 z) (.slice A8 m.length c8) (.slice A9 k.length c9) (.int .i64 qx) (.int .i64 qy) (.slice B1 qm.length d1) (.slice B2 qk.length d2) (.slice B3' qL.length d3)
      have hR3 := K4.rangeX (.head _)
      have K5 := Lib.hid (K4.sub (.cons _ (.cons_cons _ (.cons _ (.cons_cons _ (.cons_cons _ (.cons_cons _ (.cons_cons _ (.cons_cons _ (List.Sublist.refl _))))))))))
      clear K4
      go_step
      refine wpList_load_mid rfl 78 (.tmp 3) rfl (w.heap.size + 1) 0 rfl [.int .i64 x, .int .i64 y, .int .i64 z, .slice A8 m.length c8, .slice A9 k.length c9, .int .i64 qx, .int .i64 qy, .slice B1 qm.length d1, .slice B2 qk.length d2, .slice B3' qL.length d3] _ hR2 Tryd.underlying78 rfl (by kernel_rfl) ?_
      refine wpList_store_mid rfl 78 (.tmp 2) (.tmp 61) rfl w.heap.size 0 #[.int .i64 x, .int .i64 y, .int .i64 z, .slice A8 m.length c8, .slice A9 k.length c9, .int .i64 qx, .int .i64 qy, .slice B1 qm.length d1, .slice B2 qk.length d2, .slice B3' qL.length d3] rfl rfl hT2 (by kernel_rfl) (by simp [Value.oneCell']) ?_
      repeat go_step
      refine bodyPost_ret (results_cell_mid Tryd.results45 _ _ w.heap.size 0 [.int .i64 x, .int .i64 y, .int .i64 z, .slice A8 m.length c8, .slice A9 k.length c9, .int .i64 qx, .int .i64 qy, .slice B1 qm.length d1, .slice B2 qk.length d2, .slice B3' qL.length d3] _ rfl hR3 Tryd.underlying78 rfl (by kernel_rfl)) rfl ⟨_, _, _, _, _, row, vs, rfl, HVS.out, HRD.out, ?_⟩
      refine ⟨j0, j1, j2, j3, j4, bb, qq, ?_, ?_⟩
      · rw [← HFB.out]; exact K5.out
      · exact fun _ => HQQ.out (by first | trivial | rfl)
    · rw [matchV_yes]
      have K7 := Lib.hid (K6.setX 7 (.nilIface))
      clear K6
      go_upto_region 11 with fail
      clear q7' r7'
      generalize w12.setCell ⟨g, 7, none⟩ (.nilIface) = w13 at *
      have hR2 := K7.out.rangeX (.tail _ (.head _))
      have hT2 := K7.out.thereX (.tail _ (.tail _ (.tail _ (.tail _ (.tail _ (.tail _ (.tail _ (.head _)))))))) 0 10 (by simp)
      have K4 := (K7.out.front 7 rfl).sets10 (.int .i64 x) (.int .i64 y) (.int .i64 z) (.slice A8 m.length c8) (.slice A9 k.length c9) (.int .i64 qx) (.int .i64 qy) (.slice B1 qm.length d1) (.slice B2 qk.length d2) (.slice B3' qL.length d3)
      have hR3 := K4.rangeX (.head _)
      have K5 := Lib.hid (K4.sub (.cons _ (.cons_cons _ (.cons _ (.cons_cons _ (.cons_cons _ (.cons_cons _ (.cons_cons _ (.cons_cons _ (List.Sublist.refl _))))))))))
      clear K4
      go_step
      refine wpList_load_mid rfl 78 (.tmp 3) rfl (w.heap.size + 1) 0 rfl [.int .i64 x, .int .i64 y, .int .i64 z, .slice A8 m.length c8, .slice A9 k.length c9, .int .i64 qx, .int .i64 qy, .slice B1 qm.length d1, .slice B2 qk.length d2, .slice B3' qL.length d3] _ hR2 Tryd.underlying78 rfl (by kernel_rfl) ?_
      refine wpList_store_mid rfl 78 (.tmp 2) (.tmp 61) rfl w.heap.size 0 #[.int .i64 x, .int .i64 y, .int .i64 z, .slice A8 m.length c8, .slice A9 k.length c9, .int .i64 qx, .int .i64 qy, .slice B1 qm.length d1, .slice B2 qk.length d2, .slice B3' qL.length d3] rfl rfl hT2 (by kernel_rfl) (by simp [Value.oneCell']) ?_
      repeat go_step
      refine bodyPost_ret (results_cell_mid Tryd.results45 _ _ w.heap.size 0 [.int .i64 x, .int .i64 y, .int .i64 z, .slice A8 m.length c8, .slice A9 k.length c9, .int .i64 qx, .int .i64 qy, .slice B1 qm.length d1, .slice B2 qk.length d2, .slice B3' qL.length d3] _ rfl hR3 Tryd.underlying78 rfl (by kernel_rfl)) rfl ⟨_, _, _, _, _, row, vs, rfl, HVS.out, HRD.out, ?_⟩
      refine ⟨j0, j1, j2, j3, j4, bb, qq, ?_, ?_⟩
      · rw [← HFB.out]; exact K5.out
      · exact fun _ => HQQ.out (by first | trivial | rfl)
  · have HNE := Lib.hid he
    rw [errV_no he] at K0
    have q7 := K0.atX (.head _) 7 rfl
    clear K0 he
    go_upto_region 11 with fail
    have hR2 := KK.out.rangeX (.tail _ (.head _))
    have hT2 := KK.out.thereX (.tail _ (.tail _ (.tail _ (.tail _ (.tail _ (.tail _ (.tail _ (.head _)))))))) 0 10 (by simp)
    have K4 := (KK.out.front 7 rfl).sets10 (.int .i64 x) (.int .i64 y) (.int .i64 z) (.slice A8 m.length c8) (.slice A9 k.length c9) (.int .i64 qx) (.int .i64 qy) (.slice B1 qm.length d1) (.slice B2 qk.length d2) (.slice B3' qL.length d3)
    have hR3 := K4.rangeX (.head _)
    have K5 := Lib.hid (K4.sub (.cons _ (.cons_cons _ (.cons _ (.cons_cons _ (.cons_cons _ (.cons_cons _ (.cons_cons _ (.cons_cons _ (List.Sublist.refl _))))))))))
    clear K4
    go_step
    refine wpList_load_mid rfl 78 (.tmp 3) rfl (w.heap.size + 1) 0 rfl [.int .i64 x, .int .i64 y, .int .i64 z, .slice A8 m.length c8, .slice A9 k.length c9, .int .i64 qx, .int .i64 qy, .slice B1 qm.length d1, .slice B2 qk.length d2, .slice B3' qL.length d3] _ hR2 Tryd.underlying78 rfl (by kernel_rfl) ?_
    refine wpList_store_mid rfl 78 (.tmp 2) (.tmp 61) rfl w.heap.size 0 #[.int .i64 x, .int .i64 y, .int .i64 z, .slice A8 m.length c8, .slice A9 k.length c9, .int .i64 qx, .int .i64 qy, .slice B1 qm.length d1, .slice B2 qk.length d2, .slice B3' qL.length d3] rfl rfl hT2 (by kernel_rfl) (by simp [Value.oneCell']) ?_
    repeat go_step
    refine bodyPost_ret (results_cell_mid Tryd.results45 _ _ w.heap.size 0 [.int .i64 x, .int .i64 y, .int .i64 z, .slice A8 m.length c8, .slice A9 k.length c9, .int .i64 qx, .int .i64 qy, .slice B1 qm.length d1, .slice B2 qk.length d2, .slice B3' qL.length d3] _ rfl hR3 Tryd.underlying78 rfl (by kernel_rfl)) rfl ⟨_, _, _, _, _, row, vs, rfl, HVS.out, HRD.out, ?_⟩
    refine ⟨j0, j1, j2, j3, j4, bb, qq, ?_, ?_⟩
    · rw [fE_no HNE.out]; exact K5.out
    · rw [fE_no HNE.out]; exact fun h => absurd h HNE.out

end Go.Proofs.YtopbalemfljphaaDoor
