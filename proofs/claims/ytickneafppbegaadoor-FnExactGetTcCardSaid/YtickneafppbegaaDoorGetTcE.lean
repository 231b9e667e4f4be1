/- One entry of the program's decoder of timeout certificates. -/
import Derived.Test.YtickneafppbegaaDoorReqO
import Derived.Test.YtickneafppbegaaDoorTcDecMath
import Derived.Test.YtickneafppbegaaDoorTcNext
import Derived.Deep.RegionHeld3
namespace Go.Proofs.YtickneafppbegaaDoor
open Go.ChangeShapes Go.WideShapes Go.ChangeAt Go.RowKit

set_option maxRecDepth 100000 in
set_option maxHeartbeats 8000000 in
theorem entry_any (I : Int × Int × Int × Int) (T : TypeId) (W w : World) (g : Nat) (v : Value) (l : List UInt8) (n p e x : Int) (s : Value) (M : List Et) (ss : List (List Row)) (H : Dec I T W w g v n p e ss) (hv : Sp W W.heap.size v l) (hl : l.length ≤ 1073741824) (hp : p ≤ 9223372036854775807) (hs : ∃ A c, s = .slice A M.length c) (hM : ∀ w', InvF W w' ss → SlE w' w'.heap.size s M) (hA : e = 0 → Asc M) :
    Calls Tryd.prog 39 #[.pointer (some ⟨g, 0, none⟩), .int .i64 x, s] w (fun ev w' => ∃ t p' e' u, ev = .returned (.agg #[.int .i64 t.x, .int .i64 t.y, u]) ∧ entStep l n x (M, p, e) = (M ++ [t], p', e') ∧ Dec I T W w' g v n p' e' (segB 5 u t.k :: ss)) := by
  obtain ⟨As, cs, rfl⟩ := hs
  have HV := Lib.hid hv
  have HM := Lib.hid hM
  have hl' := Lib.hid (show l.length ≤ 4294967296 by omega)
  obtain ⟨z, hz⟩ : ∃ z, z = nV l p e := ⟨_, rfl⟩
  obtain ⟨k1, hk1⟩ : ∃ z, z = nP l p e := ⟨_, rfl⟩
  obtain ⟨a2, ha2⟩ : ∃ q, q = fE (nE l p e) (isIn z n) 5 := ⟨_, rfl⟩
  obtain ⟨a3, ha3⟩ : ∃ q, q = fE a2 (nextB M z) 6 := ⟨_, rfl⟩
  obtain ⟨y, hy⟩ : ∃ q, q = nV l k1 a3 := ⟨_, rfl⟩
  obtain ⟨k2, hk2⟩ : ∃ q, q = nP l k1 a3 := ⟨_, rfl⟩
  obtain ⟨a4, ha4⟩ : ∃ q, q = nE l k1 a3 := ⟨_, rfl⟩
  obtain ⟨a5, ha5⟩ : ∃ q, q = fE a4 (decide (y < x)) 6 := ⟨_, rfl⟩
  obtain ⟨r, hr⟩ : ∃ q, q = rV l 32 k2 a5 := ⟨_, rfl⟩
  obtain ⟨k3, hk3⟩ : ∃ q, q = rP l 32 k2 a5 := ⟨_, rfl⟩
  obtain ⟨a6, ha6⟩ : ∃ q, q = rE l 32 k2 a5 := ⟨_, rfl⟩
  have HST : Hid (entStep l n x (M, p, e) = (M ++ [⟨z, y, r⟩], k3, a6)) := Lib.hid (by
    unfold entStep
    simp only [← hz, ← hk1, ← ha2, ← ha3, ← hy, ← hk2, ← ha4, ← ha5, ← hr, ← hk3, ← ha6])
  have HFX : Hid (∀ r : Bool, (Asc M → r = nextB M z) → fE a2 r 6 = a3) := Lib.hid (fun r hr => by
    rw [ha3]
    by_cases h : a2 = 0
    · rw [hr (hA (nE_zero (fE_zero (by decide) (ha2.symm.trans h)).1))]
    · rw [fE_no h, fE_no h])
  have hb1 : k1 ≤ 9223372036854775807 := by rw [hk1]; exact nP_hi hp (by omega) _
  have B2 : Hid (k2 ≤ 9223372036854775807) := Lib.hid (by rw [hk2]; exact nP_hi hb1 (by omega) _)
  have S1 := Lib.hid (And.intro hz (And.intro hk1 ha2))
  have S4 := Lib.hid (And.intro hy (And.intro hk2 ha4))
  have S5 := Lib.hid ha5
  have S6 := Lib.hid (And.intro hr (And.intro hk3 ha6))
  clear hz hk1 ha2 ha3 hy hk2 ha4 ha5 hr hk3 ha6 hb1 hp hv hM hA hl
  have Ha : Dec I T W _ g v n p e (segX 58 w.heap.size [.int .i64 0, .int .i64 0, .slice none 0 0] :: ss) := H.beside (fun d K => (K.newG 58 #[.int .i64 0, .int .i64 0, .slice none 0 0] w.heap.size rfl).front 1 rfl)
  have H1 : Dec I T W _ g v n p e (segX 58 (w.heap.size + 1) [.int .i64 0, .int .i64 0, .slice none 0 0] :: segX 58 w.heap.size [.int .i64 0, .int .i64 0, .slice none 0 0] :: ss) := Ha.beside (fun d K => (K.newG 58 #[.int .i64 0, .int .i64 0, .slice none 0 0] (w.heap.size + 1)).front 1 rfl)
  clear Ha H
  go_enter Tryd.func39, Tryd.ntmps39
  go_wp2_with fail
  refine (signer_any I T W _ g v l n p e _ H1 HV.out hl'.out).mono ?_
  rw [← S1.out.1, ← S1.out.2.1, ← S1.out.2.2]
  rintro ev w2 ⟨rfl, H2⟩
  replace H2 : Dec I T W w2 g v n k1 a2 (segX 58 (w.heap.size + 1) [.int .i64 0, .int .i64 0, .slice none 0 0] :: segX 58 w.heap.size [.int .i64 0, .int .i64 0, .slice none 0 0] :: ss) := H2
  clear H1
  obtain ⟨o0, o1, o2⟩ := H2.rest.c3 (.head _)
  have f0 := H2.rest.frX (.head _) 0
  have h1 := H2.rest.ltX (.head _)
  have H3 : Dec I T W (w2.setCell ⟨w.heap.size + 1, 0, none⟩ (.int .i64 z)) g v n k1 a2 (segX 58 (w.heap.size + 1) [.int .i64 z, .int .i64 0, .slice none 0 0] :: segX 58 w.heap.size [.int .i64 0, .int .i64 0, .slice none 0 0] :: ss) := H2.beside (fun d K => by have h := ((K.front 1 rfl).setX 0 (.int .i64 z)).front 1 rfl; exact h)
  have HE0 := Lib.hid (H3.beside (fun d K => K.drew1))
  have HK0 := Lib.hid (HE0.out.rest.c3 (.head _))
  clear H2
  go_wp2_with fail
  clear o0 o1 o2 f0 h1 H3
  go_region_held3 (fun w' => w'.cell? ⟨w.heap.size + 1, 0, none⟩ = some (.int .i64 z) ∧ w'.cell? ⟨w.heap.size + 1, 1, none⟩ = some (.int .i64 0) ∧ w'.cell? ⟨w.heap.size + 1, 2, none⟩ = some (.slice none 0 0))
    (first
      | exact HK0.out
      | exact HK1.out
      | exact HK2.out)
    (first
      | (go_at_call 46; refine (isNext_any (.slice As M.length cs) (.slice none 0 0) M z 0 _ (HM.out _ (HE0.out.rest.sub (.cons _ (.cons _ (List.Sublist.refl _)))))).mono ?_; rintro ev w5 ⟨r5, rfl, hb5, hr5⟩; have HE1 := Lib.hid (HE0.out.beside (fun d K => K.up hb5)); have HK1 := Lib.hid (HE1.out.rest.c3 (.head _)); have HR5 := Lib.hid (HFX.out r5 hr5); clear hb5 hr5)
      | (go_at_call 38; refine (requireC_any I T W _ g v n k1 a2 r5 6 (by decide) _ HE1.out).mono ?_; rw [HR5.out]; rintro ev w6 ⟨rfl, D6⟩; have HE2 := Lib.hid D6; have HK2 := Lib.hid (HE2.out.rest.c3 (.head _)); clear D6))
  have HD6 := HE2
  clear HE0 HK0 HE1 HK1 HK2 HE2 HR5
  go_wp2_with fail
  refine (number_any I T W _ g v l n k1 a3 _ HD6.out HV.out hl'.out).mono ?_
  rw [← S4.out.1, ← S4.out.2.1, ← S4.out.2.2]
  rintro ev w8 ⟨rfl, H8⟩
  replace H8 : Dec I T W w8 g v n k2 a4 (segX 58 (w.heap.size + 1) [.int .i64 z, .int .i64 0, .slice none 0 0] :: segX 58 w.heap.size [.int .i64 0, .int .i64 0, .slice none 0 0] :: ss) := H8
  clear HD6
  obtain ⟨o0, o1, o2⟩ := H8.rest.c3 (.head _)
  have f1 := H8.rest.frX (.head _) 1
  have h1 := H8.rest.ltX (.head _)
  have H9 : Dec I T W (w8.setCell ⟨w.heap.size + 1, 1, none⟩ (.int .i64 y)) g v n k2 a4 (segX 58 (w.heap.size + 1) [.int .i64 z, .int .i64 y, .slice none 0 0] :: segX 58 w.heap.size [.int .i64 0, .int .i64 0, .slice none 0 0] :: ss) := H8.beside (fun d K => by have h := ((K.front 1 rfl).setX 1 (.int .i64 y)).front 1 rfl; exact h)
  have HE0 := Lib.hid (H9.beside (fun d K => K.drew1))
  have HK0 := Lib.hid (HE0.out.rest.atX (.head _) 1 rfl)
  clear H8
  go_wp2_with fail
  clear o0 o1 o2 f1 h1 H9
  go_region_held3 (fun w' => w'.cell? ⟨w.heap.size + 1, 1, none⟩ = some (.int .i64 y))
    (first
      | exact HK0.out
      | exact HK1.out)
    (first
      | (go_at_call 38; refine (requireC_any I T W _ g v n k2 a4 (decide (y < x)) 6 (by decide) _ HE0.out).mono ?_; rw [← S5.out]; rintro ev w10 ⟨rfl, D10⟩; have HE1 := Lib.hid D10; have HK1 := Lib.hid (HE1.out.rest.atX (.head _) 1 rfl); clear D10))
  have HD10 := HE1
  clear HE0 HK0 HE1 HK1
  go_wp2_with fail
  refine (hashRd_any I T W _ g v l n k2 a5 _ HD10.out HV.out hl'.out B2.out).mono ?_
  rw [← S6.out.1, ← S6.out.2.1, ← S6.out.2.2]
  rintro ev w12 ⟨u12, rfl, H12⟩
  replace H12 : Dec I T W w12 g v n k3 a6 (segB 5 u12 r :: segX 58 (w.heap.size + 1) [.int .i64 z, .int .i64 y, .slice none 0 0] :: segX 58 w.heap.size [.int .i64 0, .int .i64 0, .slice none 0 0] :: ss) := H12
  clear HD10
  obtain ⟨A6, c6, rfl⟩ := H12.rest.openB' (.head _)
  obtain ⟨o0, o1, o2⟩ := H12.rest.c3 (.tail _ (.head _))
  have f2 := H12.rest.frX (.tail _ (.head _)) 2
  have h1 := H12.rest.ltX (.tail _ (.head _))
  obtain ⟨r0, r1, r2⟩ := H12.rest.c3 (.tail _ (.tail _ (.head _)))
  obtain ⟨q0, q1, q2⟩ := H12.rest.f3 (.tail _ (.tail _ (.head _)))
  have h2 := H12.rest.ltX (.tail _ (.tail _ (.head _)))
  have K12 := Lib.hid H12
  clear H12 S1 S4 S5 S6
  go_wp2
  refine bodyPost_ret (v := .agg #[.int .i64 z, .int .i64 y, .slice A6 r.length c6]) (by simp [results, Tryd.results39, go_sem, r0, r1, r2]) rfl ⟨⟨z, y, r⟩, k3, a6, _, rfl, HST.out, ?_⟩
  exact K12.out.beside (fun d K => by have h := ((((K.front 2 rfl).setX 2 (.slice A6 r.length c6)).front 3 rfl).over3 (.int .i64 z) (.int .i64 y) (.slice A6 r.length c6)); exact (h.sub (.cons _ (.cons _ (List.Sublist.refl _)))))
end Go.Proofs.YtickneafppbegaaDoor
