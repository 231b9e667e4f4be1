/- The decoder of the model (l11Rd behind a pointer): l11New, l11Var, l11Raw, l11Fail. -/
import Derived.Test.YtopbalemfljphaaDoorBox
import Derived.Test.YtopbalemfljphaaDoorLimits
import Derived.Test.YtopbalemfljphaaDoorStackBase
import Derived.Test.YtopbalemfljphaaDoorGetVar
import Derived.Test.YtopbalemfljphaaDoorDecMath
import Derived.Deep.RegionHeld3
namespace Go.Proofs.YtopbalemfljphaaDoor
open Go.ChangeShapes Go.WideShapes Go.ChangeAt Go.RowKit

/-- The error of limits that are not valid. -/
def limE (a b c d e : Int) : Int := if limB a b c d e = true then 0 else 5
set_option maxHeartbeats 1000000 in
theorem l11New_any (a b c d e p : Int) (v : Value) (w : World) (l : List UInt8) (hv : Sl w w.heap.size v l) :
    Calls Tryd.prog 19 #[.agg #[.int .i64 a, .int .i64 b, .int .i64 c, .int .i64 d, .int .i64 e], v, .int .i64 p] w (fun ev w' => ∃ g, ev = .returned (.pointer (some ⟨g, 0, none⟩)) ∧ InvF w w' [segX 51 g [v, .int .i64 p, .int .i64 (limE a b c d e)]]) := by
  obtain ⟨A, n, rfl, _⟩ := hv
  have c0 := fun W => specLimitsOk_any a b c d e W
  unfold limE
  obtain ⟨x0, g0⟩ : ∃ x0, x0 = limB a b c d e := ⟨_, rfl⟩
  rw [← g0]
  rw [← g0] at c0
  have C0 := Lib.hid c0
  clear c0 g0
  have H0 := ((InvF.start w).newG 33 #[.int .i64 a, .int .i64 b, .int .i64 c, .int .i64 d, .int .i64 e] w.heap.size).newG 51 #[.slice A l.length n, .int .i64 p, .int .i64 0] (w.heap.size + 1)
  go_enter Tryd.func19, Tryd.ntmps19
  go_wp2_with fail
  refine (C0.out _).mono ?_
  rintro ev w1 ⟨rfl, hb1⟩
  have H : InvF w w1 [segX 51 (w.heap.size + 1) [.slice A l.length n, .int .i64 p, .int .i64 0], segX 33 w.heap.size [.int .i64 a, .int .i64 b, .int .i64 c, .int .i64 d, .int .i64 e]] := H0.up hb1
  clear H0 hb1
  have q2 := H.atX (.head _) 2 rfl
  have f2 := H.frX (.head _) 2
  have K := Lib.hid H
  clear H
  rcases x0 with _ | _
  · go_wp2
    go_ret
    exact ⟨_, rfl, (K.out.setX 2 (.int .i64 5)).sub (.cons_cons _ (.cons _ .slnil))⟩
  · go_wp2
    go_ret
    exact ⟨_, rfl, K.out.sub (.cons_cons _ (.cons _ .slnil))⟩

set_option maxRecDepth 100000 in
set_option maxHeartbeats 1000000 in
theorem l11Var_any (W w : World) (g : Nat) (v : Value) (l : List UInt8) (p e : Int) (ss : List (List Row)) (H : InvF W w (segX 51 g [v, .int .i64 p, .int .i64 e] :: ss)) (hv : Sp W W.heap.size v l) (hl : l.length ≤ 4294967296) :
    Calls Tryd.prog 37 #[.pointer (some ⟨g, 0, none⟩)] w (fun ev w' => ev = .returned (.int .i64 (nV l p e)) ∧ InvF W w' (segX 51 g [v, .int .i64 (nP l p e), .int .i64 (nE l p e)] :: ss)) := by
  obtain ⟨A, n, rfl, _⟩ := hv.sl
  by_cases he : e = 0
  · subst he
    rw [nV_yes, nP_yes, nE_yes]
    have hc := fun W h => specGetVar_any (.slice A l.length n) l p W h hl
    unfold V3 at hc
    obtain ⟨⟨x, y, z⟩, hr⟩ : ∃ r, r = getV l p := ⟨_, rfl⟩
    rw [← hr] at hc ⊢
    have HC := Lib.hid hc
    clear hr hc
    have HV := Lib.hid hv
    have K := Lib.hid H
    have q0 := H.atX (.head _) 0 rfl
    have q1 := H.atX (.head _) 1 rfl
    have q2 := H.atX (.head _) 2 rfl
    have HE := Lib.hid (H.drewN 1)
    clear H hv
    go_enter Tryd.func37, Tryd.ntmps37
    go_wp2_with fail
    go_region_held3 (fun w' => w'.cell? ⟨g, 0, none⟩ = some (.slice A l.length n) ∧ w'.cell? ⟨g, 1, none⟩ = some (.int .i64 p))
      (first
        | go_keep
        | exact ⟨HE1.out.atX (.head _) 0 rfl, HE1.out.atX (.head _) 1 rfl⟩)
      (first
        | (go_at_call 61; refine (HC.out _ (HV.out.up HE.out.bel)).mono ?_; rintro ev w1 ⟨rfl, hb1⟩; have HE1 := Lib.hid (HE.out.up hb1); clear hb1))
    have r1 := HE1.out.atX (.head _) 1 rfl
    have r2 := HE1.out.atX (.head _) 2 rfl
    have s1 := HE1.out.frX (.head _) 1
    have s2 := HE1.out.frX (.head _) 2
    clear q0 q1 q2 K HE
    go_wp2
    go_ret
    exact ⟨rfl, (HE1.out.setX 2 (.int .i64 z)).setX 1 (.int .i64 y)⟩
  · rw [nV_no he, nP_no he, nE_no he]
    have hne : (e != 0) = true := by simpa using he
    have q2 := H.atX (.head _) 2 rfl
    have K := Lib.hid H
    clear H he hv
    go_enter Tryd.func37, Tryd.ntmps37
    go_wp2
    go_ret
    exact ⟨rfl, K.out⟩

set_option maxRecDepth 100000 in
set_option maxHeartbeats 1000000 in
theorem l11Raw_any (W w : World) (g : Nat) (v : Value) (l : List UInt8) (p e : Int) (ss : List (List Row)) (H : InvF W w (segX 51 g [v, .int .i64 p, .int .i64 e] :: ss)) (hv : Sp W W.heap.size v l) (hl : l.length ≤ 4294967296) :
    Calls Tryd.prog 53 #[.pointer (some ⟨g, 0, none⟩)] w (fun ev w' => ∃ u, ev = .returned u ∧ InvF W w' (segX 51 g [v, .int .i64 (rP l 32 p e), .int .i64 (rE l 32 p e)] :: segB 5 u (rV l 32 p e) :: ss)) := by
  obtain ⟨A, n, rfl, _⟩ := hv.sl
  by_cases he : e = 0
  · subst he
    rw [rV_yes, rP_yes, rE_yes]
    have hc := fun W h => specGetRaw_any (.slice A l.length n) l p 32 W h hl
    unfold Fresh3 at hc
    obtain ⟨x, hx⟩ : ∃ r, r = rawL l p 32 := ⟨_, rfl⟩
    obtain ⟨y, hy⟩ : ∃ r, r = rawN l p 32 := ⟨_, rfl⟩
    obtain ⟨z, hz⟩ : ∃ r, r = rawE l p 32 := ⟨_, rfl⟩
    rw [← hx, ← hy, ← hz]
    rw [← hx, ← hy, ← hz] at hc
    have HC := Lib.hid hc
    clear hx hy hz hc
    have HV := Lib.hid hv
    have K := Lib.hid H
    have q0 := H.atX (.head _) 0 rfl
    have q1 := H.atX (.head _) 1 rfl
    have q2 := H.atX (.head _) 2 rfl
    have HE := Lib.hid (H.drewN 1)
    clear H hv
    go_enter Tryd.func53, Tryd.ntmps53
    go_wp2_with fail
    go_region_held3 (fun w' => w'.cell? ⟨g, 0, none⟩ = some (.slice A l.length n) ∧ w'.cell? ⟨g, 1, none⟩ = some (.int .i64 p))
      (first
        | go_keep
        | exact ⟨HE1.out.atX (.head _) 0 rfl, HE1.out.atX (.head _) 1 rfl⟩)
      (first
        | (go_at_call 79; refine (HC.out _ (HV.out.up HE.out.bel)).mono ?_; rintro ev w1 ⟨u, rfl, ho1, hb1⟩; have HE1 := Lib.hid ((HE.out.moreB ho1 hb1).front 1 rfl); clear ho1 hb1))
    have r1 := HE1.out.atX (.head _) 1 rfl
    have r2 := HE1.out.atX (.head _) 2 rfl
    have s1 := HE1.out.frX (.head _) 1
    have s2 := HE1.out.frX (.head _) 2
    clear q0 q1 q2 K HE
    go_wp2
    go_ret
    exact ⟨_, rfl, (HE1.out.setX 2 (.int .i64 z)).setX 1 (.int .i64 y)⟩
  · rw [rV_no he, rP_no he, rE_no he]
    have hne : (e != 0) = true := by simpa using he
    have q2 := H.atX (.head _) 2 rfl
    have K := Lib.hid ((H.moreB (E := 5) (v := .slice none 0 0) (l := []) (World.ownsRow_nil _ _ _ _) (Below.refl _ _)).front 1 rfl)
    clear H he hv
    go_enter Tryd.func53, Tryd.ntmps53
    go_wp2
    go_ret
    exact ⟨_, rfl, K.out⟩

set_option maxHeartbeats 1000000 in
theorem l11Fail_any (W w : World) (g : Nat) (v : Value) (p e c : Int) (bad : Bool) (ss : List (List Row)) (H : InvF W w (segX 51 g [v, .int .i64 p, .int .i64 e] :: ss)) :
    Calls Tryd.prog 38 #[.pointer (some ⟨g, 0, none⟩), .bool bad, .int .i64 c] w (fun ev w' => ev = .returned (.tuple #[]) ∧ InvF W w' (segX 51 g [v, .int .i64 p, .int .i64 (fE e (!bad) c)] :: ss)) := by
  have q2 := H.atX (.head _) 2 rfl
  have f2 := H.frX (.head _) 2
  have K := Lib.hid H
  clear H
  by_cases he : e = 0
  · subst he
    rw [fE_yes]
    rcases bad with _ | _
    · go_enter Tryd.func38, Tryd.ntmps38
      go_wp2
      go_end0
      exact ⟨rfl, K.out⟩
    · go_enter Tryd.func38, Tryd.ntmps38
      go_wp2
      go_end0
      exact ⟨rfl, K.out.setX 2 (.int .i64 c)⟩
  · rw [fE_no he]
    have hne : (e == 0) = false := by simpa using he
    clear he
    go_enter Tryd.func38, Tryd.ntmps38
    go_wp2
    go_end0
    exact ⟨rfl, K.out⟩
end Go.Proofs.YtopbalemfljphaaDoor
