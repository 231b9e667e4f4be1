/- A text read by the decoders: of the model (l11Text) and of the program (text). -/
import Derived.Test.YtopbalemfljphaaDoorDecI
import Derived.Test.YtopbalemfljphaaDoorTxMath
namespace Go.Proofs.YtopbalemfljphaaDoor
open Go.ChangeShapes Go.WideShapes Go.ChangeAt Go.RowKit

set_option maxRecDepth 100000 in
set_option maxHeartbeats 1000000 in
theorem l11Text_any (W w : World) (g : Nat) (v : Value) (l : List UInt8) (m p e : Int) (ss : List (List Row)) (H : InvF W w (segX 51 g [v, .int .i64 p, .int .i64 e] :: ss)) (hv : Sp W W.heap.size v l) (hl : l.length ≤ 4294967296) :
    Calls Tryd.prog 51 #[.pointer (some ⟨g, 0, none⟩), .int .i64 m] w (fun ev w' => ∃ u, ev = .returned u ∧ InvF W w' (segX 51 g [v, .int .i64 (tP l m p e), .int .i64 (tE l m p e)] :: segB 5 u (tV l m p e) :: ss)) := by
  obtain ⟨A, n, rfl, _⟩ := hv.sl
  by_cases he : e = 0
  · subst he
    rw [tV_yes, tP_yes, tE_yes]
    have hc := fun W h => specGetText_any (.slice A l.length n) l p m W h hl
    unfold Fresh3 at hc
    obtain ⟨x, hx⟩ : ∃ r, r = txL l p m := ⟨_, rfl⟩
    obtain ⟨y, hy⟩ : ∃ r, r = txN l p m := ⟨_, rfl⟩
    obtain ⟨z, hz⟩ : ∃ r, r = txE l p m := ⟨_, rfl⟩
    rw [← hx, ← hy, ← hz]
    rw [← hx, ← hy, ← hz] at hc
    have HC := Lib.hid hc
    clear hx hy hz hc
    have HV := Lib.hid hv
    have K := Lib.hid H
    have q0 := H.atX (.head _) 0 rfl
    have q1 := H.atX (.head _) 1 rfl
    have q2 := H.atX (.head _) 2 rfl
    have HE := Lib.hid (H.drewN 1)
    clear H hv
    go_enter Tryd.func51, Tryd.ntmps51
    go_wp2_with fail
    go_region_held3 (fun w' => w'.cell? ⟨g, 0, none⟩ = some (.slice A l.length n) ∧ w'.cell? ⟨g, 1, none⟩ = some (.int .i64 p))
      (first
        | go_keep
        | exact ⟨HE1.out.atX (.head _) 0 rfl, HE1.out.atX (.head _) 1 rfl⟩)
      (first
        | (go_at_call 76; refine (HC.out _ (HV.out.up HE.out.bel)).mono ?_; rintro ev w1 ⟨u, rfl, ho1, hb1⟩; have HE1 := Lib.hid ((HE.out.moreB ho1 hb1).front 1 rfl); clear ho1 hb1))
    have r1 := HE1.out.atX (.head _) 1 rfl
    have r2 := HE1.out.atX (.head _) 2 rfl
    have s1 := HE1.out.frX (.head _) 1
    have s2 := HE1.out.frX (.head _) 2
    clear q0 q1 q2 K HE
    go_wp2
    go_ret
    exact ⟨_, rfl, (HE1.out.setX 2 (.int .i64 z)).setX 1 (.int .i64 y)⟩
  · rw [tV_no he, tP_no he, tE_no he]
    have hne : (e != 0) = true := by simpa using he
    have q2 := H.atX (.head _) 2 rfl
    have K := Lib.hid ((H.moreB (E := 5) (v := .slice none 0 0) (l := []) (World.ownsRow_nil _ _ _ _) (Below.refl _ _)).front 1 rfl)
    clear H he hv
    go_enter Tryd.func51, Tryd.ntmps51
    go_wp2
    go_ret
    exact ⟨_, rfl, K.out⟩

set_option maxRecDepth 100000 in
set_option maxHeartbeats 2000000 in
theorem text_any (I : Int × Int × Int × Int) (T : TypeId) (W w : World) (g : Nat) (v : Value) (l : List UInt8) (n m p e : Int) (ss : List (List Row)) (H : Dec I T W w g v n p e ss) (hv : Sp W W.heap.size v l) (hl : l.length ≤ 4294967296) :
    Calls Tryd.prog 55 #[.pointer (some ⟨g, 0, none⟩), .int .i64 m] w (fun ev w' => ∃ u, ev = .returned u ∧ Dec I T W w' g v n (tP l m p e) (tE l m p e) (segB 5 u (tV l m p e) :: ss)) := by
  obtain ⟨i0, i1, i2, i3, i4, b, q, K0, hq⟩ := H
  by_cases he : e = 0
  · subst he
    obtain ⟨rfl, rfl, rfl, rfl⟩ := hq rfl
    obtain ⟨A, M, rfl, k1⟩ := hv.sl
    clear k1 hq
    rw [tV_yes, tP_yes, tE_yes]
    have hc := fun W h => readText_any (.slice A l.length M) l q m W h hl
    unfold Fresh3 at hc
    obtain ⟨x, hx⟩ : ∃ r, r = txL l q m := ⟨_, rfl⟩
    obtain ⟨y, hy⟩ : ∃ r, r = txN l q m := ⟨_, rfl⟩
    obtain ⟨z, hz⟩ : ∃ r, r = txE l q m := ⟨_, rfl⟩
    rw [← hx, ← hy, ← hz]
    rw [← hx, ← hy, ← hz] at hc
    have HC := Lib.hid hc
    clear hx hy hz hc
    have HV := Lib.hid hv
    rw [errV_zero] at K0
    have q5 := K0.atX (.head _) 5 rfl
    have q6 := K0.atX (.head _) 6 rfl
    have q7 := K0.atX (.head _) 7 rfl
    have HE := Lib.hid K0.drew1
    clear K0 hv
    by_cases hz : z = 0
    · subst hz
      simp only [errV_zero] at HC
      go_enter Tryd.func55, Tryd.ntmps55
      go_wp2_with fail
      go_region_held3 (fun w' => w'.cell? ⟨g, 5, none⟩ = some (.slice A l.length M) ∧ w'.cell? ⟨g, 6, none⟩ = some (.int .i64 q))
        (first
          | go_keep
          | exact ⟨HE1.out.atX (.head _) 5 rfl, HE1.out.atX (.head _) 6 rfl⟩)
        (first
          | (go_at_call 81; refine (HC.out _ (HV.out.up HE.out.bel)).mono ?_; rintro ev w1 ⟨u, rfl, ho1, hb1⟩; have HE1 := Lib.hid ((HE.out.moreB ho1 hb1).front 1 rfl); clear ho1 hb1))
      have t6 := HE1.out.atX (.head _) 6 rfl
      have t7 := HE1.out.atX (.head _) 7 rfl
      have r6 := HE1.out.frX (.head _) 6
      have r7 := HE1.out.frX (.head _) 7
      clear q5 q6 q7 HE
      go_wp2
      go_ret
      exact ⟨_, rfl, _, _, _, _, _, _, _, (HE1.out.setX 6 (.int .i64 y)).setX 7 .nilIface, fun _ => ⟨rfl, rfl, rfl, rfl⟩⟩
    · simp only [errV_no hz] at HC
      have HZ := Lib.hid hz
      have HN := Lib.hid (errV_no hz)
      clear hz
      go_enter Tryd.func55, Tryd.ntmps55
      go_wp2_with fail
      go_region_held3 (fun w' => w'.cell? ⟨g, 5, none⟩ = some (.slice A l.length M) ∧ w'.cell? ⟨g, 6, none⟩ = some (.int .i64 q))
        (first
          | go_keep
          | exact ⟨HE1.out.atX (.head _) 5 rfl, HE1.out.atX (.head _) 6 rfl⟩)
        (first
          | (go_at_call 81; refine (HC.out _ (HV.out.up HE.out.bel)).mono ?_; rintro ev w1 ⟨u, rfl, ho1, hb1⟩; have HE1 := Lib.hid ((HE.out.moreB ho1 hb1).front 1 rfl); clear ho1 hb1))
      have t6 := HE1.out.atX (.head _) 6 rfl
      have t7 := HE1.out.atX (.head _) 7 rfl
      have r6 := HE1.out.frX (.head _) 6
      have r7 := HE1.out.frX (.head _) 7
      clear q5 q6 q7 HE
      go_wp2
      go_ret
      exact ⟨_, rfl, _, _, _, _, _, _, _, by rw [HN.out]; exact (HE1.out.setX 6 (.int .i64 y)).setX 7 (.iface 83 (.agg #[.int .i64 z])), fun h => absurd h HZ.out⟩
  · rw [tV_no he, tP_no he, tE_no he]
    have HK := Lib.hid (And.intro ((K0.moreB (E := 5) (v := .slice none 0 0) (l := []) (World.ownsRow_nil _ _ _ _) (Below.refl _ _)).front 1 rfl) hq)
    rw [errV_no he] at K0
    have q7 := K0.atX (.head _) 7 rfl
    clear K0 he hv hq
    go_enter Tryd.func55, Tryd.ntmps55
    go_wp2
    go_ret
    exact ⟨_, rfl, _, _, _, _, _, _, _, HK.out.1, HK.out.2⟩

end Go.Proofs.YtopbalemfljphaaDoor
