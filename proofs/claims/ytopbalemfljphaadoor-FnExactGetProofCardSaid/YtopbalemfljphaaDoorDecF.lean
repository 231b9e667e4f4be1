/- The decoder of the model once more (l11Var, l11Raw, l11Fail): what it leaves beside its rows. -/
import Derived.Test.YtopbalemfljphaaDoorDecS
import Derived.Test.YtopbalemfljphaaDoorRowsE
namespace Go.Proofs.YtopbalemfljphaaDoor
open Go.ChangeShapes Go.WideShapes Go.ChangeAt Go.RowKit

/-- A store into a box that S holds. -/
theorem Frm.setF {S : Nat → Prop} {a W w : World} {T : TypeId} {g j : Nat} {xs : List Value} {ss : List (List Row)} (h : Frm S a w) (H : InvF W w (segX T g xs :: ss)) (u : Value) (hg : S g := by rfl) : Frm S a (w.setCell ⟨g, j, none⟩ u) :=
  h.trans (Frm.grown (World.ownsRow.stored (H.rowX (.head _)) j u).2 (fun b hb => by injection hb with hb; rw [← hb]; exact hg))
/-- Rows in blocks of which S does not hold stand. -/
theorem InvF.keptF {S : Nat → Prop} {W w w' : World} {ss : List (List Row)} (H : InvF W w ss) (hF : Frm S w w') (hS : ∀ b, S b → W.heap.size ≤ b) (hn : ∀ p ∈ ss.flatten, ∀ b, p.2.1.ownBlock = some b → ¬ S b) : InvF W w' ss :=
  ⟨H.1.trans (hF.below hS H.le), fun p hp => row_same (H.2.1 p hp) (fun b hb => hF.block b ((H.2.1 p hp).lt b hb).2 (hn p hp b hb)), H.2.2⟩

set_option maxRecDepth 100000 in
set_option maxHeartbeats 1000000 in
theorem l11Var_F (W w : World) (g : Nat) (v : Value) (l : List UInt8) (p e : Int) (ss : List (List Row)) (H : InvF W w (segX 51 g [v, .int .i64 p, .int .i64 e] :: ss)) (hv : Sp W W.heap.size v l) (hl : l.length ≤ 4294967296) :
    Calls Tryd.prog 37 #[.pointer (some ⟨g, 0, none⟩)] w (fun ev w' => ev = .returned (.int .i64 (nV l p e)) ∧ InvF W w' (segX 51 g [v, .int .i64 (nP l p e), .int .i64 (nE l p e)] :: ss) ∧ Frm (fun b => b = g) w w') := by
  obtain ⟨A, n, rfl, _⟩ := hv.sl
  by_cases he : e = 0
  · subst he
    rw [nV_yes, nP_yes, nE_yes]
    have hc := fun W h => specGetVar_any (.slice A l.length n) l p W h hl
    unfold V3 at hc
    obtain ⟨⟨x, y, z⟩, hr⟩ : ∃ r, r = getV l p := ⟨_, rfl⟩
    rw [← hr] at hc ⊢
    have HC := Lib.hid hc
    clear hr hc
    have HV := Lib.hid hv
    have K := Lib.hid H
    have q0 := H.atX (.head _) 0 rfl
    have q1 := H.atX (.head _) 1 rfl
    have q2 := H.atX (.head _) 2 rfl
    have HE := Lib.hid (H.drewN 1)
    clear H hv
    go_enter Tryd.func37, Tryd.ntmps37
    go_wp2_with fail
    go_region_held3 (fun w' => w'.cell? ⟨g, 0, none⟩ = some (.slice A l.length n) ∧ w'.cell? ⟨g, 1, none⟩ = some (.int .i64 p))
      (first
        | go_keep
        | exact ⟨HE1.out.atX (.head _) 0 rfl, HE1.out.atX (.head _) 1 rfl⟩)
      (first
        | (go_at_call 61; refine (HC.out _ (HV.out.up HE.out.bel)).mono ?_; rintro ev w1 ⟨rfl, hb1⟩; have HE1 := Lib.hid (HE.out.up hb1); have HF1 := Lib.hid (((Frm.refl (fun b => b = g) w).drewN 1).trans (Frm.of_below hb1)); clear hb1))
    have r1 := HE1.out.atX (.head _) 1 rfl
    have r2 := HE1.out.atX (.head _) 2 rfl
    have s1 := HE1.out.frX (.head _) 1
    have s2 := HE1.out.frX (.head _) 2
    clear q0 q1 q2 K HE
    go_wp2
    go_ret
    exact ⟨rfl, (HE1.out.setX 2 (.int .i64 z)).setX 1 (.int .i64 y), (HF1.out.setF HE1.out (.int .i64 z)).setF (HE1.out.setX 2 (.int .i64 z)) (.int .i64 y)⟩
  · rw [nV_no he, nP_no he, nE_no he]
    have hne : (e != 0) = true := by simpa using he
    have q2 := H.atX (.head _) 2 rfl
    have K := Lib.hid H
    clear H he hv
    go_enter Tryd.func37, Tryd.ntmps37
    go_wp2
    go_ret
    exact ⟨rfl, K.out, Frm.refl _ _⟩

set_option maxRecDepth 100000 in
set_option maxHeartbeats 1000000 in
theorem l11Raw_F (W w : World) (g : Nat) (v : Value) (l : List UInt8) (p e : Int) (ss : List (List Row)) (H : InvF W w (segX 51 g [v, .int .i64 p, .int .i64 e] :: ss)) (hv : Sp W W.heap.size v l) (hl : l.length ≤ 4294967296) :
    Calls Tryd.prog 53 #[.pointer (some ⟨g, 0, none⟩)] w (fun ev w' => ∃ u, ev = .returned u ∧ (∀ b, u.ownBlock = some b → w.heap.size ≤ b) ∧ InvF W w' (segX 51 g [v, .int .i64 (rP l 32 p e), .int .i64 (rE l 32 p e)] :: segB 5 u (rV l 32 p e) :: ss) ∧ Frm (fun b => b = g) w w') := by
  obtain ⟨A, n, rfl, _⟩ := hv.sl
  by_cases he : e = 0
  · subst he
    rw [rV_yes, rP_yes, rE_yes]
    have hc := fun W h => specGetRaw_any (.slice A l.length n) l p 32 W h hl
    unfold Fresh3 at hc
    obtain ⟨x, hx⟩ : ∃ r, r = rawL l p 32 := ⟨_, rfl⟩
    obtain ⟨y, hy⟩ : ∃ r, r = rawN l p 32 := ⟨_, rfl⟩
    obtain ⟨z, hz⟩ : ∃ r, r = rawE l p 32 := ⟨_, rfl⟩
    rw [← hx, ← hy, ← hz]
    rw [← hx, ← hy, ← hz] at hc
    have HC := Lib.hid hc
    clear hx hy hz hc
    have HV := Lib.hid hv
    have K := Lib.hid H
    have q0 := H.atX (.head _) 0 rfl
    have q1 := H.atX (.head _) 1 rfl
    have q2 := H.atX (.head _) 2 rfl
    have HE := Lib.hid (H.drewN 1)
    clear H hv
    go_enter Tryd.func53, Tryd.ntmps53
    go_wp2_with fail
    go_region_held3 (fun w' => w'.cell? ⟨g, 0, none⟩ = some (.slice A l.length n) ∧ w'.cell? ⟨g, 1, none⟩ = some (.int .i64 p))
      (first
        | go_keep
        | exact ⟨HE1.out.atX (.head _) 0 rfl, HE1.out.atX (.head _) 1 rfl⟩)
      (first
        | (go_at_call 79; refine (HC.out _ (HV.out.up HE.out.bel)).mono ?_; rintro ev w1 ⟨u, rfl, ho1, hb1⟩; have HE1 := Lib.hid ((HE.out.moreB ho1 hb1).front 1 rfl); have HF1 := Lib.hid (((Frm.refl (fun b => b = g) w).drewN 1).trans (Frm.of_below hb1)); have HO1 : Hid (∀ b, u.ownBlock = some b → w.heap.size ≤ b) := Lib.hid (fun b hb => (ho1.lt b hb).1); clear ho1 hb1))
    have r1 := HE1.out.atX (.head _) 1 rfl
    have r2 := HE1.out.atX (.head _) 2 rfl
    have s1 := HE1.out.frX (.head _) 1
    have s2 := HE1.out.frX (.head _) 2
    clear q0 q1 q2 K HE
    go_wp2
    go_ret
    exact ⟨_, rfl, HO1.out, (HE1.out.setX 2 (.int .i64 z)).setX 1 (.int .i64 y), (HF1.out.setF HE1.out (.int .i64 z)).setF (HE1.out.setX 2 (.int .i64 z)) (.int .i64 y)⟩
  · rw [rV_no he, rP_no he, rE_no he]
    have hne : (e != 0) = true := by simpa using he
    have q2 := H.atX (.head _) 2 rfl
    have K := Lib.hid ((H.moreB (E := 5) (v := .slice none 0 0) (l := []) (World.ownsRow_nil _ _ _ _) (Below.refl _ _)).front 1 rfl)
    clear H he hv
    go_enter Tryd.func53, Tryd.ntmps53
    go_wp2
    go_ret
    exact ⟨_, rfl, (fun b hb => by simp [Value.ownBlock] at hb), K.out, Frm.refl _ _⟩

set_option maxHeartbeats 1000000 in
theorem l11Fail_F (W w : World) (g : Nat) (v : Value) (p e c : Int) (bad : Bool) (ss : List (List Row)) (H : InvF W w (segX 51 g [v, .int .i64 p, .int .i64 e] :: ss)) :
    Calls Tryd.prog 38 #[.pointer (some ⟨g, 0, none⟩), .bool bad, .int .i64 c] w (fun ev w' => ev = .returned (.tuple #[]) ∧ InvF W w' (segX 51 g [v, .int .i64 p, .int .i64 (fE e (!bad) c)] :: ss) ∧ Frm (fun b => b = g) w w') := by
  have q2 := H.atX (.head _) 2 rfl
  have f2 := H.frX (.head _) 2
  have K := Lib.hid H
  clear H
  by_cases he : e = 0
  · subst he
    rw [fE_yes]
    rcases bad with _ | _
    · go_enter Tryd.func38, Tryd.ntmps38
      go_wp2
      go_end0
      exact ⟨rfl, K.out, Frm.refl _ _⟩
    · go_enter Tryd.func38, Tryd.ntmps38
      go_wp2
      go_end0
      exact ⟨rfl, K.out.setX 2 (.int .i64 c), (Frm.refl _ _).setF K.out (.int .i64 c)⟩
  · rw [fE_no he]
    have hne : (e == 0) = false := by simpa using he
    clear he
    go_enter Tryd.func38, Tryd.ntmps38
    go_wp2
    go_end0
    exact ⟨rfl, K.out, Frm.refl _ _⟩
end Go.Proofs.YtopbalemfljphaaDoor
