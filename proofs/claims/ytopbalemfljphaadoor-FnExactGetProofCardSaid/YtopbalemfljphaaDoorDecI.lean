/- The program's decoder of parts (partDecoder behind a pointer): decoderAt, number, hash, require, signer. -/
import Derived.Test.YtopbalemfljphaaDoorDecS
namespace Go.Proofs.YtopbalemfljphaaDoor
open Go.ChangeShapes Go.WideShapes Go.ChangeAt Go.RowKit

/-- The decoder in block g: the limits, the bytes, the place, the error e; where there is no error it stands at p of v, under limits of n signers. -/
def Dec (I : Int × Int × Int × Int) (T : TypeId) (W w : World) (g : Nat) (v : Value) (n p e : Int) (ss : List (List Row)) : Prop :=
  ∃ (i0 i1 i2 i3 i4 : Int) (b : Value) (q : Int), InvF W w (segX T g [.int .i64 i0, .int .i64 i1, .int .i64 i2, .int .i64 i3, .int .i64 i4, b, .int .i64 q, errV e] :: ss) ∧ (e = 0 → b = v ∧ q = p ∧ i0 = n ∧ I = (i1, i2, i3, i4))
/-- The error with a code, as a value. -/
theorem errV_no {e : Int} (h : e ≠ 0) : errV e = .iface 83 (.agg #[.int .i64 e]) := if_neg h

set_option maxRecDepth 100000 in
set_option maxHeartbeats 2000000 in
theorem number_any (I : Int × Int × Int × Int) (T : TypeId) (W w : World) (g : Nat) (v : Value) (l : List UInt8) (n p e : Int) (ss : List (List Row)) (H : Dec I T W w g v n p e ss) (hv : Sp W W.heap.size v l) (hl : l.length ≤ 4294967296) :
    Calls Tryd.prog 54 #[.pointer (some ⟨g, 0, none⟩)] w (fun ev w' => ev = .returned (.int .i64 (nV l p e)) ∧ Dec I T W w' g v n (nP l p e) (nE l p e) ss) := by
  obtain ⟨i0, i1, i2, i3, i4, b, q, K0, hq⟩ := H
  by_cases he : e = 0
  · subst he
    obtain ⟨rfl, rfl, rfl, rfl⟩ := hq rfl
    obtain ⟨A, m, rfl, k1⟩ := hv.sl
    clear k1 hq
    rw [nV_yes, nP_yes, nE_yes]
    have hc := fun W h => readVar_any (.slice A l.length m) l q W h hl
    unfold V3e at hc
    obtain ⟨⟨x, y, z⟩, hr⟩ : ∃ r, r = getV l q := ⟨_, rfl⟩
    rw [← hr] at hc ⊢
    have HC := Lib.hid hc
    clear hr hc
    have HV := Lib.hid hv
    rw [errV_zero] at K0
    have q5 := K0.atX (.head _) 5 rfl
    have q6 := K0.atX (.head _) 6 rfl
    have q7 := K0.atX (.head _) 7 rfl
    have HE := Lib.hid K0.drew1
    have r6 := K0.frX (.head _) 6
    have r7 := K0.frX (.head _) 7
    clear K0 hv
    by_cases hz : z = 0
    · subst hz
      simp only [errV_zero] at HC
      go_enter Tryd.func54, Tryd.ntmps54
      go_wp2_with fail
      go_region_held3 (fun w' => w'.cell? ⟨g, 5, none⟩ = some (.slice A l.length m) ∧ w'.cell? ⟨g, 6, none⟩ = some (.int .i64 q))
        (go_keep)
        (first
          | (go_at_call 80; refine (HC.out _ (HV.out.up HE.out.bel)).mono ?_; rintro ev w1 ⟨rfl, rfl⟩))
      go_wp2
      go_ret
      exact ⟨rfl, _, _, _, _, _, _, _, (HE.out.setX 6 (.int .i64 y)).setX 7 .nilIface, fun _ => ⟨rfl, rfl, rfl, rfl⟩⟩
    · simp only [errV_no hz] at HC
      have HZ := Lib.hid hz
      have HN := Lib.hid (errV_no hz)
      clear hz
      go_enter Tryd.func54, Tryd.ntmps54
      go_wp2_with fail
      go_region_held3 (fun w' => w'.cell? ⟨g, 5, none⟩ = some (.slice A l.length m) ∧ w'.cell? ⟨g, 6, none⟩ = some (.int .i64 q))
        (go_keep)
        (first
          | (go_at_call 80; refine (HC.out _ (HV.out.up HE.out.bel)).mono ?_; rintro ev w1 ⟨rfl, rfl⟩))
      go_wp2
      go_ret
      exact ⟨rfl, _, _, _, _, _, _, _, by rw [HN.out]; exact (HE.out.setX 6 (.int .i64 y)).setX 7 (.iface 83 (.agg #[.int .i64 z])), fun h => absurd h HZ.out⟩
  · rw [nV_no he, nP_no he, nE_no he]
    have HK := Lib.hid (And.intro K0 hq)
    rw [errV_no he] at K0
    have q7 := K0.atX (.head _) 7 rfl
    clear K0 he hv hq
    go_enter Tryd.func54, Tryd.ntmps54
    go_wp2
    go_ret
    exact ⟨rfl, _, _, _, _, _, _, _, HK.out.1, HK.out.2⟩

set_option maxRecDepth 100000 in
set_option maxHeartbeats 2000000 in
theorem hashRd_any (I : Int × Int × Int × Int) (T : TypeId) (W w : World) (g : Nat) (v : Value) (l : List UInt8) (n p e : Int) (ss : List (List Row)) (H : Dec I T W w g v n p e ss) (hv : Sp W W.heap.size v l) (hl : l.length ≤ 4294967296) (hp : p ≤ 9223372036854775807) :
    Calls Tryd.prog 58 #[.pointer (some ⟨g, 0, none⟩)] w (fun ev w' => ∃ u, ev = .returned u ∧ Dec I T W w' g v n (rP l 32 p e) (rE l 32 p e) (segB 5 u (rV l 32 p e) :: ss)) := by
  obtain ⟨i0, i1, i2, i3, i4, b, q, K0, hq⟩ := H
  by_cases he : e = 0
  · subst he
    obtain ⟨rfl, rfl, rfl, rfl⟩ := hq rfl
    obtain ⟨A, m, rfl, k1⟩ := hv.sl
    clear k1 hq
    rw [rV_yes, rP_yes, rE_yes]
    have hc := fun W h => readRaw_any (.slice A l.length m) l q 32 W h hl hp
    unfold Fresh3 at hc
    obtain ⟨x, hx⟩ : ∃ r, r = rawL l q 32 := ⟨_, rfl⟩
    obtain ⟨y, hy⟩ : ∃ r, r = rawN l q 32 := ⟨_, rfl⟩
    obtain ⟨z, hz⟩ : ∃ r, r = rawE l q 32 := ⟨_, rfl⟩
    rw [← hx, ← hy, ← hz]
    rw [← hx, ← hy, ← hz] at hc
    have HC := Lib.hid hc
    clear hx hy hz hc
    have HV := Lib.hid hv
    rw [errV_zero] at K0
    have q5 := K0.atX (.head _) 5 rfl
    have q6 := K0.atX (.head _) 6 rfl
    have q7 := K0.atX (.head _) 7 rfl
    have HE := Lib.hid K0.drew1
    clear K0 hv
    by_cases hz : z = 0
    · subst hz
      simp only [errV_zero] at HC
      go_enter Tryd.func58, Tryd.ntmps58
      go_wp2_with fail
      go_region_held3 (fun w' => w'.cell? ⟨g, 5, none⟩ = some (.slice A l.length m) ∧ w'.cell? ⟨g, 6, none⟩ = some (.int .i64 q))
        (first
          | go_keep
          | exact ⟨HE1.out.atX (.head _) 5 rfl, HE1.out.atX (.head _) 6 rfl⟩)
        (first
          | (go_at_call 84; refine (HC.out _ (HV.out.up HE.out.bel)).mono ?_; rintro ev w1 ⟨u, rfl, ho1, hb1⟩; have HE1 := Lib.hid ((HE.out.moreB ho1 hb1).front 1 rfl); clear ho1 hb1))
      have t6 := HE1.out.atX (.head _) 6 rfl
      have t7 := HE1.out.atX (.head _) 7 rfl
      have r6 := HE1.out.frX (.head _) 6
      have r7 := HE1.out.frX (.head _) 7
      clear q5 q6 q7 HE
      go_wp2
      go_ret
      exact ⟨_, rfl, _, _, _, _, _, _, _, (HE1.out.setX 6 (.int .i64 y)).setX 7 .nilIface, fun _ => ⟨rfl, rfl, rfl, rfl⟩⟩
    · simp only [errV_no hz] at HC
      have HZ := Lib.hid hz
      have HN := Lib.hid (errV_no hz)
      clear hz
      go_enter Tryd.func58, Tryd.ntmps58
      go_wp2_with fail
      go_region_held3 (fun w' => w'.cell? ⟨g, 5, none⟩ = some (.slice A l.length m) ∧ w'.cell? ⟨g, 6, none⟩ = some (.int .i64 q))
        (first
          | go_keep
          | exact ⟨HE1.out.atX (.head _) 5 rfl, HE1.out.atX (.head _) 6 rfl⟩)
        (first
          | (go_at_call 84; refine (HC.out _ (HV.out.up HE.out.bel)).mono ?_; rintro ev w1 ⟨u, rfl, ho1, hb1⟩; have HE1 := Lib.hid ((HE.out.moreB ho1 hb1).front 1 rfl); clear ho1 hb1))
      have t6 := HE1.out.atX (.head _) 6 rfl
      have t7 := HE1.out.atX (.head _) 7 rfl
      have r6 := HE1.out.frX (.head _) 6
      have r7 := HE1.out.frX (.head _) 7
      clear q5 q6 q7 HE
      go_wp2
      go_ret
      exact ⟨_, rfl, _, _, _, _, _, _, _, by rw [HN.out]; exact (HE1.out.setX 6 (.int .i64 y)).setX 7 (.iface 83 (.agg #[.int .i64 z])), fun h => absurd h HZ.out⟩
  · rw [rV_no he, rP_no he, rE_no he]
    have HK := Lib.hid (And.intro ((K0.moreB (E := 5) (v := .slice none 0 0) (l := []) (World.ownsRow_nil _ _ _ _) (Below.refl _ _)).front 1 rfl) hq)
    rw [errV_no he] at K0
    have q7 := K0.atX (.head _) 7 rfl
    clear K0 he hv hq
    go_enter Tryd.func58, Tryd.ntmps58
    go_wp2
    go_ret
    exact ⟨_, rfl, _, _, _, _, _, _, _, HK.out.1, HK.out.2⟩

set_option maxHeartbeats 2000000 in
theorem requireC_any (I : Int × Int × Int × Int) (T : TypeId) (W w : World) (g : Nat) (v : Value) (n p e : Int) (ok : Bool) (c : Int) (hc : c ≠ 0) (ss : List (List Row)) (H : Dec I T W w g v n p e ss) :
    Calls Tryd.prog 47 #[.pointer (some ⟨g, 0, none⟩), .bool ok, .int .i64 c] w (fun ev w' => ev = .returned (.tuple #[]) ∧ Dec I T W w' g v n p (fE e ok c) ss) := by
  obtain ⟨i0, i1, i2, i3, i4, b, q, K0, hq⟩ := H
  have HK := Lib.hid (And.intro K0 hq)
  have HC0 := Lib.hid hc
  have HN := Lib.hid (errV_no hc)
  clear hc
  by_cases he : e = 0
  · subst he
    rw [fE_yes]
    have r7 := K0.frX (.head _) 7
    rw [errV_zero] at K0
    have q7 := K0.atX (.head _) 7 rfl
    clear K0 hq
    rcases ok with _ | _
    · go_enter Tryd.func47, Tryd.ntmps47
      go_wp2
      go_end0
      exact ⟨rfl, _, _, _, _, _, _, _, by rw [HN.out]; exact HK.out.1.setX 7 (.iface 83 (.agg #[.int .i64 c])), fun h => absurd (by simpa using h) HC0.out⟩
    · go_enter Tryd.func47, Tryd.ntmps47
      go_wp2
      go_end0
      exact ⟨rfl, _, _, _, _, _, _, _, HK.out.1, fun h => HK.out.2 (by first | exact h | trivial)⟩
  · rw [fE_no he]
    rw [errV_no he] at K0
    have q7 := K0.atX (.head _) 7 rfl
    clear K0 he hq
    go_enter Tryd.func47, Tryd.ntmps47
    go_wp2
    go_end0
    exact ⟨rfl, _, _, _, _, _, _, _, HK.out.1, HK.out.2⟩

theorem require_any (I : Int × Int × Int × Int) (T : TypeId) (W w : World) (g : Nat) (v : Value) (n p e : Int) (ok : Bool) (ss : List (List Row)) (H : Dec I T W w g v n p e ss) :
    Calls Tryd.prog 47 #[.pointer (some ⟨g, 0, none⟩), .bool ok, .int .i64 5] w (fun ev w' => ev = .returned (.tuple #[]) ∧ Dec I T W w' g v n p (fE e ok 5) ss) :=
  requireC_any I T W w g v n p e ok 5 (by decide) ss H

theorem fE_same {e z m n : Int} (h : e = 0 → m = n) : fE e (isIn z m) 5 = fE e (isIn z n) 5 := by
  by_cases he : e = 0
  · rw [h he]
  · rw [fE_no he, fE_no he]
theorem Dec.open {I : Int × Int × Int × Int} {T : TypeId} {W w : World} {g : Nat} {v : Value} {n p e : Int} {ss : List (List Row)} (H : Dec I T W w g v n p e ss) : ∃ i0, w.cell? ⟨g, 0, none⟩ = some (.int .i64 i0) ∧ (e = 0 → i0 = n) := by
  obtain ⟨i0, i1, i2, i3, i4, b, q, K0, hq⟩ := H
  exact ⟨i0, K0.atX (.head _) 0 rfl, fun h => (hq h).2.2.1⟩

set_option maxHeartbeats 2000000 in
theorem signer_any (I : Int × Int × Int × Int) (T : TypeId) (W w : World) (g : Nat) (v : Value) (l : List UInt8) (n p e : Int) (ss : List (List Row)) (H : Dec I T W w g v n p e ss) (hv : Sp W W.heap.size v l) (hl : l.length ≤ 4294967296) :
    Calls Tryd.prog 67 #[.pointer (some ⟨g, 0, none⟩)] w (fun ev w' => ev = .returned (.int .i64 (nV l p e)) ∧ Dec I T W w' g v n (nP l p e) (fE (nE l p e) (isIn (nV l p e) n) 5) ss) := by
  have hc := number_any I T W w g v l n p e ss H hv hl
  obtain ⟨x, hx⟩ : ∃ x, x = nV l p e := ⟨_, rfl⟩
  obtain ⟨p1, hp⟩ : ∃ x, x = nP l p e := ⟨_, rfl⟩
  obtain ⟨e1, he⟩ : ∃ x, x = nE l p e := ⟨_, rfl⟩
  rw [← hx, ← hp, ← he] at hc ⊢
  have HC := Lib.hid hc
  clear hx hp he hc H hv
  go_enter Tryd.func67, Tryd.ntmps67
  go_wp2_with fail
  refine HC.out.mono ?_
  rintro ev w1 ⟨rfl, H1⟩
  obtain ⟨i0, q0, hi0⟩ := H1.open
  have HK := Lib.hid H1
  have HI := Lib.hid hi0
  clear H1 hi0 HC
  go_wp2_with fail
  refine (isSigner_any x i0 _).mono ?_
  rintro ev w' ⟨rfl, rfl⟩
  go_wp2_with fail
  refine (require_any I T W _ g v n p1 e1 (isIn x i0) ss HK.out).mono ?_
  rw [fE_same HI.out]
  rintro ev w2 ⟨rfl, H2⟩
  have HK2 := Lib.hid H2
  clear H2
  go_wp2
  go_ret
  exact ⟨rfl, HK2.out⟩

/-- What decoderAt returns: the cells of a decoder. -/
def DecAt (I : Int × Int × Int × Int) (w : World) (v : Value) (a p e : Int) (ev : Ending) (w' : World) : Prop :=
  ∃ (i0 i1 i2 i3 i4 : Int) (B : Option Addr) (n m : Nat) (q : Int), ev = .returned (.agg #[.int .i64 i0, .int .i64 i1, .int .i64 i2, .int .i64 i3, .int .i64 i4, .slice B n m, .int .i64 q, errV e]) ∧ (e = 0 → .slice B n m = v ∧ q = p ∧ i0 = a ∧ I = (i1, i2, i3, i4)) ∧ Below w.heap.size w w'
set_option maxRecDepth 100000 in
set_option maxHeartbeats 2000000 in
theorem decoderAt_any (a b c d e p : Int) (v : Value) (w : World) (l : List UInt8) (hv : Sl w w.heap.size v l) :
    Calls Tryd.prog 21 #[.agg #[.int .i64 a, .int .i64 b, .int .i64 c, .int .i64 d, .int .i64 e], v, .int .i64 p] w (DecAt (b, c, d, e) w v a p (limE a b c d e)) := by
  obtain ⟨A, n, rfl, _⟩ := hv
  have c0 := fun W => implLimitsOk_any a b c d e W
  have hE0 : limB a b c d e = false → limE a b c d e = 5 := fun h => if_neg (by simp [h])
  have hE1 : limB a b c d e = true → limE a b c d e = 0 := fun h => if_pos h
  obtain ⟨E, hE⟩ : ∃ E, E = limE a b c d e := ⟨_, rfl⟩
  rw [← hE] at hE0 hE1 ⊢
  obtain ⟨x0, g0⟩ : ∃ x0, x0 = limB a b c d e := ⟨_, rfl⟩
  rw [← g0] at c0 hE0 hE1
  have C0 := Lib.hid c0
  have HE0 := Lib.hid hE0
  have HE1 := Lib.hid hE1
  clear c0 g0 hE hE0 hE1
  have H0 := ((InvF.start w).newG 33 #[.int .i64 a, .int .i64 b, .int .i64 c, .int .i64 d, .int .i64 e] w.heap.size).newG 55 #[.int .i64 0, .int .i64 0, .int .i64 0, .int .i64 0, .int .i64 0, .slice none 0 0, .int .i64 0, .nilIface] (w.heap.size + 1)
  go_enter Tryd.func21, Tryd.ntmps21
  go_wp2_with fail
  refine (C0.out _).mono ?_
  rintro ev w1 ⟨rfl, hb1⟩
  have H : InvF w w1 [segX 55 (w.heap.size + 1) [.int .i64 0, .int .i64 0, .int .i64 0, .int .i64 0, .int .i64 0, .slice none 0 0, .int .i64 0, .nilIface], segX 33 w.heap.size [.int .i64 a, .int .i64 b, .int .i64 c, .int .i64 d, .int .i64 e]] := H0.up hb1
  clear H0 hb1
  obtain ⟨q0, q1, q2, q3, q4, q5, q6, q7⟩ := H.c8 (.head _)
  obtain ⟨f0, f1, f2, f3, f4, f5, f6, f7⟩ := H.f8 (.head _)
  obtain ⟨t0, t1, t2, t3, t4⟩ := H.c5 (.tail _ (.head _))
  have K := Lib.hid H
  clear H
  rcases x0 with _ | _
  · have he := HE0.out rfl
    subst he
    go_wp2
    refine bodyPost_ret (v := .agg #[.int .i64 0, .int .i64 0, .int .i64 0, .int .i64 0, .int .i64 0, .slice none 0 0, .int .i64 0, .iface 83 (.agg #[.int .i64 5])]) (by simp [results, Tryd.results21, go_sem, q0, q1, q2, q3, q4, q5, q6, q7]) rfl ⟨_, _, _, _, _, _, _, _, _, rfl, fun h => absurd h (by simp), ?_⟩
    exact (K.out.over8 (.int .i64 0) (.int .i64 0) (.int .i64 0) (.int .i64 0) (.int .i64 0) (.slice none 0 0) (.int .i64 0) (.iface 83 (.agg #[.int .i64 5]))).bel
  · have he := HE1.out rfl
    subst he
    go_wp2
    refine bodyPost_ret (v := .agg #[.int .i64 a, .int .i64 b, .int .i64 c, .int .i64 d, .int .i64 e, .slice A l.length n, .int .i64 p, .nilIface]) (by simp [results, Tryd.results21, go_sem, q0, q1, q2, q3, q4, q5, q6, q7]) rfl ⟨_, _, _, _, _, _, _, _, _, rfl, fun _ => ⟨rfl, rfl, rfl, rfl⟩, ?_⟩
    exact (K.out.over8 (.int .i64 a) (.int .i64 b) (.int .i64 c) (.int .i64 d) (.int .i64 e) (.slice A l.length n) (.int .i64 p) .nilIface).bel

section
variable {I : Int × Int × Int × Int} {T : TypeId} {W w w' : World} {g : Nat} {v : Value} {n p e : Int} {ss ss' : List (List Row)}
/-- What turns beside the decoder. -/
theorem Dec.beside (H : Dec I T W w g v n p e ss) (f : ∀ d : List Row, InvF W w (d :: ss) → InvF W w' (d :: ss')) : Dec I T W w' g v n p e ss' := by
  obtain ⟨i0, i1, i2, i3, i4, b, q, K, h⟩ := H
  exact ⟨i0, i1, i2, i3, i4, b, q, f _ K, h⟩
theorem Dec.rest (H : Dec I T W w g v n p e ss) : InvF W w ss := by
  obtain ⟨i0, i1, i2, i3, i4, b, q, K, h⟩ := H
  exact K.sub (.cons _ (List.Sublist.refl _))
/-- The decoder's place and error. -/
theorem Dec.end_ (H : Dec I T W w g v n p e ss) : w.cell? ⟨g, 7, none⟩ = some (errV e) ∧ ∃ q, w.cell? ⟨g, 6, none⟩ = some (.int .i64 q) ∧ (e = 0 → q = p) := by
  obtain ⟨i0, i1, i2, i3, i4, b, q, K, h⟩ := H
  exact ⟨K.atX (.head _) 7 rfl, q, K.atX (.head _) 6 rfl, fun h1 => (h h1).2.1⟩
end

theorem errV_cell (c : Int) : (errV c).oneCell' = true := by unfold errV; split <;> rfl
end Go.Proofs.YtopbalemfljphaaDoor
