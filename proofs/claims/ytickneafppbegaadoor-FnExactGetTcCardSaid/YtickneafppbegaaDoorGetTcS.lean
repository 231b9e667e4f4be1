/- GetTc of the model. -/
import Derived.Test.YtickneafppbegaaDoorDecF
import Derived.Test.YtickneafppbegaaDoorTcDecMath
import Derived.Test.YtickneafppbegaaDoorEntOwn
import Derived.Deep.RegionHeld3
namespace Go.Proofs.YtickneafppbegaaDoor
open Go.ChangeShapes Go.WideShapes Go.ChangeAt Go.RowKit

/-- What the model's test of the order asks: the last one's Who, or -1. -/
def lastZ (M : List Et) : Int := match M.getLast? with
  | none => -1
  | some t => t.x
theorem lastZ_nil : lastZ [] = -1 := rfl
theorem lastZ_snoc (M : List Et) (t : Et) : lastZ (M ++ [t]) = t.x := by simp [lastZ]
theorem lastZ_next (M : List Et) {z : Int} (h : 0 ≤ z) : (!decide (z ≤ lastZ M)) = nextB M z := by
  unfold lastZ nextB
  cases M.getLast? with
  | none =>
    show (!decide (z ≤ -1)) = true
    rw [decide_eq_false (by omega)]
    rfl
  | some t =>
    show (!decide (z ≤ t.x)) = decide (t.x < z)
    by_cases hc : t.x < z
    · rw [decide_eq_true hc, decide_eq_false (by omega)]; rfl
    · rw [decide_eq_false hc, decide_eq_true (by omega)]; rfl
theorem notIn {z n : Int} (h : 0 ≤ z) : (!decide (n ≤ z)) = isIn z n := by
  unfold isIn
  by_cases hc : z < n
  · rw [decide_eq_true (show 0 ≤ z ∧ z < n from ⟨h, hc⟩), decide_eq_false (by omega)]; rfl
  · rw [decide_eq_false (show ¬ (0 ≤ z ∧ z < n) from fun k => hc k.2), decide_eq_true (by omega)]; rfl
theorem notLt {y x : Int} : (!decide (x ≤ y)) = decide (y < x) := by
  by_cases hc : y < x
  · rw [decide_eq_true hc, decide_eq_false (by omega)]; rfl
  · rw [decide_eq_false hc, decide_eq_true (by omega)]; rfl
theorem notGt {y x : Int} : (!decide (x < y)) = decide (y ≤ x) := by
  by_cases hc : y ≤ x
  · rw [decide_eq_true hc, decide_eq_false (by omega)]; rfl
  · rw [decide_eq_false hc, decide_eq_true (by omega)]; rfl
/-- The blocks of four boxes and of further rows lie below n. -/
theorem below4 {n g1 g2 g3 g4 : Nat} {T1 T2 T3 T4 : TypeId} {x1 x2 x3 x4 : List Value} {ss : List (List Row)} (h1 : g1 < n) (h2 : g2 < n) (h3 : g3 < n) (h4 : g4 < n) (hs : ∀ p ∈ ss.flatten, ∀ b, p.2.1.ownBlock = some b → b < n) :
    ∀ p ∈ (segX T1 g1 x1 :: segX T2 g2 x2 :: segX T3 g3 x3 :: segX T4 g4 x4 :: ss).flatten, ∀ b, p.2.1.ownBlock = some b → b < n := fun p hp b hb => by
  simp only [List.flatten_cons, segX, List.mem_append, List.mem_singleton] at hp
  rcases hp with rfl | rfl | rfl | rfl | hp
  · simp only [Value.ownBlock, Option.some.injEq] at hb; omega
  · simp only [Value.ownBlock, Option.some.injEq] at hb; omega
  · simp only [Value.ownBlock, Option.some.injEq] at hb; omega
  · simp only [Value.ownBlock, Option.some.injEq] at hb; omega
  · exact hs p hp b hb
/-- A timeout certificate has been decoded: its entries, a slice of the call's own, and the decoder behind it. -/
def DecTcS (W w : World) (g : Nat) (v : Value) (r : TcAt) (ss : List (List Row)) (ev : Ending) (w' : World) : Prop :=
  ∃ s L ps p, ev = .returned (.agg #[.int .i64 r.x, s]) ∧ InvF W w' (segX 42 g [v, .int .i64 p, .int .i64 r.e] :: ss) ∧ OwnY (fun b => w.heap.size ≤ b) w' s L ps ∧ (r.e = 0 → L = r.L ∧ p = r.p)

set_option maxRecDepth 100000 in
set_option maxHeartbeats 8000000 in
theorem l15Get_any (W w : World) (g : Nat) (v : Value) (l : List UInt8) (a b c0 d f p e0 : Int) (ss : List (List Row)) (H : InvF W w (segX 42 g [v, .int .i64 p, .int .i64 e0] :: ss)) (hv : Sp W W.heap.size v l) (hl : l.length ≤ 1073741824) (hN : e0 = 0 → a ≤ 10) :
    Calls Tryd.prog 14 #[.pointer (some ⟨g, 0, none⟩), .agg #[.int .i64 a, .int .i64 b, .int .i64 c0, .int .i64 d, .int .i64 f]] w (DecTcS W w g v (tcAt l a p e0) ss) := by
  obtain ⟨i0, hi, hz0, hz1, hz2⟩ := info_parts einfo
  have HV := Lib.hid hv
  obtain ⟨A, m, rfl, kk⟩ := hv.sl
  clear kk hv
  obtain ⟨x, hx⟩ : ∃ x, x = nV l p e0 := ⟨_, rfl⟩
  obtain ⟨p1, hp1⟩ : ∃ x, x = nP l p e0 := ⟨_, rfl⟩
  obtain ⟨e1, he1⟩ : ∃ x, x = nE l p e0 := ⟨_, rfl⟩
  obtain ⟨c, hc⟩ : ∃ x, x = nV l p1 e1 := ⟨_, rfl⟩
  obtain ⟨p2, hp2⟩ : ∃ x, x = nP l p1 e1 := ⟨_, rfl⟩
  obtain ⟨e2, he2⟩ : ∃ x, x = nE l p1 e1 := ⟨_, rfl⟩
  obtain ⟨e3, he3⟩ : ∃ x, x = fE e2 (decide (c ≤ a)) 3 := ⟨_, rfl⟩
  have hr : tcAt l a p e0 = tcRest l a x c p2 e3 := by
    unfold tcAt
    simp only [← hx, ← hp1, ← he1, ← hc, ← hp2, ← he2, ← he3]
  rw [hr]
  have hc0 : 0 ≤ c := by rw [hc]; exact nV_lo _ _ _
  have HCN : Hid (e3 = 0 → c ≤ 10) := Lib.hid (fun h => by
    have h1 := fE_zero (by decide) (he3.symm.trans h)
    have h2 := nE_zero (nE_zero (by rw [← he1, ← he2]; exact h1.1))
    have h3 := of_decide_eq_true h1.2
    have := hN h2
    omega)
  have S1 := Lib.hid (And.intro hx (And.intro hp1 he1))
  have S2 := Lib.hid (And.intro hc (And.intro hp2 he2))
  have S3 := Lib.hid he3
  clear hr hx hp1 he1 hc hp2 he2 he3 hN
  have Ha : InvF W _ (segX 42 g [.slice A l.length m, .int .i64 p, .int .i64 e0] :: segX 30 w.heap.size [.int .i64 a, .int .i64 b, .int .i64 c0, .int .i64 d, .int .i64 f] :: ss) := (H.newG 30 #[.int .i64 a, .int .i64 b, .int .i64 c0, .int .i64 d, .int .i64 f] w.heap.size rfl).front 1 rfl
  have H1 : InvF W _ (segX 42 g [.slice A l.length m, .int .i64 p, .int .i64 e0] :: segX 27 (w.heap.size + 1) [.int .i64 0, .slice none 0 0] :: segX 30 w.heap.size [.int .i64 a, .int .i64 b, .int .i64 c0, .int .i64 d, .int .i64 f] :: ss) := (Ha.newG 27 #[.int .i64 0, .slice none 0 0] (w.heap.size + 1)).front 1 rfl
  have F1 : Hid (Frm (fun b => b = g) w ((w.alloc (.cells #[.int .i64 a, .int .i64 b, .int .i64 c0, .int .i64 d, .int .i64 f] 30)).alloc (.cells #[.int .i64 0, .slice none 0 0] 27))) := Lib.hid (Frm.of_below (((Below.refl _ w).alloc (Nat.le_refl _) _).alloc (by simp) _))
  have HSS : Hid (∀ p ∈ ss.flatten, ∀ b, p.2.1.ownBlock = some b → b < w.heap.size) := Lib.hid (fun p hp b hb => ((H.2.1 p (by rw [List.flatten_cons]; exact List.mem_append_right _ hp)).lt b hb).2)
  have HGW : Hid (g < w.heap.size ∧ W.heap.size ≤ w.heap.size) := Lib.hid ⟨H.ltX (.head _), H.le⟩
  clear Ha H
  go_enter Tryd.func14, Tryd.ntmps14
  go_wp2_with fail
  refine (l11Var_F W _ g _ l p e0 _ H1 HV.out (by omega)).mono ?_
  rw [← S1.out.1, ← S1.out.2.1, ← S1.out.2.2]
  rintro ev w2 ⟨rfl, H2, F2⟩
  have F2' := Lib.hid (F1.out.trans F2)
  clear H1 F1 F2
  go_wp2_with fail
  have H3 : InvF W _ (segX 42 g [.slice A l.length m, .int .i64 p1, .int .i64 e1] :: segX 27 w2.heap.size [.int .i64 x, .slice none 0 0] :: segX 27 (w.heap.size + 1) [.int .i64 0, .slice none 0 0] :: segX 30 w.heap.size [.int .i64 a, .int .i64 b, .int .i64 c0, .int .i64 d, .int .i64 f] :: ss) := (H2.newX 27 #[.int .i64 x, .slice none 0 0]).front 1 rfl
  have F3 := Lib.hid (F2'.out.trans (Frm.of_below (S := fun b => b = g) ((Below.refl _ w2).alloc (Nat.le_refl _) (.cells #[.int .i64 x, .slice none 0 0] 27))))
  clear H2 F2'
  refine (l11Var_F W _ g _ l p1 e1 _ H3 HV.out (by omega)).mono ?_
  rw [← S2.out.1, ← S2.out.2.1, ← S2.out.2.2]
  rintro ev w4 ⟨rfl, H4, F4⟩
  have F4' := Lib.hid (F3.out.trans F4)
  replace H4 : InvF W w4 (segX 42 g [.slice A l.length m, .int .i64 p2, .int .i64 e2] :: segX 27 w2.heap.size [.int .i64 x, .slice none 0 0] :: segX 27 (w.heap.size + 1) [.int .i64 0, .slice none 0 0] :: segX 30 w.heap.size [.int .i64 a, .int .i64 b, .int .i64 c0, .int .i64 d, .int .i64 f] :: ss) := H4
  clear H3 F3 F4
  obtain ⟨t0, t1, t2, t3, t4⟩ := H4.c5 (.tail _ (.tail _ (.tail _ (.head _))))
  go_wp2_with fail
  refine (l11Fail_F W _ g _ p2 e2 3 (decide (a < c)) _ H4).mono ?_
  rw [notGt, ← S3.out]
  rintro ev w5 ⟨rfl, H5, F5⟩
  replace H5 : InvF W w5 (segX 42 g [.slice A l.length m, .int .i64 p2, .int .i64 e3] :: segX 27 w2.heap.size [.int .i64 x, .slice none 0 0] :: segX 27 (w.heap.size + 1) [.int .i64 0, .slice none 0 0] :: segX 30 w.heap.size [.int .i64 a, .int .i64 b, .int .i64 c0, .int .i64 d, .int .i64 f] :: ss) := H5
  have F5' := Lib.hid (F4'.out.trans F5)
  clear H4 F4' F5 t0 t1 t2 t3 t4
  obtain ⟨n0, hn0⟩ : ∃ n0, n0 = w5.heap.size := ⟨_, rfl⟩
  have HN0 : Hid (w.heap.size ≤ n0 ∧ n0 = w5.heap.size) := Lib.hid ⟨by rw [hn0]; exact F5'.out.size, hn0⟩
  have HLT : Hid (g < n0 ∧ w2.heap.size < n0 ∧ w.heap.size + 1 < n0 ∧ w.heap.size < n0 ∧ ∀ p ∈ ss.flatten, ∀ b, p.2.1.ownBlock = some b → b < n0) := Lib.hid ⟨by have := HGW.out.1; have := HN0.out.1; omega, by rw [hn0]; exact H5.ltX (.tail _ (.head _)), by rw [hn0]; exact H5.ltX (.tail _ (.tail _ (.head _))), by rw [hn0]; exact H5.ltX (.tail _ (.tail _ (.tail _ (.head _)))), fun p hp b hb => Nat.lt_of_lt_of_le (HSS.out p hp b hb) HN0.out.1⟩
  have HW0 : Hid (W.heap.size ≤ n0) := Lib.hid (Nat.le_trans HGW.out.2 HN0.out.1)
  have HY : Hid (OwnY (fun b => n0 ≤ b) w5 (.slice none 0 0) [] []) := Lib.hid (OwnY.nil_ _ _)
  have HK := Lib.hid H5
  obtain ⟨q0, q1, q2⟩ := (⟨H5.atX (.head _) 0 rfl, H5.atX (.head _) 1 rfl, H5.atX (.head _) 2 rfl⟩ : w5.cell? ⟨g, 0, none⟩ = some (.slice A l.length m) ∧ w5.cell? ⟨g, 1, none⟩ = some (.int .i64 p2) ∧ w5.cell? ⟨g, 2, none⟩ = some (.int .i64 e3))
  clear hn0 H5
  have hlast : Hid (lastZ ([] : List Et) = -1) := Lib.hid rfl
  go_wp2
  clear q0 q1 q2
  go_loopw [7, 8] (fun zv i wr => ∃ (j : Nat) (z : Int) (At : Option Addr) (ct : Nat) (ps : List Value), (j : Int) ≤ c ∧ i = .int .i64 (j : Int) ∧ zv = .int .i64 z ∧ Hid (z = lastZ (entsAt l a x p2 e3 j).1) ∧ Hid (OwnY (fun b => n0 ≤ b) wr (.slice At j ct) (entsAt l a x p2 e3 j).1 ps) ∧ Hid (n0 ≤ wr.heap.size) ∧ Hid (InvF W wr (segX 42 g [.slice A l.length m, .int .i64 (entsAt l a x p2 e3 j).2.1, .int .i64 (entsAt l a x p2 e3 j).2.2] :: segX 27 w2.heap.size [.int .i64 x, .slice At j ct] :: segX 27 (w.heap.size + 1) [.int .i64 0, .slice none 0 0] :: segX 30 w.heap.size [.int .i64 a, .int .i64 b, .int .i64 c0, .int .i64 d, .int .i64 f] :: ss)))
    (fun _ i _ => c.toNat - (intOf i).toNat)
  case atStart => exact ⟨0, -1, none, 0, [], hc0, rfl, rfl, Lib.hid rfl, HY, Lib.hid (Nat.le_of_eq HN0.out.2), HK⟩
  case round =>
    clear HY HK
    obtain ⟨j, z0, At, ct, ps, hj, rfl, rfl, HZ, HY, HWR, Hj⟩ := hrel
    have HLEN := Lib.hid (entsAt_len l a x p2 e3 j)
    have HERR : Hid ((entsAt l a x p2 e3 j).2.2 = 0 → e3 = 0) := Lib.hid (fun h => by
      by_cases he : e3 = 0
      · exact he
      · have := entsAt_err (l := l) (n := a) (x := x) (p := p2) (e := e3) (j := 0) he j
        rw [Nat.zero_add] at this
        rw [this] at h
        exact h)
    have HFIN : Hid (((entsAt l a x p2 e3 j).2.2 ≠ 0 ∨ j = c.toNat) → (tcRest l a x c p2 e3).x = x ∧ (tcRest l a x c p2 e3).e = (entsAt l a x p2 e3 j).2.2 ∧ ((tcRest l a x c p2 e3).e = 0 → (entsAt l a x p2 e3 j).1 = (tcRest l a x c p2 e3).L ∧ (entsAt l a x p2 e3 j).2.1 = (tcRest l a x c p2 e3).p)) := Lib.hid (fun h => by
      unfold tcRest
      by_cases he : e3 = 0
      · subst he
        rw [if_pos rfl]
        rcases h with h | h
        · have h1 := entsAt_err (l := l) (n := a) (x := x) (p := p2) (e := 0) (j := j) h (c.toNat - j)
          rw [show j + (c.toNat - j) = c.toNat by omega] at h1
          exact ⟨rfl, h1, fun h0 => absurd (h1.symm.trans h0) h⟩
        · rw [h]
          exact ⟨rfl, rfl, fun _ => ⟨rfl, rfl⟩⟩
      · rw [if_neg he]
        have h1 := entsAt_err (l := l) (n := a) (x := x) (p := p2) (e := e3) (j := 0) he j
        rw [Nat.zero_add] at h1
        exact ⟨rfl, h1.symm, fun h0 => absurd h0 he⟩)
    have HSTEP : Hid (entsAt l a x p2 e3 (j + 1) = entStep l a x (entsAt l a x p2 e3 j)) := Lib.hid rfl
    generalize entsAt l a x p2 e3 j = sj at *
    obtain ⟨Lj, pj, ej⟩ := sj
    dsimp only at HZ HY Hj HLEN HERR HFIN
    have q2 := Hj.out.atX (.head _) 2 rfl
    by_cases hej : ej = 0
    case neg =>
      have hne : (ej == 0) = false := by simpa using hej
      have HEJ := Lib.hid hej
      clear hej
      by_cases hlt : (j : Int) < c
      · skip
        obtain ⟨hfx, hfe, hfr⟩ := HFIN.out (.inl HEJ.out)
        have HX1 := Lib.hid hfx; have HX2 := Lib.hid hfe; have HX3 := Lib.hid hfr
        clear hfx hfe hfr HFIN HSTEP
        obtain ⟨o0, o1⟩ := Hj.out.c2 (.tail _ (.head _))
        obtain ⟨r0, r1⟩ := Hj.out.c2 (.tail _ (.tail _ (.head _)))
        obtain ⟨s0, s1⟩ := Hj.out.f2 (.tail _ (.tail _ (.head _)))
        have h6 := Hj.out.ltX (.tail _ (.head _))
        have h7 := Hj.out.ltX (.tail _ (.tail _ (.head _)))
        go_wp2
        refine bodyPost_ret (v := .agg #[.int .i64 x, .slice At j ct]) (by simp [results, Tryd.results14, go_sem, r0, r1]) rfl ⟨_, Lj, ps, pj, by rw [HX1.out], ?_, ?_, HX3.out⟩
        · rw [HX2.out]
          exact ((Hj.out.front 2 rfl).over2 (.int .i64 x) (.slice At j ct)).sub (.cons _ (.cons_cons _ (.cons _ (.cons _ (List.Sublist.refl _)))))
        · refine OwnY.mono (S := fun b => n0 ≤ b) (HY.out.kept (fun b hb _ => ?_)) (fun b _ hb => Nat.le_trans HN0.out.1 hb)
          have hb' : n0 ≤ b := hb
          have := HLT.out.2.2.1
          first
            | exact (Below.heap_setCell _ ⟨w.heap.size + 1, 1, none⟩ _ b (by simp only; omega)).trans (Below.heap_setCell _ ⟨w.heap.size + 1, 0, none⟩ _ b (by simp only; omega))
      · have d0 : decide ((j : Int) < c) = false := decide_eq_false hlt
        obtain ⟨hfx, hfe, hfr⟩ := HFIN.out (.inl HEJ.out)
        have HX1 := Lib.hid hfx; have HX2 := Lib.hid hfe; have HX3 := Lib.hid hfr
        clear hfx hfe hfr HFIN HSTEP
        obtain ⟨o0, o1⟩ := Hj.out.c2 (.tail _ (.head _))
        obtain ⟨r0, r1⟩ := Hj.out.c2 (.tail _ (.tail _ (.head _)))
        obtain ⟨s0, s1⟩ := Hj.out.f2 (.tail _ (.tail _ (.head _)))
        have h6 := Hj.out.ltX (.tail _ (.head _))
        have h7 := Hj.out.ltX (.tail _ (.tail _ (.head _)))
        go_wp2
        refine bodyPost_ret (v := .agg #[.int .i64 x, .slice At j ct]) (by simp [results, Tryd.results14, go_sem, r0, r1]) rfl ⟨_, Lj, ps, pj, by rw [HX1.out], ?_, ?_, HX3.out⟩
        · rw [HX2.out]
          exact ((Hj.out.front 2 rfl).over2 (.int .i64 x) (.slice At j ct)).sub (.cons _ (.cons_cons _ (.cons _ (.cons _ (List.Sublist.refl _)))))
        · refine OwnY.mono (S := fun b => n0 ≤ b) (HY.out.kept (fun b hb _ => ?_)) (fun b _ hb => Nat.le_trans HN0.out.1 hb)
          have hb' : n0 ≤ b := hb
          have := HLT.out.2.2.1
          first
            | exact (Below.heap_setCell _ ⟨w.heap.size + 1, 1, none⟩ _ b (by simp only; omega)).trans (Below.heap_setCell _ ⟨w.heap.size + 1, 0, none⟩ _ b (by simp only; omega))
    subst hej
    by_cases hlt : (j : Int) < c
    case neg =>
      have d0 : decide ((j : Int) < c) = false := decide_eq_false hlt
      obtain ⟨hfx, hfe, hfr⟩ := HFIN.out (.inr (by omega))
      have HX1 := Lib.hid hfx; have HX2 := Lib.hid hfe; have HX3 := Lib.hid hfr
      clear hfx hfe hfr HFIN HSTEP
      obtain ⟨o0, o1⟩ := Hj.out.c2 (.tail _ (.head _))
      obtain ⟨r0, r1⟩ := Hj.out.c2 (.tail _ (.tail _ (.head _)))
      obtain ⟨s0, s1⟩ := Hj.out.f2 (.tail _ (.tail _ (.head _)))
      have h6 := Hj.out.ltX (.tail _ (.head _))
      have h7 := Hj.out.ltX (.tail _ (.tail _ (.head _)))
      go_wp2
      refine bodyPost_ret (v := .agg #[.int .i64 x, .slice At j ct]) (by simp [results, Tryd.results14, go_sem, r0, r1]) rfl ⟨_, Lj, ps, pj, by rw [HX1.out], ?_, ?_, HX3.out⟩
      · rw [HX2.out]
        exact ((Hj.out.front 2 rfl).over2 (.int .i64 x) (.slice At j ct)).sub (.cons _ (.cons_cons _ (.cons _ (.cons _ (List.Sublist.refl _)))))
      · refine OwnY.mono (S := fun b => n0 ≤ b) (HY.out.kept (fun b hb _ => ?_)) (fun b _ hb => Nat.le_trans HN0.out.1 hb)
        have hb' : n0 ≤ b := hb
        have := HLT.out.2.2.1
        first
          | exact (Below.heap_setCell _ ⟨w.heap.size + 1, 1, none⟩ _ b (by simp only; omega)).trans (Below.heap_setCell _ ⟨w.heap.size + 1, 0, none⟩ _ b (by simp only; omega))
    have hc10 := HCN.out (HERR.out rfl)
    clear HFIN HERR
    have hj10 : j < 10 := by omega
    obtain ⟨z, hz⟩ : ∃ z, z = nV l pj 0 := ⟨_, rfl⟩
    obtain ⟨k1, hk1⟩ : ∃ z, z = nP l pj 0 := ⟨_, rfl⟩
    obtain ⟨a1, ha1⟩ : ∃ z, z = nE l pj 0 := ⟨_, rfl⟩
    obtain ⟨a2, ha2⟩ : ∃ q, q = fE a1 (isIn z a) 5 := ⟨_, rfl⟩
    obtain ⟨a3, ha3⟩ : ∃ q, q = fE a2 (nextB Lj z) 6 := ⟨_, rfl⟩
    obtain ⟨y, hy⟩ : ∃ q, q = nV l k1 a3 := ⟨_, rfl⟩
    obtain ⟨k2, hk2⟩ : ∃ q, q = nP l k1 a3 := ⟨_, rfl⟩
    obtain ⟨a4, ha4⟩ : ∃ q, q = nE l k1 a3 := ⟨_, rfl⟩
    obtain ⟨a5, ha5⟩ : ∃ q, q = fE a4 (decide (y < x)) 6 := ⟨_, rfl⟩
    obtain ⟨r, hr⟩ : ∃ q, q = rV l 32 k2 a5 := ⟨_, rfl⟩
    obtain ⟨k3, hk3⟩ : ∃ q, q = rP l 32 k2 a5 := ⟨_, rfl⟩
    obtain ⟨a6, ha6⟩ : ∃ q, q = rE l 32 k2 a5 := ⟨_, rfl⟩
    have HST : Hid (entsAt l a x p2 e3 (j + 1) = (Lj ++ [⟨z, y, r⟩], k3, a6)) := Lib.hid (by
      rw [HSTEP.out]
      unfold entStep
      simp only [← hz, ← hk1, ← ha1, ← ha2, ← ha3, ← hy, ← hk2, ← ha4, ← ha5, ← hr, ← hk3, ← ha6])
    have hzz : 0 ≤ z := by rw [hz]; exact nV_lo _ _ _
    have HIN : Hid ((!decide (a ≤ z)) = isIn z a) := Lib.hid (notIn hzz)
    have HNX : Hid ((!decide (z ≤ z0)) = nextB Lj z) := Lib.hid (by rw [HZ.out]; exact lastZ_next Lj hzz)
    have S4 := Lib.hid (And.intro hz (And.intro hk1 ha1))
    have S5 := Lib.hid ha2; have S6 := Lib.hid ha3
    have S7 := Lib.hid (And.intro hy (And.intro hk2 ha4))
    have S8 := Lib.hid ha5
    have S9 := Lib.hid (And.intro hr (And.intro hk3 ha6))
    clear hz hk1 ha1 ha2 ha3 hy hk2 ha4 ha5 hr hk3 ha6 HSTEP
    have HG := Lib.hid Hj.out
    go_wp2_with fail
    clear q2
    refine (l11Var_F W _ g _ l pj 0 _ HG.out HV.out (by omega)).mono ?_
    rw [← S4.out.1, ← S4.out.2.1, ← S4.out.2.2]
    rintro ev w6 ⟨rfl, H6, F6⟩
    have F6' : Hid (Frm (fun b => b = g ∨ wr.heap.size ≤ b) wr w6) := Lib.hid (F6.mono (fun b h => .inl h))
    clear HG
    have HWS : Hid (wr.heap.size ≤ w6.heap.size) := Lib.hid F6.size
    have H7 : InvF W _ (segX 42 g [.slice A l.length m, .int .i64 k1, .int .i64 a1] :: segX 58 w6.heap.size [.int .i64 z, .int .i64 0, .slice none 0 0] :: segX 27 w2.heap.size [.int .i64 x, .slice At j ct] :: segX 27 (w.heap.size + 1) [.int .i64 0, .slice none 0 0] :: segX 30 w.heap.size [.int .i64 a, .int .i64 b, .int .i64 c0, .int .i64 d, .int .i64 f] :: ss) := (H6.newX 58 #[.int .i64 z, .int .i64 0, .slice none 0 0]).front 1 rfl
    have F7 := Lib.hid (F6'.out.trans (Frm.of_below (S := fun b => b = g ∨ wr.heap.size ≤ b) ((Below.refl _ w6).alloc (Nat.le_refl _) (.cells #[.int .i64 z, .int .i64 0, .slice none 0 0] 58))))
    clear H6 F6 F6'
    obtain ⟨m0, m1, m2⟩ := H7.c3 (.tail _ (.head _))
    have t0 := H7.atX (.tail _ (.tail _ (.tail _ (.tail _ (.head _))))) 0 rfl
    go_wp2_with fail
    refine (l11Fail_F W _ g _ k1 a1 5 (decide (a ≤ z)) _ H7).mono ?_
    rw [HIN.out, ← S5.out]
    rintro ev w8 ⟨rfl, H8, F8⟩
    replace H8 : InvF W w8 (segX 42 g [.slice A l.length m, .int .i64 k1, .int .i64 a2] :: segX 58 w6.heap.size [.int .i64 z, .int .i64 0, .slice none 0 0] :: segX 27 w2.heap.size [.int .i64 x, .slice At j ct] :: segX 27 (w.heap.size + 1) [.int .i64 0, .slice none 0 0] :: segX 30 w.heap.size [.int .i64 a, .int .i64 b, .int .i64 c0, .int .i64 d, .int .i64 f] :: ss) := H8
    have F8' := Lib.hid (F7.out.trans (F8.mono (fun b h => .inl h)))
    clear H7 F7 F8 m0 m1 m2 t0
    obtain ⟨m0, m1, m2⟩ := H8.c3 (.tail _ (.head _))
    go_wp2_with fail
    refine (l11Fail_F W _ g _ k1 a2 6 (decide (z ≤ z0)) _ H8).mono ?_
    rw [HNX.out, ← S6.out]
    rintro ev w9 ⟨rfl, H9, F9⟩
    replace H9 : InvF W w9 (segX 42 g [.slice A l.length m, .int .i64 k1, .int .i64 a3] :: segX 58 w6.heap.size [.int .i64 z, .int .i64 0, .slice none 0 0] :: segX 27 w2.heap.size [.int .i64 x, .slice At j ct] :: segX 27 (w.heap.size + 1) [.int .i64 0, .slice none 0 0] :: segX 30 w.heap.size [.int .i64 a, .int .i64 b, .int .i64 c0, .int .i64 d, .int .i64 f] :: ss) := H9
    have F9' := Lib.hid (F8'.out.trans (F9.mono (fun b h => .inl h)))
    clear H8 F8' F9 m0 m1 m2
    obtain ⟨m0, m1, m2⟩ := H9.c3 (.tail _ (.head _))
    have HG9 := Lib.hid H9
    clear H9
    go_wp2_with fail
    refine (l11Var_F W _ g _ l k1 a3 _ HG9.out HV.out (by omega)).mono ?_
    rw [← S7.out.1, ← S7.out.2.1, ← S7.out.2.2]
    rintro ev w10 ⟨rfl, H10, F10⟩
    replace H10 : InvF W w10 (segX 42 g [.slice A l.length m, .int .i64 k2, .int .i64 a4] :: segX 58 w6.heap.size [.int .i64 z, .int .i64 0, .slice none 0 0] :: segX 27 w2.heap.size [.int .i64 x, .slice At j ct] :: segX 27 (w.heap.size + 1) [.int .i64 0, .slice none 0 0] :: segX 30 w.heap.size [.int .i64 a, .int .i64 b, .int .i64 c0, .int .i64 d, .int .i64 f] :: ss) := H10
    have F10' := Lib.hid (F9'.out.trans (F10.mono (fun b h => .inl h)))
    clear HG9 F9' F10 m0 m1 m2
    obtain ⟨m0, m1, m2⟩ := H10.c3 (.tail _ (.head _))
    have f1 := H10.frX (.tail _ (.head _)) 1
    have u0 := H10.atX (.tail _ (.tail _ (.head _))) 0 rfl
    have hew := H10.ltX (.tail _ (.head _))
    have H11 : InvF W (w10.setCell ⟨w6.heap.size, 1, none⟩ (.int .i64 y)) (segX 42 g [.slice A l.length m, .int .i64 k2, .int .i64 a4] :: segX 58 w6.heap.size [.int .i64 z, .int .i64 y, .slice none 0 0] :: segX 27 w2.heap.size [.int .i64 x, .slice At j ct] :: segX 27 (w.heap.size + 1) [.int .i64 0, .slice none 0 0] :: segX 30 w.heap.size [.int .i64 a, .int .i64 b, .int .i64 c0, .int .i64 d, .int .i64 f] :: ss) := ((H10.front 1 rfl).setX 1 (.int .i64 y)).front 1 rfl
    have F11 := Lib.hid (F10'.out.setF (j := 1) (H10.front 1 rfl) (.int .i64 y) (.inr HWS.out))
    have HG11 := Lib.hid H11
    have n0' := H11.atX (.tail _ (.head _)) 0 rfl
    have n1' := H11.atX (.tail _ (.head _)) 1 rfl
    have u0' := H11.atX (.tail _ (.tail _ (.head _))) 0 rfl
    clear H10 H11 F10'
    go_wp2_with fail
    clear m0 m1 m2 f1 u0 hew n0' n1' u0'
    refine (l11Fail_F W _ g _ k2 a4 6 (decide (x ≤ y)) _ HG11.out).mono ?_
    rw [notLt, ← S8.out]
    rintro ev w12 ⟨rfl, H12, F12⟩
    replace H12 : InvF W w12 (segX 42 g [.slice A l.length m, .int .i64 k2, .int .i64 a5] :: segX 58 w6.heap.size [.int .i64 z, .int .i64 y, .slice none 0 0] :: segX 27 w2.heap.size [.int .i64 x, .slice At j ct] :: segX 27 (w.heap.size + 1) [.int .i64 0, .slice none 0 0] :: segX 30 w.heap.size [.int .i64 a, .int .i64 b, .int .i64 c0, .int .i64 d, .int .i64 f] :: ss) := H12
    have F12' := Lib.hid (F11.out.trans (F12.mono (fun b h => .inl h)))
    have HG12 := Lib.hid H12
    clear HG11 F11 F12 H12
    go_wp2_with fail
    refine (l11Raw_F W _ g _ l k2 a5 _ HG12.out HV.out (by omega)).mono ?_
    rw [← S9.out.1, ← S9.out.2.1, ← S9.out.2.2]
    rintro ev w13 ⟨u13, rfl, HU, H13, F13⟩
    replace H13 : InvF W w13 (segX 42 g [.slice A l.length m, .int .i64 k3, .int .i64 a6] :: segB 5 u13 r :: segX 58 w6.heap.size [.int .i64 z, .int .i64 y, .slice none 0 0] :: segX 27 w2.heap.size [.int .i64 x, .slice At j ct] :: segX 27 (w.heap.size + 1) [.int .i64 0, .slice none 0 0] :: segX 30 w.heap.size [.int .i64 a, .int .i64 b, .int .i64 c0, .int .i64 d, .int .i64 f] :: ss) := H13
    have HUB : Hid (∀ b, u13.ownBlock = some b → wr.heap.size ≤ b) := Lib.hid (fun b hb => Nat.le_trans F12'.out.size (HU b hb))
    have F13' := Lib.hid (F12'.out.trans (F13.mono (fun b h => .inl h)))
    clear HG12 F12' F13 HU
    obtain ⟨A13, c13, rfl⟩ := H13.openB' (.tail _ (.head _))
    obtain ⟨m0, m1, m2⟩ := H13.c3 (.tail _ (.tail _ (.head _)))
    have f2 := H13.frX (.tail _ (.tail _ (.head _))) 2
    have u1 := H13.atX (.tail _ (.tail _ (.tail _ (.head _)))) 1 rfl
    have hew := H13.ltX (.tail _ (.tail _ (.head _)))
    have H14 : InvF W (w13.setCell ⟨w6.heap.size, 2, none⟩ (.slice A13 r.length c13)) (segX 42 g [.slice A l.length m, .int .i64 k3, .int .i64 a6] :: segB 5 (.slice A13 r.length c13) r :: segX 58 w6.heap.size [.int .i64 z, .int .i64 y, .slice A13 r.length c13] :: segX 27 w2.heap.size [.int .i64 x, .slice At j ct] :: segX 27 (w.heap.size + 1) [.int .i64 0, .slice none 0 0] :: segX 30 w.heap.size [.int .i64 a, .int .i64 b, .int .i64 c0, .int .i64 d, .int .i64 f] :: ss) := ((H13.front 2 rfl).setX 2 (.slice A13 r.length c13)).perm (by exact List.perm_middle (l₁ := [_, _]).symm)
    have F14 := Lib.hid (F13'.out.setF (j := 2) (H13.front 2 rfl) (.slice A13 r.length c13) (.inr HWS.out))
    have v0 := H14.atX (.tail _ (.tail _ (.head _))) 0 rfl
    have v1 := H14.atX (.tail _ (.tail _ (.head _))) 1 rfl
    have v2 := H14.atX (.tail _ (.tail _ (.head _))) 2 rfl
    have x1 := H14.atX (.tail _ (.tail _ (.tail _ (.head _)))) 1 rfl
    obtain ⟨w14, hw14⟩ : ∃ q, q = w13.setCell ⟨w6.heap.size, 2, none⟩ (.slice A13 r.length c13) := ⟨_, rfl⟩
    have HG14 := Lib.hid H14
    have HP : Hid (OwnP (fun b => n0 ≤ b) 58 3 (w13.setCell ⟨w6.heap.size, 2, none⟩ (.slice A13 r.length c13)) (.slice At j ct) (eltsY Lj ps) [(5, .slice A13 r.length c13, us r)]) := Lib.hid (by
      have hy0 : OwnY (fun b => n0 ≤ b ∧ b < wr.heap.size) wr (.slice At j ct) Lj ps := HY.out.mono (fun b hb h => ⟨h, hb⟩)
      have hy1 := hy0.kept (w' := w13.setCell ⟨w6.heap.size, 2, none⟩ (.slice A13 r.length c13)) (fun b hb hlt => F14.out.block b hlt (fun hs => by
        rcases hs with rfl | hs
        · have h1 : n0 ≤ b := hb.1
          have := HLT.out.1
          omega
        · have := hb.2
          omega))
      exact hy1.2.pendB (S' := fun b => n0 ≤ b) ((HG14.out.ownB 5 (.tail _ (.head _))).mono (Nat.zero_le _)) (fun b hb => ⟨HUB.out b hb, Nat.le_trans HWR.out (HUB.out b hb)⟩) (fun b hb => hb.2) (fun b hb => hb.1))
    have HSZ : Hid (n0 ≤ (w13.setCell ⟨w6.heap.size, 2, none⟩ (.slice A13 r.length c13)).heap.size) := Lib.hid (Nat.le_trans HWR.out F14.out.size)
    have HEL : Hid ((eltsY Lj ps).length ≤ 1073741824) := Lib.hid (by rw [eltsY_len HY.out.1, HLEN.out]; omega)
    have HPL : Hid (ps.length = Lj.length) := Lib.hid HY.out.1
    clear H13 H14 F13' F14 HY hw14 w14
    go_wp2_with (first | (
      at_builtin
      refine wpList_appE (w := w13.setCell ⟨w6.heap.size, 2, none⟩ (.slice A13 r.length c13)) (S := fun b => n0 ≤ b) (s := 3) (L := eltsY Lj ps) rfl _ _ 25 rfl i0 _ 40 Tryd.underlying25 hi hz0 (by rfl) hz1 hz2 (by decide) (by decide) [.int .i64 z, .int .i64 y, .slice A13 r.length c13] rfl (by intro u hu; simp only [List.mem_cons, List.not_mem_nil, or_false] at hu; rcases hu with rfl | rfl | rfl <;> rfl) (by rfl) (by simp <;> rfl) HP.out (fun b hb => Nat.le_trans HSZ.out hb) HEL.out ?_
      intro v15 w15 hO15 hF15
      have O15 := Lib.hid hO15
      have F15 := Lib.hid hF15
      clear hO15 hF15
      have HO : Hid (OwnY (fun b => n0 ≤ b) w15 v15 (Lj ++ [⟨z, y, r⟩]) (ps ++ [.slice A13 r.length c13])) := Lib.hid (OwnY.snoc (t := ⟨z, y, r⟩) (p := .slice A13 r.length c13) HPL.out O15.out)

      have H16 : InvF W w15 (segX 42 g [.slice A l.length m, .int .i64 k3, .int .i64 a6] :: segX 27 w2.heap.size [.int .i64 x, .slice At j ct] :: segX 27 (w.heap.size + 1) [.int .i64 0, .slice none 0 0] :: segX 30 w.heap.size [.int .i64 a, .int .i64 b, .int .i64 c0, .int .i64 d, .int .i64 f] :: ss) := (HG14.out.sub (qs := segX 42 g [.slice A l.length m, .int .i64 k3, .int .i64 a6] :: segX 27 w2.heap.size [.int .i64 x, .slice At j ct] :: segX 27 (w.heap.size + 1) [.int .i64 0, .slice none 0 0] :: segX 30 w.heap.size [.int .i64 a, .int .i64 b, .int .i64 c0, .int .i64 d, .int .i64 f] :: ss) (.cons_cons _ (.cons _ (.cons _ (.cons_cons _ (.cons_cons _ (.cons_cons _ (List.Sublist.refl _)))))))).keptF F15.out (fun b hb => Nat.le_trans HW0.out hb) (fun p hp b hb hs => by
        have h1 := below4 HLT.out.1 HLT.out.2.1 HLT.out.2.2.1 HLT.out.2.2.2.1 HLT.out.2.2.2.2 p hp b hb
        have h2 : n0 ≤ b := hs
        omega)
      obtain ⟨A15, c15, e15, _⟩ := HO.out.sl
      have hl15 : (Lj ++ [(⟨z, y, r⟩ : Et)]).length = j + 1 := by rw [List.length_append, HLEN.out]; rfl
      rw [hl15] at e15
      subst e15
      have y1 := H16.atX (.tail _ (.head _)) 1 rfl
      have y2 := H16.frX (.tail _ (.head _)) 1
      have y3 := H16.ltX (.tail _ (.head _))
      have HK16 : Hid (InvF W (w15.setCell ⟨w2.heap.size, 1, none⟩ (.slice A15 (j + 1) c15)) (segX 42 g [.slice A l.length m, .int .i64 k3, .int .i64 a6] :: segX 27 w2.heap.size [.int .i64 x, .slice A15 (j + 1) c15] :: segX 27 (w.heap.size + 1) [.int .i64 0, .slice none 0 0] :: segX 30 w.heap.size [.int .i64 a, .int .i64 b, .int .i64 c0, .int .i64 d, .int .i64 f] :: ss)) := Lib.hid (((H16.front 1 rfl).setX 1 (.slice A15 (j + 1) c15)).front 1 rfl)
      have HO2 : Hid (OwnY (fun b => n0 ≤ b) (w15.setCell ⟨w2.heap.size, 1, none⟩ (.slice A15 (j + 1) c15)) (.slice A15 (j + 1) c15) (Lj ++ [⟨z, y, r⟩]) (ps ++ [.slice A13 r.length c13])) := Lib.hid (HO.out.kept (fun b hb _ => by
        have h1 : n0 ≤ b := hb
        have := HLT.out.2.1
        exact Below.heap_setCell _ ⟨w2.heap.size, 1, none⟩ _ b (by simp only; omega)))
      have HWR2 : Hid (n0 ≤ (w15.setCell ⟨w2.heap.size, 1, none⟩ (.slice A15 (j + 1) c15)).heap.size) := Lib.hid (by simp; exact Nat.le_trans HSZ.out F15.out.size)
      have HZ2 : Hid (z = lastZ (Lj ++ [⟨z, y, r⟩])) := Lib.hid (by rw [lastZ_snoc])
      clear H16 HG14 HP O15 F15 HO hl15 v0 v1 v2 x1))
    go_wp2
    go_roundw
    case rel => exact ⟨j + 1, z, A15, c15, _, by omega, by go_num, rfl, by rw [HST.out]; exact HZ2, by rw [HST.out]; exact HO2, HWR2, by rw [HST.out]; exact HK16⟩
    case measure => simp [intOf]; omega


/-- What GetTc of the model returns: a certificate that reads as r has it, the place, the error; nothing that was there has turned. -/
def GotTcS (w : World) (r : TcAt) (e : Ending) (w' : World) : Prop := ∃ s, e = .returned (.tuple #[.agg #[.int .i64 (gtX r), s], .int .i64 (gtP r), .int .i64 r.e]) ∧ Below w.heap.size w w' ∧ SlE w' w'.heap.size s (gtL r)
theorem gots_yes {w : World} {r : TcAt} {e : Ending} {w' : World} (h : r.e = 0) (k : ∃ s, e = .returned (.tuple #[.agg #[.int .i64 r.x, s], .int .i64 r.p, .int .i64 0]) ∧ Below w.heap.size w w' ∧ SlE w' w'.heap.size s r.L) : GotTcS w r e w' := by
  obtain ⟨h1, h2, h3⟩ := gt_all h
  unfold GotTcS
  rw [h1, h2, h3, h]
  exact k
theorem gots_no {w : World} {r : TcAt} {e : Ending} {w' : World} (h : r.e ≠ 0) (k : e = .returned (.tuple #[.agg #[.int .i64 0, .slice none 0 0], .int .i64 0, .int .i64 r.e])) (hb : Below w.heap.size w w') : GotTcS w r e w' := by
  obtain ⟨h1, h2, h3⟩ := gt_none h
  unfold GotTcS
  rw [h1, h2, h3]
  exact ⟨_, k, hb, SlE.nil_⟩
set_option maxRecDepth 100000 in
set_option maxHeartbeats 4000000 in
theorem specGetTc_any (a b c d e p : Int) (v : Value) (l : List UInt8) (w : World) (hv : Sp w w.heap.size v l) (hl : l.length ≤ 1073741824) :
    Calls Tryd.prog 4 #[.agg #[.int .i64 a, .int .i64 b, .int .i64 c, .int .i64 d, .int .i64 e], v, .int .i64 p] w (GotTcS w (tcAt l a p (limE a b c d e))) := by
  have HV := Lib.hid hv
  obtain ⟨A, n, rfl, k1⟩ := hv.sl
  clear k1
  obtain ⟨e0, he0⟩ : ∃ e0, e0 = limE a b c d e := ⟨_, rfl⟩
  have c0 := fun W h => l11New_any a b c d e p (.slice A l.length n) W l h
  have hN : e0 = 0 → a ≤ 10 := fun h => by
    rw [he0] at h
    unfold limE at h
    split at h
    · rename_i hb
      have := (limB_yes hb).1
      unfold cntOk at this
      omega
    · cases h
  rw [← he0] at c0 ⊢
  have C0 := Lib.hid c0
  have HN := Lib.hid hN
  clear c0 he0 hv hN
  obtain ⟨r, hr⟩ : ∃ r, r = tcAt l a p e0 := ⟨_, rfl⟩
  rw [← hr]
  have HR := Lib.hid hr
  clear hr
  obtain ⟨x, L, p6, e6⟩ := r
  have H0 := ((InvF.start w).newG 30 #[.int .i64 a, .int .i64 b, .int .i64 c, .int .i64 d, .int .i64 e] w.heap.size).newG 27 #[.int .i64 0, .slice none 0 0] (w.heap.size + 1)
  go_enter Tryd.func4, Tryd.ntmps4
  go_wp2_with fail
  refine (C0.out _ (HV.out.up H0.bel).sl).mono ?_
  rintro ev w1 ⟨g, rfl, K⟩
  have H1 : InvF w w1 (segX 42 g [.slice A l.length n, .int .i64 p, .int .i64 e0] :: [segX 27 (w.heap.size + 1) [.int .i64 0, .slice none 0 0], segX 30 w.heap.size [.int .i64 a, .int .i64 b, .int .i64 c, .int .i64 d, .int .i64 e]]) := H0.moreF K
  clear H0 K C0
  obtain ⟨t0, t1, t2, t3, t4⟩ := H1.c5 (.tail _ (.tail _ (.head _)))
  have HT6 := Lib.hid (H1.ltX (.tail _ (.head _)))
  go_wp2_with fail
  refine (l15Get_any w _ g _ l a b c d e p e0 _ H1 HV.out hl HN.out).mono ?_
  rw [← HR.out]
  clear H1 t0 t1 t2 t3 t4
  rintro ev w3 ⟨s, L', ps, pp, rfl, K3, HY, hrr⟩
  dsimp only at K3 hrr ⊢
  obtain ⟨A3, c3, rfl, _⟩ := HY.sl
  have HYH := Lib.hid HY
  have HRR := Lib.hid hrr
  have K4 := K3.newX 27 #[.int .i64 x, .slice A3 L'.length c3]
  have HY4 : Hid (OwnY (fun b => w1.heap.size ≤ b) (w3.alloc (.cells #[.int .i64 x, .slice A3 L'.length c3] 27)) (.slice A3 L'.length c3) L' ps) := Lib.hid (HY.kept (fun b _ hlt => ((Below.refl _ w3).alloc (Nat.le_refl _) _).block b hlt))
  have q2 := K4.atX (.tail _ (.head _)) 2 rfl
  have q1 := K4.atX (.tail _ (.head _)) 1 rfl
  clear K3 HY hrr HYH
  by_cases he : e6 = 0
  · subst he
    obtain ⟨hL, hpp⟩ := HRR.out (by first | trivial | rfl)
    subst hL hpp
    have HYY := Lib.hid (fun ev w' => gots_yes (w := w) (r := ⟨x, L', pp, 0⟩) (e := ev) (w' := w') rfl)
    go_wp2_with fail
    clear q2 q1
    generalize w3.alloc (.cells #[.int .i64 x, .slice A3 L'.length c3] 27) = w4 at *
    have K14 := Lib.hid (((K4.front 2 rfl).over2 (.int .i64 x) (.slice A3 L'.length c3)).drew1)
    have L13 := Lib.hid (And.intro (K4.drew1.atX (.tail _ (.head _)) 1 rfl) (K4.drew1.c2 (.head _)))
    have L14 := Lib.hid (And.intro (K14.out.atX (.tail _ (.tail _ (.head _))) 1 rfl) (K14.out.c2 (.tail _ (.head _))))
    obtain ⟨r0, r1⟩ := K4.c2 (.tail _ (.tail _ (.head _)))
    obtain ⟨f0, f1⟩ := K4.f2 (.tail _ (.tail _ (.head _)))
    obtain ⟨k0, k1⟩ := K14.out.c2 (.head _)
    clear K4 HV HR
    go_region_held3 (fun w' => w'.cell? ⟨g, 1, none⟩ = some (.int .i64 pp) ∧ w'.cell? ⟨w3.heap.size, 0, none⟩ = some (.int .i64 x) ∧ w'.cell? ⟨w3.heap.size, 1, none⟩ = some (.slice A3 L'.length c3))
      (first
        | with_reducible exact L13.out
        | with_reducible exact L14.out)
      (fail)
    go_wp2_with fail
    refine bodyPost_ret (v := .tuple #[.agg #[.int .i64 x, .slice A3 L'.length c3], .int .i64 pp, .int .i64 0]) (by simp [results, Tryd.results4, go_sem, k0, k1]) rfl (HYY.out _ _ ⟨_, rfl, K14.out.bel, ?_⟩)
    refine OwnY.sl (HY4.out.kept (fun b hb _ => ?_))
    have h1 : w1.heap.size ≤ b := hb
    have h2 := HT6.out
    exact (Below.heap_setCell _ ⟨w.heap.size + 1, 1, none⟩ _ b (by simp only; omega)).trans (Below.heap_setCell _ ⟨w.heap.size + 1, 0, none⟩ _ b (by simp only; omega))
  · have HN2 := Lib.hid (fun ev w' => gots_no (w := w) (r := ⟨x, L, p6, e6⟩) (e := ev) (w' := w') he)
    have hne : (e6 != 0) = true := by simpa using he
    clear he
    go_wp2_with fail
    clear q2 q1
    generalize w3.alloc (.cells #[.int .i64 x, .slice A3 L'.length c3] 27) = w4 at *
    have K14 := Lib.hid (((K4.front 2 rfl).over2 (.int .i64 0) (.slice none 0 0)).drew1)
    have L13 := Lib.hid (K4.drew1.atX (.tail _ (.head _)) 2 rfl)
    have L14 := Lib.hid (K14.out.atX (.tail _ (.tail _ (.head _))) 2 rfl)
    obtain ⟨r0, r1⟩ := K4.c2 (.tail _ (.tail _ (.head _)))
    obtain ⟨f0, f1⟩ := K4.f2 (.tail _ (.tail _ (.head _)))
    obtain ⟨k0, k1⟩ := K14.out.c2 (.head _)
    clear K4 HV HR HY4
    go_region_held3 (fun w' => w'.cell? ⟨g, 2, none⟩ = some (.int .i64 e6))
      (first
        | with_reducible exact L13.out
        | with_reducible exact L14.out)
      (fail)
    go_wp2_with fail
    refine bodyPost_ret (v := .tuple #[.agg #[.int .i64 0, .slice none 0 0], .int .i64 0, .int .i64 e6]) (by simp [results, Tryd.results4, go_sem, k0, k1]) rfl (HN2.out _ _ rfl K14.out.bel)
end Go.Proofs.YtickneafppbegaaDoor
