/- The contracts of the helpers of exact laws on slices of votes: eqVoteS, markVoteS, heldVoteS, szVoteS, toVoteS. -/
import Derived.Test.YtdoaikanaodefaaVotesM
import Derived.Test.YtdoaikanaodefaaWat
namespace Go.Proofs.Ytdoaikanaodefaa
open Go.ChangeShapes Go.WideShapes Go.ChangeAt Go.RowKit

theorem WF.cellOld {W : World} {ss : List (List Row)} {b o : Nat} {u : Value} (hb : b < W.heap.size) (h : W.cell? ⟨b, o, none⟩ = some u) (z : WF W ss) : z.w.cell? ⟨b, o, none⟩ = some u := (z.h.bel.cell (p := ⟨b, o, none⟩) hb).trans h

set_option maxHeartbeats 1000000 in
theorem eqVoteS_any (v u : Value) (L : List Vt) (w : World) (h : SlV w w.heap.size v L) (h' : SlV w w.heap.size u L) :
    Calls Try.prog 11 #[v, u] w (Yes w) := by
  obtain ⟨A, c, rfl, h1, h2, h0, h3⟩ := h
  obtain ⟨A', c', rfl, h1', h2', h0', h3'⟩ := h'
  unfold maxLen at h2 h2'
  clear h0 h0'
  have hne : ((L.length : Int) != (L.length : Int)) = false := by simp
  go_enter Try.func11, Try.ntmps11
  go_wp2
  go_loopw [5] (fun i wr => ∃ k : Nat, k ≤ L.length ∧ i = .int .i64 k ∧ Below w.heap.size w wr)
    (fun i _ => L.length - (intOf i).toNat)
  case atStart => exact ⟨0, Nat.zero_le _, rfl, Below.refl _ _⟩
  case round =>
    obtain ⟨k, hk, rfl, hbel⟩ := hrel
    by_cases hlt : k < L.length
    · obtain ⟨b, off, rfl, hbb, hcell⟩ := h3 (by omega)
      obtain ⟨b', off', rfl, hbb', hcell'⟩ := h3' (by omega)
      obtain ⟨t, ht⟩ := get_default hlt
      obtain ⟨a1, a2, g0, g1, g2, g3, g4, s1, s2⟩ := (hcell k t ht).below hbel hbb
      obtain ⟨d1, d2, f0, f1, f2, f3, f4, r1, r2⟩ := (hcell' k t ht).below hbel hbb'
      have hle := hbel.size
      have hb1 : b < wr.heap.size := by omega
      have hb2 : b' < wr.heap.size := by omega
      replace g0 := WF.cellOld (ss := []) hb1 g0; replace g1 := WF.cellOld (ss := []) hb1 g1; replace g2 := WF.cellOld (ss := []) hb1 g2; replace g3 := WF.cellOld (ss := []) hb1 g3; replace g4 := WF.cellOld (ss := []) hb1 g4
      replace f0 := WF.cellOld (ss := []) hb2 f0; replace f1 := WF.cellOld (ss := []) hb2 f1; replace f2 := WF.cellOld (ss := []) hb2 f2; replace f3 := WF.cellOld (ss := []) hb2 f3; replace f4 := WF.cellOld (ss := []) hb2 f4
      have Q := Lib.hid (fun x : WF wr [] => x.below (eqVote_any t.x t.y t.z a1 a2 d1 d2 t.l t.k x.w ((s1.mono hle).up x.h.bel) ((s2.mono hle).up x.h.bel) ((r1.mono hle).up x.h.bel) ((r2.mono hle).up x.h.bel)))
      have hne : Nonempty (WF wr []) := ⟨⟨wr, InvF.start wr⟩⟩
      have HB := Lib.hid hbel
      clear hcell hcell' h3 h3' s1 s2 r1 r2 hbel hbb hbb' ht
      generalize t.x = tx at *
      generalize t.y = ty at *
      generalize t.z = tz at *
      go_wp2_with fail
      refine wp_region_wf (by kernel_rfl) (by kernel_rfl) (InvF.start wr) ?_
      repeat (go_big_quiet_step ((go_at_call 35; exact Q.out _)))
      refine wpQuiet_nil ?_
      rintro _ ⟨z, rfl⟩
      have HZ := Lib.hid (HB.out.trans (z.h.bel.mono hle))
      go_wp2
      go_roundw
      case rel => exact ⟨k + 1, by omega, by go_num, HZ.out⟩
      case measure => simp [intOf]; omega
    · obtain rfl : k = L.length := by omega
      go_wp2
      go_ret
      exact ⟨rfl, hbel⟩

theorem set_get {L : List Vt} {j : Nat} {t : Vt} (h : j < L.length) : (L.set j t)[j]? = some t := by rw [List.getElem?_set, if_pos rfl, if_pos h]
/-- A vote is marked, field by field. -/
theorem mark_one {L : List Vt} {k j q : Nat} {t : Vt} {a b d : Int} (h : L[j]? = some t) (hq : q = k + mkV (L.take j)) (ha : a = (q : Int)) (hb : b = (q : Int) + 1) (hd : d = (q : Int) + 2 + (t.l.length : Int)) {l' k' : List UInt8} (hl : l' = marks (q + 2) t.l.length) (hk : k' = marks (q + 3 + t.l.length) t.k.length) :
    (MV L k j).set j ⟨a, b, l', d, k'⟩ = MV L k (j + 1) := by
  rw [← MV_set L k j t h, ← hq, ha, hb, hd, hl, hk]
  rfl

set_option maxRecDepth 100000 in
set_option maxHeartbeats 4000000 in
theorem markVoteS_any (S : Nat → Prop) (v : Value) (L : List Vt) (ps : List (Value × Value)) (k : Nat) (w : World) (H : OwnV S w v L ps) (hk : k ≤ 1048576) (hm : mkV L ≤ 1000000000000) (hs : ∀ t ∈ L, t.l.length ≤ 4194304 ∧ t.k.length ≤ 4194304) :
    Calls Try.prog 12 #[v, .int .i64 (k : Int)] w (fun e w' => e = .returned (.int .i64 ((k : Int) + (mkV L : Int))) ∧ OwnV S w' v (marksV k L) ps ∧ Frm S w w') := by
  obtain ⟨A, c, rfl, h1, h2, h0, h3⟩ := H.sl
  unfold maxLen at h2
  clear h0
  have HS := Lib.hid hs
  clear hs
  have hA : 0 < L.length → ∃ b, A = some ⟨b, 0, none⟩ := fun hp => by
    obtain ⟨A', c', e, _, _, _, h5⟩ := H.2.form
    obtain ⟨b, e2, _⟩ := h5 (by rw [eltsV_len H.1]; exact hp)
    simp only [Value.slice.injEq] at e
    exact ⟨b, by rw [e.1, e2]⟩
  clear h3
  go_enter Try.func12, Try.ntmps12
  go_wp2
  go_loopw [1, 5] (fun q i wr => ∃ j : Nat, j ≤ L.length ∧ i = .int .i64 j ∧ q = .int .i64 ((k : Int) + (mkV (L.take j) : Int)) ∧ OwnV S wr (.slice A L.length c) (MV L k j) ps ∧ Frm S w wr)
    (fun _ i _ => L.length - (intOf i).toNat)
  case atStart => exact ⟨0, Nat.zero_le _, rfl, by simp [mkV, volV], by rw [MV_zero]; exact H, Frm.refl _ _⟩
  case round =>
    clear H
    obtain ⟨j, hj, rfl, rfl, H, hF⟩ := hrel
    have hml := MV_length L k j hj
    by_cases hlt : j < L.length
    · obtain ⟨b, rfl⟩ := hA (by omega)
      obtain ⟨t, ht⟩ := get_default hlt
      have htm := MV_at L k j t ht
      have hsz := HS.out t (List.mem_of_getElem? ht)
      obtain ⟨p, hp⟩ : ∃ p, ps[j]? = some p := ⟨ps[j]'(by have := H.1; omega), List.getElem?_eq_getElem (by have := H.1; omega)⟩
      obtain ⟨pa, pb⟩ := p
      have hv : Hid (Value.slice (some ⟨b, 0, none⟩) L.length c = .slice (some ⟨b, 0, none⟩) (MV L k j).length c) := Lib.hid (by rw [hml])
      have hnext := mkV_take L j t ht
      have hle := mkV_le L (j + 1)
      obtain ⟨q, hq⟩ : ∃ q, q = k + mkV (L.take j) := ⟨_, rfl⟩
      obtain ⟨z0, hz0⟩ : ∃ z0 : Int, z0 = (k : Int) + (mkV (L.take j) : Int) := ⟨_, rfl⟩
      have hzq : z0 = (q : Int) := by omega
      have hzlo : 0 ≤ z0 := by omega
      have hzhi : z0 ≤ 1000001048576 := by omega
      have hqb : q ≤ 1000001048576 := by omega
      rw [← hz0]
      have HZ := Lib.hid hzq
      have HQ := Lib.hid hq
      have HN : Hid (∀ z : Int, z = z0 + (t.l.length : Int) + (t.k.length : Int) + 3 → z = (k : Int) + (mkV (L.take (j + 1)) : Int)) := Lib.hid (fun z hz => by omega)
      clear hz0 hzq hq hnext hle
      obtain ⟨A1, e1, e, _⟩ := (H.rowL htm hp).sl
      simp only at e
      subst e
      obtain ⟨A2, e2, e, _⟩ := (H.rowK htm hp).sl
      simp only at e
      subst e
      have HT : Hid ((MV L k j).set j ⟨z0, z0 + 1, marks (q + 2) t.l.length, z0 + 1 + 1 + (t.l.length : Int), marks (q + 3 + t.l.length) t.k.length⟩ = MV L k (j + 1)) := Lib.hid (mark_one ht HQ.out HZ.out (by have := HZ.out; omega) (by have := HZ.out; omega) rfl rfl)
      have hlj : Hid (j < (MV L k j).length) := Lib.hid (by omega)
      clear ht
      generalize MV L k j = M at *
      obtain ⟨g0, g1, g2, g3, g4⟩ := H.cells hv.out htm hp
      have f0 := H.fr hv.out (j * 5)
      have f1 := H.fr hv.out (j * 5 + 1)
      have HM := Lib.hid htm
      have HP := Lib.hid hp
      clear htm hp hml
      obtain ⟨tx, ty, tl, tz, tk⟩ := t
      dsimp only at *
      go_wp2_with fail
      have K1 := H.setX hv.out HM.out z0
      have K2 := K1.1.setY (b := b) (c := c) (i := j) (by rw [List.length_set]; exact hv.out) (set_get hlj.out) (z0 + 1)
      simp only [List.set_set] at K2
      have F2 := (hF.trans K1.2).trans K2.2
      have H2 := Lib.hid K2.1
      have hF2 := Lib.hid F2
      clear K1 K2 F2 H hF g0 g1 g2 g3 g4 f0 f1
      refine (markByteS_z _ tl (q + 2) 0 _ _ (H2.out.rowL (set_get hlj.out) HP.out) (by have := HZ.out; omega) (by omega) (by omega)).mono ?_
      rintro ev w3 ⟨rfl, ho3, hg3⟩
      have K3 := H2.out.wroteL (set_get hlj.out) HP.out ho3 hg3
      simp only [List.set_set] at K3
      have H3 := Lib.hid K3.1
      have hF3 := Lib.hid (hF2.out.trans K3.2)
      clear K3 H2 hF2 ho3 hg3
      have hv3 : Hid (Value.slice (some ⟨b, 0, none⟩) L.length c = .slice (some ⟨b, 0, none⟩) (M.set j ⟨z0, z0 + 1, marks (q + 2) tl.length, tz, tk⟩).length c) := Lib.hid (by rw [List.length_set]; exact hv.out)
      obtain ⟨g0, g1, g2, g3, g4⟩ := H3.out.cells hv3.out (set_get hlj.out) HP.out
      have f3 := H3.out.fr hv3.out (j * 5 + 3)
      go_wp2_with fail
      have K4 := H3.out.setZ hv3.out (set_get hlj.out) (z0 + 1 + 1 + (tl.length : Int))
      simp only [List.set_set] at K4
      have H4 := Lib.hid K4.1
      have hF4 := Lib.hid (hF3.out.trans K4.2)
      clear K4 H3 hF3 g0 g1 g2 g3 g4 f3
      refine (markByteS_z _ tk (q + 3 + tl.length) 0 _ _ (H4.out.rowK (set_get hlj.out) HP.out) (by have := HZ.out; omega) (by omega) (by omega)).mono ?_
      rintro ev w5 ⟨rfl, ho5, hg5⟩
      have K5 := H4.out.wroteK (set_get hlj.out) HP.out ho5 hg5
      simp only [List.set_set] at K5
      have H5 := Lib.hid K5.1
      have hF5 := Lib.hid (hF4.out.trans K5.2)
      clear K5 H4 hF4 ho5 hg5
      go_wp2
      go_roundw
      case rel => exact ⟨j + 1, by omega, by go_num, by refine congrArg _ (HN.out _ ?_); omega, by rw [← HT.out]; exact H5.out, hF5.out⟩
      case measure => simp [intOf]; omega
    · obtain rfl : j = L.length := by omega
      rw [MV_full] at H
      rw [List.take_length]
      go_wp2
      go_ret
      exact ⟨rfl, H, hF⟩

/-- What szVoteS leaves of m. -/
def szVSZ (L : List Vt) (m : Int) : Int := if m < (L.length : Int) + (volV L : Int) then -1 else m - ((L.length : Int) + (volV L : Int))
theorem szVSZ_big {L : List Vt} {m : Int} (h : m < (L.length : Int) + (volV L : Int)) : szVSZ L m = -1 := if_pos h
theorem szVSZ_ok {L : List Vt} {m : Int} (h : ¬ m < (L.length : Int) + (volV L : Int)) : szVSZ L m = m - ((L.length : Int) + (volV L : Int)) := if_neg h
set_option maxRecDepth 100000 in
set_option maxHeartbeats 4000000 in
theorem szVoteS_any (v : Value) (L : List Vt) (m : Int) (w : World) (h : SlV w w.heap.size v L) (h0 : 0 ≤ m) (hm : m ≤ 1073741824) :
    Calls Try.prog 5 #[v, .int .i64 m] w (fun e w' => e = .returned (.int .i64 (szVSZ L m)) ∧ Below w.heap.size w w') := by
  obtain ⟨A, c, rfl, h1, h2, k0, h3⟩ := h
  unfold maxLen at h2
  clear k0
  obtain ⟨R, hR⟩ : ∃ R, R = szVSZ L m := ⟨_, rfl⟩
  rw [← hR]
  unfold szVSZ at hR
  have HR := Lib.hid hR
  clear hR
  by_cases hlt : m < (L.length : Int)
  · obtain rfl : R = -1 := by rw [HR.out, if_pos (by omega)]
    have hn : m - (L.length : Int) < 0 := by omega
    go_enter Try.func5, Try.ntmps5
    go_wp2
    go_ret
    exact ⟨rfl, Below.refl _ _⟩
  · have hn : ¬ m - (L.length : Int) < 0 := by omega
    go_enter Try.func5, Try.ntmps5
    go_wp2
    go_loopw [1, 5] (fun q i wr => ∃ j : Nat, j ≤ L.length ∧ i = .int .i64 j ∧ q = .int .i64 (m - (L.length : Int) - (volV (L.take j) : Int)) ∧ 0 ≤ m - (L.length : Int) - (volV (L.take j) : Int) ∧ Below w.heap.size w wr)
      (fun _ i _ => L.length - (intOf i).toNat)
    case atStart => exact ⟨0, Nat.zero_le _, rfl, by simp [volV], by simp [volV]; omega, Below.refl _ _⟩
    case round =>
      obtain ⟨j, hj, rfl, rfl, hq0, hbel⟩ := hrel
      by_cases hlj : j < L.length
      · obtain ⟨b, off, rfl, hbb, hcell⟩ := h3 (by omega)
        obtain ⟨t, ht⟩ := get_default hlj
        obtain ⟨u, u', g0, g1, g2, g3, g4, s1, s2⟩ := (hcell j t ht).below hbel hbb
        have hsum := volV_take L j t ht
        have hle := volV_le L (j + 1)
        have hwl := hbel.size
        clear hcell
        generalize volV (L.take j) = q at hsum hq0 ⊢
        have HSM := Lib.hid hsum
        obtain ⟨z, hz⟩ : ∃ z : Int, z = m - (L.length : Int) - (q : Int) := ⟨_, rfl⟩
        rw [← hz] at hq0 ⊢
        have HZ := Lib.hid hz
        have hzm : z ≤ 1073741824 := by omega
        have HC := Lib.hid (szVote_any t.x t.y t.z u u' t.l t.k z wr (s1.mono hwl) (s2.mono hwl) hq0 hzm)
        obtain ⟨A1, e1, rfl, _⟩ := s1
        obtain ⟨A2, e2, rfl, _⟩ := s2
        obtain ⟨tx, ty, tl, tz, tk⟩ := t
        dsimp only at *
        by_cases hz1 : z < (tl.length : Int) + (tk.length : Int)
        · have hall : m < (L.length : Int) + (volV L : Int) := by omega
          obtain rfl : R = -1 := by rw [HR.out, if_pos hall]
          rw [szVZ_big hz1] at HC
          have HB := Lib.hid hbel
          clear hsum hz hall hle hbel ht
          go_wp2_with fail
          refine HC.out.mono ?_
          rintro ev w2 ⟨rfl, hb2⟩
          have HB2 := Lib.hid (HB.out.trans (hb2.mono hwl))
          go_wp2
          go_ret
          exact ⟨rfl, HB2.out⟩
        · have hge : ¬ z - ((tl.length : Int) + (tk.length : Int)) < 0 := by omega
          rw [szVZ_ok hz1] at HC
          have HB := Lib.hid hbel
          clear hsum hz hle hbel ht
          go_wp2_with fail
          refine HC.out.mono ?_
          rintro ev w2 ⟨rfl, hb2⟩
          have HB2 := Lib.hid (HB.out.trans (hb2.mono hwl))
          go_wp2
          go_roundw
          case rel => exact ⟨j + 1, by omega, by go_num, by have := HZ.out; have := HSM.out; refine congrArg _ ?_; omega, by have := HZ.out; have := HSM.out; omega, HB2.out⟩
          case measure => simp [intOf]; omega
      · obtain rfl : j = L.length := by omega
        rw [List.take_length] at hq0 ⊢
        have hR := HR.out
        rw [if_neg (by omega)] at hR
        have HRE : Hid (m - (L.length : Int) - (volV L : Int) = R) := Lib.hid (by omega)
        rw [HRE.out]
        clear hR
        go_wp2
        go_ret
        exact ⟨rfl, hbel⟩

theorem vinfo : (Try.prog.info? 59).map (fun i => (i.zero, i.size, i.bytes)) = some (some (.agg #[.int .i64 0, .int .i64 0, .slice none 0 0, .int .i64 0, .slice none 0 0]), 5, 72) := by kernel_rfl
/-- What toVoteS has made after j votes. -/
def TV (L : List Vt) (j : Nat) : List Vt := L.take j ++ List.replicate (L.length - j) default
theorem TV_zero (L : List Vt) : TV L 0 = List.replicate L.length default := by simp [TV]
theorem TV_full (L : List Vt) : TV L L.length = L := by simp [TV]
theorem TV_length (L : List Vt) (j : Nat) (h : j ≤ L.length) : (TV L j).length = L.length := by simp [TV]; omega
theorem TV_set (L : List Vt) (j : Nat) (t : Vt) (h : L[j]? = some t) : (TV L j).set j t = TV L (j + 1) := by
  have hj := (List.getElem?_eq_some_iff.1 h).1
  have hl : (L.take j).length = j := by rw [List.length_take]; omega
  unfold TV
  rw [List.set_append_right _ _ (by omega), hl, Nat.sub_self, show L.length - j = (L.length - (j + 1)) + 1 by omega, List.replicate_succ, List.set_cons_zero, List.take_add_one, h, List.append_assoc]
  rfl

set_option maxRecDepth 100000 in
set_option maxHeartbeats 4000000 in
theorem toVoteS_any (v : Value) (L : List Vt) (w : World) (h : SlV w w.heap.size v L) (hl : L.length ≤ 1048576) (hs : ∀ t ∈ L, t.l.length ≤ 1048576 ∧ t.k.length ≤ 1048576) :
    Calls Try.prog 8 #[v] w (FreshVS w L) := by
  obtain ⟨A, c, rfl, h1, h2, h0, h3⟩ := h
  obtain ⟨i0, hi, hz0, hz1, hz2⟩ := info_parts vinfo
  have hby : i0.bytes * L.length ≤ 281474976710656 := by rw [hz2]; omega
  have hml : L.length ≤ maxLen := by unfold maxLen; omega
  unfold maxLen at h2
  have HS := Lib.hid hs
  clear h0 hs
  go_enter Try.func8, Try.ntmps8
  go_wp2_with (at_make; refine wpList_make_full _ rfl _ _ _ rfl w.heap.size 59 i0 (.agg #[.int .i64 0, .int .i64 0, .slice none 0 0, .int .i64 0, .slice none 0 0]) 5 Try.underlying34 hi hz0 hz1 .i64 .i64 _ _ L.length rfl rfl rfl rfl hby hml (Nat.le_refl _) ?_; intro w1 hown1 hg1)
  have hb1 : Below w.heap.size w w1 := (Below.refl _ _).grown hg1 (Nat.le_refl _) (by simp)
  have H1 : Hid (OwnV (fun b => w.heap.size ≤ b) w1 (.slice (some ⟨w.heap.size, 0, none⟩) L.length L.length) (TV L 0) (List.replicate L.length (.slice none 0 0, .slice none 0 0))) := by
    refine Lib.hid ⟨by rw [TV_length L 0 (Nat.zero_le _), List.length_replicate], ?_⟩
    rw [TV_zero]
    have hlen : (eltsV (List.replicate L.length (default : Vt)) (List.replicate L.length (Value.slice none 0 0, Value.slice none 0 0))).length = L.length := by rw [eltsV_len (by simp)]; simp
    have hrows : ∀ p ∈ rowsE (eltsV (List.replicate L.length (default : Vt)) (List.replicate L.length (Value.slice none 0 0, Value.slice none 0 0))), p = (5, .slice none 0 0, []) := fun p hp => by
      obtain ⟨e, he, hpe⟩ := List.mem_flatMap.1 hp
      unfold eltsV at he
      rw [List.zipWith_replicate] at he
      rw [List.eq_of_mem_replicate he] at hpe
      simp only [eltV, List.mem_cons, List.not_mem_nil, or_false] at hpe
      rcases hpe with h5 | h5 <;> exact h5
    refine ⟨fun e he => ?_, ?_, fun g hg => ?_, fun p hp => ?_, ?_⟩
    · unfold eltsV at he
      rw [List.zipWith_replicate] at he
      rw [List.eq_of_mem_replicate he]
      rfl
    · rw [hlen, ← zeroV]
      refine ⟨hown1.1, ?_⟩
      rcases hown1.2 with h5 | ⟨g, cap, cur, e, hb, rest⟩
      · exact .inl h5
      · exact .inr ⟨g, cap, cur, e, Nat.zero_le _, rest⟩
    · simp [Value.ownBlock] at hg
      omega
    · rw [hrows p hp]
      exact ⟨World.ownsRow_nil _ _ _ _, fun g hg => by simp [Value.ownBlock] at hg⟩
    · refine List.pairwise_cons.2 ⟨fun p hp => ?_, ?_⟩
      · rw [hrows p hp]
        exact .inr (by simp [headE, Value.ownBlock])
      · refine List.Pairwise.imp_of_mem (R := fun _ _ => True) (fun {a b} ha _ _ => ?_) (List.pairwise_of_forall (fun _ _ => trivial))
        rw [hrows a ha]
        exact .inl rfl
  clear hown1 hg1
  go_wp2
  go_loopw [4] (fun i wr => ∃ (j : Nat) (ps : List (Value × Value)), j ≤ L.length ∧ i = .int .i64 j ∧ Hid (OwnV (fun b => w.heap.size ≤ b) wr (.slice (some ⟨w.heap.size, 0, none⟩) L.length L.length) (TV L j) ps) ∧ Below w.heap.size w wr)
    (fun i _ => L.length - (intOf i).toNat)
  case atStart => exact ⟨0, _, Nat.zero_le _, rfl, H1, hb1⟩
  case round =>
    clear H1 hb1
    obtain ⟨j, ps, hj, rfl, H, hbel⟩ := hrel
    by_cases hlt : j < L.length
    · obtain ⟨b, off, rfl, hbb, hcell⟩ := h3 (by omega)
      obtain ⟨t, ht⟩ := get_default hlt
      have hsz := HS.out t (List.mem_of_getElem? ht)
      obtain ⟨u, u', g0, g1, g2, g3, g4, s1, s2⟩ := (hcell j t ht).below hbel hbb
      have hwl := hbel.size
      have hset := TV_set L j t ht
      have hln := TV_length L j hj
      have HC := Lib.hid (toVote_any t.x t.y t.z u u' t.l t.k wr (s1.mono hwl) (s2.mono hwl) hsz.1 hsz.2)
      obtain ⟨A1, e1, rfl, _⟩ := s1
      obtain ⟨A2, e2, rfl, _⟩ := s2
      have HB := Lib.hid hbel
      obtain ⟨tx, ty, tl, tz, tk⟩ := t
      dsimp only at *
      clear hcell ht hbel
      go_wp2_with fail
      refine HC.out.mono ?_
      rintro ev w2 ⟨a, b', rfl, K⟩
      obtain ⟨A3, c3, rfl⟩ := K.openB (.head _)
      obtain ⟨A4, c4, rfl⟩ := K.openB (.tail _ (.head _))
      have HP : OwnP (fun b => w.heap.size ≤ b) 59 5 w2 (.slice (some ⟨w.heap.size, 0, none⟩) L.length L.length) (eltsV (TV L j) ps) [(5, .slice A3 tl.length c3, us tl), (5, .slice A4 tk.length c4, us tk)] := by
        have h := H.out.2.pend.moreG K (fun b hb => by show w.heap.size ≤ b; omega)
        simpa [segB] using h
      have hv : Value.slice (some ⟨w.heap.size, 0, none⟩) L.length L.length = .slice (some ⟨w.heap.size, 0, none⟩) (TV L j).length L.length := by rw [hln]
      have hbel2 := HB.out.trans (K.bel.mono hwl)
      obtain ⟨t0, ht0⟩ := get_default (L := TV L j) (k := j) (by omega)
      obtain ⟨p0, hp0⟩ : ∃ p, ps[j]? = some p := ⟨ps[j]'(by have := H.out.1; omega), List.getElem?_eq_getElem (by have := H.out.1; omega)⟩
      have H2 := H.out.up K.bel
      obtain ⟨o0, o1, o2, o3, o4⟩ := H2.cells hv ht0 hp0
      have f0 := H2.fr hv (j * 5)
      have f1 := H2.fr hv (j * 5 + 1)
      have f2 := H2.fr hv (j * 5 + 2)
      have f3 := H2.fr hv (j * 5 + 3)
      have f4 := H2.fr hv (j * 5 + 4)
      have hput := OwnV.putV (t := ⟨tx, ty, tl, tz, tk⟩) (i := j) H2.1 HP hv (by omega)
      rw [hset] at hput
      have HO := Lib.hid hput.1
      have HB2 := Lib.hid (hbel2.trans (hput.2.below (fun b hb => hb) hbel2.size))
      clear hput hset HP K H H2 ht0 hp0 hbel2 HC
      obtain ⟨d0, d1, d2, d3, d4⟩ := t0
      obtain ⟨p1, p2⟩ := p0
      dsimp only at *
      go_wp2
      go_roundw
      case rel => exact ⟨j + 1, _, by omega, by go_num, HO, HB2.out⟩
      case measure => simp [intOf]; omega
    · obtain rfl : j = L.length := by omega
      rw [TV_full] at H
      go_wp2
      go_ret
      exact ⟨_, ps, rfl, hbel, H.out⟩
end Go.Proofs.Ytdoaikanaodefaa
