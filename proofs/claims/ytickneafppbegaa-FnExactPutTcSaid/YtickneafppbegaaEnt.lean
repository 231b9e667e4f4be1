/- The contracts of the helpers of exact laws on entries and on slices of them: toEntry, szEntry, eqEntry, toEntryS, szEntryS, eqEntryS, markEntryS, heldEntryS. -/
import Derived.Test.YtickneafppbegaaEntM
import Derived.Test.YtickneafppbegaaWat
import Derived.Test.YtickneafppbegaaMid
namespace Go.Proofs.Ytickneafppbegaa
open Go.ChangeShapes Go.WideShapes Go.ChangeAt Go.RowKit

section
variable {W w : World} {ss : List (List Row)} {T : TypeId} {g : Nat}
theorem InvF.c3 {a b c : Value} (H : InvF W w ss) (h : segX T g [a, b, c] ∈ ss) : w.cell? ⟨g, 0, none⟩ = some a ∧ w.cell? ⟨g, 1, none⟩ = some b ∧ w.cell? ⟨g, 2, none⟩ = some c := ⟨H.atX h 0 rfl, H.atX h 1 rfl, H.atX h 2 rfl⟩
theorem InvF.f3 {a b c : Value} (H : InvF W w ss) (h : segX T g [a, b, c] ∈ ss) : w.frozen? ⟨g, 0, none⟩ = false ∧ w.frozen? ⟨g, 1, none⟩ = false ∧ w.frozen? ⟨g, 2, none⟩ = false := ⟨H.frX h 0, H.frX h 1, H.frX h 2⟩
theorem InvF.over3 {a b c : Value} (H : InvF W w (segX T g [a, b, c] :: ss)) (a' b' c' : Value) : InvF W (((w.setCell ⟨g, 0, none⟩ a').setCell ⟨g, 1, none⟩ b').setCell ⟨g, 2, none⟩ c') (segX T g [a', b', c'] :: ss) := ((H.setX 0 a').setX 1 b').setX 2 c'
theorem InvF.c2 {a b : Value} (H : InvF W w ss) (h : segX T g [a, b] ∈ ss) : w.cell? ⟨g, 0, none⟩ = some a ∧ w.cell? ⟨g, 1, none⟩ = some b := ⟨H.atX h 0 rfl, H.atX h 1 rfl⟩
theorem InvF.f2 {a b : Value} (H : InvF W w ss) (h : segX T g [a, b] ∈ ss) : w.frozen? ⟨g, 0, none⟩ = false ∧ w.frozen? ⟨g, 1, none⟩ = false := ⟨H.frX h 0, H.frX h 1⟩
theorem InvF.over2 {a b : Value} (H : InvF W w (segX T g [a, b] :: ss)) (a' b' : Value) : InvF W ((w.setCell ⟨g, 0, none⟩ a').setCell ⟨g, 1, none⟩ b') (segX T g [a', b'] :: ss) := (H.setX 0 a').setX 1 b'
theorem ten2 {p q u : Prop} (h : p ∧ q) (k : u) : p ∧ q ∧ u := ⟨h.1, h.2, k⟩
end

set_option maxHeartbeats 2000000 in
theorem toEntry_any (x y : Int) (a : Value) (k : List UInt8) (w : World) (ha : Sl w w.heap.size a k) (hk : k.length ≤ 1048576) :
    Calls Try.prog 48 #[.agg #[.int .i64 x, .int .i64 y, a]] w (fun e w' => ∃ p, e = .returned (.agg #[.int .i64 x, .int .i64 y, p]) ∧ InvF w w' [segB 5 p k]) := by
  obtain ⟨A, c, rfl, p1, p2, p0, p3⟩ := id ha
  clear p1 p2 p0 p3
  have H0 := (((InvF.start w).newG 68 #[.int .i64 x, .int .i64 y, .slice A k.length c] w.heap.size).newG 53 #[.int .i64 0, .int .i64 0, .slice none 0 0] (w.heap.size + 1)).newG 53 #[.int .i64 x, .int .i64 y, .slice none 0 0] (w.heap.size + 1 + 1)
  go_enter Try.func48, Try.ntmps48
  go_wp2_with fail
  refine (toByteS_any _ k _ (ha.up H0.bel) (by omega)).mono ?_
  rintro e w4 ⟨u4, rfl, ho4, hb4⟩
  have H4 := H0.moreB ho4 hb4
  clear H0 ho4 hb4
  obtain ⟨A4, c4, rfl⟩ := H4.openB' (.head _)
  obtain ⟨o0, o1, o2⟩ := H4.c3 (.tail _ (.head _))
  obtain ⟨_, _, f2⟩ := H4.f3 (.tail _ (.head _))
  obtain ⟨r0, r1, r2⟩ := H4.c3 (.tail _ (.tail _ (.head _)))
  obtain ⟨q0, q1, q2⟩ := H4.f3 (.tail _ (.tail _ (.head _)))
  have h4 := H4.ltX (.tail _ (.head _))
  have h5 := H4.ltX (.tail _ (.tail _ (.head _)))
  have K6 := Lib.hid H4
  clear H4
  go_wp2
  refine bodyPost_ret (v := .agg #[.int .i64 x, .int .i64 y, .slice A4 k.length c4]) (by simp [results, Try.results48, go_sem, r0, r1, r2]) rfl ⟨_, rfl, ?_⟩
  exact ((((K6.out.front 1 rfl).setX 2 (.slice A4 k.length c4)).front 2 rfl).over3 (.int .i64 x) (.int .i64 y) (.slice A4 k.length c4)).sub (.cons _ (.cons _ (.cons_cons _ (.cons _ .slnil))))

set_option maxHeartbeats 1000000 in
theorem eqEntry_any (x y : Int) (a a' : Value) (k : List UInt8) (w : World) (ha : Sl w w.heap.size a k) (ha' : Sl w w.heap.size a' k) :
    Calls Try.prog 53 #[.agg #[.int .i64 x, .int .i64 y, a], .agg #[.int .i64 x, .int .i64 y, a']] w (Yes w) := by
  obtain ⟨A, c, rfl, p1, p2, p0, p3⟩ := id ha
  clear p1 p2 p0 p3
  obtain ⟨A', c', rfl, p1, p2, p0, p3⟩ := id ha'
  clear p1 p2 p0 p3
  have n0 : (x != x) = false := by simp
  have n1 : (y != y) = false := by simp
  have hB : Below w.heap.size w ((w.alloc (.cells #[.int .i64 x, .int .i64 y, .slice A k.length c] 53)).alloc (.cells #[.int .i64 x, .int .i64 y, .slice A' k.length c'] 53)) := ((Below.refl _ w).alloc (Nat.le_refl _) _).alloc (by simp) _
  go_enter Try.func53, Try.ntmps53
  go_wp2_with fail
  refine (eqByteS_any _ _ k _ (ha.up hB) (ha'.up hB)).mono ?_
  rintro e _ ⟨rfl, m, rfl⟩
  go_wp2_with fail
  go_ret
  exact ⟨rfl, below_drewN hB m⟩

set_option maxHeartbeats 1000000 in
theorem szEntry_any (x y : Int) (a : Value) (k : List UInt8) (m : Int) (w : World) (ha : Sl w w.heap.size a k) (h0 : 0 ≤ m) (hm : m ≤ 1073741824) :
    Calls Try.prog 46 #[.agg #[.int .i64 x, .int .i64 y, a], .int .i64 m] w (fun e w' => e = .returned (.int .i64 (if m < (k.length : Int) then -1 else m - (k.length : Int))) ∧ Below w.heap.size w w') := by
  obtain ⟨A, c, rfl, p1, p2, p0, p3⟩ := id ha
  clear p1 p2 p0 p3
  have hB : Below w.heap.size w (w.alloc (.cells #[.int .i64 x, .int .i64 y, .slice A k.length c] 68)) := (Below.refl _ w).alloc (Nat.le_refl _) _
  by_cases hlt : m < (k.length : Int)
  · rw [if_pos hlt]
    go_enter Try.func46, Try.ntmps46
    go_wp2_with fail
    refine (szByteS_any _ k m _ (ha.up hB) h0 hm).mono ?_
    rw [if_pos hlt]
    rintro e w' ⟨rfl, hw⟩
    subst hw
    go_wp2
    go_ret
    exact ⟨rfl, hB⟩
  · rw [if_neg hlt]
    obtain ⟨u, hu⟩ : ∃ u : Int, u = m - (k.length : Int) := ⟨_, rfl⟩
    rw [← hu]
    have HU := Lib.hid hu
    have hu0 : ¬ u < 0 := by omega
    clear hu
    go_enter Try.func46, Try.ntmps46
    go_wp2_with fail
    refine (szByteS_any _ k m _ (ha.up hB) h0 hm).mono ?_
    rw [if_neg (show ¬ m < (k.length : Int) by omega), ← HU.out]
    rintro e w' ⟨rfl, hw⟩
    subst hw
    go_wp2
    go_ret
    exact ⟨rfl, hB⟩

theorem einfo : (Try.prog.info? 53).map (fun i => (i.zero, i.size, i.bytes)) = some (some (.agg #[.int .i64 0, .int .i64 0, .slice none 0 0]), 3, 40) := by kernel_rfl
/-- The call returns a slice of entries of its own; nothing that was there has turned. -/
def FreshE (w : World) (L : List Et) (e : Ending) (w' : World) : Prop := ∃ v ps, e = .returned v ∧ ps.length = L.length ∧ InvF w w' [segE v ps L]

set_option maxRecDepth 100000 in
set_option maxHeartbeats 4000000 in
theorem toEntryS_any (v : Value) (L : List Et) (w : World) (h : SlE w w.heap.size v L) (hl : L.length ≤ 1048576) (hs : volE L ≤ 1048576) :
    Calls Try.prog 32 #[v] w (FreshE w L) := by
  obtain ⟨A, c, rfl, h1, h2, h0, h3⟩ := h
  obtain ⟨i0, hi, hz0, hz1, hz2⟩ := info_parts einfo
  have hby : i0.bytes * L.length ≤ 281474976710656 := by rw [hz2]; omega
  have hml : L.length ≤ maxLen := by unfold maxLen; omega
  unfold maxLen at h2
  have HS := Lib.hid hs
  clear h0 hs
  go_enter Try.func32, Try.ntmps32
  go_wp2_with (at_make; refine wpList_make_full _ rfl _ _ _ rfl w.heap.size 53 i0 (.agg #[.int .i64 0, .int .i64 0, .slice none 0 0]) 3 Try.underlying31 hi hz0 hz1 .i64 .i64 _ _ L.length rfl rfl rfl rfl hby hml (Nat.le_refl _) ?_; intro w1 hown1 hg1)
  have hb1 : Below w.heap.size w w1 := (Below.refl _ _).grown hg1 (Nat.le_refl _) (by simp)
  have H1 : Hid (InvF w w1 [segE (.slice (some ⟨w.heap.size, 0, none⟩) L.length L.length) (List.replicate L.length (.slice none 0 0)) (TE L 0)]) := by
    refine Lib.hid ?_
    rw [TE_zero]
    exact (InvF.start w).madeE (by omega) hown1 hb1
  clear hown1 hg1 hb1
  go_wp2
  go_loopw [4] (fun i wr => ∃ (j : Nat) (ps : List Value), j ≤ L.length ∧ i = .int .i64 j ∧ Hid (ps.length = L.length) ∧ Hid (InvF w wr [segE (.slice (some ⟨w.heap.size, 0, none⟩) L.length L.length) ps (TE L j)]))
    (fun i _ => L.length - (intOf i).toNat)
  case atStart => exact ⟨0, _, Nat.zero_le _, rfl, Lib.hid (by simp), H1⟩
  case round =>
    clear H1
    obtain ⟨j, ps, hj, rfl, HP, H⟩ := hrel
    by_cases hlt : j < L.length
    · obtain ⟨b, off, rfl, hbb, hcell⟩ := h3 (by omega)
      obtain ⟨t, ht⟩ := getE hlt
      have hsz : t.k.length ≤ 1048576 := by have := volE_mem ht; have := HS.out; omega
      obtain ⟨u, g0, g1, g2, s1⟩ := (hcell j t ht).below H.out.bel hbb
      have hset := TE_set L j t ht
      have hln := TE_length L j hj
      have HC := Lib.hid (toEntry_any t.x t.y u t.k wr (s1.mono H.out.bel.size) hsz)
      obtain ⟨A1, e1, rfl, _⟩ := s1
      obtain ⟨tx, ty, tk⟩ := t
      dsimp only at *
      clear hcell ht
      go_wp2_with fail
      refine HC.out.mono ?_
      rintro ev w2 ⟨p, rfl, K⟩
      obtain ⟨A3, c3, rfl⟩ := K.openB' (.head _)
      have H2 : InvF w w2 [segB 5 (.slice A3 tk.length c3) tk, segE (.slice (some ⟨w.heap.size, 0, none⟩) L.length L.length) ps (TE L j)] := H.out.more (s := segB 5 (.slice A3 tk.length c3) tk) K
      have hv : Value.slice (some ⟨w.heap.size, 0, none⟩) L.length L.length = .slice (some ⟨w.heap.size, 0, none⟩) (TE L j).length L.length := by rw [hln]
      have hpl : ps.length = (TE L j).length := by rw [hln]; exact HP.out
      obtain ⟨t0, ht0⟩ := getE (L := TE L j) (k := j) (by omega)
      obtain ⟨p0, hp0⟩ : ∃ p, ps[j]? = some p := ⟨ps[j]'(by omega), List.getElem?_eq_getElem (by omega)⟩
      obtain ⟨o0, o1, o2⟩ := H2.cellsE hpl (.tail _ (.head _)) hv ht0 hp0
      have f0 := H2.frE hpl (.tail _ (.head _)) hv (j * 3)
      have f1 := H2.frE hpl (.tail _ (.head _)) hv (j * 3 + 1)
      have f2 := H2.frE hpl (.tail _ (.head _)) hv (j * 3 + 2)
      have hput := InvF.putE (t := ⟨tx, ty, tk⟩) (i := j) hpl H2 hv (by omega)
      rw [hset] at hput
      have HO := Lib.hid hput
      have HP2 : Hid ((ps.set j (.slice A3 tk.length c3)).length = L.length) := Lib.hid (by rw [List.length_set]; exact HP.out)
      clear hput hset H H2 ht0 hp0 HC K hpl
      obtain ⟨d0, d1, d2⟩ := t0
      dsimp only at *
      go_wp2
      go_roundw
      case rel => exact ⟨j + 1, _, by omega, by go_num, HP2, HO⟩
      case measure => simp [intOf]; omega
    · obtain rfl : j = L.length := by omega
      rw [TE_full] at H
      go_wp2
      go_ret
      exact ⟨_, ps, rfl, HP.out, H.out⟩

/-- What szEntryS leaves of m. -/
def szESZ (L : List Et) (m : Int) : Int := if m < (L.length : Int) + (volE L : Int) then -1 else m - ((L.length : Int) + (volE L : Int))
theorem szESZ_big {L : List Et} {m : Int} (h : m < (L.length : Int) + (volE L : Int)) : szESZ L m = -1 := if_pos h
theorem szESZ_ok {L : List Et} {m : Int} (h : ¬ m < (L.length : Int) + (volE L : Int)) : szESZ L m = m - ((L.length : Int) + (volE L : Int)) := if_neg h
set_option maxRecDepth 100000 in
set_option maxHeartbeats 4000000 in
theorem szEntryS_any (v : Value) (L : List Et) (m : Int) (w : World) (h : SlE w w.heap.size v L) (h0 : 0 ≤ m) (hm : m ≤ 1073741824) :
    Calls Try.prog 27 #[v, .int .i64 m] w (fun e w' => e = .returned (.int .i64 (szESZ L m)) ∧ Below w.heap.size w w') := by
  obtain ⟨A, c, rfl, h1, h2, k0, h3⟩ := h
  unfold maxLen at h2
  clear k0
  obtain ⟨R, hR⟩ : ∃ R, R = szESZ L m := ⟨_, rfl⟩
  rw [← hR]
  unfold szESZ at hR
  have HR := Lib.hid hR
  clear hR
  by_cases hlt : m < (L.length : Int)
  · obtain rfl : R = -1 := by rw [HR.out, if_pos (by omega)]
    have hn : m - (L.length : Int) < 0 := by omega
    go_enter Try.func27, Try.ntmps27
    go_wp2
    go_ret
    exact ⟨rfl, Below.refl _ _⟩
  · have hn : ¬ m - (L.length : Int) < 0 := by omega
    go_enter Try.func27, Try.ntmps27
    go_wp2
    go_loopw [1, 5] (fun q i wr => ∃ j : Nat, j ≤ L.length ∧ i = .int .i64 j ∧ q = .int .i64 (m - (L.length : Int) - (volE (L.take j) : Int)) ∧ 0 ≤ m - (L.length : Int) - (volE (L.take j) : Int) ∧ Below w.heap.size w wr)
      (fun _ i _ => L.length - (intOf i).toNat)
    case atStart => exact ⟨0, Nat.zero_le _, rfl, by simp [volE], by simp [volE]; omega, Below.refl _ _⟩
    case round =>
      obtain ⟨j, hj, rfl, rfl, hq0, hbel⟩ := hrel
      by_cases hlj : j < L.length
      · obtain ⟨b, off, rfl, hbb, hcell⟩ := h3 (by omega)
        obtain ⟨t, ht⟩ := getE hlj
        obtain ⟨u, g0, g1, g2, s1⟩ := (hcell j t ht).below hbel hbb
        have hsum := volE_take L j t ht
        have hle := volE_le L (j + 1)
        have hwl := hbel.size
        clear hcell
        generalize volE (L.take j) = q at hsum hq0 ⊢
        have HSM := Lib.hid hsum
        obtain ⟨z, hz⟩ : ∃ z : Int, z = m - (L.length : Int) - (q : Int) := ⟨_, rfl⟩
        rw [← hz] at hq0 ⊢
        have HZ := Lib.hid hz
        have hzm : z ≤ 1073741824 := by omega
        have HC := Lib.hid (szEntry_any t.x t.y u t.k z wr (s1.mono hwl) hq0 hzm)
        obtain ⟨A1, e1, rfl, _⟩ := s1
        obtain ⟨tx, ty, tk⟩ := t
        dsimp only at *
        by_cases hz1 : z < (tk.length : Int)
        · have hall : m < (L.length : Int) + (volE L : Int) := by omega
          obtain rfl : R = -1 := by rw [HR.out, if_pos hall]
          rw [if_pos hz1] at HC
          have HB := Lib.hid hbel
          clear hsum hz hall hle hbel ht
          go_wp2_with fail
          refine HC.out.mono ?_
          rintro ev w2 ⟨rfl, hb2⟩
          have HB2 := Lib.hid (HB.out.trans (hb2.mono hwl))
          go_wp2
          go_ret
          exact ⟨rfl, HB2.out⟩
        · have hge : ¬ z - (tk.length : Int) < 0 := by omega
          rw [if_neg hz1] at HC
          have HB := Lib.hid hbel
          clear hsum hz hle hbel ht
          go_wp2_with fail
          refine HC.out.mono ?_
          rintro ev w2 ⟨rfl, hb2⟩
          have HB2 := Lib.hid (HB.out.trans (hb2.mono hwl))
          go_wp2
          go_roundw
          case rel => exact ⟨j + 1, by omega, by go_num, by have := HZ.out; have := HSM.out; refine congrArg _ ?_; omega, by have := HZ.out; have := HSM.out; omega, HB2.out⟩
          case measure => simp [intOf]; omega
      · obtain rfl : j = L.length := by omega
        rw [List.take_length] at hq0 ⊢
        have hR := HR.out
        rw [if_neg (by omega)] at hR
        have HRE : Hid (m - (L.length : Int) - (volE L : Int) = R) := Lib.hid (by omega)
        rw [HRE.out]
        clear hR
        go_wp2
        go_ret
        exact ⟨rfl, hbel⟩

theorem WF.cellOldE {W : World} {ss : List (List Row)} {b o : Nat} {u : Value} (hb : b < W.heap.size) (h : W.cell? ⟨b, o, none⟩ = some u) (z : WF W ss) : z.w.cell? ⟨b, o, none⟩ = some u := (z.h.bel.cell (p := ⟨b, o, none⟩) hb).trans h
set_option maxHeartbeats 1000000 in
theorem eqEntryS_any (v u : Value) (L : List Et) (w : World) (h : SlE w w.heap.size v L) (h' : SlE w w.heap.size u L) :
    Calls Try.prog 36 #[v, u] w (Yes w) := by
  obtain ⟨A, c, rfl, h1, h2, h0, h3⟩ := h
  obtain ⟨A', c', rfl, h1', h2', h0', h3'⟩ := h'
  unfold maxLen at h2 h2'
  clear h0 h0'
  have hne : ((L.length : Int) != (L.length : Int)) = false := by simp
  go_enter Try.func36, Try.ntmps36
  go_wp2
  go_loopw [5] (fun i wr => ∃ k : Nat, k ≤ L.length ∧ i = .int .i64 k ∧ Below w.heap.size w wr)
    (fun i _ => L.length - (intOf i).toNat)
  case atStart => exact ⟨0, Nat.zero_le _, rfl, Below.refl _ _⟩
  case round =>
    obtain ⟨k, hk, rfl, hbel⟩ := hrel
    by_cases hlt : k < L.length
    · obtain ⟨b, off, rfl, hbb, hcell⟩ := h3 (by omega)
      obtain ⟨b', off', rfl, hbb', hcell'⟩ := h3' (by omega)
      obtain ⟨t, ht⟩ := getE hlt
      obtain ⟨a1, g0, g1, g2, s1⟩ := (hcell k t ht).below hbel hbb
      obtain ⟨d1, f0, f1, f2, r1⟩ := (hcell' k t ht).below hbel hbb'
      have hle := hbel.size
      have hb1 : b < wr.heap.size := by omega
      have hb2 : b' < wr.heap.size := by omega
      replace g0 := WF.cellOldE (ss := []) hb1 g0; replace g1 := WF.cellOldE (ss := []) hb1 g1; replace g2 := WF.cellOldE (ss := []) hb1 g2
      replace f0 := WF.cellOldE (ss := []) hb2 f0; replace f1 := WF.cellOldE (ss := []) hb2 f1; replace f2 := WF.cellOldE (ss := []) hb2 f2
      have Q := Lib.hid (fun x : WF wr [] => x.below (eqEntry_any t.x t.y a1 d1 t.k x.w ((s1.mono hle).up x.h.bel) ((r1.mono hle).up x.h.bel)))
      have hne : Nonempty (WF wr []) := ⟨⟨wr, InvF.start wr⟩⟩
      have HB := Lib.hid hbel
      clear hcell hcell' h3 h3' s1 r1 hbel hbb hbb' ht
      generalize t.x = tx at *
      generalize t.y = ty at *
      go_wp2_with fail
      refine wp_region_wf (by kernel_rfl) (by kernel_rfl) (InvF.start wr) ?_
      repeat (go_big_quiet_step ((go_at_call 53; exact Q.out _)))
      refine wpQuiet_nil ?_
      rintro _ ⟨z, rfl⟩
      have HZ := Lib.hid (HB.out.trans (z.h.bel.mono hle))
      go_wp2
      go_roundw
      case rel => exact ⟨k + 1, by omega, by go_num, HZ.out⟩
      case measure => simp [intOf]; omega
    · obtain rfl : k = L.length := by omega
      go_wp2
      go_ret
      exact ⟨rfl, hbel⟩

/-- An entry is marked, field by field. -/
theorem mark_oneE {L : List Et} {k j q : Nat} {t : Et} {a b : Int} (h : L[j]? = some t) (hq : q = k + mkE (L.take j)) (ha : a = (q : Int)) (hb : b = (q : Int) + 1) {k' : List UInt8} (hk : k' = marks (q + 2) t.k.length) :
    (ME L k j).set j ⟨a, b, k'⟩ = ME L k (j + 1) := by
  rw [← ME_set L k j t h, ← hq, ha, hb, hk]
  rfl

set_option maxRecDepth 100000 in
set_option maxHeartbeats 4000000 in
theorem markEntryS_z (W w : World) (v : Value) (ps : List Value) (L : List Et) (ss : List (List Row)) (k : Nat) (kz : Int) (hp : ps.length = L.length) (H : InvF W w (segE v ps L :: ss)) (hz : kz = (k : Int)) (hk : k ≤ 1073741824) (hm : mkE L ≤ 1073741824) :
    Calls Try.prog 43 #[v, .int .i64 kz] w (fun e w' => e = .returned (.int .i64 (kz + (mkE L : Int))) ∧ InvF W w' (segE v ps (marksE k L) :: ss)) := by
  subst hz
  obtain ⟨A, c, rfl, h1, h2, h0, h3⟩ := H.formE hp (.head _)
  unfold maxLen at h2
  clear h0
  have HP := Lib.hid hp
  have HM0 := Lib.hid hm
  have hA : 0 < L.length → ∃ b, A = some ⟨b, 0, none⟩ := fun hq => by
    obtain ⟨g, e, _⟩ := h3 hq
    exact ⟨g, e⟩
  clear h3 hp hm
  go_enter Try.func43, Try.ntmps43
  go_wp2
  go_loopw [1, 5] (fun q i wr => ∃ j : Nat, j ≤ L.length ∧ i = .int .i64 j ∧ q = .int .i64 ((k : Int) + (mkE (L.take j) : Int)) ∧ InvF W wr (segE (.slice A L.length c) ps (ME L k j) :: ss))
    (fun _ i _ => L.length - (intOf i).toNat)
  case atStart => exact ⟨0, Nat.zero_le _, rfl, by simp [mkE, volE], by rw [ME_zero]; exact H⟩
  case round =>
    clear H
    obtain ⟨j, hj, rfl, rfl, H⟩ := hrel
    have hml := ME_length L k j hj
    by_cases hlt : j < L.length
    · obtain ⟨b, rfl⟩ := hA (by omega)
      obtain ⟨t, ht⟩ := getE hlt
      have htm := ME_at L k j t ht
      obtain ⟨p, hp⟩ : ∃ p, ps[j]? = some p := ⟨ps[j]'(by have := HP.out; omega), List.getElem?_eq_getElem (by have := HP.out; omega)⟩
      have hv : Hid (Value.slice (some ⟨b, 0, none⟩) L.length c = .slice (some ⟨b, 0, none⟩) (ME L k j).length c) := Lib.hid (by rw [hml])
      have hpl : Hid (ps.length = (ME L k j).length) := Lib.hid (by rw [hml]; exact HP.out)
      have hnext := mkE_take L j t ht
      have hle := mkE_le L (j + 1)
      have hm := HM0.out
      obtain ⟨q, hq⟩ : ∃ q, q = k + mkE (L.take j) := ⟨_, rfl⟩
      obtain ⟨z0, hz0⟩ : ∃ z0 : Int, z0 = (k : Int) + (mkE (L.take j) : Int) := ⟨_, rfl⟩
      have hzq : z0 = (q : Int) := by omega
      have hzlo : 0 ≤ z0 := by omega
      have hzhi : z0 ≤ 2147483648 := by omega
      have hqb : q ≤ 2147483648 := by omega
      have htl : t.k.length ≤ 1073741824 := by omega
      rw [← hz0]
      have HZ := Lib.hid hzq
      have HQ := Lib.hid hq
      have HN : Hid (∀ z : Int, z = z0 + (t.k.length : Int) + 2 → z = (k : Int) + (mkE (L.take (j + 1)) : Int)) := Lib.hid (fun z hz => by omega)
      clear hz0 hzq hq hnext hle hm
      obtain ⟨A1, e1, rfl, _⟩ := (H.ownE (.head _) htm hp).sl
      have HT : Hid ((ME L k j).set j ⟨z0, z0 + 1, marks (q + 2) t.k.length⟩ = ME L k (j + 1)) := Lib.hid (mark_oneE ht HQ.out HZ.out (by have := HZ.out; omega) rfl)
      have hlj : Hid (j < (ME L k j).length) := Lib.hid (by omega)
      clear ht
      generalize ME L k j = M at *
      obtain ⟨g0, g1, g2⟩ := H.cellsE hpl.out (.head _) hv.out htm hp
      have f0 := H.frE hpl.out (.head _) hv.out (j * 3)
      have f1 := H.frE hpl.out (.head _) hv.out (j * 3 + 1)
      have HM := Lib.hid htm
      have HPJ := Lib.hid hp
      clear htm hp hml
      obtain ⟨tx, ty, tk⟩ := t
      dsimp only at *
      go_wp2_with fail
      have K1 := H.setEx hpl.out hv.out HM.out z0
      have K2 := K1.setEy (g := b) (c := c) (i := j) (by rw [List.length_set]; exact hpl.out) (by rw [List.length_set]; exact hv.out) (setE_get hlj.out) (z0 + 1)
      simp only [List.set_set] at K2
      have H2 := Lib.hid K2
      clear K1 K2 H g0 g1 g2 f0 f1
      refine (markByteS_z _ tk (q + 2) W.heap.size _ _ (H2.out.ownE (.head _) (setE_get hlj.out) HPJ.out) (by have := HZ.out; omega) (by omega) (by omega)).mono ?_
      rintro ev w3 ⟨rfl, ho3, hg3⟩
      have K3 := H2.out.wroteE (setE_get hlj.out) HPJ.out ho3 hg3
      simp only [List.set_set] at K3
      rw [HT.out] at K3
      have H3 := Lib.hid K3
      clear K3 H2 ho3 hg3
      go_wp2
      go_roundw
      case rel => exact ⟨j + 1, by omega, by go_num, by refine congrArg _ (HN.out _ ?_); omega, H3.out⟩
      case measure => simp [intOf]; omega
    · obtain rfl : j = L.length := by omega
      rw [ME_full] at H
      rw [List.take_length]
      go_wp2
      go_ret
      exact ⟨rfl, H⟩

end Go.Proofs.Ytickneafppbegaa
