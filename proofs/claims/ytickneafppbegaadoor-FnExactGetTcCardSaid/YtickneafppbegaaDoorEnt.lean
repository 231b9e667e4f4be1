/- The contracts of the helpers of exact laws on entries and on slices of them: toEntry, szEntry, eqEntry, toEntryS, szEntryS, eqEntryS, markEntryS, heldEntryS. -/
import Derived.Test.YtickneafppbegaaDoorEntM
import Derived.Test.YtickneafppbegaaDoorWat
import Derived.Test.YtickneafppbegaaDoorMid
namespace Go.Proofs.YtickneafppbegaaDoor
open Go.ChangeShapes Go.WideShapes Go.ChangeAt Go.RowKit

section
variable {W w : World} {ss : List (List Row)} {T : TypeId} {g : Nat}
theorem InvF.c3 {a b c : Value} (H : InvF W w ss) (h : segX T g [a, b, c] ∈ ss) : w.cell? ⟨g, 0, none⟩ = some a ∧ w.cell? ⟨g, 1, none⟩ = some b ∧ w.cell? ⟨g, 2, none⟩ = some c := ⟨H.atX h 0 rfl, H.atX h 1 rfl, H.atX h 2 rfl⟩
theorem InvF.f3 {a b c : Value} (H : InvF W w ss) (h : segX T g [a, b, c] ∈ ss) : w.frozen? ⟨g, 0, none⟩ = false ∧ w.frozen? ⟨g, 1, none⟩ = false ∧ w.frozen? ⟨g, 2, none⟩ = false := ⟨H.frX h 0, H.frX h 1, H.frX h 2⟩
theorem InvF.over3 {a b c : Value} (H : InvF W w (segX T g [a, b, c] :: ss)) (a' b' c' : Value) : InvF W (((w.setCell ⟨g, 0, none⟩ a').setCell ⟨g, 1, none⟩ b').setCell ⟨g, 2, none⟩ c') (segX T g [a', b', c'] :: ss) := ((H.setX 0 a').setX 1 b').setX 2 c'
theorem InvF.c2 {a b : Value} (H : InvF W w ss) (h : segX T g [a, b] ∈ ss) : w.cell? ⟨g, 0, none⟩ = some a ∧ w.cell? ⟨g, 1, none⟩ = some b := ⟨H.atX h 0 rfl, H.atX h 1 rfl⟩
theorem InvF.f2 {a b : Value} (H : InvF W w ss) (h : segX T g [a, b] ∈ ss) : w.frozen? ⟨g, 0, none⟩ = false ∧ w.frozen? ⟨g, 1, none⟩ = false := ⟨H.frX h 0, H.frX h 1⟩
theorem InvF.over2 {a b : Value} (H : InvF W w (segX T g [a, b] :: ss)) (a' b' : Value) : InvF W ((w.setCell ⟨g, 0, none⟩ a').setCell ⟨g, 1, none⟩ b') (segX T g [a', b'] :: ss) := (H.setX 0 a').setX 1 b'
theorem ten2 {p q u : Prop} (h : p ∧ q) (k : u) : p ∧ q ∧ u := ⟨h.1, h.2, k⟩
end

set_option maxHeartbeats 1000000 in
theorem eqEntry_any (x y : Int) (a a' : Value) (k : List UInt8) (w : World) (ha : Sl w w.heap.size a k) (ha' : Sl w w.heap.size a' k) :
    Calls Tryd.prog 29 #[.agg #[.int .i64 x, .int .i64 y, a], .agg #[.int .i64 x, .int .i64 y, a']] w (Yes w) := by
  obtain ⟨A, c, rfl, p1, p2, p0, p3⟩ := id ha
  clear p1 p2 p0 p3
  obtain ⟨A', c', rfl, p1, p2, p0, p3⟩ := id ha'
  clear p1 p2 p0 p3
  have n0 : (x != x) = false := by simp
  have n1 : (y != y) = false := by simp
  have hB : Below w.heap.size w ((w.alloc (.cells #[.int .i64 x, .int .i64 y, .slice A k.length c] 58)).alloc (.cells #[.int .i64 x, .int .i64 y, .slice A' k.length c'] 58)) := ((Below.refl _ w).alloc (Nat.le_refl _) _).alloc (by simp) _
  go_enter Tryd.func29, Tryd.ntmps29
  go_wp2_with fail
  refine (eqByteS_any _ _ k _ (ha.up hB) (ha'.up hB)).mono ?_
  rintro e _ ⟨rfl, m, rfl⟩
  go_wp2_with fail
  go_ret
  exact ⟨rfl, below_drewN hB m⟩

theorem einfo : (Tryd.prog.info? 58).map (fun i => (i.zero, i.size, i.bytes)) = some (some (.agg #[.int .i64 0, .int .i64 0, .slice none 0 0]), 3, 40) := by kernel_rfl
/-- The call returns a slice of entries of its own; nothing that was there has turned. -/
def FreshE (w : World) (L : List Et) (e : Ending) (w' : World) : Prop := ∃ v ps, e = .returned v ∧ ps.length = L.length ∧ InvF w w' [segE v ps L]

/-- What szEntryS leaves of m. -/
def szESZ (L : List Et) (m : Int) : Int := if m < (L.length : Int) + (volE L : Int) then -1 else m - ((L.length : Int) + (volE L : Int))
theorem szESZ_big {L : List Et} {m : Int} (h : m < (L.length : Int) + (volE L : Int)) : szESZ L m = -1 := if_pos h
theorem szESZ_ok {L : List Et} {m : Int} (h : ¬ m < (L.length : Int) + (volE L : Int)) : szESZ L m = m - ((L.length : Int) + (volE L : Int)) := if_neg h
theorem WF.cellOldE {W : World} {ss : List (List Row)} {b o : Nat} {u : Value} (hb : b < W.heap.size) (h : W.cell? ⟨b, o, none⟩ = some u) (z : WF W ss) : z.w.cell? ⟨b, o, none⟩ = some u := (z.h.bel.cell (p := ⟨b, o, none⟩) hb).trans h
set_option maxHeartbeats 1000000 in
theorem eqEntryS_any (v u : Value) (L : List Et) (w : World) (h : SlE w w.heap.size v L) (h' : SlE w w.heap.size u L) :
    Calls Tryd.prog 18 #[v, u] w (Yes w) := by
  obtain ⟨A, c, rfl, h1, h2, h0, h3⟩ := h
  obtain ⟨A', c', rfl, h1', h2', h0', h3'⟩ := h'
  unfold maxLen at h2 h2'
  clear h0 h0'
  have hne : ((L.length : Int) != (L.length : Int)) = false := by simp
  go_enter Tryd.func18, Tryd.ntmps18
  go_wp2
  go_loopw [5] (fun i wr => ∃ k : Nat, k ≤ L.length ∧ i = .int .i64 k ∧ Below w.heap.size w wr)
    (fun i _ => L.length - (intOf i).toNat)
  case atStart => exact ⟨0, Nat.zero_le _, rfl, Below.refl _ _⟩
  case round =>
    obtain ⟨k, hk, rfl, hbel⟩ := hrel
    by_cases hlt : k < L.length
    · obtain ⟨b, off, rfl, hbb, hcell⟩ := h3 (by omega)
      obtain ⟨b', off', rfl, hbb', hcell'⟩ := h3' (by omega)
      obtain ⟨t, ht⟩ := getE hlt
      obtain ⟨a1, g0, g1, g2, s1⟩ := (hcell k t ht).below hbel hbb
      obtain ⟨d1, f0, f1, f2, r1⟩ := (hcell' k t ht).below hbel hbb'
      have hle := hbel.size
      have hb1 : b < wr.heap.size := by omega
      have hb2 : b' < wr.heap.size := by omega
      replace g0 := WF.cellOldE (ss := []) hb1 g0; replace g1 := WF.cellOldE (ss := []) hb1 g1; replace g2 := WF.cellOldE (ss := []) hb1 g2
      replace f0 := WF.cellOldE (ss := []) hb2 f0; replace f1 := WF.cellOldE (ss := []) hb2 f1; replace f2 := WF.cellOldE (ss := []) hb2 f2
      have Q := Lib.hid (fun x : WF wr [] => x.below (eqEntry_any t.x t.y a1 d1 t.k x.w ((s1.mono hle).up x.h.bel) ((r1.mono hle).up x.h.bel)))
      have hne : Nonempty (WF wr []) := ⟨⟨wr, InvF.start wr⟩⟩
      have HB := Lib.hid hbel
      clear hcell hcell' h3 h3' s1 r1 hbel hbb hbb' ht
      generalize t.x = tx at *
      generalize t.y = ty at *
      go_wp2_with fail
      refine wp_region_wf (by kernel_rfl) (by kernel_rfl) (InvF.start wr) ?_
      repeat (go_big_quiet_step ((go_at_call 29; exact Q.out _)))
      refine wpQuiet_nil ?_
      rintro _ ⟨z, rfl⟩
      have HZ := Lib.hid (HB.out.trans (z.h.bel.mono hle))
      go_wp2
      go_roundw
      case rel => exact ⟨k + 1, by omega, by go_num, HZ.out⟩
      case measure => simp [intOf]; omega
    · obtain rfl : k = L.length := by omega
      go_wp2
      go_ret
      exact ⟨rfl, hbel⟩

/-- An entry is marked, field by field. -/
theorem mark_oneE {L : List Et} {k j q : Nat} {t : Et} {a b : Int} (h : L[j]? = some t) (hq : q = k + mkE (L.take j)) (ha : a = (q : Int)) (hb : b = (q : Int) + 1) {k' : List UInt8} (hk : k' = marks (q + 2) t.k.length) :
    (ME L k j).set j ⟨a, b, k'⟩ = ME L k (j + 1) := by
  rw [← ME_set L k j t h, ← hq, ha, hb, hk]
  rfl

set_option maxRecDepth 100000 in
set_option maxHeartbeats 4000000 in
theorem markEntryS_z (W w : World) (v : Value) (ps : List Value) (L : List Et) (ss : List (List Row)) (k : Nat) (kz : Int) (hp : ps.length = L.length) (H : InvF W w (segE v ps L :: ss)) (hz : kz = (k : Int)) (hk : k ≤ 1073741824) (hm : mkE L ≤ 1073741824) :
    Calls Tryd.prog 19 #[v, .int .i64 kz] w (fun e w' => e = .returned (.int .i64 (kz + (mkE L : Int))) ∧ InvF W w' (segE v ps (marksE k L) :: ss)) := by
  subst hz
  obtain ⟨A, c, rfl, h1, h2, h0, h3⟩ := H.formE hp (.head _)
  unfold maxLen at h2
  clear h0
  have HP := Lib.hid hp
  have HM0 := Lib.hid hm
  have hA : 0 < L.length → ∃ b, A = some ⟨b, 0, none⟩ := fun hq => by
    obtain ⟨g, e, _⟩ := h3 hq
    exact ⟨g, e⟩
  clear h3 hp hm
  go_enter Tryd.func19, Tryd.ntmps19
  go_wp2
  go_loopw [1, 5] (fun q i wr => ∃ j : Nat, j ≤ L.length ∧ i = .int .i64 j ∧ q = .int .i64 ((k : Int) + (mkE (L.take j) : Int)) ∧ InvF W wr (segE (.slice A L.length c) ps (ME L k j) :: ss))
    (fun _ i _ => L.length - (intOf i).toNat)
  case atStart => exact ⟨0, Nat.zero_le _, rfl, by simp [mkE, volE], by rw [ME_zero]; exact H⟩
  case round =>
    clear H
    obtain ⟨j, hj, rfl, rfl, H⟩ := hrel
    have hml := ME_length L k j hj
    by_cases hlt : j < L.length
    · obtain ⟨b, rfl⟩ := hA (by omega)
      obtain ⟨t, ht⟩ := getE hlt
      have htm := ME_at L k j t ht
      obtain ⟨p, hp⟩ : ∃ p, ps[j]? = some p := ⟨ps[j]'(by have := HP.out; omega), List.getElem?_eq_getElem (by have := HP.out; omega)⟩
      have hv : Hid (Value.slice (some ⟨b, 0, none⟩) L.length c = .slice (some ⟨b, 0, none⟩) (ME L k j).length c) := Lib.hid (by rw [hml])
      have hpl : Hid (ps.length = (ME L k j).length) := Lib.hid (by rw [hml]; exact HP.out)
      have hnext := mkE_take L j t ht
      have hle := mkE_le L (j + 1)
      have hm := HM0.out
      obtain ⟨q, hq⟩ : ∃ q, q = k + mkE (L.take j) := ⟨_, rfl⟩
      obtain ⟨z0, hz0⟩ : ∃ z0 : Int, z0 = (k : Int) + (mkE (L.take j) : Int) := ⟨_, rfl⟩
      have hzq : z0 = (q : Int) := by omega
      have hzlo : 0 ≤ z0 := by omega
      have hzhi : z0 ≤ 2147483648 := by omega
      have hqb : q ≤ 2147483648 := by omega
      have htl : t.k.length ≤ 1073741824 := by omega
      rw [← hz0]
      have HZ := Lib.hid hzq
      have HQ := Lib.hid hq
      have HN : Hid (∀ z : Int, z = z0 + (t.k.length : Int) + 2 → z = (k : Int) + (mkE (L.take (j + 1)) : Int)) := Lib.hid (fun z hz => by omega)
      clear hz0 hzq hq hnext hle hm
      obtain ⟨A1, e1, rfl, _⟩ := (H.ownE (.head _) htm hp).sl
      have HT : Hid ((ME L k j).set j ⟨z0, z0 + 1, marks (q + 2) t.k.length⟩ = ME L k (j + 1)) := Lib.hid (mark_oneE ht HQ.out HZ.out (by have := HZ.out; omega) rfl)
      have hlj : Hid (j < (ME L k j).length) := Lib.hid (by omega)
      clear ht
      generalize ME L k j = M at *
      obtain ⟨g0, g1, g2⟩ := H.cellsE hpl.out (.head _) hv.out htm hp
      have f0 := H.frE hpl.out (.head _) hv.out (j * 3)
      have f1 := H.frE hpl.out (.head _) hv.out (j * 3 + 1)
      have HM := Lib.hid htm
      have HPJ := Lib.hid hp
      clear htm hp hml
      obtain ⟨tx, ty, tk⟩ := t
      dsimp only at *
      go_wp2_with fail
      have K1 := H.setEx hpl.out hv.out HM.out z0
      have K2 := K1.setEy (g := b) (c := c) (i := j) (by rw [List.length_set]; exact hpl.out) (by rw [List.length_set]; exact hv.out) (setE_get hlj.out) (z0 + 1)
      simp only [List.set_set] at K2
      have H2 := Lib.hid K2
      clear K1 K2 H g0 g1 g2 f0 f1
      refine (markByteS_z _ tk (q + 2) W.heap.size _ _ (H2.out.ownE (.head _) (setE_get hlj.out) HPJ.out) (by have := HZ.out; omega) (by omega) (by omega)).mono ?_
      rintro ev w3 ⟨rfl, ho3, hg3⟩
      have K3 := H2.out.wroteE (setE_get hlj.out) HPJ.out ho3 hg3
      simp only [List.set_set] at K3
      rw [HT.out] at K3
      have H3 := Lib.hid K3
      clear K3 H2 ho3 hg3
      go_wp2
      go_roundw
      case rel => exact ⟨j + 1, by omega, by go_num, by refine congrArg _ (HN.out _ ?_); omega, H3.out⟩
      case measure => simp [intOf]; omega
    · obtain rfl : j = L.length := by omega
      rw [ME_full] at H
      rw [List.take_length]
      go_wp2
      go_ret
      exact ⟨rfl, H⟩

set_option maxRecDepth 100000 in
set_option maxHeartbeats 4000000 in
theorem heldEntryS_z (v : Value) (k : Nat) (kz : Int) (L : List Et) (w : World) (h : SlE w w.heap.size v (marksE k L)) (hz : kz = (k : Int)) (hk : k ≤ 1073741824) (hm : mkE L ≤ 1073741824) :
    Calls Tryd.prog 20 #[v, .int .i64 kz] w (Quiet (.int .i64 (kz + (mkE L : Int))) w) := by
  subst hz
  obtain ⟨A, c, rfl, h1, h2, h0, h3⟩ := h
  rw [marksE_length] at h1 h3 ⊢
  unfold maxLen at h2
  have HM0 := Lib.hid hm
  clear h0 hm
  go_enter Tryd.func20, Tryd.ntmps20
  go_wp2
  go_loopw [1, 5] (fun q i wr => ∃ j : Nat, j ≤ L.length ∧ i = .int .i64 j ∧ q = .int .i64 ((k : Int) + (mkE (L.take j) : Int)) ∧ ∃ m, wr = w.drewN m)
    (fun _ i _ => L.length - (intOf i).toNat)
  case atStart => exact ⟨0, Nat.zero_le _, rfl, by simp [mkE, volE], 0, rfl⟩
  case round =>
    obtain ⟨j, hj, rfl, rfl, m, hw⟩ := hrel
    by_cases hlt : j < L.length
    · obtain ⟨b, off, rfl, hbb, hcell⟩ := h3 (by omega)
      obtain ⟨t, ht⟩ := getE hlt
      have hnext := mkE_take L j t ht
      have hle := mkE_le L (j + 1)
      have hm := HM0.out
      obtain ⟨q, hq⟩ : ∃ q, q = k + mkE (L.take j) := ⟨_, rfl⟩
      have hva := hcell j _ (marksE_get L k j t ht)
      rw [← hq] at hva
      obtain ⟨z0, hz0⟩ : ∃ z0 : Int, z0 = (k : Int) + (mkE (L.take j) : Int) := ⟨_, rfl⟩
      have hzq : z0 = (q : Int) := by omega
      have hzlo : 0 ≤ z0 := by omega
      have hzhi : z0 ≤ 2147483648 := by omega
      have hqb : q ≤ 2147483648 := by omega
      have htl : t.k.length ≤ 1073741824 := by omega
      have HZ := Lib.hid hzq
      have HN : Hid (∀ z : Int, z = z0 + (t.k.length : Int) + 2 → z = (k : Int) + (mkE (L.take (j + 1)) : Int)) := Lib.hid (fun z hz => by omega)
      rw [← hz0]
      obtain ⟨u, g0, g1, g2, s1⟩ := hva
      dsimp only [markTE] at g0 g1 s1
      rw [← hzq] at g0 g1
      clear hz0 hzq hq hnext hle ht hcell h3 hm
      have HS1 := Lib.hid s1
      obtain ⟨A1, e1, rfl, _⟩ := s1
      rw [marks_length] at g2
      rw [marks_length] at HS1
      obtain ⟨tx, ty, tk⟩ := t
      dsimp only at *
      generalize tk.length = n1 at *
      have HW := Lib.hid hw
      have c0 : wr.cell? ⟨b, off + j * 3, none⟩ = some (.int .i64 z0) := by rw [hw]; exact g0
      have c1 : wr.cell? ⟨b, off + j * 3 + 1, none⟩ = some (.int .i64 (z0 + 1)) := by rw [hw]; exact g1
      have c2 : wr.cell? ⟨b, off + j * 3 + 2, none⟩ = some (.slice A1 n1 e1) := by rw [hw]; exact g2
      have S1 : Hid (Sl wr wr.heap.size (.slice A1 n1 e1) (marks (q + 2) n1)) := by rw [hw]; exact HS1
      clear hw g0 g1 g2 HS1
      have x0 : (z0 != z0) = false := by simp
      have x1 : (z0 + 1 != z0 + 1) = false := by simp
      have y1 : ¬ (z0 + 1 + 1 + (n1 : Int) < 0) := by omega
      go_wp2_with fail
      refine (heldByteS_z _ (q + 2) n1 _ _ S1.out (by have := HZ.out; omega) (by omega) (by omega)).mono ?_
      rintro ev _ ⟨rfl, i1, rfl⟩
      go_wp2_with fail
      go_roundw
      case rel => exact ⟨j + 1, by omega, by go_num, by refine congrArg _ (HN.out _ ?_); omega, m + i1, by rw [HW.out]; simp only [World.drewN_drewN]⟩
      case measure => simp [intOf]; omega
    · obtain rfl : j = L.length := by omega
      rw [List.take_length]
      have HW := Lib.hid hw
      clear hw
      go_wp2
      go_ret
      exact ⟨rfl, m, HW.out⟩
end Go.Proofs.YtickneafppbegaaDoor
