/- The contracts of StackPush: mergeLeaf and StackPush as the program has them, StackPush as its model has it. -/
import Derived.Test.YtdoaikanaodefaaDoorStackCopy
import Derived.Test.YtdoaikanaodefaaDoorTree
import Derived.WalkMore
import Derived.Test.YtdoaikanaodefaaDoorAnyIn
namespace Go.Proofs.YtdoaikanaodefaaDoor
open Go.ChangeShapes Go.WideShapes Go.ChangeAt Go.RowKit

/-- A leaf has been merged. -/
def Merged (w : World) (M : Nat × Nat × List UInt8) (e : Ending) (w' : World) : Prop :=
  ∃ r, e = .returned (.tuple #[.int .i64 (M.2.1 : Int), r, .int .i64 (M.1 : Int)]) ∧ Sl w' w'.heap.size r M.2.2 ∧ Below w.heap.size w w'
/-- Between two rounds. -/
def MrgAt (w w1 wr : World) (H : List Int) (L : List (List UInt8)) (M : Nat × Nat × List UInt8) (h r l : Value) : Prop :=
  ∃ (n up : Nat) (x : List UInt8), l = .int .i64 (n : Int) ∧ h = .int .i64 (up : Int) ∧ n + up ≤ H.length ∧ x.length = 32 ∧ Sl wr wr.heap.size r x ∧ Below w1.heap.size w1 wr ∧ Below w.heap.size w wr ∧ mrg H L n up x = M
theorem ok_hash {H : List Int} {L : List (List UInt8)} (h : okS H L = true) {k : Nat} (hk : k < L.length) : (L.getD k []).length = 32 := by
  obtain ⟨h1, h2⟩ := okS_iff h
  exact (h2 k (by omega)).2.2.1

set_option maxRecDepth 100000 in
set_option maxHeartbeats 2000000 in
theorem mergeLeaf_any (v u : Value) (H : List Int) (L : List (List UInt8)) (x : List UInt8) (w : World) (h : SlK w w.heap.size v H L) (hx : Sl w w.heap.size u x) (hok : okS H L = true) (hl : x.length = 32)
    (hI : Glob w 0 initW) (hG : Glob w 1 kk) :
    Calls Tryd.prog 39 #[v, u] w (Merged w (pushM H L x)) := by
  obtain ⟨a, s, rfl, hIs, hS⟩ := h
  obtain ⟨A, c, rfl, p1, p2, p0, p3⟩ := hIs
  obtain ⟨A', c', rfl, q1, q2, q0, q3⟩ := hS
  unfold maxLen at p2 q2
  clear p0 q0
  have hb : Below w.heap.size w (w.alloc (.cells #[.slice A H.length c, .slice A' L.length c'] 27)) := (Below.refl _ w).alloc (Nat.le_refl _) _
  have hxs := hx.up hb
  obtain ⟨A2, c2, rfl, m1, m2, m0, m3⟩ := hx
  clear m0 m1 m2 m3
  have hlen := (okS_iff hok).1
  have hmany := ok_len (okS_iff hok).2
  have HH := Lib.hid (fun k (hk : k < L.length) => ok_hash hok hk)
  have HX := Lib.hid hl
  obtain ⟨M, hM⟩ : ∃ M, M = pushM H L x := ⟨_, rfl⟩
  rw [← hM]
  have HM := Lib.hid hM
  have HLN := Lib.hid hlen
  clear hM hok hl hlen
  go_enter Tryd.func39, Tryd.ntmps39
  go_wp2
  go_step3
  go_wp2
  go_quiet (fail)
  go_wp2
  go_step3
  go_wp2
  have hbN := below_drewN hb nq
  have hbQ : Below (w.alloc (.cells #[.slice A H.length c, .slice A' L.length c'] 27)).heap.size (w.alloc (.cells #[.slice A H.length c, .slice A' L.length c'] 27)) ((w.alloc (.cells #[.slice A H.length c, .slice A' L.length c'] 27)).drewN nq) := below_drewN (Below.refl _ _) nq
  go_loopw [4, 5, 6] (fun h r l wr => MrgAt w (w.alloc (.cells #[.slice A H.length c, .slice A' L.length c'] 27)) wr H L M h r l)
    (fun _ _ l _ => (intOf l).toNat)
  case atStart => exact ⟨H.length, 0, x, rfl, rfl, by omega, HX.out, hxs.drewN nq, hbQ, hbN, HM.out.symm⟩
  case round =>
    obtain ⟨n, up, y, rfl, rfl, hnu, hyl, hy, hbx, hbw, hmrg⟩ := hrel
    have HY := Lib.hid hy
    obtain ⟨A3, c3, rfl, m1, m2, m0, m3⟩ := hy
    obtain ⟨hc1, hf1⟩ := bcell hbx
    have hsz : w.heap.size < wr.heap.size := by have := hbx.size; simp at this; omega
    have HB := Lib.hid hbw
    have HR := Lib.hid hmrg
    have HYL := Lib.hid hyl
    clear m1 m2 m0 m3 hmrg hyl
    rcases n with _ | n
    · have hM0 := HR.out
      rw [mrg_zero] at hM0
      subst hM0
      clear hbx hc1 hf1
      go_wp2
      rw [Exit.noGoto_ret]
      go_ret3
      exact ⟨_, rfl, HY.out, HB.out⟩
    · have hnH : n < H.length := by omega
      have hnL : n < L.length := by have := HLN.out; omega
      obtain ⟨b, off, rfl, hbb, hcell⟩ := p3 (by omega)
      obtain ⟨b', off', rfl, hbb', hcell'⟩ := q3 (by omega)
      have hd0 := (hbw.cell (p := ⟨b, off + n, none⟩) hbb).trans (hcell n hnH)
      obtain ⟨z, hz0, hz⟩ := hcell' n hnL
      have hd1 := (hbw.cell (p := ⟨b', off' + n, none⟩) hbb').trans hz0
      have hzs := hz.up hbw
      have hzl := HH.out n hnL
      clear hcell hcell' hz0 hz
      by_cases he : it H n = (up : Int)
      case pos =>
        have hM1 := HR.out
        rw [mrg_go he] at hM1
        have HM1 := Lib.hid hM1
        rw [he] at hd0
        have HZL := Lib.hid hzl
        generalize L.getD n [] = zl at hzs HM1 HZL
        have hcb0 : wr.cell? ⟨w.heap.size, 0, none⟩ = some (.slice (some ⟨b, off, none⟩) H.length c) := by rw [hc1 _ _ (by simp)]; simp
        have hcb1 : wr.cell? ⟨w.heap.size, 1, none⟩ = some (.slice (some ⟨b', off', none⟩) L.length c') := by rw [hc1 _ _ (by simp)]; simp
        clear hM1 he hzl hc1 hf1
        go_wp2_with fail
        refine (implNodeHash_any z _ zl y _ hzs HY.out (by rw [HZL.out]; omega) (by rw [HYL.out]; omega) (hI.below hI.lt HB.out) (hG.below hG.lt HB.out)).mono ?_
        rintro e w4 ⟨u4, rfl, ho4, hb4⟩
        have HO4 := Lib.hid ho4.sl
        have HBX := Lib.hid (hbx.trans (hb4.mono hbx.size))
        have HBW := Lib.hid (HB.out.trans (hb4.mono HB.out.size))
        clear ho4 hb4 hbx hbw
        go_wp2
        go_roundw
        case rel => exact ⟨n, up + 1, nodeL zl y, by go_num, by go_num, by omega, nodeL_length _ _, HO4.out, HBX.out, HBW.out, HM1.out⟩
        case measure => simp [intOf]
      case neg =>
        have hM1 := HR.out
        rw [mrg_stop he] at hM1
        subst hM1
        have hcb0 : wr.cell? ⟨w.heap.size, 0, none⟩ = some (.slice (some ⟨b, off, none⟩) H.length c) := by rw [hc1 _ _ (by simp)]; simp
        have hbe : (it H n == (up : Int)) = false := by rw [beq_eq_false_iff_ne]; exact he
        clear he hzl hc1 hf1 hd1 hzs
        go_wp2
        rw [Exit.noGoto_ret]
        go_ret3
        exact ⟨_, rfl, HY.out, HB.out⟩

theorem flC2 (a b : List Value) : flC [a, b] 2 = a ++ b := by simp [flC]
theorem flN2 (a b : List Value) : flN [a, b] 2 = a.length + b.length := by
  unfold flN
  rw [flC2, List.length_append]
theorem SlI.take {w : World} {B : Nat} {A : Option Addr} {n c : Nat} {l : List Int} (h : SlI w B (.slice A n c) l) (k : Nat) (hk : k ≤ l.length) : SlI w B (.slice A k c) (l.take k) := by
  obtain ⟨A', c', e, h1, h2, h0, h3⟩ := h
  simp only [Value.slice.injEq] at e
  obtain ⟨rfl, rfl, rfl⟩ := e
  have hl : (l.take k).length = k := by rw [List.length_take]; omega
  refine ⟨A, c, by rw [hl], by rw [hl]; omega, h2, h0, fun hp => ?_⟩
  rw [hl] at hp ⊢
  obtain ⟨b, off, e, hb, hc⟩ := h3 (by omega)
  refine ⟨b, off, e, hb, fun j hj => (hc j (by omega)).trans ?_⟩
  unfold it
  rw [getD_take _ _ _ _ hj]
theorem SlS.take {w : World} {B : Nat} {A : Option Addr} {n c : Nat} {l : List (List UInt8)} (h : SlS w B (.slice A n c) l) (k : Nat) (hk : k ≤ l.length) : SlS w B (.slice A k c) (l.take k) := by
  obtain ⟨A', c', e, h1, h2, h0, h3⟩ := h
  simp only [Value.slice.injEq] at e
  obtain ⟨rfl, rfl, rfl⟩ := e
  have hl : (l.take k).length = k := by rw [List.length_take]; omega
  refine ⟨A, c, by rw [hl], by rw [hl]; omega, h2, h0, fun hp => ?_⟩
  rw [hl] at hp ⊢
  obtain ⟨b, off, e, hb, hc⟩ := h3 (by omega)
  refine ⟨b, off, e, hb, fun j hj => ?_⟩
  rw [getD_take _ _ _ _ hj]
  exact hc j (by omega)
theorem rdC_one (w : World) (y : Value) (E : TypeId) (hy : y.oneCell' = true) : RdC (w.alloc (.cells #[y] E)) (w.alloc (.cells #[y] E)).heap.size (.slice (some ⟨w.heap.size, 0, none⟩) 1 1) [y] := by
  refine ⟨_, 1, rfl, Nat.le_refl _, by simp [maxLen], (fun e => by cases e), (fun z hz => by rw [List.mem_singleton.1 hz]; exact hy), fun _ => ⟨w.heap.size, 0, rfl, by simp, fun k hk => ?_⟩⟩
  obtain rfl : k = 0 := by simpa using hk
  simp
theorem slS_of_cells {w : World} {B : Nat} {E : TypeId} {v : Value} {ys : List Value} {L : List (List UInt8)} (h : GOwn w B (E, v, ys)) (hl : ys.length = L.length) (hy : ∀ k y, ys[k]? = some y → Sl w w.heap.size y (L.getD k [])) : SlS w w.heap.size v L := by
  obtain ⟨A, c, rfl, h1, h2, h0, h3⟩ := h.cells
  rw [hl] at h1 h3 ⊢
  refine ⟨A, c, rfl, h1, h2, h0, fun hp => ?_⟩
  obtain ⟨b, rfl, hb, hc⟩ := h3 hp
  refine ⟨b, 0, rfl, hb, fun k hk => ?_⟩
  have hv : ys[k]? = some (ys.getD k (.bool false)) := getD_at ys k (.bool false) (by omega)
  exact ⟨ys.getD k (.bool false), by rw [Nat.zero_add, hc k hk, hv], hy k _ hv⟩
theorem push_rdX {w4 w5 : World} {A3 A' : Option Addr} {n c3 lf c' : Nat} {ys : List Value} {E E2 : TypeId} (hys : RdC w4 w4.heap.size (.slice A' lf c') ys) (hr : (Value.slice A3 n c3).oneCell' = true) (hb : Below w4.heap.size w4 w5) :
    RdX ((w5.alloc (.cells #[.slice A3 n c3] E)).alloc (.cells #[.slice A' lf c', .slice (some ⟨w5.heap.size, 0, none⟩) 1 1] E2)) ((w5.alloc (.cells #[.slice A3 n c3] E)).alloc (.cells #[.slice A' lf c', .slice (some ⟨w5.heap.size, 0, none⟩) 1 1] E2)).heap.size
      (.slice (some ⟨w5.heap.size + 1, 0, none⟩) 2 2) [ys, [.slice A3 n c3]] := by
  have h0 := rdC_one w5 (.slice A3 n c3) E hr
  have := rdX_lit2 E2 (hys.up (hb.alloc hb.size (.cells #[.slice A3 n c3] E))) h0
  rw [show (w5.alloc (.cells #[.slice A3 n c3] E)).heap.size = w5.heap.size + 1 by simp] at this
  exact this
theorem push_cells {w : World} {B : Nat} {E : TypeId} {v : Value} {a b xs : List Value} (h : flC [a, b] 2 = xs) (hG : GOwn w B (E, v, flC [a, b] [a, b].length)) : GOwn w B (E, v, xs) := by
  rw [← h]
  exact hG
theorem push_slS {w4 w8 : World} {B : Nat} {E : TypeId} {u r : Value} {ys : List Value} {L : List (List UInt8)} {rt : List UInt8} (hG : GOwn w8 B (E, u, flC [ys, [r]] [ys, [r]].length)) (hyl : ys.length = L.length)
    (hy : ∀ k y, ys[k]? = some y → Sl w4 w4.heap.size y (L.getD k [])) (hr : Sl w4 w4.heap.size r rt) (hb : Below w4.heap.size w4 w8) : SlS w8 w8.heap.size u (L ++ [rt]) := by
  refine slS_of_cells (push_cells (flC2 ys [r]) hG) (by simp [hyl]) fun k y h => ?_
  rcases Nat.lt_or_ge k ys.length with hk | hk
  · rw [List.getElem?_append_left hk] at h
    rw [getD_app_lt L [rt] k [] (by omega)]
    exact (hy k y h).up hb
  · have hlt := (List.getElem?_eq_some_iff.1 h).1
    rw [List.length_append, List.length_singleton] at hlt
    obtain rfl : k = ys.length := by omega
    have h1 : r = y := by simpa using h
    subst h1
    have h2 : (L ++ [rt]).getD ys.length [] = rt := by rw [hyl]; simp [List.getD_eq_getElem?_getD]
    rw [h2]
    exact hr.up hb
theorem GOwn.not_at {w : World} {B k : Nat} {p : Row} {cs : Array Value} {T : TypeId} (h : GOwn w B p) (hk : w.heap[k]? = some (.cells cs T)) (hT : p.1 ≠ T) : p.2.1.ownBlock = none ∨ p.2.1.ownBlock ≠ some k := by
  rcases h.2 with ⟨e, _⟩ | ⟨g, cap, cur, e, _, hg, _⟩
  · rw [e]
    exact .inl rfl
  · refine .inr fun e' => ?_
    rw [e] at e'
    obtain rfl : g = k := by simpa [Value.ownBlock] using e'
    rw [hk] at hg
    simp at hg
    exact hT hg.2.symm
theorem Rws.not_at {w : World} {B k : Nat} {rs : List Row} {cs : Array Value} {T : TypeId} (H : Rws B w rs) (hk : w.heap[k]? = some (.cells cs T)) (hT : ∀ p ∈ rs, p.1 ≠ T) : ∀ p ∈ rs, p.2.1.ownBlock = none ∨ p.2.1.ownBlock ≠ some k :=
  fun p hp => (H.1 p hp).not_at hk (hT p hp)
theorem Rws.cellOff {w : World} {B k : Nat} {rs : List Row} (H : Rws B w rs) (h : ∀ p ∈ rs, p.2.1.ownBlock = none ∨ p.2.1.ownBlock ≠ some k) (o : Nat) (v : Value) : Rws B (w.setCell ⟨k, o, none⟩ v) rs :=
  ⟨fun p hp => (H.1 p hp).kept (grown_cell w k o v) (h p hp), H.2⟩
theorem rowsS_type {E : TypeId} {vs : List Value} {L : List (List UInt8)} {p : Row} (h : p ∈ rowsS E vs L) : p.1 = E := by
  unfold rowsS at h
  obtain ⟨j, hj⟩ := List.mem_iff_getElem?.1 h
  rw [List.getElem?_zipWith] at hj
  cases hv : vs[j]? with
  | none => simp [hv] at hj
  | some v =>
    cases hl : L[j]? with
    | none => simp [hv, hl] at hj
    | some l =>
      simp [hv, hl] at hj
      rw [← hj]
theorem keep2 {w4 w' : World} {g : Nat} {p q : Value} (hc : w4.cell? ⟨g, 0, none⟩ = some p ∧ w4.cell? ⟨g, 1, none⟩ = some q) (hg : g < w4.heap.size) (hb : Below w4.heap.size w4 w') :
    w'.cell? ⟨g, 0, none⟩ = some p ∧ w'.cell? ⟨g, 1, none⟩ = some q :=
  ⟨(hb.cell (p := ⟨g, 0, none⟩) hg).trans hc.1, (hb.cell (p := ⟨g, 1, none⟩) hg).trans hc.2⟩
theorem build_zero : (Tryd.prog.info? 27).map (fun i => (i.zero, i.size)) = some (some (.agg #[.slice none 0 0, .slice none 0 0]), 2) := by kernel_rfl
/-- The call returns a new stack and b; nothing that was there has turned. -/
def FreshKB (w : World) (H : List Int) (L : List (List UInt8)) (b : Bool) (e : Ending) (w' : World) : Prop :=
  ∃ a s vs, e = .returned (.tuple #[.agg #[a, s], .bool b]) ∧ vs.length = L.length ∧ InvF w w' [segI 3 a H, segS 22 5 s vs L]
theorem FreshKB.nil_ {w w' : World} (h : Below w.heap.size w w') : FreshKB w [] [] false (.returned (.tuple #[.agg #[.slice none 0 0, .slice none 0 0], .bool false])) w' := by
  refine ⟨_, _, [], rfl, rfl, h, ?_, ?_⟩
  · intro p hp
    rcases List.mem_cons.1 hp with rfl | hp
    · exact World.ownsRow_nil _ _ _ _
    rcases List.mem_cons.1 hp with rfl | hp
    · exact World.ownsRow_nil _ _ _ _
    · cases hp
  · exact List.pairwise_cons.2 ⟨fun q hq => .inl rfl, List.pairwise_cons.2 ⟨fun q hq => .inl rfl, List.Pairwise.nil⟩⟩

/-- What each operation of StackPush's region yields. -/
def PushSp (w4 : World) (g : Nat) (A : Option Addr) (c : Nat) (A' : Option Addr) (c' : Nat) (H : List Int) (L : List (List UInt8)) (x : List UInt8) (lf up : Nat) (r : Value) (ys : List Value) : Nat → World → (Nat → Value) → Prop
  | 0, _, vs => vs 0 = .pointer (some ⟨g, 0, none⟩)
  | 1, _, vs => vs 1 = .slice A H.length c
  | 2, _, vs => vs 2 = .int .i64 (lf : Int)
  | 3, _, vs => vs 3 = .slice A lf c
  | 4, _, vs => vs 4 = .int .i64 (up : Int)
  | 5, w, vs => RdC w w.heap.size (vs 5) [.int .i64 (up : Int)]
  | 6, w, vs => RdX w w.heap.size (vs 6) [is (H.take lf), [.int .i64 (up : Int)]]
  | 7, w, vs => GOwn w w4.heap.size (3, vs 7, is (pushH H L x))
  | 8, _, vs => vs 8 = .pointer (some ⟨g, 1, none⟩)
  | 9, _, vs => vs 9 = .slice A' L.length c'
  | 10, _, vs => vs 10 = .int .i64 (lf : Int)
  | 11, _, vs => vs 11 = .slice A' lf c'
  | 12, _, vs => vs 12 = r
  | 13, w, vs => RdC w w.heap.size (vs 13) [r]
  | 14, w, vs => RdX w w.heap.size (vs 14) [ys, [r]]
  | 15, w, vs => SlS w w.heap.size (vs 15) (pushS H L x)
  | 16, w, vs => ∃ us, us.length = (pushS H L x).length ∧ Rws w4.heap.size w ((3, vs 7, is (pushH H L x)) :: (22, vs 16, us) :: rowsS 5 us (pushS H L x))
  | 17, w, vs => vs 17 = .agg #[vs 7, vs 16] ∧ ∃ us, us.length = (pushS H L x).length ∧ Rws w4.heap.size w ((3, vs 7, is (pushH H L x)) :: (22, vs 16, us) :: rowsS 5 us (pushS H L x))
  | 18, w, vs => ∃ k, vs 18 = .pointer (some ⟨k, 0, none⟩) ∧ w4.heap.size ≤ k ∧ w.heap[k]? = some (.cells #[.slice none 0 0, .slice none 0 0] 27)
  | _, _, _ => True

theorem RdX.up {w w' : World} {v : Value} {M : List (List Value)} (h : RdX w w.heap.size v M) (hb : Below w.heap.size w w') : RdX w' w'.heap.size v M := by
  obtain ⟨b, off, c, e, h1, h2, h3, h4⟩ := h
  refine ⟨b, off, c, e, h1, h2, Nat.lt_of_lt_of_le h3 hb.size, fun k hk => ?_⟩
  obtain ⟨u, hu, hr⟩ := h4 k hk
  exact ⟨u, (hb.cell (p := ⟨b, off + k, none⟩) h3).trans hu, hr.up hb⟩
theorem Rws.up {B : Nat} {w w' : World} {rs : List Row} (h : Rws B w rs) (hb : Below w.heap.size w w') : Rws B w' rs := ⟨fun p hp => (h.1 p hp).up hb, h.2⟩
theorem PushSp.up {w4 : World} {g : Nat} {A : Option Addr} {c : Nat} {A' : Option Addr} {c' : Nat} {H : List Int} {L : List (List UInt8)} {x : List UInt8} {lf up : Nat} {r : Value} {ys : List Value} {w w' : World} {vs vs' : Nat → Value} :
    ∀ i, PushSp w4 g A c A' c' H L x lf up r ys i w vs → Below w.heap.size w w' → vs i = vs' i → (i = 16 ∨ i = 17 → vs 7 = vs' 7) → (i = 17 → vs 16 = vs' 16) → PushSp w4 g A c A' c' H L x lf up r ys i w' vs'
  | 0, h, _, e, _, _ => e.symm.trans h
  | 1, h, _, e, _, _ => e.symm.trans h
  | 2, h, _, e, _, _ => e.symm.trans h
  | 3, h, _, e, _, _ => e.symm.trans h
  | 4, h, _, e, _, _ => e.symm.trans h
  | 5, h, hb, e, _, _ => by
    simp only [PushSp] at h ⊢
    rw [← e]
    exact h.up hb
  | 6, h, hb, e, _, _ => by
    simp only [PushSp] at h ⊢
    rw [← e]
    exact h.up hb
  | 7, h, hb, e, _, _ => by
    simp only [PushSp] at h ⊢
    rw [← e]
    exact h.up hb
  | 8, h, _, e, _, _ => e.symm.trans h
  | 9, h, _, e, _, _ => e.symm.trans h
  | 10, h, _, e, _, _ => e.symm.trans h
  | 11, h, _, e, _, _ => e.symm.trans h
  | 12, h, _, e, _, _ => e.symm.trans h
  | 13, h, hb, e, _, _ => by
    simp only [PushSp] at h ⊢
    rw [← e]
    exact h.up hb
  | 14, h, hb, e, _, _ => by
    simp only [PushSp] at h ⊢
    rw [← e]
    exact h.up hb
  | 15, h, hb, e, _, _ => by
    simp only [PushSp] at h ⊢
    rw [← e]
    exact h.up hb
  | 16, h, hb, e, e7, _ => by
    simp only [PushSp] at h ⊢
    rw [← e, ← e7 (.inl rfl)]
    obtain ⟨us, hl, hr⟩ := h
    exact ⟨us, hl, hr.up hb⟩
  | 17, h, hb, e, e7, e16 => by
    simp only [PushSp] at h ⊢
    rw [← e, ← e7 (.inr rfl), ← e16 rfl]
    obtain ⟨h1, us, hl, hr⟩ := h
    exact ⟨h1, us, hl, hr.up hb⟩
  | 18, h, hb, e, _, _ => by
    simp only [PushSp] at h ⊢
    rw [← e]
    obtain ⟨k, h1, h2, h3⟩ := h
    exact ⟨k, h1, h2, (hb.block k (Array.getElem?_eq_some_iff.1 h3).1).trans h3⟩
  | _ + 19, _, _, _, _, _ => trivial

set_option maxRecDepth 100000 in
set_option maxHeartbeats 2000000 in
theorem implStackPush_any (v u : Value) (H : List Int) (L : List (List UInt8)) (x : List UInt8) (w : World) (h : SlK w w.heap.size v H L) (hx : Sl w w.heap.size u x)
    (hI : Glob w 0 initW) (hG : Glob w 1 kk) :
    Calls Tryd.prog 9 #[v, u] w (FreshKB w (psH H L x) (psS H L x) (pushB H L x)) := by
  have hK := h
  obtain ⟨a, s, rfl, hIs, hS⟩ := h
  obtain ⟨A, c, rfl, p1, p2, p0, p3⟩ := hIs
  obtain ⟨A', c', rfl, q1, q2, q0, q3⟩ := hS
  have HX := Lib.hid hx
  obtain ⟨A2, c2, rfl, m1, m2, m0, m3⟩ := hx
  unfold maxLen at p2 q2 m2
  clear m0 m3 p0 q0
  have hb : Below w.heap.size w ((w.alloc (.cells #[.slice A H.length c, .slice A' L.length c'] 27)).alloc (.cells #[.slice none 0 0, .slice none 0 0] 27)) := ((Below.refl _ w).alloc (Nat.le_refl _) _).alloc (by simp) _
  cases hok : okS H L with
  | false =>
    have hpb := pushB_ok (x := x) hok
    rw [psH_no hpb, psS_no hpb, hpb]
    have HO := Lib.hid hok
    clear hok hpb
    go_enter Tryd.func9, Tryd.ntmps9
    go_wp2_with fail
    refine (implStackOk_any _ H L _ (hK.up hb)).mono ?_
    rw [HO.out]
    rintro e w2 ⟨rfl, hb2⟩
    obtain ⟨hc2, hf2⟩ := bcell hb2
    have hz2 : w.heap.size + 1 < w2.heap.size := by have := hb2.size; simp at this; omega
    go_wp2
    refine bodyPost_ret (v := .tuple #[.agg #[.slice none 0 0, .slice none 0 0], .bool false]) (by simp [results, Tryd.results9, go_sem, hc2]) rfl (FreshKB.nil_ ?_)
    exact ((hb.trans (hb2.mono hb.size)).setCell (by simp) _).setCell (by simp) _
  | true =>
    by_cases hxl : x.length = 32
    case neg =>
      have hpb := pushB_hash (H := H) (L := L) hxl
      rw [psH_no hpb, psS_no hpb, hpb]
      have HO := Lib.hid hok
      have hlh2 := hash_no hxl
      clear hok hpb hxl
      go_enter Tryd.func9, Tryd.ntmps9
      go_wp2_with fail
      refine (implStackOk_any _ H L _ (hK.up hb)).mono ?_
      rw [HO.out]
      rintro e w2 ⟨rfl, hb2⟩
      obtain ⟨hc2, hf2⟩ := bcell hb2
      have hz2 : w.heap.size + 1 < w2.heap.size := by have := hb2.size; simp at this; omega
      have hb3 := hb.trans (hb2.mono hb.size)
      go_wp2_with fail
      refine (isHash_any _ x _ (HX.out.up hb3)).mono ?_
      rw [hlh2]
      rintro e w' ⟨rfl, rfl⟩
      go_wp2
      refine bodyPost_ret (v := .tuple #[.agg #[.slice none 0 0, .slice none 0 0], .bool false]) (by simp [results, Tryd.results9, go_sem, hc2]) rfl (FreshKB.nil_ ?_)
      exact (hb3.setCell (by simp) _).setCell (by simp) _
    case pos =>
      have HO := Lib.hid hok
      have hlh2 := hash_yes hxl
      have HXL := Lib.hid hxl
      obtain ⟨⟨lf, up, rt⟩, hM⟩ : ∃ M, pushM H L x = M := ⟨_, rfl⟩
      have HMB : Hid (lf ≤ H.length ∧ up ≤ H.length ∧ rt.length = 32) := Lib.hid (by
        have := mrg_bound H L H.length 0 x hxl
        rw [show mrg H L H.length 0 x = (lf, up, rt) from hM] at this
        exact ⟨this.1, by have := this.2.1; simpa using this, this.2.2⟩)
      have HPH : Hid (pushH H L x = H.take lf ++ [(up : Int)]) := Lib.hid (by unfold pushH; rw [hM])
      have HPS : Hid (pushS H L x = L.take lf ++ [rt]) := Lib.hid (by unfold pushS; rw [hM])
      have HM := Lib.hid hM
      clear hM
      have HPL := Lib.hid (pushB_last hok hxl)
      have HLN := Lib.hid (okS_iff hok).1
      have hmany := ok_len (okS_iff hok).2
      have HSUM := Lib.hid (okS_sum hok)
      clear hok hxl
      go_enter Tryd.func9, Tryd.ntmps9
      go_wp2_with fail
      refine (implStackOk_any _ H L _ (hK.up hb)).mono ?_
      rw [HO.out]
      rintro e w2 ⟨rfl, hb2⟩
      obtain ⟨hc2, hf2⟩ := bcell hb2
      have hz2 : w.heap.size + 1 < w2.heap.size := by have := hb2.size; simp at this; omega
      have hb3 := hb.trans (hb2.mono hb.size)
      go_wp2_with fail
      refine (isHash_any _ x _ (HX.out.up hb3)).mono ?_
      rw [hlh2]
      rintro e w' ⟨rfl, rfl⟩
      go_wp2_with fail
      refine (mergeLeaf_any _ _ H L x _ (hK.up hb3) (HX.out.up hb3) HO.out HXL.out (hI.below hI.lt hb3) (hG.below hG.lt hb3)).mono ?_
      rw [HM.out]
      rintro e w4 ⟨r, rfl, hr, hb4⟩
      have hg4 : w.heap.size < w4.heap.size := by have := hb4.size; omega
      have hz4 : w.heap.size + 1 < w4.heap.size := by have := hb4.size; omega
      have hcb : w4.cell? ⟨w.heap.size, 0, none⟩ = some (.slice A H.length c) ∧ w4.cell? ⟨w.heap.size, 1, none⟩ = some (.slice A' L.length c') := by
        refine keep2 ⟨?_, ?_⟩ (by omega) hb4
        · rw [hc2 _ _ (by simp; omega)]; simp
        · rw [hc2 _ _ (by simp; omega)]; simp
      have HCB := Lib.hid hcb
      obtain ⟨hcb0, hcb1⟩ := hcb
      have hb5 := hb3.trans (hb4.mono hb3.size)
      have hSI := ((hK.up hb5) : SlK w4 w4.heap.size _ H L)
      obtain ⟨_, _, e, hSI, hSS⟩ := hSI
      obtain ⟨rfl, rfl⟩ : _ = Value.slice A H.length c ∧ _ = Value.slice A' L.length c' := by simpa using e.symm
      have hTI := (hSI.take lf (by have := HMB.out; omega)).rdC
      obtain ⟨ys, hys, hyl, hy⟩ := (hSS.take lf (by have := HMB.out; have := HLN.out; omega)).rdC
      have hl1 : (H.take lf).length = lf := by rw [List.length_take]; have := HMB.out; omega
      have hl2 : (L.take lf).length = lf := by rw [List.length_take]; have := HMB.out; have := HLN.out; omega
      have hd0 : Below w4.heap.size w4 w4.drew := below_drewN (Below.refl _ _) 1
      have hd1 : Below w4.heap.size w4 (w4.drew.alloc (.cells #[.int .i64 (up : Int)] 3)) := hd0.alloc (Nat.le_refl _) _
      have hd2 : Below w4.heap.size w4 ((w4.drew.alloc (.cells #[.int .i64 (up : Int)] 3)).alloc (.cells #[.slice A lf c, .slice (some ⟨w4.heap.size, 0, none⟩) 1 1] 25)) := hd1.alloc (by simp) _
      have HR1 : Hid (RdX ((w4.drew.alloc (.cells #[.int .i64 (up : Int)] 3)).alloc (.cells #[.slice A lf c, .slice (some ⟨w4.heap.size, 0, none⟩) 1 1] 25)) ((w4.drew.alloc (.cells #[.int .i64 (up : Int)] 3)).alloc (.cells #[.slice A lf c, .slice (some ⟨w4.heap.size, 0, none⟩) 1 1] 25)).heap.size
          (.slice (some ⟨w4.heap.size + 1, 0, none⟩) 2 2) [is (H.take lf), is [(up : Int)]]) := Lib.hid (by
        have h0 := rdC_one w4.drew (.int .i64 (up : Int)) 3 rfl
        have := rdX_lit2 25 (hTI.up hd1) h0
        rw [show (w4.drew.alloc (.cells #[.int .i64 (up : Int)] 3)).heap.size = w4.heap.size + 1 by simp] at this
        exact this)
      have HN1 : Hid (flN [is (H.take lf), is [(up : Int)]] 2 = lf + 1) := Lib.hid (by rw [flN2, is_length, hl1]; rfl)
      have HC1 : Hid (flC [is (H.take lf), is [(up : Int)]] 2 = is (pushH H L x)) := Lib.hid (by rw [flC2, HPH.out, is_app])
      have HN2 : Hid (flN [ys, [r]] 2 = lf + 1) := Lib.hid (by rw [flN2, hyl, hl2]; rfl)
      have HC2 : Hid (flC [ys, [r]] 2 = ys ++ [r]) := Lib.hid (flC2 _ _)
      have HTI := Lib.hid hTI
      have HYL := Lib.hid hyl
      have HYS := Lib.hid hys
      have HY := Lib.hid hy
      have HRO := Lib.hid hr.one
      have HR := Lib.hid hr
      obtain ⟨A3, c3, rfl, n1, n2, n0, n3⟩ := hr
      clear n0 n1 n2 n3
      have HL8 : Hid ((pushS H L x).length ≤ 1048576 ∧ sumL (pushS H L x) ≤ 1048576) := Lib.hid (by
        rw [HPS.out]
        have h1 := sumL_le L lf
        have h2 := HSUM.out
        have h3 := HLN.out
        have h4 := HMB.out
        rw [sumL_app, List.length_append, hl2]
        simp [sumL]
        omega)
      have HLS : Hid (lf ≤ 21) := Lib.hid (by have := HMB.out; omega)
      have h5a : (0 : Int) ≤ (lf : Int) := by omega
      have h5b : lf ≤ H.length := HMB.out.1
      have h5c : lf ≤ L.length := by have := HLN.out; omega
      have h5d : lf ≤ c := by omega
      have h5e : lf ≤ c' := by omega
      have h5f : (lf : Int) ≤ (c : Int) := by omega
      have h5g : (lf : Int) ≤ (c' : Int) := by omega
      have HRC : Hid ((w4.cell? ⟨w.heap.size + 1, 0, none⟩ = some (.slice none 0 0) ∧ w4.cell? ⟨w.heap.size + 1, 1, none⟩ = some (.slice none 0 0)) ∧ w4.frozen? ⟨w.heap.size + 1, 0, none⟩ = false ∧ w4.frozen? ⟨w.heap.size + 1, 1, none⟩ = false) := Lib.hid (by
        refine ⟨keep2 ⟨?_, ?_⟩ hz2 hb4, ?_, ?_⟩
        · rw [hc2 _ _ (by simp)]; simp
        · rw [hc2 _ _ (by simp)]; simp
        · rw [hb4.frozen (p := ⟨w.heap.size + 1, 0, none⟩) hz2, hf2 _ _ (by simp)]; simp
        · rw [hb4.frozen (p := ⟨w.heap.size + 1, 1, none⟩) hz2, hf2 _ _ (by simp)]; simp)
      clear hTI hys hyl hy hl1 hl2 hSI hSS e hc2 hf2
      go_wp2
      refine wp_region_head 19 (PushSp w4 w.heap.size A c A' c' H L x lf up (.slice A3 rt.length c3) ys) (by kernel_rfl) (by kernel_rfl) ?hup ?hstep ?hend
      case hup =>
        intro i w5 w6 vs vs' hi h hb6 hv
        refine PushSp.up i h hb6 (hv i (.inl rfl)) (fun hi => ?_) (fun hi => ?_)
        · rcases hi with rfl | rfl
          · exact hv 7 (.inr (by kernel_rfl))
          · exact hv 7 (.inr (by kernel_rfl))
        · subst hi
          exact hv 16 (.inr (by kernel_rfl))
      case hstep =>
        intro i o hi ho vs w5 hb6 hp
        have hcb := keep2 HCB.out hg4 hb6
        obtain ⟨hcb2, hcb3⟩ := hcb
        simp only [putAll, dstOf, Option.bind_some, Act.put, List.getElem?_toArray, List.getElem?_cons_zero, List.getElem?_cons_succ, List.setIfInBounds_toArray, List.set_cons_zero, List.set_cons_succ]
        rcases i with _ | _ | _ | _ | _ | _ | _ | _ | _ | _ | _ | _ | _ | _ | _ | _ | _ | _ | _ | i
        all_goals (first | (exfalso; omega; done) | skip)
        all_goals simp only [List.getElem?_toArray, List.getElem?_cons_zero, List.getElem?_cons_succ, Option.some.injEq] at ho
        all_goals subst ho
        all_goals unfold Oper.wp
        · go_simp
          exact ⟨Below.refl _ _, by simp [PushSp, upd, valOf]⟩
        · have h0 : vs 0 = _ := hp 0 (by kernel_rfl)
          go_simp
          exact ⟨Below.refl _ _, by simp [PushSp, upd, valOf]⟩
        · go_simp
          exact ⟨Below.refl _ _, by simp [PushSp, upd, valOf]⟩
        · have h1 : vs 1 = _ := hp 1 (by kernel_rfl)
          have h2 : vs 2 = _ := hp 2 (by kernel_rfl)
          go_simp
          exact ⟨Below.refl _ _, by simp [PushSp, upd, valOf]⟩
        · go_simp
          exact ⟨Below.refl _ _, by simp [PushSp, upd, valOf]⟩
        · have h4 : vs 4 = _ := hp 4 (by kernel_rfl)
          go_simp
          exact ⟨(Below.refl _ _).alloc (Nat.le_refl _) _, by simpa [PushSp, upd, valOf] using rdC_one w5 (.int .i64 (up : Int)) 3 rfl⟩
        · have h3 : vs 3 = _ := hp 3 (by kernel_rfl)
          have h5 : RdC w5 w5.heap.size (vs 5) [.int .i64 (up : Int)] := hp 5 (by kernel_rfl)
          have hX := rdX_lit2 25 (HTI.out.up hb6) h5
          obtain ⟨A5, c5, e5, _⟩ := h5
          rw [e5] at hX
          have HXX := Lib.hid hX
          clear hX
          go_simp
          exact ⟨(Below.refl _ _).alloc (Nat.le_refl _) _, by simpa [PushSp, upd, valOf] using HXX.out⟩
        · have h6 : RdX w5 w5.heap.size (vs 6) _ := hp 6 (by kernel_rfl)
          have H6 := Lib.hid h6
          clear h6
          go_simp
          refine (concatI_any (vs 6) [is (H.take lf), [.int .i64 (up : Int)]] w5 H6.out (by simp) (by have := HN1.out; have := HLS.out; show flN [is (H.take lf), is [(up : Int)]] 2 ≤ _; omega) (by have := HN1.out; show 0 < flN [is (H.take lf), is [(up : Int)]] 2; omega)).mono ?_
          rintro e w6 ⟨u, rfl, hGo, hbe⟩
          refine ⟨hbe, ?_⟩
          have := push_cells HC1.out (hGo.mono hb6.size)
          simpa [PushSp, upd, valOf] using this
        · go_simp
          exact ⟨Below.refl _ _, by simp [PushSp, upd, valOf]⟩
        · have h8 : vs 8 = _ := hp 8 (by kernel_rfl)
          go_simp
          exact ⟨Below.refl _ _, by simp [PushSp, upd, valOf]⟩
        · go_simp
          exact ⟨Below.refl _ _, by simp [PushSp, upd, valOf]⟩
        · have h9 : vs 9 = _ := hp 9 (by kernel_rfl)
          have h10 : vs 10 = _ := hp 10 (by kernel_rfl)
          go_simp
          exact ⟨Below.refl _ _, by simp [PushSp, upd, valOf]⟩
        · go_simp
          exact ⟨Below.refl _ _, by simp [PushSp, upd, valOf]⟩
        · have h12 : vs 12 = _ := hp 12 (by kernel_rfl)
          go_simp
          exact ⟨(Below.refl _ _).alloc (Nat.le_refl _) _, by simpa [PushSp, upd, valOf] using rdC_one w5 (.slice A3 rt.length c3) 22 rfl⟩
        · have h11 : vs 11 = _ := hp 11 (by kernel_rfl)
          have h13 : RdC w5 w5.heap.size (vs 13) [.slice A3 rt.length c3] := hp 13 (by kernel_rfl)
          have hX := rdX_lit2 23 (HYS.out.up hb6) h13
          obtain ⟨A5, c5, e5, _⟩ := h13
          rw [e5] at hX
          have HXX := Lib.hid hX
          clear hX
          go_simp
          exact ⟨(Below.refl _ _).alloc (Nat.le_refl _) _, by simpa [PushSp, upd, valOf] using HXX.out⟩
        · have h14 : RdX w5 w5.heap.size (vs 14) _ := hp 14 (by kernel_rfl)
          have H14 := Lib.hid h14
          clear h14
          go_simp
          refine (concatS_any (vs 14) [ys, [.slice A3 rt.length c3]] w5 H14.out (by simp) (by have := HN2.out; have := HLS.out; show flN _ 2 ≤ _; omega) (by have := HN2.out; show 0 < flN _ 2; omega)).mono ?_
          rintro e w6 ⟨u, rfl, hGo, hbe⟩
          refine ⟨hbe, ?_⟩
          have := push_slS hGo HYL.out HY.out HR.out (hb6.trans (hbe.mono hb6.size))
          rw [← HPS.out] at this
          simpa [PushSp, upd, valOf] using this
        · have h15 : SlS w5 w5.heap.size (vs 15) (pushS H L x) := hp 15 (by kernel_rfl)
          have h7 : GOwn w5 w4.heap.size (3, vs 7, is (pushH H L x)) := hp 7 (by kernel_rfl)
          have H15 := Lib.hid h15
          have H7 := Lib.hid h7
          clear h15 h7
          go_simp
          refine (hashCopy_any (vs 15) (pushS H L x) w5 H15.out HL8.out.1 HL8.out.2).mono ?_
          rintro e w6 ⟨u, us, rfl, hvl, hK⟩
          refine ⟨hK.bel, us, hvl, ?_⟩
          have := (Rws.moreAll (B := w4.heap.size) (rs := [(3, vs 7, is (pushH H L x))]) ⟨fun p hp => by rw [List.mem_singleton.1 hp]; exact H7.out, List.pairwise_singleton _ _⟩ hK hb6.size).perm (List.perm_append_singleton _ _)
          simpa [upd, valOf] using this
        · have h16 : ∃ us, us.length = (pushS H L x).length ∧ Rws w4.heap.size w5 ((3, vs 7, is (pushH H L x)) :: (22, vs 16, us) :: rowsS 5 us (pushS H L x)) := hp 16 (by kernel_rfl)
          have H16 := Lib.hid h16
          obtain ⟨us, hul, hR⟩ := h16
          obtain ⟨A7, c7, e7, _⟩ := (hR.1 _ (.head _)).cells
          obtain ⟨A8, c8, e8, _⟩ := (hR.1 _ (.tail _ (.head _))).cells
          rw [is_length] at e7
          rw [hul] at e8
          clear hR hul
          go_simp
          refine ⟨Below.refl _ _, ?_, ?_⟩
          · simp [upd, valOf, e7, e8]
          · simpa [upd, e7, e8] using H16.out
        · go_simp
          refine ⟨(Below.refl _ _).alloc (Nat.le_refl _) _, w5.heap.size, ?_, hb6.size, ?_⟩
          · simp [upd, valOf]
          · exact heap_alloc_new w5 _
      case hend =>
        intro vs w5 hb6 hp
        have h17 : vs 17 = .agg #[vs 7, vs 16] ∧ ∃ us, us.length = (pushS H L x).length ∧ Rws w4.heap.size w5 ((3, vs 7, is (pushH H L x)) :: (22, vs 16, us) :: rowsS 5 us (pushS H L x)) := hp 17 (by omega)
        have h18 : ∃ k, vs 18 = .pointer (some ⟨k, 0, none⟩) ∧ w4.heap.size ≤ k ∧ w5.heap[k]? = some (.cells #[.slice none 0 0, .slice none 0 0] 27) := hp 18 (by omega)
        obtain ⟨e17, us, hul, hR⟩ := h17
        obtain ⟨k, e18, hk4, hk⟩ := h18
        obtain ⟨A7, c7, e7, _, _, _, _⟩ := (hR.1 _ (.head _)).cells
        obtain ⟨A8, c8, e8, _, _, _, _⟩ := (hR.1 _ (.tail _ (.head _))).cells
        have e7 : vs 7 = .slice A7 (pushH H L x).length c7 := by rw [← is_length]; exact e7
        have e8 : vs 16 = .slice A8 (pushS H L x).length c8 := by rw [← hul]; exact e8
        rw [e7, e8] at hR e17
        have HR2 := Lib.hid hR
        have HUL := Lib.hid hul
        have hkc0 : w5.cell? ⟨k, 0, none⟩ = some (.slice none 0 0) := by simp [World.cell?, hk]
        have hkc1 : w5.cell? ⟨k, 1, none⟩ = some (.slice none 0 0) := by simp [World.cell?, hk]
        have hkf0 : w5.frozen? ⟨k, 0, none⟩ = false := by simp [World.frozen?, hk]
        have hkf1 : w5.frozen? ⟨k, 1, none⟩ = false := by simp [World.frozen?, hk]
        have hks : k < w5.heap.size := (Array.getElem?_eq_some_iff.1 hk).1
        have hoff := hR.not_at hk (fun p hp => by
          rcases List.mem_cons.1 hp with rfl | hp
          · exact (by decide : 3 ≠ 27)
          rcases List.mem_cons.1 hp with rfl | hp
          · exact (by decide : 22 ≠ 27)
          · rw [rowsS_type hp]; decide)
        have hR6 := (hR.cellOff hoff 0 (.slice A7 (pushH H L x).length c7)).cellOff hoff 1 (.slice A8 (pushS H L x).length c8)
        have hB6 : Below w4.heap.size w4 ((w5.setCell ⟨k, 0, none⟩ (.slice A7 (pushH H L x).length c7)).setCell ⟨k, 1, none⟩ (.slice A8 (pushS H L x).length c8)) := (hb6.setCell (p := ⟨k, 0, none⟩) hk4 _).setCell (p := ⟨k, 1, none⟩) hk4 _
        have hinv := hR6.inv hB6
        have HS6 : Hid (SlK ((w5.setCell ⟨k, 0, none⟩ (.slice A7 (pushH H L x).length c7)).setCell ⟨k, 1, none⟩ (.slice A8 (pushS H L x).length c8)) ((w5.setCell ⟨k, 0, none⟩ (.slice A7 (pushH H L x).length c7)).setCell ⟨k, 1, none⟩ (.slice A8 (pushS H L x).length c8)).heap.size (.agg #[.slice A7 (pushH H L x).length c7, .slice A8 (pushS H L x).length c8]) (pushH H L x) (pushS H L x)) :=
          Lib.hid ⟨_, _, rfl, hinv.slI 3 (.head _), hinv.slS 5 22 hul (.tail _ (.head _)) (fun _ hp => .tail _ (.tail _ hp))⟩
        have HR6 := Lib.hid hR6
        have HB6 := Lib.hid (hb5.trans (hB6.mono hb5.size))
        have HB46 := Lib.hid hB6
        obtain ⟨⟨hrc0, hrc1⟩, hrf0, hrf1⟩ := HRC.out
        have hlt1 : w.heap.size + 1 < w5.heap.size := by have := hb6.size; omega
        have hne1 : ¬ (w.heap.size + 1 = k) := by omega
        have hne2 : ¬ (k = w.heap.size + 1) := by omega
        have hrd0 : w5.cell? ⟨w.heap.size + 1, 0, none⟩ = some (.slice none 0 0) := (hb6.cell (p := ⟨w.heap.size + 1, 0, none⟩) hz4).trans hrc0
        have hrd1 : w5.cell? ⟨w.heap.size + 1, 1, none⟩ = some (.slice none 0 0) := (hb6.cell (p := ⟨w.heap.size + 1, 1, none⟩) hz4).trans hrc1
        have hrg0 : w5.frozen? ⟨w.heap.size + 1, 0, none⟩ = false := (hb6.frozen (p := ⟨w.heap.size + 1, 0, none⟩) hz4).trans hrf0
        have hrg1 : w5.frozen? ⟨w.heap.size + 1, 1, none⟩ = false := (hb6.frozen (p := ⟨w.heap.size + 1, 1, none⟩) hz4).trans hrf1
        clear hp hR hul hk hoff hR6 hB6 hinv hrc0 hrc1 hrf0 hrf1
        simp only [putAll, dstOf, Option.bind_some, Act.put, List.getElem?_toArray, List.getElem?_cons_zero, List.getElem?_cons_succ, List.setIfInBounds_toArray, List.set_cons_zero, List.set_cons_succ]
        refine wpAny_one (i := 19) (by kernel_rfl) rfl rfl ?_
        unfold Oper.wp
        go_simp
        refine wpAny_done (by kernel_rfl) ?_ _
        go_wp2_with fail
        refine (implStackOk_any _ (pushH H L x) (pushS H L x) _ HS6.out).mono ?_
        rw [← HPL.out]
        rintro e w7 ⟨rfl, hb7⟩
        obtain ⟨hc7, hf7⟩ := bcell hb7
        have hB7 := HB6.out.trans (hb7.mono HB6.out.size)
        cases hpb : pushB H L x with
        | false =>
          have HPB := Lib.hid hpb
          clear hpb
          go_wp2
          refine bodyPost_ret (v := .tuple #[.agg #[.slice none 0 0, .slice none 0 0], .bool false]) (by simp [results, Tryd.results9, go_sem, hc7, hlt1, hrd0, hrd1]) rfl ?_
          rw [psH_no HPB.out, psS_no HPB.out, HPB.out]
          exact FreshKB.nil_ ((hB7.setCell (by simp) _).setCell (by simp) _)
        | true =>
          have HPB := Lib.hid hpb
          clear hpb
          have hR7 := (((HR6.out.up hb7).cell (b := w.heap.size + 1) (by omega) 0 (.slice A7 (pushH H L x).length c7)).cell (b := w.heap.size + 1) (by omega) 1 (.slice A8 (pushS H L x).length c8)).mono hb5.size
          have HR7 := Lib.hid hR7
          have HB7 := Lib.hid ((hB7.setCell (p := ⟨w.heap.size + 1, 0, none⟩) (by simp) (.slice A7 (pushH H L x).length c7)).setCell (p := ⟨w.heap.size + 1, 1, none⟩) (by simp) (.slice A8 (pushS H L x).length c8))
          clear hR7
          go_wp2
          refine bodyPost_ret (v := .tuple #[.agg #[.slice A7 (pushH H L x).length c7, .slice A8 (pushS H L x).length c8], .bool true]) (by simp [results, Tryd.results9, go_sem, hc7, hlt1, hrd0, hrd1]) rfl ?_
          rw [psH_yes HPB.out, psS_yes HPB.out, HPB.out]
          refine ⟨_, _, us, rfl, HUL.out, ?_⟩
          have := HR7.out.inv HB7.out
          simpa [InvF, segI, segS] using this
end Go.Proofs.YtdoaikanaodefaaDoor
