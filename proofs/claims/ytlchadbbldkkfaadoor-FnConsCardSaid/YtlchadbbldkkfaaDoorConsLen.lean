/- ConsLen: ConsIter, ConsLenS, ConsLen. -/
import Derived.Test.YtlchadbbldkkfaaDoorPathIter
import Derived.Test.YtlchadbbldkkfaaDoorPathLen
import Derived.Test.YtlchadbbldkkfaaDoorAnyIn
import Derived.Test.YtlchadbbldkkfaaDoorMem
import Derived.Test.YtlchadbbldkkfaaDoorPut
import Derived.Laws.EntriesVeiled

/- The contracts of consParts and of its closure: a range over the parts beside a leaf that hands on those which are not inside the part of old leaves. -/
namespace Go.Proofs.YtlchadbbldkkfaaDoor
open Go.ChangeShapes Go.WideShapes Go.ChangeAt Go.RowKit Go.Shelf

attribute [local go_sem] Oper.semAt_some

/-- A block that is a row of elements of type E. -/
def rowOf (E : TypeId) (o : Obj) : Prop := ∃ cur, o = .cells cur E (0, 0)
/-- Whatever lies from block B on lies as it lay, rows of E's aside. -/
def KeepsBut (B : Nat) (E : TypeId) (W W' : World) : Prop := W.heap.size ≤ W'.heap.size ∧ ∀ k o, B ≤ k → W.heap[k]? = some o → ¬ rowOf E o → W'.heap[k]? = some o
theorem KeepsBut.refl (B : Nat) (E : TypeId) (W : World) : KeepsBut B E W W := ⟨Nat.le_refl _, fun _ _ _ h _ => h⟩
theorem KeepsBut.trans {B : Nat} {E : TypeId} {X Y Z : World} (h : KeepsBut B E X Y) (k : KeepsBut B E Y Z) : KeepsBut B E X Z := ⟨Nat.le_trans h.1 k.1, fun i o hB hi hn => k.2 i o hB (h.2 i o hB hi hn) hn⟩
theorem KeepsBut.from {B B' : Nat} {E : TypeId} {W W' : World} (h : KeepsBut B E W W') (hB : B ≤ B') : KeepsFrom B' W W' := ⟨h.1, fun k o hk ho hc => h.2 k o (by omega) ho (by rintro ⟨cur, rfl⟩; cases hc)⟩
theorem KeepsBut.boxed {B k : Nat} {E t : TypeId} {v : Value} {W W' : World} (h : KeepsBut B E W W') (hb : Boxed W k t v) (hk : B ≤ k) (ht : t ≠ E) : Boxed W' k t v := h.2 k _ hk hb (by rintro ⟨cur, e⟩; cases e; exact ht rfl)
theorem KeepsBut.of_grownBy {B : Nat} {E : TypeId} {W W' : World} {row : Option Nat} (hg : W.grownBy W' row) (hr : ∀ j, row = some j → j < B ∨ ∃ o, W.heap[j]? = some o ∧ rowOf E o) : KeepsBut B E W W' :=
  ⟨hg.size, fun k o hk ho hn => (hg.block k (Array.getElem?_eq_some_iff.1 ho).1 (fun e => by
    rcases hr k e.symm with h | ⟨o', h1, h2⟩
    · omega
    · rw [ho] at h1; cases h1; exact hn h2)).trans ho⟩
theorem KeepsBut.turn {B l : Nat} {E : TypeId} (W : World) (o : Obj) (hl : l < B) : KeepsBut B E W (W.putObj l o) := ⟨by simp, fun k _ hk h _ => (World.putObj_heap_other (by omega)).trans h⟩
theorem KpP.turn {n₀ Bi Bn l : Nat} (W : World) {o : Obj} (o' : Obj) (h : W.heap[l]? = some o) (hn : n₀ ≤ l) (hi : Bi ≠ l) (hb : Bn ≠ l) : KpP n₀ Bi Bn W (W.putObj l o') :=
  ⟨(Below.refl n₀ W).grown (grownBy_putObj' W l o') (by have := (Array.getElem?_eq_some_iff.1 h).1; omega) (fun k e => by cases e; exact hn), World.putObj_heap_other hi, World.putObj_heap_other hb⟩
/-- What a round keeps for consParts: memory below n₀, the closure's two variables, whatever the closure lays. -/
def KpC (n₀ Bm Bn B0 : Nat) (E : TypeId) (W W' : World) : Prop := KpP n₀ Bm Bn W W' ∧ KeepsBut B0 E W W'
theorem KpC.trans {n₀ Bm Bn B0 : Nat} {E : TypeId} {X Y Z : World} (h : KpC n₀ Bm Bn B0 E X Y) (k : KpC n₀ Bm Bn B0 E Y Z) : KpC n₀ Bm Bn B0 E X Z := ⟨KpP.trans h.1 k.1, h.2.trans k.2⟩
theorem ownFrom_above {β : Type} {B B' : Nat} {I : β → World → Prop} (h : OwnFrom B I) (hB : B ≤ B') : OwnFrom B' I := fun s W W' row hs hg hr => h s W W' row hs hg fun r e => ⟨Nat.le_trans hB (hr r e).1, (hr r e).2⟩
theorem ownFrom_at {β γ : Type} {B : Nat} {I : β → World → Prop} (h : OwnFrom B I) (f : γ → β) : OwnFrom B (fun s => I (f s)) := fun s => h (f s)
theorem roundIn_any {m m' l l' f : Nat} {P : Program} {tmps : Array Value} {assign body : Code} {w : World} {R : Ending → World → Prop} (h : RoundIn Fence.wide m P l f tmps assign body w R) : RoundIn (Fence.wide.inRound l') m' P l f tmps assign body w R :=
  ⟨h.1, fun c cs _ => h.2 c cs (room_wide _)⟩
theorem roundIn_wide {m m' l f : Nat} {P : Program} {tmps : Array Value} {assign body : Code} {w : World} {R : Ending → World → Prop} (h : RoundIn Fence.wide m P l f tmps assign body w R) : RoundIn Fence.wide m' P l f tmps assign body w R :=
  ⟨h.1, fun c cs _ => h.2 c cs (room_wide _)⟩

/-- How many of the first k are handed on. -/
def outN {n : Nat} (m : Nat) (zs : List (PA n)) (k : Nat) : Nat := ((zs.take k).filter fun x => outC m x.1).length
theorem outN_all {n m : Nat} (zs : List (PA n)) : outN m zs zs.length = (zs.filter fun x => outC m x.1).length := by
  unfold outN
  rw [List.take_length]
theorem outN_no {n m k : Nat} {zs : List (PA n)} {x : PA n} (hx : zs[k]? = some x) (h : outC m x.1 = false) : outN m zs (k + 1) = outN m zs k := by
  unfold outN
  rw [List.take_add_one, hx, List.filter_append]
  simp [h]
theorem outN_yes {n m k : Nat} {zs : List (PA n)} {x : PA n} (hx : zs[k]? = some x) (h : outC m x.1 = true) : outN m zs (k + 1) = outN m zs k + 1 ∧ ∀ base : List (PA n), (base ++ zs.filter fun x => outC m x.1)[base.length + outN m zs k]? = some x := by
  constructor
  · unfold outN
    rw [List.take_add_one, hx, List.filter_append]
    simp [h]
  · intro base
    have hk := (List.getElem?_eq_some_iff.1 hx).1
    have h1 : zs = zs.take k ++ x :: zs.drop (k + 1) := by
      have := List.drop_eq_getElem_cons hk
      rw [(List.getElem?_eq_some_iff.1 hx).2] at this
      rw [← this, List.take_append_drop]
    rw [List.getElem?_append_right (by omega), Nat.add_sub_cancel_left]
    unfold outN
    conv => lhs; arg 1; rw [h1]
    rw [List.filter_append, List.getElem?_append_right (Nat.le_refl _), Nat.sub_self]
    simp [h]

def restC : Code → Code
  | .seq _ c => c
  | c => c
def bodyC (f : Func) : Code := f.body.getD .skip

set_option maxRecDepth 100000 in
set_option maxHeartbeats 4000000 in
/-- The last part of the closure: the range over the parts beside the last old leaf. -/
theorem cons1_tail {m n : Nat} (c : Code) (hc : restC (restC (restC (restC (bodyC Tryd.f76)))) = c) (zsI : List (PA n)) (hzI : zsI.map (fun x => x.1) = prt (m - 1) n) (base : List (PA n)) (h0 : 1 ≤ m) (hmn : m ≤ n) (hn : n ≤ 1073741824)
    (E : TypeId) (hE1 : 3 ≠ E) (hE2 : 78 ≠ E) (l Bm Bn Y Fb n₀ B0 M : Nat) (J : Nat → World → Prop) (hJ : OwnFrom B0 J)
    (hY : ∀ k x W, (base ++ zsI.filter fun x => outC m x.1)[k]? = some x → J k W → YieldAt Fence.wide M Tryd.prog l #[.agg #[.int .i64 (x.1.1 : Int), .int .i64 (x.1.2 : Int)]] W fun e W' =>
      e = .returned (.bool true) ∧ J (k + 1) W' ∧ KpC n₀ Bm Bn B0 E W W')
    (W : World) (hB0 : B0 ≤ W.heap.size) (hn0 : n₀ ≤ B0) (hmB : Bm < B0) (hcm : W.cell? ⟨Bm, 0, none⟩ = some (.int .i64 (m : Int))) (hcn : W.cell? ⟨Bn, 0, none⟩ = some (.int .i64 (n : Int)))
    (hbY : Boxed W Y 78 (.func (.yield l) #[] #[])) (hbF : Boxed W Fb 3 (.int .i64 (lowN m : Int))) (hY0 : B0 ≤ Y) (hF0 : B0 ≤ Fb) (hj : J base.length W)
    (v7 v8 v9 v10 v11 v12 v13 v14 v15 v16 v17 v18 v19 v20 v21 v22 v23 : Value) (R : Ending → World → Prop) (hR : ∀ v W', J (base ++ zsI.filter fun x => outC m x.1).length W' → R (.returned v) W') :
    c.wpIn Fence.wide 4 Tryd.prog (bodyPostM Fence.wide 4 Tryd.prog Tryd.f76 R)
      { tmps := #[.func (.yield l) #[] #[], .pointer (some ⟨Bm, 0, none⟩), .pointer (some ⟨Bn, 0, none⟩), .pointer (some ⟨Y, 0, none⟩), .pointer (some ⟨Fb, 0, none⟩), undef, undef, v7, v8, v9, v10, v11, v12, v13, v14, v15, v16, v17, v18, v19, v20, v21, v22, v23, undef, undef, undef, undef, undef, undef, undef, undef, undef, undef, undef, undef, undef, undef, undef, undef, undef, undef, undef, undef, undef, undef, undef], defers := [] } W := by
  simp only [bodyC, Tryd.f76, restC, Option.getD_some] at hc
  subst hc
  have HW : ((m : Int) - 1) = ((m - 1 : Nat) : Int) := by omega
  have hm1 : m - 1 < n := by omega
  have hm2 : m - 1 < 1073741824 := by omega
  obtain ⟨i, hi⟩ : ∃ i, i = m - 1 := ⟨_, rfl⟩
  rw [← hi] at HW hm1 hm2 hzI
  have HZ := Lib.hid hzI
  have HLOW : lowN m ≤ 1073741824 := by have := lowN_le m; omega
  have hm3 : m ≤ 1073741824 := by omega
  clear hzI hi
  gi_wp2_with (refine ⟨trivial, ?_⟩; gi_at_call 43; refine (parts_in _ _ _ _).mono ?_; rintro e w' ⟨rfl, rfl⟩)
  obtain ⟨B, hB⟩ : ∃ B, B = W.heap.size := ⟨_, rfl⟩
  simp only [← hB]
  obtain ⟨w4, hw4⟩ : ∃ w4, w4 = (W.alloc (.cells #[.int .i64 (i : Int)] 3)).alloc (.cells #[.int .i64 (n : Int)] 3) := ⟨_, rfl⟩
  rw [← hw4]
  have hsz : w4.heap.size = B + 2 := by rw [hw4, hB]; simp
  have bI : Boxed w4 B 3 (.int .i64 (i : Int)) := by rw [hw4, hB]; exact (Boxed.new W 3 (.int .i64 (i : Int))).alloc _
  have bN : Boxed w4 (B + 1) 3 (.int .i64 (n : Int)) := by
    have := Boxed.new (W.alloc (.cells #[.int .i64 (i : Int)] 3)) 3 (.int .i64 (n : Int))
    rw [World.size_alloc] at this
    rw [hw4, hB]
    exact this
  have bY : Boxed w4 Y 78 (.func (.yield l) #[] #[]) := by rw [hw4]; exact (hbY.alloc _).alloc _
  have bF : Boxed w4 Fb 3 (.int .i64 (lowN m : Int)) := by rw [hw4]; exact (hbF.alloc _).alloc _
  have hj4 : J base.length w4 := by rw [hw4]; exact hJ.alloc _ (hJ.alloc _ hj)
  have hcm4 : w4.cell? ⟨Bm, 0, none⟩ = some (.int .i64 (m : Int)) := by
    have h1 : Below W.heap.size W w4 := by rw [hw4]; exact ((Below.refl _ W).alloc (Nat.le_refl _) _).alloc (by simp) _
    exact (h1.cell (p := ⟨Bm, 0, none⟩) (show Bm < W.heap.size by omega)).trans hcm
  rw [← hB] at hB0
  clear hw4 hbY hbF hcm hcn hj hB
  have hOI : OwnFrom w4.heap.size (fun (k : Nat) W' => J (base.length + outN m zsI k) W' ∧ Boxed W' Y 78 (.func (.yield l) #[] #[]) ∧ Boxed W' Fb 3 (.int .i64 (lowN m : Int)) ∧ Boxed W' B 3 (.int .i64 (i : Int)) ∧ Boxed W' (B + 1) 3 (.int .i64 (n : Int)) ∧ W'.cell? ⟨Bm, 0, none⟩ = some (.int .i64 (m : Int))) :=
    OwnFrom.and (ownFrom_at (ownFrom_above hJ (by omega)) fun k => base.length + outN m zsI k) (OwnFrom.and (ownFrom_boxed _ Y _ fun _ => _) (OwnFrom.and (ownFrom_boxed _ Fb _ fun _ => _) (OwnFrom.and (ownFrom_boxed _ B _ fun _ => _) (OwnFrom.and (ownFrom_boxed _ (B + 1) _ fun _ => _)
      fun _ _ _ _ h hg hr => cell_kept h hg fun r e => (hr r e).2))))
  refine wpIn_range_gives (zs := zsI) (Kp := KpP n₀ B (B + 1)) (encs := fun x : PA n => #[.agg #[.int .i64 (x.1.1 : Int), .int .i64 (x.1.2 : Int)]]) rfl (by omega)
    (gf := 74) (lb := #[.pointer (some ⟨B, 0, none⟩), .pointer (some ⟨B + 1, 0, none⟩)]) rfl trivial (enters_of Tryd.func74 (by kernel_rfl) rfl)
    (fun l' J' W' _ hbel hJ' hY' h0' => ?seq) KpP.trans (fun W' o o' h _ => KpP.turn W' o' h (by omega) (by omega) (by omega)) (fun _ => rfl) _ hOI ⟨hj4, bY, bF, bI, bN, hcm4⟩
    (fun x a' W' => ∃ k, a' = { tmps := #[.func (.yield l) #[] #[], .pointer (some ⟨Bm, 0, none⟩), .pointer (some ⟨Bn, 0, none⟩), .pointer (some ⟨Y, 0, none⟩), .pointer (some ⟨Fb, 0, none⟩), .pointer (some ⟨k, 0, none⟩), undef, v7, v8, v9, v10, v11, v12, v13, v14, v15, v16, v17, v18, v19, v20, v21, v22, v23,
      .int .i64 (m : Int), .int .i64 (i : Int), .int .i64 (n : Int), .func (.func 74) #[] #[.pointer (some ⟨B, 0, none⟩), .pointer (some ⟨B + 1, 0, none⟩)], .agg #[.int .i64 (x.1.1 : Int), .int .i64 (x.1.2 : Int)], undef, undef, undef, undef, undef, undef, undef, undef, undef, undef, undef, undef, undef, undef, undef, undef, undef, undef], defers := [] } ∧
      k < W'.heap.size ∧ W'.cell? ⟨k, 0, none⟩ = some (.int .i64 (x.1.1 : Int)) ∧ W'.cell? ⟨k, 1, none⟩ = some (.int .i64 (x.1.2 : Int)))
    (fun x a' _ W W' row h hg hr => by
      obtain ⟨k, e, hk, h1, h2⟩ := h
      exact ⟨k, e, Nat.lt_of_lt_of_le hk hg.size, cell_kept h1 hg (fun r e => (hr r e).2), cell_kept h2 hg (fun r e => (hr r e).2)⟩) ?assign ?body ?done
  case seq =>
    refine parts1_at i zsI HZ.out hm1 hn _ (by omega) l' B (B + 1) n₀ J' hY' W' ?_ ?_ ?_
    · exact (hbel.cell (p := ⟨B, 0, none⟩) (by simp; omega)).trans bI.cell
    · exact (hbel.cell (p := ⟨B + 1, 0, none⟩) (by simp; omega)).trans bN.cell
    · exact hJ' _ _ _ none h0' ⟨rfl, rfl, rfl, Nat.le_refl _, fun _ _ _ => rfl⟩ (fun _ e => by cases e)
  case assign =>
    intro l' k x W5 K hIk hK
    have hs5 := hIk.2.2.2.2.1.lt
    gi_wp2
    exact hK _ _ ((KeepsOthers.alloc _ _).from _) ⟨(Below.refl _ W5).alloc (by omega) _, Below.heap_alloc _ _ _ (by omega), Below.heap_alloc _ _ _ (by omega)⟩ (hOI.alloc _ hIk) ⟨W5.heap.size, rfl, by simp, by simp, by simp⟩
  case body =>
    rintro l' k x a' W5 hlB hx ⟨hj5, hbY5, hbF5, hbi, hbn, hcm5⟩ ⟨kb, rfl, hkw, hk0, hk1⟩
    have hYc := hbY5.cell
    have hFc := hbF5.cell
    have hxb := x.2
    have HKB : Hid (∀ W6, KpC n₀ Bm Bn B0 E W5 W6 → KeepsFrom w4.heap.size W5 W6 ∧ KpP n₀ B (B + 1) W5 W6 ∧ Boxed W6 Y 78 (.func (.yield l) #[] #[]) ∧ Boxed W6 Fb 3 (.int .i64 (lowN m : Int)) ∧ Boxed W6 B 3 (.int .i64 (i : Int)) ∧ Boxed W6 (B + 1) 3 (.int .i64 (n : Int)) ∧ W6.cell? ⟨Bm, 0, none⟩ = some (.int .i64 (m : Int))) := Lib.hid fun W6 h => by
      have b1 := h.2.boxed hbi (by omega) hE1
      have b2 := h.2.boxed hbn (by omega) hE1
      exact ⟨h.2.from (by omega), ⟨h.1.1, b1.trans hbi.symm, b2.trans hbn.symm⟩, h.2.boxed hbY5 hY0 hE2, h.2.boxed hbF5 hF0 hE1, b1, b2, (World.cell?_of_block (a := ⟨Bm, 0, none⟩) (w := W5) h.1.2.1).trans hcm5⟩
    have HOLD : Hid (KeepsFrom w4.heap.size W5 W5 ∧ KpP n₀ B (B + 1) W5 W5 ∧ Boxed W5 Y 78 (.func (.yield l) #[] #[]) ∧ Boxed W5 Fb 3 (.int .i64 (lowN m : Int)) ∧ Boxed W5 B 3 (.int .i64 (i : Int)) ∧ Boxed W5 (B + 1) 3 (.int .i64 (n : Int)) ∧ W5.cell? ⟨Bm, 0, none⟩ = some (.int .i64 (m : Int))) :=
      Lib.hid ⟨KeepsFrom.refl _ _, KpP.refl _ _ _ _, hbY5, hbF5, hbi, hbn, hcm5⟩
    by_cases ho : lowN m ≤ x.1.1 ∧ x.1.2 ≤ m
    · have hj6 : J (base.length + outN m zsI (k + 1)) W5 := by rw [outN_no hx (outC_no ho)]; exact hj5
      have HJ6 := Lib.hid hj6
      obtain ⟨ho1, ho2⟩ := ho
      clear hx hj5 hj6 hbY5 hbF5 hbi hbn hlB
      generalize x.1.1 = a at hk0 ho1 hxb ⊢
      generalize x.1.2 = b at hk1 ho2 hxb ⊢
      have ho3 : (lowN m : Int) ≤ (a : Int) := by omega
      have ho4 : (b : Int) ≤ (m : Int) := by omega
      generalize lowN m = lw at hFc ho1 ho3 HLOW HOLD HKB ⊢
      gi_wp2
      refine ⟨fun _ h => (by cases h), ?_⟩
      gi_wp2
      exact ⟨HOLD.out.1, HOLD.out.2.1, HJ6.out, HOLD.out.2.2⟩
    · obtain ⟨e1, e2⟩ := outN_yes hx (outC_yes ho)
      obtain ⟨fn, tmps, assign, body, hy, hRd⟩ := hY _ x W5 (e2 base) hj5
      have HRD := Lib.hid hRd
      have HE1 : Hid (base.length + outN m zsI (k + 1) = base.length + outN m zsI k + 1) := Lib.hid (by omega)
      clear hx hj5 hbY5 hbF5 hbi hbn hlB e1 e2 hRd
      generalize x.1.1 = a at hk0 ho hxb hy ⊢
      generalize x.1.2 = b at hk1 ho hxb hy ⊢
      generalize hlw : lowN m = lw at hFc ho HLOW HOLD HKB ⊢
      by_cases ho1 : lw ≤ a
      · have ho3 : (lw : Int) ≤ (a : Int) := by omega
        have ho4 : ¬ (b : Int) ≤ (m : Int) := by omega
        clear ho hlw
        gi_wp2
        refine (roundIn_any HRD.out).mono ?_
        rintro e W6 ⟨rfl, hj6, hk6⟩
        have HJ6 := Lib.hid hj6
        have HK6 := Lib.hid (HKB.out _ hk6)
        clear hj6 hk6
        gi_wp2
        exact ⟨HK6.out.1, HK6.out.2.1, by rw [HE1.out]; exact HJ6.out, HK6.out.2.2⟩
      · have ho3 : ¬ (lw : Int) ≤ (a : Int) := by omega
        clear ho hlw
        gi_wp2
        refine (roundIn_any HRD.out).mono ?_
        rintro e W6 ⟨rfl, hj6, hk6⟩
        have HJ6 := Lib.hid hj6
        have HK6 := Lib.hid (HKB.out _ hk6)
        clear hj6 hk6
        gi_wp2
        exact ⟨HK6.out.1, HK6.out.2.1, by rw [HE1.out]; exact HJ6.out, HK6.out.2.2⟩
  case done =>
    rintro D W5 hD ⟨hj5, _, _, _, _, _⟩ hK
    rw [outN_all, ← List.length_append] at hj5
    refine ⟨by simp, .inl ⟨_, _, rfl, run_takeDeferred hK, ?_⟩⟩
    exact ⟨_, results_none rfl _ _ _, hR _ _ (hJ.putObj _ hj5 (by omega) hK rfl)⟩

/-- zs: the parts that the closure hands over. -/
def ConsZ {n : Nat} (m : Nat) (zs : List (PA n)) : Prop :=
  (m = n ∧ zs = []) ∨ (m < n ∧ ∃ base zsI : List (PA n), zs = (base ++ zsI.filter fun x => outC m x.1) ∧ zsI.map (fun x => x.1) = prt (m - 1) n ∧ base.map (fun x => x.1) = if 0 < lowN m then [(lowN m, m)] else [])
theorem consZ_ex {m n : Nat} (h0 : 1 ≤ m) (h : m ≤ n) : ∃ zs : List (PA n), ConsZ m zs ∧ zs.map (fun x => x.1) = cprt m n true := by
  by_cases he : m = n
  · exact ⟨[], .inl ⟨he, rfl⟩, by rw [he, cprt_yes]; rfl⟩
  · obtain ⟨zsI, hz⟩ := prt_sub (m - 1) n
    obtain ⟨base, hb⟩ : ∃ base : List (PA n), base.map (fun x => x.1) = if 0 < lowN m then [(lowN m, m)] else [] := by
      by_cases hl : 0 < lowN m
      · exact ⟨[⟨(lowN m, m), lowN_lt h0, h⟩], by rw [if_pos hl]; rfl⟩
      · exact ⟨[], by rw [if_neg hl]; rfl⟩
    refine ⟨_, .inr ⟨by omega, base, zsI, rfl, hz, hb⟩, ?_⟩
    rw [cprt_top he, List.map_append, hb, ← hz, List.filter_map]
    rfl

set_option maxRecDepth 100000 in
set_option maxHeartbeats 4000000 in
/-- The closure of consParts, for every loop body that goes on and keeps what it must; J k: k rounds are over. -/
theorem cons1_in {m n : Nat} (zs : List (PA n)) (hzs : ConsZ m zs) (h0 : 1 ≤ m) (hmn : m ≤ n) (hn : n ≤ 1073741824) (E : TypeId) (hE1 : 3 ≠ E) (hE2 : 78 ≠ E) (M l Bm Bn n₀ : Nat) (J : Nat → World → Prop) (W : World) (hJ : OwnFrom W.heap.size J)
    (hY : ∀ k x W1, zs[k]? = some x → J k W1 → YieldAt Fence.wide (M - 1) Tryd.prog l #[.agg #[.int .i64 (x.1.1 : Int), .int .i64 (x.1.2 : Int)]] W1 fun e W' => e = .returned (.bool true) ∧ J (k + 1) W' ∧ KpC n₀ Bm Bn W.heap.size E W1 W')
    (hn0 : n₀ ≤ W.heap.size) (hmB : Bm < W.heap.size) (hnB : Bn < W.heap.size) (hcm : W.cell? ⟨Bm, 0, none⟩ = some (.int .i64 (m : Int))) (hcn : W.cell? ⟨Bn, 0, none⟩ = some (.int .i64 (n : Int))) (hj : J 0 W) :
    CallsIn Fence.wide M Tryd.prog 76 #[.func (.yield l) #[] #[], .pointer (some ⟨Bm, 0, none⟩), .pointer (some ⟨Bn, 0, none⟩)] W fun e W' => (∃ v, e = .returned v) ∧ J zs.length W' := by
  have hb1 : Below W.heap.size W (W.alloc (.cells #[.func (.yield l) #[] #[]] 78)) := (Below.refl _ W).alloc (Nat.le_refl _) _
  have hm1 := (hb1.cell (p := ⟨Bm, 0, none⟩) hmB).trans hcm
  have hn1 := (hb1.cell (p := ⟨Bn, 0, none⟩) hnB).trans hcn
  have hm3 : m ≤ 1073741824 := by omega
  rcases hzs with ⟨he, hz⟩ | ⟨hlt, base, zsI, hz, hzI, hbase⟩
  · have hj1 : J zs.length (W.alloc (.cells #[.func (.yield l) #[] #[]] 78)) := by rw [hz]; exact hJ.alloc _ hj
    have HJ1 := Lib.hid hj1
    have heq : ((m : Int) == (n : Int)) = true := by simp [he]
    clear he hz hj1 hb1 hJ hY
    refine callsIn_of_wp Tryd.func76 rfl trivial ?_ rfl
    simp only [Tryd.ntmps76, List.size_toArray, List.length_cons, List.length_nil, Nat.reduceAdd, Nat.reduceSub, Array.replicate_succ, Array.replicate_zero, List.push_toArray, List.append_toArray, List.nil_append, List.cons_append]
    gi_wp2
    refine bodyPost_ret (results_none rfl _ _ _) rfl ?_
    exact ⟨⟨_, rfl⟩, HJ1.out⟩
  · have hne : ((m : Int) == (n : Int)) = false := by rw [beq_eq_false_iff_ne]; omega
    obtain ⟨c, hc⟩ : ∃ c, restC (restC (restC (restC (bodyC Tryd.f76)))) = c := ⟨_, rfl⟩
    have HC := Lib.hid hc
    simp only [bodyC, Tryd.f76, restC, Option.getD_some] at hc
    refine callsIn_wide.2 ((callsIn_wide (n := 4)).1 ?_)
    refine callsIn_of_wp_marks Tryd.func76 rfl trivial ?_ rfl
    simp only [Tryd.ntmps76, List.size_toArray, List.length_cons, List.length_nil, Nat.reduceAdd, Nat.reduceSub, Array.replicate_succ, Array.replicate_zero, List.push_toArray, List.append_toArray, List.nil_append, List.cons_append]
    rw [hc]
    subst hz
    have hbt := i64_and m (m - 1) (by omega)
    change bits .and .i64 (m : Int) ((m - 1 : Nat) : Int) = ((lowN m : Nat) : Int) at hbt
    have HW : ((m : Int) - 1) = ((m - 1 : Nat) : Int) := by omega
    have hlm := lowN_le m
    have HCM : Hid (m ≤ n ∧ 1 ≤ m ∧ m < n) := Lib.hid ⟨hmn, h0, hlt⟩
    obtain ⟨lw, hlw⟩ : ∃ lw, lw = lowN m := ⟨_, rfl⟩
    rw [← hlw] at hbt hlm hbase
    have HLW := Lib.hid hlw
    have hb2 : Below W.heap.size W ((W.alloc (.cells #[.func (.yield l) #[] #[]] 78)).alloc (.cells #[.int .i64 (lw : Int)] 3)) := hb1.alloc (by simp) _
    have hm2 := (hb2.cell (p := ⟨Bm, 0, none⟩) hmB).trans hcm
    have hn2 := (hb2.cell (p := ⟨Bn, 0, none⟩) hnB).trans hcn
    have hbY2 := (Boxed.new W 78 (.func (.yield l) #[] #[])).alloc (.cells #[.int .i64 (lw : Int)] 3)
    have hbF2 := Boxed.new (W.alloc (.cells #[.func (.yield l) #[] #[]] 78)) 3 (.int .i64 (lw : Int))
    rw [World.size_alloc] at hbF2
    have hj2 : J 0 ((W.alloc (.cells #[.func (.yield l) #[] #[]] 78)).alloc (.cells #[.int .i64 (lw : Int)] 3)) := hJ.alloc _ (hJ.alloc _ hj)
    have HY := Lib.hid hY
    have HZI := Lib.hid hzI
    have HB2 := Lib.hid hb2
    have HJ2 := Lib.hid hj2
    have HY2 := Lib.hid hbY2
    have HF2 := Lib.hid hbF2
    have HJ := Lib.hid hJ
    clear hc hY hzI hcm hcn hj hb1 hb2 hJ hlw hj2 hbY2 hbF2 hlt h0 hmn
    generalize m - 1 = i at hbt HW hlm
    by_cases hl0 : 0 < lw
    · have hl1 : (0 : Int) < (lw : Int) := by omega
      rw [if_pos hl0] at hbase
      obtain ⟨x0, rfl⟩ : ∃ x0, base = [x0] := List.length_eq_one_iff.1 (by simpa using congrArg List.length hbase)
      have hx0 : x0.1 = (lw, m) := by simpa using hbase
      have hy0 := HY.out 0 x0 _ rfl HJ2.out
      rw [hx0] at hy0
      obtain ⟨fn, tmps, assign, body, hy, hRd⟩ := hy0
      have HRD := Lib.hid hRd
      clear hbase hx0 hRd
      gi_wp2
      refine (roundIn_wide HRD.out).mono ?_
      rintro e W3 ⟨rfl, hj3, hk3⟩
      have HJ3 := Lib.hid hj3
      have HK3 := Lib.hid hk3
      clear hj3 hk3
      gi_wp2
      have hs3 := HK3.out.2.1
      simp only [World.size_alloc] at hs3
      refine cons1_tail c HC.out zsI HZI.out [x0] HCM.out.2.1 HCM.out.1 hn E hE1 hE2 l Bm Bn _ _ n₀ W.heap.size (M - 1) J HJ.out HY.out W3 (by omega) hn0 hmB ?_ ?_ (HK3.out.2.boxed HY2.out (Nat.le_refl _) hE2) ?_ (Nat.le_refl _) (Nat.le_succ _) HJ3.out _ _ _ _ _ _ _ _ _ _ _ _ _ _ _ _ _ _ fun v W' h => ⟨⟨v, rfl⟩, h⟩
      · exact (World.cell?_of_block (a := ⟨Bm, 0, none⟩) HK3.out.1.2.1).trans hm2
      · exact (World.cell?_of_block (a := ⟨Bn, 0, none⟩) HK3.out.1.2.2).trans hn2
      · rw [← HLW.out]
        exact HK3.out.2.boxed HF2.out (Nat.le_succ _) hE1
    · have hl1 : ¬ (0 : Int) < (lw : Int) := by omega
      rw [if_neg hl0] at hbase
      obtain rfl : base = [] := List.map_eq_nil_iff.1 hbase
      clear hbase hl0
      gi_wp2
      refine ⟨fun _ h => (by cases h), ?_⟩
      gi_wp2
      refine cons1_tail c HC.out zsI HZI.out [] HCM.out.2.1 HCM.out.1 hn E hE1 hE2 l Bm Bn _ _ n₀ W.heap.size (M - 1) J HJ.out HY.out _ HB2.out.size hn0 hmB hm2 hn2 HY2.out ?_ (Nat.le_refl _) (Nat.le_succ _) HJ2.out _ _ _ _ _ _ _ _ _ _ _ _ _ _ _ _ _ _ fun v W' h => ⟨⟨v, rfl⟩, h⟩
      rw [← HLW.out]
      exact HF2.out

set_option maxHeartbeats 1000000 in
/-- consParts(m, n): m and n are boxed; the function value captures the boxes. -/
theorem cons_in (M : Nat) (m n : Int) (w : World) :
    CallsIn Fence.wide M Tryd.prog 51 #[.int .i64 m, .int .i64 n] w fun e w' => e = .returned (.func (.func 76) #[] #[.pointer (some ⟨w.heap.size, 0, none⟩), .pointer (some ⟨w.heap.size + 1, 0, none⟩)]) ∧
      w' = (w.alloc (.cells #[.int .i64 m] 3)).alloc (.cells #[.int .i64 n] 3) := by
  refine callsIn_of_wp Tryd.func51 rfl trivial ?_ rfl
  simp only [Tryd.ntmps51, List.size_toArray, List.length_cons, List.length_nil, Nat.reduceAdd, Nat.reduceSub, Array.replicate_succ, Array.replicate_zero, List.push_toArray, List.append_toArray, List.nil_append, List.cons_append]
  gi_wp2
  go_ret
  exact ⟨rfl, rfl⟩
end Go.Proofs.YtlchadbbldkkfaaDoor

/- The contracts of l09In, l01Flag, l09Len and ConsLen as their models have them. -/
namespace Go.Proofs.YtlchadbbldkkfaaDoor
open Go.ChangeShapes Go.WideShapes Go.ChangeAt Go.RowKit

/-- Is there a proof? -/
def consB (m n : Int) : Bool := decide (n ≤ 1048576 ∧ 1 ≤ m ∧ m ≤ n)
theorem consB_yes {m n : Int} (h : n ≤ 1048576 ∧ 1 ≤ m ∧ m ≤ n) : consB m n = true := decide_eq_true h
theorem consB_no {m n : Int} (h : ¬ (n ≤ 1048576 ∧ 1 ≤ m ∧ m ≤ n)) : consB m n = false := decide_eq_false h
/-- The length of the proof, 0 if there is none. -/
def clenZ (m n : Int) : Int := if consB m n = true then (clenN m.toNat n.toNat true : Int) else 0

set_option maxHeartbeats 1000000 in
theorem l09In_any (m n : Int) (w : World) :
    Calls Tryd.prog 64 #[.int .i64 m, .int .i64 n] w (fun e w' => e = .returned (.bool (consB m n)) ∧ w = w') := by
  by_cases h1 : n ≤ 1048576
  · by_cases h2 : 1 ≤ m ∧ m ≤ n
    · rw [consB_yes ⟨h1, h2⟩]
      have HA := Lib.hid (fun w => l01In_yes m 1 n w h2.1 h2.2)
      clear h2
      go_enter Tryd.func64, Tryd.ntmps64
      go_wp2_with fail
      refine (HA.out _).mono ?_
      rintro e _ ⟨rfl, rfl⟩
      go_wp2
      go_ret
      exact ⟨rfl, rfl⟩
    · rw [consB_no (fun e => h2 e.2)]
      have HA := Lib.hid (fun w => l01In_no m 1 n w h2)
      clear h2
      go_enter Tryd.func64, Tryd.ntmps64
      go_wp2_with fail
      refine (HA.out _).mono ?_
      rintro e _ ⟨rfl, rfl⟩
      go_wp2
      go_ret
      exact ⟨rfl, rfl⟩
  · rw [consB_no (fun e => h1 e.1)]
    go_enter Tryd.func64, Tryd.ntmps64
    go_wp2
    go_ret
    exact ⟨rfl, rfl⟩

theorem l01Flag_any (b : Bool) (w : World) :
    Calls Tryd.prog 91 #[.bool b] w (fun e w' => e = .returned (.int .i64 (if b = true then 1 else 0)) ∧ w = w') := by
  cases b <;>
  · go_enter Tryd.func91, Tryd.ntmps91
    go_wp2
    go_ret
    exact ⟨rfl, rfl⟩

set_option maxHeartbeats 2000000 in
theorem l09Len_in : ∀ (f m n : Nat) (b : Bool) (w : World), n ≤ f → 1 ≤ m → m ≤ n → n ≤ 1048576 →
    Calls Tryd.prog 81 #[.int .i64 (m : Int), .int .i64 (n : Int), .bool b] w (fun e w' => e = .returned (.int .i64 (clenN m n b : Int)) ∧ w = w') := by
  intro f
  induction f with
  | zero => intro m n b w hf h0 hm; omega
  | succ f ih =>
    intro m n b w hf h0 hm hn
    by_cases h1 : m = n
    · have h1' : ((m : Int) == (n : Int)) = true := by simp [h1]
      have HF := Lib.hid (fun w => l01Flag_any (!b) w)
      have hr : (clenN m n b : Int) = if (!b) = true then 1 else 0 := by
        cases b with
        | true => rw [h1, clenN_yes]; rfl
        | false => rw [h1, clenN_no]; rfl
      rw [hr]
      generalize (if (!b) = true then (1 : Int) else 0) = R at HF ⊢
      clear h1 ih hr
      go_enter Tryd.func81, Tryd.ntmps81
      go_wp2_with fail
      refine (HF.out _).mono ?_
      rintro e _ ⟨rfl, rfl⟩
      go_wp2
      go_ret
      exact ⟨rfl, rfl⟩
    · have h1' : ((m : Int) == (n : Int)) = false := by rw [beq_eq_false_iff_ne]; omega
      have hn2 : 2 ≤ n := by omega
      have hlt := splitN_lt hn2
      have hps := splitN_pos hn2
      have HA := Lib.hid (fun w => specSplitAt_any (n : Int) w (by omega))
      rw [splitZ_nat] at HA
      by_cases hk : m ≤ splitN n
      · rw [clenN_left hn2 h0 hk]
        generalize splitN n = s at hlt hps HA hk ⊢
        have IH := Lib.hid (fun w => ih m s b w (by omega) h0 hk (by omega))
        have hb := cprt_len (b := b) h0 hk (show s ≤ 2 ^ 30 by omega)
        change clenN m s b ≤ 31 at hb
        have hki : (m : Int) ≤ (s : Int) := by omega
        generalize clenN m s b = R at hb IH ⊢
        clear h1 ih hn2
        go_enter Tryd.func81, Tryd.ntmps81
        go_wp2_with fail
        refine (HA.out _).mono ?_
        rintro e w' ⟨rfl, hw⟩
        obtain rfl : w = w' := hw.symm
        go_wp2_with fail
        refine (IH.out _).mono ?_
        rintro e _ ⟨rfl, rfl⟩
        go_wp2
        go_ret
        exact ⟨by go_num, rfl⟩
      · rw [clenN_right hn2 (by omega) (by omega)]
        generalize splitN n = s at hlt hps HA hk ⊢
        have IH := Lib.hid (fun w => ih (m - s) (n - s) false w (by omega) (by omega) (by omega) (by omega))
        have hb := cprt_len (m := m - s) (n := n - s) (b := false) (by omega) (by omega) (show n - s ≤ 2 ^ 30 by omega)
        change clenN (m - s) (n - s) false ≤ 31 at hb
        have hki : ¬ (m : Int) ≤ (s : Int) := by omega
        have e1 : (m : Int) - (s : Int) = ((m - s : Nat) : Int) := by omega
        have e2 : (n : Int) - (s : Int) = ((n - s : Nat) : Int) := by omega
        have hx1 : m - s ≤ 1048576 := by omega
        have hx2 : n - s ≤ 1048576 := by omega
        generalize clenN (m - s) (n - s) false = R at hb IH ⊢
        generalize m - s = m' at e1 IH hx1
        generalize n - s = n' at e2 IH hx2
        clear h1 ih hn2
        go_enter Tryd.func81, Tryd.ntmps81
        go_wp2_with fail
        refine (HA.out _).mono ?_
        rintro e w' ⟨rfl, hw⟩
        obtain rfl : w = w' := hw.symm
        go_wp2_with fail
        refine (IH.out _).mono ?_
        rintro e _ ⟨rfl, rfl⟩
        go_wp2
        go_ret
        exact ⟨by go_num, rfl⟩

set_option maxHeartbeats 1000000 in
theorem specConsLen_any (m n : Int) (w : World) :
    Calls Tryd.prog 65 #[.int .i64 m, .int .i64 n] w (fun e w' => e = .returned (.int .i64 (clenZ m n)) ∧ w = w') := by
  unfold clenZ
  have HI := Lib.hid (fun w => l09In_any m n w)
  by_cases h : n ≤ 1048576 ∧ 1 ≤ m ∧ m ≤ n
  · rw [consB_yes h] at HI
    rw [if_pos (consB_yes h)]
    obtain ⟨k, rfl⟩ := Int.eq_ofNat_of_zero_le (show 0 ≤ m by omega)
    obtain ⟨q, rfl⟩ := Int.eq_ofNat_of_zero_le (show 0 ≤ n by omega)
    have HL := Lib.hid (fun w => l09Len_in q k q true w (Nat.le_refl _) (by omega) (by omega) (by omega))
    simp only [Int.toNat_natCast]
    generalize clenN k q true = R at HL ⊢
    clear h
    go_enter Tryd.func65, Tryd.ntmps65
    go_wp2_with fail
    refine (HI.out _).mono ?_
    rintro e _ ⟨rfl, rfl⟩
    go_wp2_with fail
    refine (HL.out _).mono ?_
    rintro e _ ⟨rfl, rfl⟩
    go_wp2
    go_ret
    exact ⟨rfl, rfl⟩
  · rw [consB_no h] at HI
    rw [consB_no h, if_neg (by decide)]
    clear h
    go_enter Tryd.func65, Tryd.ntmps65
    go_wp2_with fail
    refine (HI.out _).mono ?_
    rintro e _ ⟨rfl, rfl⟩
    go_wp2
    go_ret
    exact ⟨rfl, rfl⟩
theorem specConsLenB_any (m n : Int) (w : World) :
    Calls Tryd.prog 65 #[.int .i64 m, .int .i64 n] w (fun e w' => e = .returned (.int .i64 (clenZ m n)) ∧ Below w.heap.size w w') :=
  (specConsLen_any m n w).mono fun e w' h => ⟨h.1, by rw [← h.2]; exact Below.refl _ _⟩
end Go.Proofs.YtlchadbbldkkfaaDoor

/- The contracts of isPrefix, hasCons and ConsLen as the program has them: a range over the parts of a consistency proof that counts them. -/
namespace Go.Proofs.YtlchadbbldkkfaaDoor
open Go.ChangeShapes Go.WideShapes Go.ChangeAt Go.RowKit Go.Shelf

attribute [local go_sem] Oper.semAt_some

/-- Is m from 1 to n? -/
def prefB (m n : Int) : Bool := decide (1 ≤ m ∧ m ≤ n)
theorem prefB_yes {m n : Int} (h : 1 ≤ m ∧ m ≤ n) : prefB m n = true := decide_eq_true h
theorem prefB_no {m n : Int} (h : ¬ (1 ≤ m ∧ m ≤ n)) : prefB m n = false := decide_eq_false h

set_option maxHeartbeats 1000000 in
theorem isPrefix_any (m n : Int) (w : World) :
    Calls Tryd.prog 50 #[.int .i64 m, .int .i64 n] w (fun e w' => e = .returned (.bool (prefB m n)) ∧ w = w') := by
  by_cases h1 : 1 ≤ m
  · by_cases h2 : m ≤ n
    · rw [prefB_yes ⟨h1, h2⟩]
      go_enter Tryd.func50, Tryd.ntmps50
      go_wp2
      go_ret
      exact ⟨by first | rfl | simp [h2], rfl⟩
    · rw [prefB_no (by omega)]
      go_enter Tryd.func50, Tryd.ntmps50
      go_wp2
      go_ret
      exact ⟨by first | rfl | simp [h2], rfl⟩
  · rw [prefB_no (by omega)]
    go_enter Tryd.func50, Tryd.ntmps50
    go_wp2
    go_ret
    exact ⟨rfl, rfl⟩

set_option maxHeartbeats 1000000 in
theorem hasCons_any (m n : Int) (w : World) :
    Calls Tryd.prog 52 #[.int .i64 m, .int .i64 n] w (fun e w' => e = .returned (.bool (consB m n)) ∧ w = w') := by
  by_cases h1 : 1 ≤ m ∧ m ≤ n
  · have HA := Lib.hid (fun w => isPrefix_any m n w)
    rw [prefB_yes h1] at HA
    by_cases h2 : n ≤ 1048576
    · rw [consB_yes ⟨h2, h1⟩]
      clear h1
      go_enter Tryd.func52, Tryd.ntmps52
      go_wp2_with fail
      refine (HA.out _).mono ?_
      rintro e _ ⟨rfl, rfl⟩
      go_wp2
      go_ret
      exact ⟨by first | rfl | simp [h2], rfl⟩
    · rw [consB_no (fun e => h2 e.1)]
      clear h1
      go_enter Tryd.func52, Tryd.ntmps52
      go_wp2_with fail
      refine (HA.out _).mono ?_
      rintro e _ ⟨rfl, rfl⟩
      go_wp2
      go_ret
      exact ⟨by first | rfl | simp [h2], rfl⟩
  · rw [consB_no (fun e => h1 e.2)]
    have HA := Lib.hid (fun w => isPrefix_any m n w)
    rw [prefB_no h1] at HA
    clear h1
    go_enter Tryd.func52, Tryd.ntmps52
    go_wp2_with fail
    refine (HA.out _).mono ?_
    rintro e _ ⟨rfl, rfl⟩
    go_wp2
    go_ret
    exact ⟨rfl, rfl⟩

theorem zsC_len {m n : Nat} {zs : List (PA n)} (hz : zs.map (fun x => x.1) = cprt m n true) : zs.length = clenN m n true := by
  unfold clenN
  rw [← hz, List.length_map]
theorem at_lt {α : Type} {zs : List α} {k : Nat} {x : α} (h : zs[k]? = some x) : k < zs.length := (List.getElem?_eq_some_iff.1 h).1

set_option maxRecDepth 100000 in
set_option maxHeartbeats 4000000 in
theorem implConsLen_in (m n : Nat) (w : World) (h0 : 1 ≤ m) (hmn : m ≤ n) (hn : n ≤ 1048576) :
    Calls Tryd.prog 20 #[.int .i64 (m : Int), .int .i64 (n : Int)] w (fun e w' => e = .returned (.int .i64 (clenN m n true : Int)) ∧ Below w.heap.size w w') := by
  have HP := Lib.hid (fun w => hasCons_any (m : Int) (n : Int) w)
  rw [consB_yes (by omega)] at HP
  obtain ⟨zs, hzs, hzm⟩ := consZ_ex h0 hmn
  have HZ := Lib.hid hzs
  have HN := Lib.hid (zsC_len hzm)
  have hb := cprt_len (b := true) h0 hmn (show n ≤ 2 ^ 30 by omega)
  change clenN m n true ≤ 31 at hb
  generalize clenN m n true = R at HN hb ⊢
  clear hzs hzm
  refine (callsIn_wide (n := 4)).1 ?_
  refine callsIn_of_wp_marks Tryd.func20 rfl trivial ?_ rfl
  simp only [Tryd.ntmps20, List.size_toArray, List.length_cons, List.length_nil, Nat.reduceAdd, Nat.reduceSub, Array.replicate_succ, Array.replicate_zero, List.push_toArray, List.append_toArray, List.nil_append, List.cons_append]
  gi_wp2_with (first
    | (refine ⟨trivial, ?_⟩; gi_at_call 52; refine (callsIn_wide.2 (HP.out _)).mono ?_; rintro e _ ⟨rfl, rfl⟩)
    | (refine ⟨trivial, ?_⟩; gi_at_call 51; refine (cons_in _ _ _ _).mono ?_; rintro e w' ⟨rfl, rfl⟩))
  obtain ⟨B, hB⟩ : ∃ B, B = w.heap.size := ⟨_, rfl⟩
  rw [← hB]
  obtain ⟨w3, hw3⟩ : ∃ w3, w3 = ((w.alloc (.cells #[.int .i64 0] 3)).alloc (.cells #[.int .i64 (m : Int)] 3)).alloc (.cells #[.int .i64 (n : Int)] 3) := ⟨_, rfl⟩
  rw [← hw3]
  have bS : Boxed w3 B 3 (.int .i64 ((0 : Nat) : Int)) := by rw [hw3, hB]; exact ((Boxed.new w 3 (.int .i64 0)).alloc _).alloc _
  have bI : Boxed w3 (B + 1) 3 (.int .i64 (m : Int)) := by
    have := (Boxed.new (w.alloc (.cells #[.int .i64 0] 3)) 3 (.int .i64 (m : Int))).alloc (.cells #[.int .i64 (n : Int)] 3)
    rw [World.size_alloc] at this
    rw [hw3, hB]
    exact this
  have bN : Boxed w3 (B + 1 + 1) 3 (.int .i64 (n : Int)) := by
    have := Boxed.new ((w.alloc (.cells #[.int .i64 0] 3)).alloc (.cells #[.int .i64 (m : Int)] 3)) 3 (.int .i64 (n : Int))
    rw [World.size_alloc, World.size_alloc] at this
    rw [hw3, hB]
    exact this
  have hsz : w3.heap.size = B + 3 := by rw [hw3, hB]; simp
  have hBL : Below B w w3 := by rw [hw3, hB]; exact (((Below.refl _ w).alloc (Nat.le_refl _) _).alloc (by simp) _).alloc (by simp; omega) _
  have HB := Lib.hid hB
  clear hw3 hB
  refine wpIn_range_gives (zs := zs) (Kp := KpC B (B + 1) (B + 1 + 1) (w3.heap.size + 2) 1000000) (encs := fun x : PA n => #[.agg #[.int .i64 (x.1.1 : Int), .int .i64 (x.1.2 : Int)]]) rfl (by omega)
    (gf := 76) (lb := #[.pointer (some ⟨B + 1, 0, none⟩), .pointer (some ⟨B + 1 + 1, 0, none⟩)]) rfl trivial (enters_of Tryd.func76 (by kernel_rfl) rfl)
    (fun l' J W hW hbel hJ hY hj => ?seq) KpC.trans (fun W o o' h _ => ⟨KpP.turn W o' h (by omega) (by omega) (by omega), KeepsBut.turn W o' (by omega)⟩) (fun _ => rfl)
    (fun k W => Boxed W B 3 (.int .i64 (k : Int)) ∧ Below B w W)
    (OwnFrom.and (ownFrom_boxed _ B 3 fun k : Nat => .int .i64 (k : Int)) (ownFrom_below (Nat.le_of_eq HB.out) (by omega)))
    ⟨bS, hBL⟩
    (fun x a' _ => a' = { tmps := #[.int .i64 (m : Int), .int .i64 (n : Int), undef, undef, .int .i64 0, .pointer (some ⟨B, 0, none⟩), .int .i64 (m : Int), .int .i64 (n : Int), .bool true, .bool false, .int .i64 (m : Int), .int .i64 (n : Int),
      .func (.func 76) #[] #[.pointer (some ⟨B + 1, 0, none⟩), .pointer (some ⟨B + 1 + 1, 0, none⟩)], .agg #[.int .i64 (x.1.1 : Int), .int .i64 (x.1.2 : Int)], undef, undef, undef], defers := [] }) (fun _ _ _ _ _ _ hs _ _ => hs) ?assign ?body ?done
  case seq =>
    refine cons1_in zs HZ.out h0 hmn (by omega) 1000000 (by decide) (by decide) _ l' (B + 1) (B + 1 + 1) B J W (by rw [hW]; exact hJ) (by rw [hW]; exact hY) (by omega) (by omega) (by omega) ?_ ?_ hj
    · exact (hbel.cell (p := ⟨B + 1, 0, none⟩) (by simp; omega)).trans bI.cell
    · exact (hbel.cell (p := ⟨B + 1 + 1, 0, none⟩) (by simp; omega)).trans bN.cell
  case assign =>
    intro l' k x W K hI hK
    gi_wp2
    refine hK _ _ (KeepsFrom.refl _ _) ⟨KpP.refl _ _ _ _, KeepsBut.refl _ _ _⟩ hI ?_
    simp
  case body =>
    rintro l' k x a' W _ hx ⟨hv, hbw⟩ rfl
    have hvc := hv.cell
    have hvf := hv.frozen
    have hk31 : k < 31 := by have := at_lt hx; have := HN.out; omega
    clear hx
    have hgv : B ≤ B := Nat.le_refl _
    have HL : Hid (((k : Int) + 1) = ((k + 1 : Nat) : Int)) := Lib.hid rfl
    gi_wp2
    refine ⟨(KeepsOthers.setCell _ _ _).from _, ⟨⟨(Below.refl B W).setCell (p := ⟨B, 0, none⟩) hgv _, Below.heap_setCell _ _ _ _ (by simp), Below.heap_setCell _ _ _ _ (show B + 1 + 1 ≠ B by omega)⟩, KeepsBut.of_grownBy (grownBy_setCell' W B _) fun j e => .inl (by cases e; omega)⟩, ?_, hbw.setCell (p := ⟨B, 0, none⟩) hgv _⟩
    rw [HL.out]
    exact hv.set _
  case done =>
    rintro D W hD ⟨hv, hbw⟩ hK
    have hvc := hv.cell
    rw [HN.out] at hvc
    clear hv
    gi_wp2
    refine ⟨by simp, .inl ⟨_, _, rfl, run_takeDeferred hK, ?_⟩⟩
    refine ⟨.int .i64 (R : Int), by simp [results, Tryd.results20, go_sem], rfl, ?_⟩
    rw [← HB.out]
    exact hbw.trans (belowK_b (w := w3) (by omega) W D _ _ (by omega) hK rfl rfl)

set_option maxHeartbeats 1000000 in
theorem implConsLen_any (m n : Int) (w : World) :
    Calls Tryd.prog 20 #[.int .i64 m, .int .i64 n] w (fun e w' => e = .returned (.int .i64 (clenZ m n)) ∧ Below w.heap.size w w') := by
  unfold clenZ
  by_cases h : n ≤ 1048576 ∧ 1 ≤ m ∧ m ≤ n
  · rw [if_pos (consB_yes h)]
    obtain ⟨k, rfl⟩ := Int.eq_ofNat_of_zero_le (show 0 ≤ m by omega)
    obtain ⟨q, rfl⟩ := Int.eq_ofNat_of_zero_le (show 0 ≤ n by omega)
    exact implConsLen_in k q w (by omega) (by omega) (by omega)
  · rw [consB_no h, if_neg (by decide)]
    have HI := Lib.hid (fun w => hasCons_any m n w)
    rw [consB_no h] at HI
    clear h
    go_enter Tryd.func20, Tryd.ntmps20
    go_wp2_with fail
    refine (HI.out _).mono ?_
    rintro e _ ⟨rfl, rfl⟩
    go_wp2
    go_ret
    exact ⟨rfl, Below.refl _ _⟩
end Go.Proofs.YtlchadbbldkkfaaDoor
