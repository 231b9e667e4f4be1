/- The contract of StackRoot as the program has it: a range over slices.Backward. -/
import Derived.Test.YtdoaikanaodefaaDoorStackPush
import Derived.RangeFuncNested
import Derived.RangeFuncBound
import Derived.RangeFuncCalls
import Derived.RangeFuncLeaves
import Derived.RangeFuncBox
import Derived.Shelf.Abstract
import Derived.Shelf.RegionOpen
import Derived.WalkKit
import Derived.OwnWalkIn
import Derived.TacticsInMore
import Derived.LoopNIn
import Derived.LoopIn
namespace Go.Proofs.YtdoaikanaodefaaDoor
open Go.ChangeShapes Go.WideShapes Go.ChangeAt Go.RowKit Go.Shelf

attribute [local go_sem] Oper.semAt_some

/-- What a round keeps: memory below n₀, and the variable in which the iterator has its slice. -/
def KpB (n₀ Bs : Nat) (W W' : World) : Prop := Below n₀ W W' ∧ W'.heap[Bs]? = W.heap[Bs]?
theorem KpB.refl (n₀ Bs : Nat) (W : World) : KpB n₀ Bs W W := ⟨Below.refl _ _, rfl⟩
theorem KpB.trans {n₀ Bs : Nat} {A B C : World} (h : KpB n₀ Bs A B) (k : KpB n₀ Bs B C) : KpB n₀ Bs A C := ⟨h.1.trans k.1, k.2.trans h.2⟩
theorem kpB_b {n₀ Bs : Nat} {w : World} (hn : n₀ ≤ w.heap.size) (hs : Bs < w.heap.size) (W : World) (l : Nat) (o o' : Obj) (hl : w.heap.size ≤ l) (h : W.heap[l]? = some o) (h1 : o.isCells = false) (h2 : o.isWalk = false) : KpB n₀ Bs W (W.putObj l o') :=
  ⟨belowK_b hn W l o o' hl h h1 h2, World.putObj_heap_other (by omega)⟩
theorem pick {α : Type} {P : Nat → α → Prop} : ∀ m : Nat, (∀ k, k < m → ∃ x, P k x) → ∃ zs : List α, zs.length = m ∧ ∀ k (h : k < zs.length), P k zs[k] := by
  intro m
  induction m with
  | zero => exact fun _ => ⟨[], rfl, fun k h => absurd h (by simp)⟩
  | succ m ih =>
    intro h
    obtain ⟨zs, hl, hz⟩ := ih fun k hk => h k (by omega)
    obtain ⟨x, hx⟩ := h m (by omega)
    refine ⟨zs ++ [x], by simp [hl], fun k hk => ?_⟩
    rcases Nat.lt_or_ge k zs.length with h1 | h1
    · rw [List.getElem_append_left h1]
      exact hz k h1
    · have : k = zs.length := by simp at hk; omega
      subst this
      rw [List.getElem_append_right (Nat.le_refl _)]
      simp only [Nat.sub_self, List.getElem_cons_zero]
      rw [hl]
      exact hx

set_option maxRecDepth 100000 in
set_option maxHeartbeats 2000000 in
/-- slices.Backward's closure, for every loop body that keeps what lay below n₀ and the iterator's own variable. -/
theorem back1_in {α : Type} (num : α → Nat) (val : α → Value) (zs : List α) (hnum : ∀ k (h : k < zs.length), num zs[k] = k) (F : Fence) (n : Nat) (hF : F.fn 82) (hro : F.round = none) (hn : 1 ≤ n) (l Bs n₀ b off cap : Nat)
    (hz : zs.length ≤ cap) (hreach : cap ≤ 9223372036854775807) (hb : b < n₀) (J Jx : List α → World → Prop)
    (hY : ∀ pre x W, J pre W → pre.length < zs.length → YieldAt F (n - 1) Tryd.prog l #[.int .i64 (num x : Int), val x] W fun e W' =>
      (e = .returned (.bool true) ∧ J (pre ++ [x]) W' ∧ KpB n₀ Bs W W') ∨ (e = .returned (.bool false) ∧ Jx (pre ++ [x]) W'))
    (W : World) (hBs : W.cell? ⟨Bs, 0, none⟩ = some (.slice (some ⟨b, off, none⟩) zs.length cap)) (hc : ∀ k (h : k < zs.length), W.cell? ⟨b, off + k, none⟩ = some (val zs[k])) (h0 : J [] W) :
    CallsIn F n Tryd.prog 82 #[.func (.yield l) #[] #[], .pointer (some ⟨Bs, 0, none⟩)] W fun e W' => (∃ v, e = .returned v) ∧
      ((∃ ys, ys = zs.reverse ∧ J ys W') ∨ (∃ pre, True ∧ Jx pre W')) := by
  refine callsIn_of_wp Tryd.func82 rfl hF ?_ hro
  simp only [Tryd.ntmps82, List.size_toArray, List.length_cons, List.length_nil, Nat.reduceAdd, Nat.reduceSub, Array.replicate_succ, Array.replicate_zero, List.push_toArray, List.append_toArray, List.nil_append, List.cons_append]
  obtain ⟨N, hN⟩ : ∃ N, N = zs.length := ⟨_, rfl⟩
  rw [← hN] at hz hBs
  have HNN := Lib.hid hN
  have HC := Lib.hid hc
  have HY := Lib.hid hY
  have HNUM := Lib.hid hnum
  clear hc hY hnum hN
  gi_wp2
  gi_loopw [3] (fun i wr => ∃ (k : Nat) (z : Int), k ≤ N ∧ i = .int .i64 z ∧ Hid (z = (k : Int) - 1) ∧ J ((zs.drop k).reverse) wr ∧ KpB n₀ Bs W wr)
    (fun i _ => ((intOf i) + 1).toNat)
  case atStart => exact ⟨N, (N : Int) - 1, Nat.le_refl _, rfl, Lib.hid rfl, by rw [HNN.out, List.drop_length]; exact h0, KpB.refl _ _ _⟩
  case round =>
    obtain ⟨k, z, hk, rfl, hzk, hJs, hkp⟩ := hrel
    have HKP := Lib.hid hkp
    have hbs : wr.cell? ⟨Bs, 0, none⟩ = some (.slice (some ⟨b, off, none⟩) N cap) := (World.cell?_of_block (a := ⟨Bs, 0, none⟩) (w := W) hkp.2).trans hBs
    clear hkp
    rcases k with _ | k
    · have hz0 : z < 0 := by have := hzk.out; omega
      clear hzk
      gi_wp2
      go_end0
      exact ⟨⟨_, rfl⟩, .inl ⟨_, rfl, hJs⟩⟩
    · obtain rfl : z = (k : Int) := by have := hzk.out; omega
      have hkz : k < zs.length := by have := HNN.out; omega
      have hy1 := HY.out ((zs.drop (k + 1)).reverse) zs[k] wr hJs (by rw [List.length_reverse, List.length_drop]; omega)
      rw [HNUM.out k hkz] at hy1
      have hcx := (HKP.out.1.cell (p := ⟨b, off + k, none⟩) hb).trans (HC.out k hkz)
      have hdrop : (zs.drop k).reverse = (zs.drop (k + 1)).reverse ++ [zs[k]] := by rw [List.drop_eq_getElem_cons hkz, List.reverse_cons]
      rw [← hdrop] at hy1
      generalize val zs[k] = X at hy1 hcx
      clear hdrop hzk hJs
      have hkN : (k : Int) < (N : Int) := by omega
      obtain ⟨fn, tmps, assign, body, hy, hR⟩ := hy1
      gi_wp2
      refine hR.mono ?_
      rintro e W3 (⟨rfl, hJ3, hk3⟩ | ⟨rfl, hJx3⟩)
      · have HK3 := Lib.hid (HKP.out.trans hk3)
        gi_wp2
        go_roundw
        case rel => exact ⟨k, (k : Int) - 1, by omega, rfl, Lib.hid rfl, hJ3, HK3.out⟩
        case measure => simp [intOf]
      · gi_wp2
        refine bodyPost_ret (results_none rfl _ _ _) rfl ?_
        exact ⟨⟨_, rfl⟩, .inr ⟨_, trivial, hJx3⟩⟩

set_option maxHeartbeats 1000000 in
/-- slices.Backward(s): the slice is boxed; the function value captures the box. -/
theorem back_in (F : Fence) (n : Nat) (hF : F.fn 47) (hro : F.round = none) (a : Option Addr) (len cap : Nat) (w : World) :
    CallsIn F n Tryd.prog 47 #[.slice a len cap] w fun e w' => e = .returned (.func (.func 82) #[] #[.pointer (some ⟨w.heap.size, 0, none⟩)]) ∧ w' = w.alloc (.cells #[.slice a len cap] 23) := by
  refine callsIn_of_wp Tryd.func47 rfl hF ?_ hro
  simp only [Tryd.ntmps47, List.size_toArray, List.length_cons, List.length_nil, Nat.reduceAdd, Nat.reduceSub, Array.replicate_succ, Array.replicate_zero, List.push_toArray, List.append_toArray, List.nil_append, List.cons_append]
  gi_wp2
  go_ret
  exact ⟨rfl, rfl⟩

/-- What a round hands over: an index and the slice there. -/
abbrev BkA (w : World) (L : List (List UInt8)) (n : Nat) : Type := { p : Nat × Value // p.1 < n ∧ Sl w w.heap.size p.2 (L.getD p.1 []) }
/-- The value after the rounds of pre. -/
def foldB {w : World} {L : List (List UInt8)} {n : Nat} (v : List UInt8) (pre : List (BkA w L n)) : List UInt8 := pre.foldl (fun acc x => nodeL (L.getD x.1.1 []) acc) v
theorem foldB_snoc {w : World} {L : List (List UInt8)} {n : Nat} (v : List UInt8) (pre : List (BkA w L n)) (x : BkA w L n) : foldB v (pre ++ [x]) = nodeL (L.getD x.1.1 []) (foldB v pre) := by simp [foldB]
theorem foldB_down {w : World} {L : List (List UInt8)} {n : Nat} (zs : List (BkA w L n)) (hnum : ∀ k (h : k < zs.length), (zs[k]).1.1 = k) : ∀ (m : Nat) (v : List UInt8), m ≤ zs.length → foldB v (zs.take m).reverse = downL L m v := by
  intro m
  induction m with
  | zero => intro v _; rfl
  | succ m ih =>
    intro v hm
    have ht : zs.take (m + 1) = zs.take m ++ [zs[m]] := by rw [List.take_add_one, List.getElem?_eq_getElem (by omega)]; rfl
    rw [ht, List.reverse_append, downL_succ, ← ih _ (by omega)]
    simp only [List.reverse_cons, List.reverse_nil, List.nil_append, List.cons_append, foldB, List.foldl_cons]
    rw [hnum m (by omega)]

set_option maxRecDepth 100000 in
set_option maxHeartbeats 4000000 in
theorem implStackRoot_any (v : Value) (H : List Int) (L : List (List UInt8)) (w : World) (h : SlK w w.heap.size v H L)
    (hI : Glob w 0 initW) (hG : Glob w 1 kk) :
    Calls Tryd.prog 14 #[v] w (Fresh w (rootS H L)) := by
  have hK := h
  obtain ⟨a, s, rfl, hIs, hS⟩ := h
  obtain ⟨A, c, rfl, p1, p2, p0, p3⟩ := hIs
  obtain ⟨A', c', rfl, q1, q2, q0, q3⟩ := hS
  unfold maxLen at p2 q2
  clear p0 q0 p3
  have hb : Below w.heap.size w (w.alloc (.cells #[.slice A H.length c, .slice A' L.length c'] 27)) := (Below.refl _ w).alloc (Nat.le_refl _) _
  have HK := Lib.hid (hK.up hb)
  clear hK
  cases hok : okS H L with
  | false =>
    rw [rootS_no hok]
    have HO := Lib.hid hok
    clear hok
    go_enter Tryd.func14, Tryd.ntmps14
    go_wp2_with fail
    refine (implStackOk_any _ H L _ HK.out).mono ?_
    rw [HO.out]
    rintro e w2 ⟨rfl, hb2⟩
    go_wp2
    go_ret
    exact ⟨_, rfl, World.ownsRow_nil _ _ _ _, hb.trans (hb2.mono hb.size)⟩
  | true =>
    by_cases h0 : L.length = 0
    case pos =>
      rw [rootS_nil hok h0]
      have HO := Lib.hid hok
      have hl0 : ((L.length : Int) == 0) = true := by rw [h0]; rfl
      clear hok h0
      go_enter Tryd.func14, Tryd.ntmps14
      go_wp2_with fail
      refine (implStackOk_any _ H L _ HK.out).mono ?_
      rw [HO.out]
      rintro e w2 ⟨rfl, hb2⟩
      obtain ⟨hc2, hf2⟩ := bcell hb2
      have hb3 := hb.trans (hb2.mono hb.size)
      go_wp2_with fail
      refine (implSha_any _ [] _ Sl.nil_ (by simp) (hI.below hI.lt hb3) (hG.below hG.lt hb3)).mono ?_
      rintro e w3 ⟨u3, rfl, ho, hb4⟩
      go_wp2
      go_ret
      exact ⟨_, rfl, ho.mono hb3.size, hb3.trans (hb4.mono hb3.size)⟩
    case neg =>
      obtain ⟨R, hR⟩ : ∃ R, rootS H L = R := ⟨_, rfl⟩
      rw [hR]
      rw [rootS_some hok h0] at hR
      have HR := Lib.hid hR
      have HO := Lib.hid hok
      have HH := Lib.hid (fun k (hk : k < L.length) => ok_hash hok hk)
      have hl0 : ((L.length : Int) == 0) = false := by rw [beq_eq_false_iff_ne]; omega
      obtain ⟨n, hn⟩ : ∃ n, L.length = n + 1 := ⟨L.length - 1, by omega⟩
      have HN := Lib.hid hn
      have hlast : (L.length : Int) - 1 = (n : Int) := by omega
      have hnL : n < L.length := by omega
      obtain ⟨b, off, rfl, hbb, hcell⟩ := q3 (by omega)
      have hpick := pick (α := BkA w L n) (P := fun k x => x.1.1 = k ∧ w.cell? ⟨b, off + k, none⟩ = some x.1.2) n (fun k hk => by
        obtain ⟨u, hu, hs⟩ := hcell k (by omega)
        exact ⟨⟨(k, u), hk, hs⟩, rfl, hu⟩)
      obtain ⟨zs, hzl, hzs⟩ := hpick
      have HZL := Lib.hid hzl
      have HZS := Lib.hid hzs
      have hnc : n ≤ c' := by omega
      have hnc2 : (n : Int) ≤ (c' : Int) := by omega
      have hn0 : (0 : Int) ≤ (n : Int) := by omega
      clear hok h0 hR hn hzl hzs q3
      refine (callsIn_wide (n := 3)).1 ?_
      refine callsIn_of_wp_marks Tryd.func14 rfl trivial ?_ rfl
      simp only [Tryd.ntmps14, List.size_toArray, List.length_cons, List.length_nil, Nat.reduceAdd, Nat.reduceSub, Array.replicate_succ, Array.replicate_zero, List.push_toArray, List.append_toArray, List.nil_append, List.cons_append]
      obtain ⟨xv, hx0, hx⟩ := hcell n hnL
      have hxl := HH.out n hnL
      have HR1 := HR.out
      have HN1 := HN.out
      rw [show L.length - 1 = n by omega] at HR1
      generalize L.getD n [] = l at hx hxl HR1
      have HR2 := Lib.hid HR1
      have HXL := Lib.hid hxl
      have hl4 : l.length ≤ 4294967296 := by omega
      clear HR1 hxl HN1
      gi_wp2_with (first
        | (refine ⟨trivial, ?_⟩; gi_at_call 11; refine (callsIn_wide.2 (implStackOk_any _ H L _ HK.out)).mono ?_; rw [HO.out]; rintro e w2 ⟨rfl, hb2⟩;
           have hb3 := hb.trans (hb2.mono hb.size);
           have HBX := Lib.hid (keep2 (w4 := w.alloc (.cells #[.slice A H.length c, .slice (some ⟨b, off, none⟩) L.length c'] 27)) (g := w.heap.size) (p := .slice A H.length c) (q := .slice (some ⟨b, off, none⟩) L.length c') ⟨by simp, by simp⟩ (by simp) hb2);
           have hd1 := HBX.out.2;
           have hx1 := (hb3.cell (p := ⟨b, off + n, none⟩) hbb).trans hx0;
           have hxs := hx.up hb3)
        | (refine ⟨trivial, ?_⟩; gi_at_call 46; refine (callsIn_wide.2 (joined_any _ xv [] l _ Sl.nil_ hxs (by simp) hl4)).mono ?_; rw [List.nil_append]; rintro e w3 ⟨u3, rfl, ho3, hb4⟩;
           have HO3 := Lib.hid ho3;
           obtain ⟨A3, c3, rfl, n1, n2, n0, n3⟩ := ho3.sl;
           have hb5 := hb3.trans (hb4.mono hb3.size);
           have hlt2 : w.heap.size < w2.heap.size := by have := hb2.size; simp at this; omega;
           have hlt3 : w.heap.size < w3.heap.size := by have := hb4.size; omega;
           have hd3 := (hb4.cell (p := ⟨w.heap.size, 1, none⟩) hlt2).trans HBX.out.2;
           clear n1 n2 n0 n3 ho3 hd1 hx1 hxs)
        | (refine ⟨trivial, ?_⟩; gi_at_call 47; refine (back_in Fence.wide _ trivial rfl _ _ _ _).mono ?_; rintro e w' ⟨rfl, rfl⟩))
      have bV := Boxed.new w3 22 (.slice A3 l.length c3)
      have bN := Boxed.new (w3.alloc (.cells #[.slice A3 l.length c3] 22)) 23 (.slice (some ⟨b, off, none⟩) n c')
      rw [World.size_alloc] at bN
      have hBL : Below w.heap.size w ((w3.alloc (.cells #[.slice A3 l.length c3] 22)).alloc (.cells #[.slice (some ⟨b, off, none⟩) n c'] 23)) := (hb5.alloc hb5.size _).alloc (by simp; have := hb5.size; omega) _
      have hO3 : Own 5 w3 w.heap.size (.slice A3 l.length c3) l := HO3.out.mono hb3.size
      have hO3' : Own 5 ((w3.alloc (.cells #[.slice A3 l.length c3] 22)).alloc (.cells #[.slice (some ⟨b, off, none⟩) n c'] 23)) w.heap.size (.slice A3 l.length c3) l := hO3.up (((Below.refl _ _).alloc (Nat.le_refl _) _).alloc (by simp) _)
      refine wpIn_rangeFunc_ownG (w0 := ((w3.alloc (.cells #[.slice A3 l.length c3] 22)).alloc (.cells #[.slice (some ⟨b, off, none⟩) n c'] 23))) (N := n) (S := fun ys => ys = zs.reverse) (Sp := fun _ => True) (Kp := KpB w.heap.size (w3.heap.size + 1)) (encs := fun x : BkA w L n => #[.int .i64 (x.1.1 : Int), x.1.2]) rfl (by omega)
        (gf := 82) (lb := #[.pointer (some ⟨w3.heap.size + 1, 0, none⟩)]) rfl trivial (enters_of Tryd.func82 (by kernel_rfl) rfl)
        (fun l' J Jx W hW _ _ hY h0 => ?seq) KpB.trans (kpB_b (by simp; omega) (by simp)) (Below.refl _ _) (fun _ => rfl)
        (fun pre W => (∃ v, Boxed W w3.heap.size 22 v ∧ W.ownsRow w.heap.size 5 1 v (foldB l pre).length (us (foldB l pre)) ∧ (foldB l pre).length = 32) ∧ Below w.heap.size w W ∧ w3.heap.size + 1 < W.heap.size)
        (fun _ _ _ => False)
        (OwnFrom.and (Go.Own.from (holdsRow_own w.heap.size w3.heap.size 22 5 1 (fun pre => (foldB l pre).length) (fun pre => us (foldB l pre)) (fun pre _ => (foldB l pre).length = 32)) _) (OwnFrom.and (ownFrom_below (Nat.le_refl _) (by simp; omega)) (fun _ _ _ _ hs hg _ => Nat.lt_of_lt_of_le hs hg.size)))
        (fun _ _ _ _ _ hs _ _ => hs)
        ⟨⟨_, bV.alloc _, hO3', HXL.out⟩, hBL, by simp⟩
        (fun x => { tmps := #[.agg #[.slice A H.length c, .slice (some ⟨b, off, none⟩) L.length c'], .pointer (some ⟨w.heap.size, 0, none⟩), .slice none 0 0, .int .i64 (n : Int), .pointer (some ⟨w3.heap.size, 0, none⟩), undef, x.1.2,
          .agg #[.slice A H.length c, .slice (some ⟨b, off, none⟩) L.length c'], .bool true, .bool false, .pointer (some ⟨w.heap.size, 1, none⟩), .slice (some ⟨b, off, none⟩) L.length c', .int .i64 (L.length : Int), .bool false, undef, .pointer (some ⟨w.heap.size, 1, none⟩),
          .slice (some ⟨b, off, none⟩) L.length c', .int .i64 (L.length : Int), .int .i64 (n : Int), .pointer (some ⟨w.heap.size, 1, none⟩), .slice (some ⟨b, off, none⟩) L.length c', .int .i64 (n : Int), .pointer (some ⟨b, off + n, none⟩), xv, .slice A3 l.length c3,
          .pointer (some ⟨w.heap.size, 1, none⟩), .slice (some ⟨b, off, none⟩) L.length c', .int .i64 (n : Int), .slice (some ⟨b, off, none⟩) n c', .func (.func 82) #[] #[.pointer (some ⟨w3.heap.size + 1, 0, none⟩)], .int .i64 (x.1.1 : Int), x.1.2, undef, undef, undef, undef], defers := [] }) ?assign ?body ?done ?stop
      case seq =>
        have hBW := hBL.trans (hW.mono hBL.size)
        refine back1_in (fun x : BkA w L n => x.1.1) (fun x => x.1.2) zs (fun k h => (HZS.out k h).1) Fence.wide _ trivial rfl (by omega) l' (w3.heap.size + 1) w.heap.size b off c' (by rw [HZL.out]; exact hnc) (by omega) hbb J Jx (fun pre x W h1 h2 => hY pre x W h1 (Nat.lt_of_lt_of_eq h2 HZL.out)) W ?_ (fun k h => (hBW.cell (p := ⟨b, off + k, none⟩) hbb).trans (HZS.out k h).2) h0
        rw [HZL.out]
        exact (hW.cell (p := ⟨w3.heap.size + 1, 0, none⟩) (by simp)).trans bN.cell
      case assign =>
        intro l' x W K hK
        gi_wp2
        exact hK
      case body =>
        rintro l' pre x W ⟨⟨v, hv, ho, hl32⟩, hB, hsz⟩ _
        have hO : Own 5 W w.heap.size v (foldB l pre) := ho
        obtain ⟨A5, c5, rfl, n1, n2, n0, n3⟩ := hO.sl
        have hxs : Sl W W.heap.size x.1.2 (L.getD x.1.1 []) := (x.2.2.below hB).mono hB.size
        have hxl : (L.getD x.1.1 []).length = 32 := HH.out x.1.1 (by have := x.2.1; omega)
        have hsn := foldB_snoc l pre x
        have hvc := hv.cell
        have hvf := hv.frozen
        have hvlt := hv.lt
        have h12 : 1 ≤ 3 - 1 - 1 := by omega
        have hgvn : w.heap.size ≤ w3.heap.size := hb5.size
        have hne3 : w3.heap.size + 1 ≠ w3.heap.size := by omega
        clear n1 n2 n0 n3 ho
        generalize L.getD x.1.1 [] = y at hxs hxl hsn
        generalize hF : foldB l pre = f at hsn hO hl32 hvc hv
        have HSN := Lib.hid hsn
        have HXL3 := Lib.hid hxl
        have HF32 := Lib.hid hl32
        clear hF hsn hxl hl32
        gi_wp2_with (first
          | (refine ⟨trivial, ?_⟩; gi_at_call 48; refine (CallsIn.inRound l' (callsIn_wide.2 (implNodeHash_any x.1.2 _ y f W hxs hO.sl (by rw [HXL3.out]; omega) (by rw [HF32.out]; omega) (hI.below hI.lt hB) (hG.below hG.lt hB)))).mono ?_; rintro e W3 ⟨u, rfl, ho3, hb3'⟩;
             have HO4 := Lib.hid (ho3.mono hB.size);
             have hv3 := hv.kept (grown_of_below hb3' none) (by simp);
             have HV3 := Lib.hid hv3;
             have HB3 := Lib.hid hb3';
             obtain ⟨A6, c6, rfl, n1, n2, n0, n3⟩ := ho3.sl;
             have hvc3 := hv3.cell;
             have hvf3 := hv3.frozen;
             clear n1 n2 n0 n3 ho3 hv3 hb3' hvc hvf))
        refine ⟨(KeepsFrom.of_grownBy (grown_of_below HB3.out none) (fun j e => by cases e)).trans ((KeepsOthers.setCell _ _ _).from _), ⟨(HB3.out.mono hB.size).setCell (p := ⟨w3.heap.size, 0, none⟩) hgvn _, ?_⟩, ⟨_, HV3.out.set _, ?_, ?_⟩, (hB.trans (HB3.out.mono hB.size)).setCell (p := ⟨w3.heap.size, 0, none⟩) hgvn _, ?_⟩
        · exact (Below.heap_setCell _ _ _ _ hne3).trans (HB3.out.block _ hsz)
        · rw [HSN.out]
          exact HO4.out.kept (grownBy_setCell' _ _ _) (.inr (HV3.out.not_row (by decide) HO4.out).symm)
        · rw [HSN.out]
          exact nodeL_length _ _
        · have := HB3.out.size
          simp [World.setCell]
          omega
      case done =>
        rintro D ys W hD rfl ⟨⟨v, hv, ho, hl32⟩, hB, hsz⟩ hK
        have hfd : foldB l zs.reverse = R := by
          have h1 := foldB_down zs (fun k h => (HZS.out k h).1) n l (by rw [HZL.out]; exact Nat.le_refl _)
          rw [List.take_of_length_le (by rw [HZL.out]; exact Nat.le_refl _), HR2.out] at h1
          exact h1
        rw [hfd] at ho hl32
        have hO : Own 5 W w.heap.size v R := ho
        obtain ⟨A5, c5, rfl, n1, n2, n0, n3⟩ := hO.sl
        have hvc := hv.cell
        have HOO := Lib.hid hO
        clear n1 n2 n0 n3 ho hfd hl32 hO
        gi_wp2
        refine ⟨by simp, .inl ⟨_, _, rfl, run_takeDeferred hK, ?_⟩⟩
        exact ⟨.slice A5 R.length c5, by simp [results, Tryd.results14, go_sem], .slice A5 R.length c5, rfl, (show Own 5 (W.putObj D (.deferred none)) w.heap.size (.slice A5 R.length c5) R from ownsRow_putObj HOO.out _ hK rfl), hB.trans (belowK_b (w := w) (Nat.le_refl _) W D _ _ (by simp at hD; omega) hK rfl rfl)⟩
      case stop =>
        rintro D c pre W _ _ h _
        exact h.elim
end Go.Proofs.YtdoaikanaodefaaDoor
