/- The contracts of BitsAnd, BitsOr and BitsIn, as the program has them and as their model has them. -/
import Derived.Test.YtoaokhhpgoabmaaDoorList
import Derived.Test.YtoaokhhpgoabmaaDoorStr
import Derived.Deep.RegionLaw
import Derived.RegionTactic
import Derived.BigRegion
namespace Go.Proofs.YtoaokhhpgoabmaaDoor
open Go.ChangeShapes Go.WideShapes Go.ChangeAt Go.RowKit

/-- 'append(out, c)' inside a region that draws: out is nil or the call's own. -/
theorem wp_app1 {P : Program} {W w : World} {o : Oper} {a : Act} {K : Act → World → Prop} {Q : Exit → Act → World → Prop} (s x : Operand) (t : TypeId)
    (ho : o.op = .call { callee := .builtin .append, args := #[s, x], argTypes := #[t, t] }) (E : TypeId) (i : TypeInfo) (ht : P.underlying t = some (.slice E)) (hi : P.info? E = some i)
    (hz : i.zero = some (.int .u8 0)) (hsize : i.size = 1) (hby : i.bytes = 1) (v : Value) (l : List UInt8) (hs : a.eval s = v) (z : Int) (c : UInt8) (hzc : Hid (z = (c.toNat : Int)))
    (hx : a.eval x = .slice (some ⟨w.heap.size, 0, none⟩) 1 1) (hown : Own E w W.heap.size v l) (hb : Below W.heap.size W w) (hlen : l.length ≤ 70368744177664)
    (h : ∀ v' w', Own E w' W.heap.size v' (l ++ [c]) → Below W.heap.size W w' → K (a.put o.dst v') w') : o.wp P a (w.alloc (.cells #[.int .u8 z] E)) K Q := by
  have hzc := hzc.out
  subst hzc
  have hba : Below w.heap.size w (w.alloc (.cells #[.int .u8 (c.toNat : Int)] E)) := (Below.refl _ _).alloc (Nat.le_refl _) _
  have hown' := hown.up hba
  refine wp_append_own _ s x t ho W.heap.size E i (.int .u8 0) 1 1 ht hi hz hsize hby rfl (by omega) v l.length (us l) hs hown' ⟨w.heap.size, 0, none⟩ 1 1 (us [c]) hx rfl ?_ (us_cell _) ?_ ?_ ?_ ?_
  · intro j u hj
    rcases j with _ | j
    · rw [us_one] at hj
      injection hj with hj
      subst hj
      simp [Addr.add]
    · simp [us_one] at hj
  · unfold maxLen; omega
  · omega
  · simp; have := hb.size; omega
  · intro v' w' h1 h2 _
    refine h v' w' ?_ ?_
    · unfold Own
      rw [us_app, List.length_append]
      exact h1
    · exact below_of_own hown' (hb.alloc hb.size _) h2
theorem step_app1 {P : Program} {W w : World} {ops : Array Oper} {o : Oper} {a : Act} {K : Act → World → Prop} {Q : Exit → Act → World → Prop} {F : Prop} (hgd : o.guard = none) (s x : Operand) (t : TypeId)
    (ho : o.op = .call { callee := .builtin .append, args := #[s, x], argTypes := #[t, t] }) (E : TypeId) (i : TypeInfo) (ht : P.underlying t = some (.slice E)) (hi : P.info? E = some i)
    (hz : i.zero = some (.int .u8 0)) (hsize : i.size = 1) (hby : i.bytes = 1) (v : Value) (l : List UInt8) (hs : a.eval s = v) (z : Int) (c : UInt8) (hzc : Hid (z = (c.toNat : Int)))
    (hx : a.eval x = .slice (some ⟨w.heap.size, 0, none⟩) 1 1) (hown : Own E w W.heap.size v l) (hb : Below W.heap.size W w) (hlen : l.length ≤ 70368744177664)
    (h : ∀ v' w', Own E w' W.heap.size v' (l ++ [c]) → Below W.heap.size W w' → K (a.put o.dst v') w') :
    if Region.wanted o (yielded ops a.tmps) = true then Oper.wp P o a (w.alloc (.cells #[.int .u8 z] E)) K Q else F := by
  have hw : Region.wanted o (yielded ops a.tmps) = true := by simp [Region.wanted, hgd]
  rw [if_pos hw]
  exact wp_app1 s x t ho E i ht hi hz hsize hby v l hs z c hzc hx hown hb hlen h

theorem lens_ne {a b : List UInt8} (h : a.length ≠ b.length) : ((a.length : Int) != (b.length : Int)) = true := by
  have : (a.length : Int) ≠ (b.length : Int) := by omega
  simpa using this
theorem lens_eq {a b : List UInt8} (h : a.length = b.length) : ((a.length : Int) != (b.length : Int)) = false := by
  rw [h]; simp
theorem lens_eq' {a b : List UInt8} (h : a.length = b.length) : ((a.length : Int) == (b.length : Int)) = true := by
  rw [h]; simp
theorem lens_ne' {a b : List UInt8} (h : a.length ≠ b.length) : ((a.length : Int) == (b.length : Int)) = false := by
  have : (a.length : Int) ≠ (b.length : Int) := by omega
  simpa using this

theorem and_at {a b : List UInt8} (h : a.length = b.length) (k : Nat) (hk : k < a.length) : bits .and .u8 (bt a k) (bt b k) = (((andL a b).getD k 0).toNat : Int) := by
  unfold bt andL
  rw [if_pos h, u8_and_nat _ _ (UInt8.toNat_lt _) (UInt8.toNat_lt _)]
  congr 1
  simp only [List.getD_eq_getElem?_getD, List.getElem?_zipWith]
  rw [List.getElem?_eq_getElem hk, List.getElem?_eq_getElem (by omega)]
  simp
theorem and_take {a b : List UInt8} (h : a.length = b.length) (k : Nat) (hk : k < a.length) : (andL a b).take (k + 1) = (andL a b).take k ++ [(andL a b).getD k 0] := by
  have hl : k < (andL a b).length := by rw [andL_length h]; exact hk
  rw [List.take_add_one, List.getElem?_eq_getElem hl, List.getD_eq_getElem?_getD, List.getElem?_eq_getElem hl]
  rfl
set_option maxHeartbeats 1000000 in
theorem implBitsand_any (v u : Value) (l m : List UInt8) (w : World) (h : Sl w w.heap.size v l) (h' : Sl w w.heap.size u m) (hl : l.length ≤ 4294967296) (hm : m.length ≤ 4294967296) :
    Calls Tryd.prog 9 #[v, u] w (Fresh w (andL l m)) := by
  obtain ⟨i0, hi, hz0, hz1, hz2⟩ := info_parts u8info
  obtain ⟨A, c, rfl, h1, h2, h0, h3⟩ := h
  obtain ⟨A', c', rfl, h1', h2', h0', h3'⟩ := h'
  unfold maxLen at h2 h2'
  clear h0 h0'
  by_cases hlm : l.length = m.length
  · have hne := lens_eq hlm
    have hL := andL_length hlm
    obtain ⟨Z, hZ⟩ : ∃ Z, Z = andL l m := ⟨_, rfl⟩
    have hat : ∀ k, k < l.length → bits .and .u8 (bt l k) (bt m k) = bt Z k := fun k hk => by rw [hZ]; exact and_at hlm k hk
    rw [← hZ] at hL ⊢
    have Hat := Lib.hid hat
    have Hlm := Lib.hid hlm
    clear hat hZ hlm
    have hby : i0.bytes * l.length ≤ 281474976710656 := by rw [hz2]; omega
    have hml : l.length ≤ maxLen := by unfold maxLen; omega
    go_enter Tryd.func9, Tryd.ntmps9
    go_wp2_with (at_make; go_loud (refine wpList_make_full _ rfl _ _ _ rfl w.heap.size 5 i0 (.int .u8 0) 1 Tryd.underlying22 hi hz0 hz1 .i64 .i64 _ _ l.length rfl rfl rfl rfl hby hml (Nat.le_refl _) ?_; intro w1 hown1 hg1))
    have hb1 : Below w.heap.size w w1 := (Below.refl _ _).grown hg1 (Nat.le_refl _) (by simp)
    have ho1 : w1.ownsRow w.heap.size 5 1 (.slice (some ⟨w.heap.size, 0, none⟩) l.length l.length) l.length (us (TB Z 0)) := by
      rw [TB_zero, hL]
      have e : (madeCells (Value.int .u8 0).cells (l.length * 1)).toList = List.replicate l.length (.int .u8 0) := by
        rw [Nat.mul_one]
        exact toList_madeCells_one _ _
      rw [← e]
      exact hown1
    have HL := Lib.hid hL
    clear hown1 hg1 hL
    go_loopw [17] (fun i wr => ∃ k : Nat, k ≤ l.length ∧ i = .int .i64 k ∧ wr.ownsRow w.heap.size 5 1 (.slice (some ⟨w.heap.size, 0, none⟩) l.length l.length) l.length (us (TB Z k)) ∧ Below w.heap.size w wr)
      (fun i _ => l.length - (intOf i).toNat)
    case atStart => exact ⟨0, Nat.zero_le _, rfl, ho1, hb1⟩
    case round =>
      obtain ⟨k, hk, rfl, hown, hbel⟩ := hrel
      by_cases hlt : k < l.length
      · obtain ⟨b, off, rfl, hbb, hcell⟩ := h3 (by omega)
        have hltm : k < m.length := by have := Hlm.out; omega
        obtain ⟨b', off', rfl, hbb', hcell'⟩ := h3' (by omega)
        have hc0 := (hbel.cell (p := ⟨b, off + k, none⟩) hbb).trans (hcell k hlt)
        have hc1 := (hbel.cell (p := ⟨b', off' + k, none⟩) hbb').trans (hcell' k (by omega))
        have hZk : k < (TB Z k).length := by rw [TB_length Z k (by rw [HL.out]; exact hk), HL.out]; exact hlt
        have hc2 := (World.ownsRow.cellAt hown k (by omega)).trans (us_get (TB Z k) k hZk)
        have hf1 := World.ownsRow.frozenAt hown k
        clear hcell hcell' h3 h3'
        have hst := World.ownsRow.stored hown k (.int .u8 (bits .and .u8 (bt l k) (bt m k)))
        rw [Hat.out k hlt, TB_set Z k (by rw [HL.out]; exact hlt)] at hst
        have hst1 := Lib.hid hst
        have hz := Lib.hid (Hat.out k hlt)
        clear hst hZk
        go_wp2
        go_region
        all_goals
          go_wp2
          go_roundw
          case rel => exact ⟨k + 1, by omega, by go_num, by rw [hz.out]; exact hst1.out.1, by first | exact (hbel.setCell (Nat.le_refl _) _).drew | exact hbel.setCell (Nat.le_refl _) _ | exact hbel.drew.setCell (Nat.le_refl _) _⟩
          case measure => simp [intOf]; omega
      · obtain rfl : k = l.length := by omega
        go_wp2
        go_ret
        exact ⟨_, rfl, by rw [← HL.out, TB_full, HL.out] at hown; unfold Own; rw [HL.out]; exact hown, hbel⟩
  · have hne := lens_ne hlm
    have e : andL l m = [] := if_neg hlm
    rw [e]
    clear hlm e h3 h3'
    go_enter Tryd.func9, Tryd.ntmps9
    go_wp2
    go_ret
    exact ⟨_, rfl, World.ownsRow_nil _ _ _ _, Below.refl _ _⟩

theorem or_at {a b : List UInt8} (h : a.length = b.length) (k : Nat) (hk : k < a.length) : bits .or .u8 (bt a k) (bt b k) = (((orL a b).getD k 0).toNat : Int) := by
  unfold bt orL
  rw [if_pos h, u8_or_nat _ _ (UInt8.toNat_lt _) (UInt8.toNat_lt _)]
  congr 1
  simp only [List.getD_eq_getElem?_getD, List.getElem?_zipWith]
  rw [List.getElem?_eq_getElem hk, List.getElem?_eq_getElem (by omega)]
  simp
theorem or_take {a b : List UInt8} (h : a.length = b.length) (k : Nat) (hk : k < a.length) : (orL a b).take (k + 1) = (orL a b).take k ++ [(orL a b).getD k 0] := by
  have hl : k < (orL a b).length := by rw [orL_length h]; exact hk
  rw [List.take_add_one, List.getElem?_eq_getElem hl, List.getD_eq_getElem?_getD, List.getElem?_eq_getElem hl]
  rfl
set_option maxHeartbeats 1000000 in
theorem implBitsor_any (v u : Value) (l m : List UInt8) (w : World) (h : Sl w w.heap.size v l) (h' : Sl w w.heap.size u m) (hl : l.length ≤ 4294967296) (hm : m.length ≤ 4294967296) :
    Calls Tryd.prog 10 #[v, u] w (Fresh w (orL l m)) := by
  obtain ⟨i0, hi, hz0, hz1, hz2⟩ := info_parts u8info
  obtain ⟨A, c, rfl, h1, h2, h0, h3⟩ := h
  obtain ⟨A', c', rfl, h1', h2', h0', h3'⟩ := h'
  unfold maxLen at h2 h2'
  clear h0 h0'
  by_cases hlm : l.length = m.length
  · have hne := lens_eq hlm
    have hL := orL_length hlm
    obtain ⟨Z, hZ⟩ : ∃ Z, Z = orL l m := ⟨_, rfl⟩
    have hat : ∀ k, k < l.length → bits .or .u8 (bt l k) (bt m k) = bt Z k := fun k hk => by rw [hZ]; exact or_at hlm k hk
    rw [← hZ] at hL ⊢
    have Hat := Lib.hid hat
    have Hlm := Lib.hid hlm
    clear hat hZ hlm
    have hby : i0.bytes * l.length ≤ 281474976710656 := by rw [hz2]; omega
    have hml : l.length ≤ maxLen := by unfold maxLen; omega
    go_enter Tryd.func10, Tryd.ntmps10
    go_wp2_with (at_make; go_loud (refine wpList_make_full _ rfl _ _ _ rfl w.heap.size 5 i0 (.int .u8 0) 1 Tryd.underlying22 hi hz0 hz1 .i64 .i64 _ _ l.length rfl rfl rfl rfl hby hml (Nat.le_refl _) ?_; intro w1 hown1 hg1))
    have hb1 : Below w.heap.size w w1 := (Below.refl _ _).grown hg1 (Nat.le_refl _) (by simp)
    have ho1 : w1.ownsRow w.heap.size 5 1 (.slice (some ⟨w.heap.size, 0, none⟩) l.length l.length) l.length (us (TB Z 0)) := by
      rw [TB_zero, hL]
      have e : (madeCells (Value.int .u8 0).cells (l.length * 1)).toList = List.replicate l.length (.int .u8 0) := by
        rw [Nat.mul_one]
        exact toList_madeCells_one _ _
      rw [← e]
      exact hown1
    have HL := Lib.hid hL
    clear hown1 hg1 hL
    go_loopw [17] (fun i wr => ∃ k : Nat, k ≤ l.length ∧ i = .int .i64 k ∧ wr.ownsRow w.heap.size 5 1 (.slice (some ⟨w.heap.size, 0, none⟩) l.length l.length) l.length (us (TB Z k)) ∧ Below w.heap.size w wr)
      (fun i _ => l.length - (intOf i).toNat)
    case atStart => exact ⟨0, Nat.zero_le _, rfl, ho1, hb1⟩
    case round =>
      obtain ⟨k, hk, rfl, hown, hbel⟩ := hrel
      by_cases hlt : k < l.length
      · obtain ⟨b, off, rfl, hbb, hcell⟩ := h3 (by omega)
        have hltm : k < m.length := by have := Hlm.out; omega
        obtain ⟨b', off', rfl, hbb', hcell'⟩ := h3' (by omega)
        have hc0 := (hbel.cell (p := ⟨b, off + k, none⟩) hbb).trans (hcell k hlt)
        have hc1 := (hbel.cell (p := ⟨b', off' + k, none⟩) hbb').trans (hcell' k (by omega))
        have hZk : k < (TB Z k).length := by rw [TB_length Z k (by rw [HL.out]; exact hk), HL.out]; exact hlt
        have hc2 := (World.ownsRow.cellAt hown k (by omega)).trans (us_get (TB Z k) k hZk)
        have hf1 := World.ownsRow.frozenAt hown k
        clear hcell hcell' h3 h3'
        have hst := World.ownsRow.stored hown k (.int .u8 (bits .or .u8 (bt l k) (bt m k)))
        rw [Hat.out k hlt, TB_set Z k (by rw [HL.out]; exact hlt)] at hst
        have hst1 := Lib.hid hst
        have hz := Lib.hid (Hat.out k hlt)
        clear hst hZk
        go_wp2
        go_region
        all_goals
          go_wp2
          go_roundw
          case rel => exact ⟨k + 1, by omega, by go_num, by rw [hz.out]; exact hst1.out.1, by first | exact (hbel.setCell (Nat.le_refl _) _).drew | exact hbel.setCell (Nat.le_refl _) _ | exact hbel.drew.setCell (Nat.le_refl _) _⟩
          case measure => simp [intOf]; omega
      · obtain rfl : k = l.length := by omega
        go_wp2
        go_ret
        exact ⟨_, rfl, by rw [← HL.out, TB_full, HL.out] at hown; unfold Own; rw [HL.out]; exact hown, hbel⟩
  · have hne := lens_ne hlm
    have e : orL l m = [] := if_neg hlm
    rw [e]
    clear hlm e h3 h3'
    go_enter Tryd.func10, Tryd.ntmps10
    go_wp2
    go_ret
    exact ⟨_, rfl, World.ownsRow_nil _ _ _ _, Below.refl _ _⟩

set_option maxHeartbeats 1000000 in
theorem implBitsIn_any (v u : Value) (l m : List UInt8) (w : World) (h : Sl w w.heap.size v l) (h' : Sl w w.heap.size u m) (hl : l.length ≤ 4294967296) (hm : m.length ≤ 4294967296) :
    Calls Tryd.prog 14 #[v, u] w fun e w' => e = .returned (.bool (inB l m)) ∧ Below w.heap.size w w' := by
  have k := h
  have k' := h'
  obtain ⟨A, c, rfl, h1, h2, h0, h3⟩ := h
  obtain ⟨A', c', rfl, h1', h2', h0', h3'⟩ := h'
  unfold maxLen at h2 h2'
  clear h0 h0' h3 h3'
  by_cases hlm : l.length = m.length
  · have hne := lens_eq' hlm
    have e : inB l m = (andL l m == l) := by simp [inB, hlm]
    rw [e]
    clear e hlm
    go_enter Tryd.func14, Tryd.ntmps14
    go_wp2_with fail
    refine (implBitsand_any _ _ l m _ k k' hl hm).mono ?_
    rintro e w1 ⟨v1, rfl, hown1, hb1⟩
    go_wp2_with fail
    refine (implSameBytes_any _ _ (andL l m) l _ hown1.sl (k.up hb1)).mono ?_
    rintro e w2 ⟨rfl, rfl⟩
    go_wp2
    go_ret
    exact ⟨rfl, hb1⟩
  · have hne := lens_ne' hlm
    have e : inB l m = false := by simp [inB, hlm]
    rw [e]
    clear e hlm
    go_enter Tryd.func14, Tryd.ntmps14
    go_wp2
    go_ret
    exact ⟨rfl, Below.refl _ _⟩
end Go.Proofs.YtoaokhhpgoabmaaDoor
