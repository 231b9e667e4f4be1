/- Arrays of words: a block that holds them, and the contract of ints. -/
import Derived.Test.YtnlpmhofikoaaaaDoorRot
import Derived.Lib.LaidTab
import Derived.Deep.Cut
namespace Go.Proofs.YtnlpmhofikoaaaaDoor
open Go.ChangeShapes Go.WideShapes Go.ChangeAt Go.RowKit

/-- The cells of a list of words. -/
def cw (ws : List Nat) : Array Value := (ws.map fun (x : Nat) => Value.int .u32 (x : Int)).toArray
theorem cw_size (ws : List Nat) : (cw ws).size = ws.length := by simp [cw]
theorem cw_get (ws : List Nat) (k : Nat) (h : k < ws.length) : (cw ws)[k]? = some (.int .u32 ((ws.getD k 0 : Nat) : Int)) := by
  simp [cw, List.getD_eq_getElem?_getD, h]
theorem cw_cell (ws : List Nat) : (cw ws).all (·.oneCell') = true := by
  rw [Array.all_eq_true_iff_forall_mem]
  intro v hv
  simp only [cw, List.mem_toArray, List.mem_map] at hv
  obtain ⟨i, _, rfl⟩ := hv
  rfl
theorem cw_set (ws : List Nat) (k x : Nat) : (cw ws).setIfInBounds k (.int .u32 (x : Int)) = cw (ws.set k x) := by
  simp [cw, List.map_set]
/-- Block g holds the words ws. -/
def Arr (t : TypeId) (w : World) (g : Nat) (ws : List Nat) : Prop := w.heap[g]? = some (.cells (cw ws) t (0, 0))
theorem Arr.lt {t : TypeId} {w : World} {g : Nat} {ws : List Nat} (h : Arr t w g ws) : g < w.heap.size := (Array.getElem?_eq_some_iff.1 h).1
theorem Arr.at {t : TypeId} {w : World} {g : Nat} {ws : List Nat} (h : Arr t w g ws) (k : Nat) (hk : k < ws.length) : w.cell? ⟨g, k, none⟩ = some (.int .u32 ((ws.getD k 0 : Nat) : Int)) := (cell_of_row w g k _ _ _ h).trans (cw_get ws k hk)
theorem Arr.free {t : TypeId} {w : World} {g : Nat} {ws : List Nat} (h : Arr t w g ws) (k : Nat) : w.frozen? ⟨g, k, none⟩ = false := by
  unfold Arr at h
  simp [World.frozen?, h]
theorem Arr.set {t : TypeId} {w : World} {g : Nat} {ws : List Nat} (h : Arr t w g ws) (k x : Nat) : Arr t (w.setCell ⟨g, k, none⟩ (.int .u32 (x : Int))) g (ws.set k x) := by
  unfold Arr
  rw [setCell_eq_setRow w g k _ _ _ _ h, ← cw_set ws k x]
  exact setRow_heap w g _ _ _ _ h
theorem Arr.beside {t : TypeId} {w : World} {g g' : Nat} {ws : List Nat} (h : Arr t w g ws) (k : Nat) (v : Value) (hne : g ≠ g') : Arr t (w.setCell ⟨g', k, none⟩ v) g ws := by
  unfold Arr
  rw [Below.heap_setCell _ _ _ _ hne]
  exact h
theorem Arr.drewN {t : TypeId} {w : World} {g : Nat} {ws : List Nat} (h : Arr t w g ws) (n : Nat) : Arr t (w.drewN n) g ws := h
theorem Arr.up {t : TypeId} {w w' : World} {g : Nat} {ws : List Nat} (h : Arr t w g ws) (hb : Below w.heap.size w w') : Arr t w' g ws := by
  unfold Arr
  rw [hb.block g h.lt]
  exact h
theorem Arr.below {t : TypeId} {w w' : World} {B g : Nat} {ws : List Nat} (h : Arr t w g ws) (hg : g < B) (hb : Below B w w') : Arr t w' g ws := by
  unfold Arr
  rw [hb.block g hg]
  exact h
theorem Arr.grown {t : TypeId} {w w' : World} {g : Nat} {ws : List Nat} {row : Option Nat} (h : Arr t w g ws) (hg : w.grownBy w' row) (hne : some g ≠ row) : Arr t w' g ws := by
  unfold Arr
  rw [hg.block g h.lt hne]
  exact h
theorem arr_new (t : TypeId) (w : World) (ws : List Nat) : Arr t (w.alloc (.cells (cw ws) t)) w.heap.size ws := by
  show (w.heap.push (.cells (cw ws) t))[w.heap.size]? = some (.cells (cw ws) t (0, 0))
  simp
theorem Arr.alloc {t : TypeId} {w : World} {g : Nat} {ws : List Nat} (h : Arr t w g ws) (o : Obj) : Arr t (w.alloc o) g ws := h.up ((Below.refl _ _).alloc (Nat.le_refl _) _)
theorem wDesc : Tryd.prog.underlying 43 = some (.array 8 41) := by kernel_rfl
theorem wSize {ws : List Nat} (h : ws.length = 8) : (Tryd.prog.info? 43).map (·.size) = some (cw ws).size := by
  rw [cw_size, h]
  kernel_rfl
theorem sDesc : Tryd.prog.underlying 55 = some (.array 64 41) := by kernel_rfl
theorem sSize {ws : List Nat} (h : ws.length = 64) : (Tryd.prog.info? 55).map (·.size) = some (cw ws).size := by
  rw [cw_size, h]
  kernel_rfl
/-- The variable of block g holds the words ws. -/
def Glob (w : World) (g : Nat) (ws : List Nat) : Prop := ∃ t fr, w.heap[g]? = some (.cells (cw ws) t fr)
theorem Glob.lt {w : World} {g : Nat} {ws : List Nat} (h : Glob w g ws) : g < w.heap.size := by
  obtain ⟨t, fr, h⟩ := h
  exact (Array.getElem?_eq_some_iff.1 h).1
theorem Glob.up {w w' : World} {g : Nat} {ws : List Nat} (h : Glob w g ws) (hb : Below w.heap.size w w') : Glob w' g ws := by
  have hl := h.lt
  obtain ⟨t, fr, h⟩ := h
  exact ⟨t, fr, by rw [hb.block g hl]; exact h⟩
theorem Glob.below {w w' : World} {B g : Nat} {ws : List Nat} (h : Glob w g ws) (hg : g < B) (hb : Below B w w') : Glob w' g ws := by
  obtain ⟨t, fr, h⟩ := h
  exact ⟨t, fr, by rw [hb.block g hg]; exact h⟩
theorem Glob.at {w : World} {g : Nat} {ws : List Nat} (h : Glob w g ws) (k : Nat) (hk : k < ws.length) : w.cell? ⟨g, k, none⟩ = some (.int .u32 ((ws.getD k 0 : Nat) : Int)) := by
  obtain ⟨t, fr, h⟩ := h
  exact (cell_of_row w g k _ _ _ h).trans (cw_get ws k hk)
theorem glob_of_tab {w : World} {name : String} {g : Nat} {ws : List Nat} (hn : Tryd.prog.globalNamed name = some g) (h : Lib.TabIs Tryd.prog w name .u32 (wi ws)) : Glob w g ws := by
  unfold Lib.TabIs World.var? at h
  rw [hn] at h
  simp only [Option.bind_some] at h
  have e : ((wi ws).map fun z => Value.int .u32 z).toArray = cw ws := by simp [cw, wi]
  rw [e] at h
  split at h
  · rename_i cs t fr he
    exact ⟨t, fr, by rw [he, Option.some.inj h]⟩
  · simp at h

theorem u32info : (Tryd.prog.info? 41).map (fun i => (i.zero, i.size, i.bytes)) = some (some (.int .u32 0), 1, 4) := by kernel_rfl
/-- An element of an array by value. -/
theorem run_idx {t : TypeId} {n : Nat} (hd : Tryd.prog.underlying t = some (.array n 41)) (ws : List Nat) (k x : Nat) (hk : k < n) (h : (cw ws)[k]? = some (.int .u32 (x : Int))) (w : World) :
    (Instr.index t (.agg (cw ws)) (.int .i64 (k : Int))).run Tryd.prog w = .ok (.int .u32 (x : Int)) w := by
  have hn : (0 : Int) ≤ k ∧ (k : Int) < (n : Int) := by omega
  obtain ⟨i0, hi, hz0, hz1, hz2⟩ := info_parts u32info
  have hcell : Tryd.prog.cellsOf 41 = 1 := by kernel_rfl
  simp [Instr.index, run_underlying hd, asIntOf, hn, hk, go_sem, run_sizeOf w hi, hcell, isAgg, run_underlying Tryd.underlying41, h]
theorem ints_zero {E : TypeId} {w : World} {B g T : Nat} (h : w.ownsRow B E 1 (.slice (some ⟨g, 0, none⟩) T T) T (madeCells (Value.int .i64 0).cells (T * 1)).toList) (l : List Int) (hl : l.length = T) :
    w.ownsRow B E 1 (.slice (some ⟨g, 0, none⟩) T T) T (is (TBI l 0)) := by
  have e : (madeCells (Value.int .i64 0).cells (T * 1)).toList = is (TBI l 0) := by
    rw [TBI_zero, hl, Nat.mul_one]
    exact toList_madeCells_one _ _
  rw [← e]
  exact h
set_option maxRecDepth 100000 in
set_option maxHeartbeats 1000000 in
theorem ints_any (ws : List Nat) (hl : ws.length = 8) (hw : Words ws) (w : World) :
    Calls Tryd.prog 26 #[.agg (cw ws)] w (FreshI w (wi ws)) := by
  obtain ⟨i0, hi, hz0, hz1, hz2⟩ := info_parts i64info
  have hby : i0.bytes * 8 ≤ 281474976710656 := by rw [hz2]; omega
  have hml : 8 ≤ maxLen := by unfold maxLen; omega
  have HL := Lib.hid hl
  have hA := arr_new 43 w ws
  have hsz := wSize hl
  clear hl
  go_enter Tryd.func26, Tryd.ntmps26
  go_wp2_with (first
    | (at_make; refine wpList_make_full _ rfl _ _ _ rfl w.heap.size 3 i0 (.int .i64 0) 1 Tryd.underlying25 hi hz0 hz1 .i64 .i64 _ _ 8 rfl rfl rfl rfl hby hml (by simp) ?_; intro w1 hown1 hg1; have hA1 := hA.grown hg1 (by simp); have hb1 := ((Below.refl w.heap.size w).alloc (Nat.le_refl _) (.cells (cw ws) 43)).grown hg1 (by simp) (by simp); have ho1 := ints_zero hown1 (wi ws) (by rw [wi_length, HL.out]); clear hown1 hg1)
    | (refine wpList_load_row rfl _ _ rfl w.heap.size rfl _ _ _ _ hA1 wDesc rfl hsz ?_))
  have e8 : (w.alloc (.cells (cw ws) 43)).heap.size = w.heap.size + 1 := by simp
  rw [e8] at ho1
  go_loopw [8] (fun i wr => ∃ k : Nat, k ≤ 8 ∧ i = .int .i64 k ∧ wr.ownsRow w.heap.size 3 1 (.slice (some ⟨w.heap.size + 1, 0, none⟩) 8 8) 8 (is (TBI (wi ws) k)) ∧ Below w.heap.size w wr)
    (fun i _ => 8 - (intOf i).toNat)
  case atStart => exact ⟨0, Nat.zero_le _, rfl, ho1, hb1⟩
  case round =>
    obtain ⟨k, hk, rfl, hown, hbel⟩ := hrel
    clear hA hA1 hb1 ho1 e8
    by_cases hlt : k < 8
    · have hlt8 : (k : Int) < 8 := by omega
      have hx := cw_get ws k (by rw [HL.out]; exact hlt)
      have hc1 := (World.ownsRow.cellAt hown k (by omega)).trans (is_get (TBI (wi ws) k) k (by rw [TBI_length _ k (by rw [wi_length, HL.out]; exact hk), wi_length, HL.out]; exact hlt))
      have hf1 := World.ownsRow.frozenAt hown k
      have hst := World.ownsRow.stored hown k (.int .i64 (it (wi ws) k))
      rw [TBI_set _ _ (by rw [wi_length, HL.out]; exact hlt), it_wi] at hst
      have hxb := hw.at_ k
      generalize ws.getD k 0 = x at hx hst hxb
      have hxw := wrap64_small (x : Int) (by omega) (by omega)
      have hX := fun w => run_idx wDesc ws k x (by omega) hx w
      have hst1 := Lib.hid hst
      clear hst
      go_wp2
      go_roundw
      case rel => exact ⟨k + 1, by omega, by go_num, hst1.out.1, hbel.setCell (Nat.le_succ _) _⟩
      case measure => simp [intOf]; omega
    · obtain rfl : k = 8 := by omega
      go_wp2
      go_ret
      refine ⟨_, rfl, ?_, hbel⟩
      have e : (wi ws).length = 8 := by rw [wi_length, HL.out]
      have hfull := TBI_full (wi ws)
      rw [e] at hfull
      rw [hfull] at hown
      unfold OwnI
      rw [e]
      exact hown
theorem implShaInit_any (w : World) (hG : Glob w 0 initW) :
    Calls Tryd.prog 9 #[] w (FreshI w (wi initW)) := by
  obtain ⟨t, fr, hg⟩ := hG
  have hsz := wSize (ws := initW) rfl
  go_enter Tryd.func9, Tryd.ntmps9
  go_wp2_with (refine wpList_load_row rfl _ _ rfl 0 rfl _ _ _ _ hg wDesc rfl hsz ?_)
  refine (ints_any initW rfl initW_words w).mono ?_
  rintro e w1 ⟨v1, rfl, hown, hb⟩
  go_wp2
  go_ret
  exact ⟨_, rfl, hown, hb⟩
end Go.Proofs.YtnlpmhofikoaaaaDoor
