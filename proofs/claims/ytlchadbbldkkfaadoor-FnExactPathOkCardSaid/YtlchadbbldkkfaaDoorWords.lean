/- Arrays of words: a block that holds them, and the contract of ints. -/
import Derived.Test.YtlchadbbldkkfaaDoorRot
import Derived.Lib.LaidTab
import Derived.Deep.Cut
namespace Go.Proofs.YtlchadbbldkkfaaDoor
open Go.ChangeShapes Go.WideShapes Go.ChangeAt Go.RowKit

/-- The cells of a list of words. -/
def cw (ws : List Nat) : Array Value := (ws.map fun (x : Nat) => Value.int .u32 (x : Int)).toArray
theorem cw_size (ws : List Nat) : (cw ws).size = ws.length := by simp [cw]
theorem cw_get (ws : List Nat) (k : Nat) (h : k < ws.length) : (cw ws)[k]? = some (.int .u32 ((ws.getD k 0 : Nat) : Int)) := by
  simp [cw, List.getD_eq_getElem?_getD, h]
theorem cw_cell (ws : List Nat) : (cw ws).all (·.oneCell') = true := by
  rw [Array.all_eq_true_iff_forall_mem]
  intro v hv
  simp only [cw, List.mem_toArray, List.mem_map] at hv
  obtain ⟨i, _, rfl⟩ := hv
  rfl
theorem cw_set (ws : List Nat) (k x : Nat) : (cw ws).setIfInBounds k (.int .u32 (x : Int)) = cw (ws.set k x) := by
  simp [cw, List.map_set]
/-- Block g holds the words ws. -/
def Arr (t : TypeId) (w : World) (g : Nat) (ws : List Nat) : Prop := w.heap[g]? = some (.cells (cw ws) t (0, 0))
theorem Arr.lt {t : TypeId} {w : World} {g : Nat} {ws : List Nat} (h : Arr t w g ws) : g < w.heap.size := (Array.getElem?_eq_some_iff.1 h).1
theorem Arr.at {t : TypeId} {w : World} {g : Nat} {ws : List Nat} (h : Arr t w g ws) (k : Nat) (hk : k < ws.length) : w.cell? ⟨g, k, none⟩ = some (.int .u32 ((ws.getD k 0 : Nat) : Int)) := (cell_of_row w g k _ _ _ h).trans (cw_get ws k hk)
theorem Arr.free {t : TypeId} {w : World} {g : Nat} {ws : List Nat} (h : Arr t w g ws) (k : Nat) : w.frozen? ⟨g, k, none⟩ = false := by
  unfold Arr at h
  simp [World.frozen?, h]
theorem Arr.set {t : TypeId} {w : World} {g : Nat} {ws : List Nat} (h : Arr t w g ws) (k x : Nat) : Arr t (w.setCell ⟨g, k, none⟩ (.int .u32 (x : Int))) g (ws.set k x) := by
  unfold Arr
  rw [setCell_eq_setRow w g k _ _ _ _ h, ← cw_set ws k x]
  exact setRow_heap w g _ _ _ _ h
theorem Arr.beside {t : TypeId} {w : World} {g g' : Nat} {ws : List Nat} (h : Arr t w g ws) (k : Nat) (v : Value) (hne : g ≠ g') : Arr t (w.setCell ⟨g', k, none⟩ v) g ws := by
  unfold Arr
  rw [Below.heap_setCell _ _ _ _ hne]
  exact h
theorem Arr.drewN {t : TypeId} {w : World} {g : Nat} {ws : List Nat} (h : Arr t w g ws) (n : Nat) : Arr t (w.drewN n) g ws := h
theorem Arr.up {t : TypeId} {w w' : World} {g : Nat} {ws : List Nat} (h : Arr t w g ws) (hb : Below w.heap.size w w') : Arr t w' g ws := by
  unfold Arr
  rw [hb.block g h.lt]
  exact h
theorem Arr.below {t : TypeId} {w w' : World} {B g : Nat} {ws : List Nat} (h : Arr t w g ws) (hg : g < B) (hb : Below B w w') : Arr t w' g ws := by
  unfold Arr
  rw [hb.block g hg]
  exact h
theorem Arr.grown {t : TypeId} {w w' : World} {g : Nat} {ws : List Nat} {row : Option Nat} (h : Arr t w g ws) (hg : w.grownBy w' row) (hne : some g ≠ row) : Arr t w' g ws := by
  unfold Arr
  rw [hg.block g h.lt hne]
  exact h
theorem arr_new (t : TypeId) (w : World) (ws : List Nat) : Arr t (w.alloc (.cells (cw ws) t)) w.heap.size ws := by
  show (w.heap.push (.cells (cw ws) t))[w.heap.size]? = some (.cells (cw ws) t (0, 0))
  simp
theorem Arr.alloc {t : TypeId} {w : World} {g : Nat} {ws : List Nat} (h : Arr t w g ws) (o : Obj) : Arr t (w.alloc o) g ws := h.up ((Below.refl _ _).alloc (Nat.le_refl _) _)
theorem wDesc : Tryd.prog.underlying 73 = some (.array 8 71) := by kernel_rfl
theorem wSize {ws : List Nat} (h : ws.length = 8) : (Tryd.prog.info? 73).map (·.size) = some (cw ws).size := by
  rw [cw_size, h]
  kernel_rfl
theorem sDesc : Tryd.prog.underlying 86 = some (.array 64 71) := by kernel_rfl
theorem sSize {ws : List Nat} (h : ws.length = 64) : (Tryd.prog.info? 86).map (·.size) = some (cw ws).size := by
  rw [cw_size, h]
  kernel_rfl
/-- The variable of block g holds the words ws. -/
def Glob (w : World) (g : Nat) (ws : List Nat) : Prop := ∃ t fr, w.heap[g]? = some (.cells (cw ws) t fr)
theorem Glob.lt {w : World} {g : Nat} {ws : List Nat} (h : Glob w g ws) : g < w.heap.size := by
  obtain ⟨t, fr, h⟩ := h
  exact (Array.getElem?_eq_some_iff.1 h).1
theorem Glob.up {w w' : World} {g : Nat} {ws : List Nat} (h : Glob w g ws) (hb : Below w.heap.size w w') : Glob w' g ws := by
  have hl := h.lt
  obtain ⟨t, fr, h⟩ := h
  exact ⟨t, fr, by rw [hb.block g hl]; exact h⟩
theorem Glob.below {w w' : World} {B g : Nat} {ws : List Nat} (h : Glob w g ws) (hg : g < B) (hb : Below B w w') : Glob w' g ws := by
  obtain ⟨t, fr, h⟩ := h
  exact ⟨t, fr, by rw [hb.block g hg]; exact h⟩
theorem Glob.at {w : World} {g : Nat} {ws : List Nat} (h : Glob w g ws) (k : Nat) (hk : k < ws.length) : w.cell? ⟨g, k, none⟩ = some (.int .u32 ((ws.getD k 0 : Nat) : Int)) := by
  obtain ⟨t, fr, h⟩ := h
  exact (cell_of_row w g k _ _ _ h).trans (cw_get ws k hk)
theorem glob_of_tab {w : World} {name : String} {g : Nat} {ws : List Nat} (hn : Tryd.prog.globalNamed name = some g) (h : Lib.TabIs Tryd.prog w name .u32 (wi ws)) : Glob w g ws := by
  unfold Lib.TabIs World.var? at h
  rw [hn] at h
  simp only [Option.bind_some] at h
  have e : ((wi ws).map fun z => Value.int .u32 z).toArray = cw ws := by simp [cw, wi]
  rw [e] at h
  split at h
  · rename_i cs t fr he
    exact ⟨t, fr, by rw [he, Option.some.inj h]⟩
  · simp at h

theorem u32info : (Tryd.prog.info? 71).map (fun i => (i.zero, i.size, i.bytes)) = some (some (.int .u32 0), 1, 4) := by kernel_rfl
/-- An element of an array by value. -/
theorem run_idx {t : TypeId} {n : Nat} (hd : Tryd.prog.underlying t = some (.array n 71)) (ws : List Nat) (k x : Nat) (hk : k < n) (h : (cw ws)[k]? = some (.int .u32 (x : Int))) (w : World) :
    (Instr.index t (.agg (cw ws)) (.int .i64 (k : Int))).run Tryd.prog w = .ok (.int .u32 (x : Int)) w := by
  have hn : (0 : Int) ≤ k ∧ (k : Int) < (n : Int) := by omega
  obtain ⟨i0, hi, hz0, hz1, hz2⟩ := info_parts u32info
  have hcell : Tryd.prog.cellsOf 71 = 1 := by kernel_rfl
  simp [Instr.index, run_underlying hd, asIntOf, hn, hk, go_sem, run_sizeOf w hi, hcell, isAgg, run_underlying Tryd.underlying71, h]
theorem ints_zero {E : TypeId} {w : World} {B g T : Nat} (h : w.ownsRow B E 1 (.slice (some ⟨g, 0, none⟩) T T) T (madeCells (Value.int .i64 0).cells (T * 1)).toList) (l : List Int) (hl : l.length = T) :
    w.ownsRow B E 1 (.slice (some ⟨g, 0, none⟩) T T) T (is (TBI l 0)) := by
  have e : (madeCells (Value.int .i64 0).cells (T * 1)).toList = is (TBI l 0) := by
    rw [TBI_zero, hl, Nat.mul_one]
    exact toList_madeCells_one _ _
  rw [← e]
  exact h
end Go.Proofs.YtlchadbbldkkfaaDoor
