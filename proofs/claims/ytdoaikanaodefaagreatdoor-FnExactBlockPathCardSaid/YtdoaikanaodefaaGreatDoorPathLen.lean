/- PathLen: PathLenS, PathLen. -/
import Derived.Test.YtdoaikanaodefaaGreatDoorPut
import Derived.Test.YtdoaikanaodefaaGreatDoorMem
import Derived.Test.YtdoaikanaodefaaGreatDoorPathIter
import Derived.Laws.EntriesVeiled

/- The contracts of l08In and PathLen as their models have them. -/
namespace Go.Proofs.YtdoaikanaodefaaGreatDoor
open Go.ChangeShapes Go.WideShapes Go.ChangeAt Go.RowKit

/-- Is there a path? -/
def pathB (i n : Int) : Bool := decide (1 ≤ n ∧ n ≤ 1048576 ∧ 0 ≤ i ∧ i < n)
theorem pathB_yes {i n : Int} (h : 1 ≤ n ∧ n ≤ 1048576 ∧ 0 ≤ i ∧ i < n) : pathB i n = true := decide_eq_true h
theorem pathB_no {i n : Int} (h : ¬ (1 ≤ n ∧ n ≤ 1048576 ∧ 0 ≤ i ∧ i < n)) : pathB i n = false := decide_eq_false h
/-- The length of the path, 0 if there is none. -/
def plenZ (i n : Int) : Int := if pathB i n = true then (plenN i.toNat n.toNat : Int) else 0

end Go.Proofs.YtdoaikanaodefaaGreatDoor

/- The contract of PathLen as the program has it: a range over the parts beside a leaf that counts them. -/
namespace Go.Proofs.YtdoaikanaodefaaGreatDoor
open Go.ChangeShapes Go.WideShapes Go.ChangeAt Go.RowKit Go.Shelf

attribute [local go_sem] Oper.semAt_some

/-- Is i a leaf of n? -/
def leafB (i n : Int) : Bool := decide (0 ≤ i ∧ i < n)
theorem leafB_yes {i n : Int} (h : 0 ≤ i ∧ i < n) : leafB i n = true := decide_eq_true h
theorem leafB_no {i n : Int} (h : ¬ (0 ≤ i ∧ i < n)) : leafB i n = false := decide_eq_false h

set_option maxHeartbeats 1000000 in
theorem isLeaf_any (i n : Int) (w : World) :
    Calls Tryz.prog 96 #[.int .i64 i, .int .i64 n] w (fun e w' => e = .returned (.bool (leafB i n)) ∧ w = w') := by
  by_cases h1 : 0 ≤ i
  · by_cases h2 : i < n
    · rw [leafB_yes ⟨h1, h2⟩]
      go_enter Tryz.func96, Tryz.ntmps96
      go_wp2
      go_ret
      exact ⟨by first | rfl | simp [h2], rfl⟩
    · rw [leafB_no (by omega)]
      go_enter Tryz.func96, Tryz.ntmps96
      go_wp2
      go_ret
      exact ⟨by first | rfl | simp [h2], rfl⟩
  · rw [leafB_no (by omega)]
    go_enter Tryz.func96, Tryz.ntmps96
    go_wp2
    go_ret
    exact ⟨rfl, rfl⟩

/-- A variable that holds an int all along. -/
theorem ownFrom_boxed {β : Type} (B b : Nat) (t : TypeId) (f : β → Value) : OwnFrom B (fun s W => Boxed W b t (f s)) := by
  intro s W W' row h hg hr
  refine h.kept hg fun e => ?_
  obtain ⟨_, o, ho, hc⟩ := hr b e.symm
  rw [show W.heap[b]? = _ from h] at ho
  cases ho
  simp [Obj.isCells] at hc
theorem ownFrom_size {β : Type} (B k : Nat) : OwnFrom B (fun (_ : β) W => k < W.heap.size) := fun _ _ _ _ hs hg _ => Nat.lt_of_lt_of_le hs hg.size
theorem kpP_b {n₀ Bi Bn : Nat} {w : World} (hn : n₀ ≤ w.heap.size) (hi : Bi < w.heap.size) (hs : Bn < w.heap.size) (W : World) (l : Nat) (o o' : Obj) (hl : w.heap.size ≤ l) (h : W.heap[l]? = some o) (h1 : o.isCells = false) (h2 : o.isWalk = false) : KpP n₀ Bi Bn W (W.putObj l o') :=
  ⟨belowK_b hn W l o o' hl h h1 h2, World.putObj_heap_other (by omega), World.putObj_heap_other (by omega)⟩

end Go.Proofs.YtdoaikanaodefaaGreatDoor
