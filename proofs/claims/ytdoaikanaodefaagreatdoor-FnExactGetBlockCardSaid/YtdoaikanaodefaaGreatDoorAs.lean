/- errors.As at a target of type *decodeError, and codeOf: Go's own text of errors.As is walked; the entries of internal/reflectlite are met by closed facts. -/
import Derived.Test.YtdoaikanaodefaaGreatDoorPut
import Derived.LaidEql
import Derived.Stop.Asserts
import Derived.RowKitTokens
namespace Go.Proofs.YtdoaikanaodefaaGreatDoor
open Go.RowKit Go.Extern.Stop Go.Stop Go.Extern

/-- The handle of a type. -/
abbrev hnd (t : Nat) : Value := .pointer (some ⟨2, t, none⟩)
theorem kindD (w : World) : ((ReflectliteType.abiMethod fun t => (fun a : Nat => Value.int IntKind.u8 (a : Int)) <$> Rtype.kind t) #[.pointer (some ⟨2, 76, none⟩)]).run Tryz.prog w = .ok (.int .u8 25) w := by kernel_rfl

theorem valueOfD (c : Int) (w : World) : (ReflectliteValue.unpack (.iface 76 (.agg #[.int .i64 c]))).run Tryz.prog w
    = .ok (.agg #[.pointer (some ⟨2, 76, none⟩), .pointer (some ⟨w.heap.size, 0, none⟩), .int .u64 153]) (w.alloc (.cells #[.int .i64 c] 76)) := by kernel_rfl
theorem mkD (p : Addr) (w : World) : (ReflectliteValue.mk 76 p ReflectliteValue.flagAddr).run Tryz.prog w = .ok (.agg #[.pointer (some ⟨2, 76, none⟩), .pointer (some p), .int .u64 409]) w := by kernel_rfl
theorem run_then {α β : Type} {P : Program} {x : Sem α} {k : α → Sem β} {w w1 : World} {a : α} (h : x.run P w = .ok a w1) : (x >>= k).run P w = (k a).run P w1 := by
  rw [Sem.run_bind, h]
  rfl
theorem partsDa (a : Addr) (w : World) : (ReflectliteValue.parts (.agg #[.pointer (some ⟨2, 76, none⟩), .pointer (some a), .int .u64 409])).run Tryz.prog w = .ok (some (76, a, 409)) w := by kernel_rfl
theorem partsD (a : Addr) (w : World) : (ReflectliteValue.parts (.agg #[.pointer (some ⟨2, 76, none⟩), .pointer (some a), .int .u64 153])).run Tryz.prog w = .ok (some (76, a, 153)) w := by kernel_rfl
theorem directD (w : World) : (Rtype.directlyAssignable 76 76).run Tryz.prog w = .ok true w := by kernel_rfl
theorem sizeD (w : World) : (sizeOf 76).run Tryz.prog w = .ok 1 w := by kernel_rfl
theorem isAggD (w : World) : (isAgg 76).run Tryz.prog w = .ok true w := by kernel_rfl
theorem infoD : (Tryz.prog.info? 76).map (·.size) = some 1 := by kernel_rfl
theorem loadD (b : Nat) (c : Int) (W : World) (hb : W.cell? ⟨b, 0, none⟩ = some (.int .i64 c)) : (loadVar 76 ⟨b, 0, none⟩).run Tryz.prog W = .ok (.agg #[.int .i64 c]) W := by
  have h := run_loadCells_list (P := Tryz.prog) W ⟨b, 0, none⟩ [.int .i64 c] (fun j v hj => by
    rcases j with _ | j
    · injection hj with hj
      subst hj
      simpa [Addr.add] using hb
    · simp at hj)
  simp only [loadVar, Sem.run_bind, isAggD, Result.andThen]
  simp only [if_true, Sem.run_bind, sizeD, Result.andThen]
  have h' : (loadCells ⟨b, 0, none⟩ 1).run Tryz.prog W = .ok #[.int .i64 c] W := h
  rw [h']
  rfl
theorem storeD (t : Nat) (c : Int) (old : Value) (W : World) (ht : W.cell? ⟨t, 0, none⟩ = some old) (hf : W.frozen? ⟨t, 0, none⟩ = false) :
    (storeVar 76 ⟨t, 0, none⟩ (.agg #[.int .i64 c])).run Tryz.prog W = .ok () (W.setCell ⟨t, 0, none⟩ (.int .i64 c)) := by
  simp [storeVar, Result.andThen, Value.cells, storeCells, Addr.add]
  rw [run_store Tryz.prog W ⟨t, 0, none⟩ _ _ (by rfl)]
  simp [ht, hf]
set_option maxRecDepth 100000 in
theorem setD (t b : Nat) (c : Int) (old : Value) (W : World) (hb : W.cell? ⟨b, 0, none⟩ = some (.int .i64 c)) (ht : W.cell? ⟨t, 0, none⟩ = some old) (hf : W.frozen? ⟨t, 0, none⟩ = false) :
    (ReflectliteValue.set #[.agg #[.pointer (some ⟨2, 76, none⟩), .pointer (some ⟨t, 0, none⟩), .int .u64 409], .agg #[.pointer (some ⟨2, 76, none⟩), .pointer (some ⟨b, 0, none⟩), .int .u64 153]]).run Tryz.prog W
      = .ok (.tuple #[]) (W.setCell ⟨t, 0, none⟩ (.int .i64 c)) := by
  refine (run_then (x := ReflectliteValue.parts (.agg #[.pointer (some ⟨2, 76, none⟩), .pointer (some ⟨t, 0, none⟩), .int .u64 409])) (partsDa _ _)).trans ?_
  refine (run_then (x := ReflectliteValue.parts (.agg #[.pointer (some ⟨2, 76, none⟩), .pointer (some ⟨b, 0, none⟩), .int .u64 153])) (partsD _ _)).trans ?_
  simp [ReflectliteValue.flagAddr, Result.andThen, directD, loadD b c W hb, storeD t c old W ht hf]

end Go.Proofs.YtdoaikanaodefaaGreatDoor
