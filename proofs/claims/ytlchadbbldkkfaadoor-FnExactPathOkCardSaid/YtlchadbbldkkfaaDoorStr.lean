/- The contracts of the functions on strings and bytes: SameBytes, ErName. -/
import Derived.Test.YtlchadbbldkkfaaDoorPut
import Derived.Laws.BytesArg
namespace Go.Proofs.YtlchadbbldkkfaaDoor
open Go.ChangeShapes Go.WideShapes Go.ChangeAt Go.RowKit

/-- The string of a list of bytes. -/
def ba (l : List UInt8) : ByteArray := ⟨l.toArray⟩
theorem ba_inj {l m : List UInt8} (h : ba l = ba m) : l = m := by
  have := congrArg (fun s : ByteArray => s.data.toList) h
  simpa [ba] using this
theorem ba_toList (l : List UInt8) : (ba l).data.toList = l := by simp [ba]
theorem ba_size (l : List UInt8) : (ba l).size = l.length := by simp [ba, ByteArray.size]

theorem ba_bytes (l : List UInt8) : (ba l).toList = l := by rw [ByteArray.toList_eq, ba_toList]

/-- 'string(b)'. -/
theorem run_conv {P : Program} {w : World} {B : Nat} {v : Value} {l : List UInt8} (src e dst : TypeId) (hs : P.underlying src = some (.slice e)) (he : P.underlying e = some (.int .u8)) (hd : P.underlying dst = some .string)
    (h : Sl w B v l) : (convert src dst v).run P w = .ok (.string (ba l)) w := by
  obtain ⟨A, c, rfl, h1, h2, h0, h3⟩ := h
  rcases A with _ | ad
  · have hm0 : l = [] := by
      rcases l with _ | ⟨y, m⟩
      · rfl
      · obtain ⟨b, off, e, _⟩ := h3 (by simp)
        cases e
    subst hm0
    exact run_convert_bytes_nil w src e hs he _ _ dst hd
  · rw [run_convert_bytes_string w src dst e _ _ c hs he hd]
    have hl : (loadCells ad l.length).run P w = .ok ((l.map fun c => (c.toNat : Int)).map (Value.int .u8)).toArray w := by
      have := run_loadCells_list (P := P) w ad (us l) (fun j v hj => by
        have hjm : j < l.length := by
          rw [← us_length l]
          exact (List.getElem?_eq_some_iff.1 hj).1
        obtain ⟨b, off, e, _, hc⟩ := h3 (by omega)
        injection e with e
        subst e
        rw [us_get l j hjm] at hj
        injection hj with hj
        subst hj
        have := hc j hjm
        unfold Addr.add
        split
        · rename_i h0; subst h0; simpa using this
        · exact this)
      rw [us_length] at this
      rw [this]
      simp [us]
    rw [run_bytesToString w ad l.length c _ hl, foldl_push_bytes]
    congr 2
    apply ByteArray.ext
    apply Array.toList_inj.1
    have e : ((fun n : Int => UInt8.ofNat n.toNat) ∘ fun c : UInt8 => (c.toNat : Int)) = id := by
      funext c
      simp
    simp [ba, ByteArray.empty, ByteArray.emptyWithCapacity, e]
    rfl

theorem specSameBytes_any (v u : Value) (l m : List UInt8) (w : World) (h : Sl w w.heap.size v l) (h' : Sl w w.heap.size u m) :
    Calls Tryd.prog 61 #[v, u] w fun e w' => e = .returned (.bool (l == m)) ∧ w = w' := by
  have c1 := run_conv (P := Tryd.prog) 22 5 9 Tryd.underlying22 Tryd.underlying5 Tryd.underlying9 h
  have c2 := run_conv (P := Tryd.prog) 22 5 9 Tryd.underlying22 Tryd.underlying5 Tryd.underlying9 h'
  go_enter Tryd.func61, Tryd.ntmps61
  go_wp2
  go_ret
  exact ⟨by rw [ba_bytes, ba_bytes]; rfl, rfl⟩
theorem bytesEqual_any (v u : Value) (l m : List UInt8) (w : World) (h : Sl w w.heap.size v l) (h' : Sl w w.heap.size u m) :
    Calls Tryd.prog 49 #[v, u] w fun e w' => e = .returned (.bool (l == m)) ∧ w = w' := by
  have c1 := run_conv (P := Tryd.prog) 22 5 9 Tryd.underlying22 Tryd.underlying5 Tryd.underlying9 h
  have c2 := run_conv (P := Tryd.prog) 22 5 9 Tryd.underlying22 Tryd.underlying5 Tryd.underlying9 h'
  go_enter Tryd.func49, Tryd.ntmps49
  go_wp2
  go_ret
  exact ⟨by rw [ba_bytes, ba_bytes]; rfl, rfl⟩
theorem implSameBytes_any (v u : Value) (l m : List UInt8) (w : World) (h : Sl w w.heap.size v l) (h' : Sl w w.heap.size u m) :
    Calls Tryd.prog 16 #[v, u] w fun e w' => e = .returned (.bool (l == m)) ∧ w = w' := by
  go_enter Tryd.func16, Tryd.ntmps16
  go_wp2_with (go_at_call 49; refine (bytesEqual_any _ _ l m _ h h').mono ?_; rintro e w' ⟨rfl, rfl⟩)
  go_ret
  exact ⟨rfl, rfl⟩
end Go.Proofs.YtlchadbbldkkfaaDoor
