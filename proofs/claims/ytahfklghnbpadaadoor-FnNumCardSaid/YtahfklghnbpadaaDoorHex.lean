/- The contracts of HexText: as the program has it and as its model has it. -/
import Derived.Test.YtahfklghnbpadaaDoorStr
import Derived.Deep.RegionLaw
namespace Go.Proofs.YtahfklghnbpadaaDoor
open Go.ChangeShapes Go.WideShapes Go.ChangeAt Go.RowKit

/-- The hexadecimal digit of a number below 16. -/
def hexD (k : Nat) : UInt8 := if k < 10 then UInt8.ofNat (48 + k) else UInt8.ofNat (87 + k)
/-- Two digits for each byte. -/
def hexL (l : List UInt8) : List UInt8 := l.flatMap fun c => [hexD (c.toNat / 16), hexD (c.toNat % 16)]
theorem hexL_len (l : List UInt8) : (hexL l).length = 2 * l.length := by
  induction l with
  | nil => rfl
  | cons c l ih => simp [hexL] at ih ⊢; omega
theorem hexL_snoc (l : List UInt8) (k : Nat) (h : k < l.length) : hexL (l.take (k + 1)) = hexL (l.take k) ++ [hexD ((bt l k).toNat / 16), hexD ((bt l k).toNat % 16)] := by
  have e : bt l k = ((l[k]).toNat : Int) := by simp [bt, List.getD_eq_getElem?_getD, List.getElem?_eq_getElem h]
  rw [List.take_succ_eq_append_getElem h, e, Int.toNat_natCast]
  unfold hexL
  rw [List.flatMap_append]
  rfl
/-- The digits as the program has them. -/
def hexs : ByteArray := ⟨#[48, 49, 50, 51, 52, 53, 54, 55, 56, 57, 97, 98, 99, 100, 101, 102]⟩
theorem hexs_at (k : Nat) (h : k < 16) : hexs.data.toList[k]? = some (hexD k) := by
  have : k = 0 ∨ k = 1 ∨ k = 2 ∨ k = 3 ∨ k = 4 ∨ k = 5 ∨ k = 6 ∨ k = 7 ∨ k = 8 ∨ k = 9 ∨ k = 10 ∨ k = 11 ∨ k = 12 ∨ k = 13 ∨ k = 14 ∨ k = 15 := by omega
  rcases this with rfl | rfl | rfl | rfl | rfl | rfl | rfl | rfl | rfl | rfl | rfl | rfl | rfl | rfl | rfl | rfl <;> decide
theorem run_hexs (z : Int) (k : Nat) (h : k < 16) (hz : z = (k : Int)) (w : World) :
    (Instr.index 9 (.string ⟨#[48, 49, 50, 51, 52, 53, 54, 55, 56, 57, 97, 98, 99, 100, 101, 102]⟩) (.int .u8 z)).run Tryd.prog w = .ok (.int .u8 ((hexD k).toNat : Int)) w := by
  subst hz
  have hs : k < hexs.size := h
  show (Instr.index 9 (.string hexs) (.int .u8 (k : Int))).run Tryd.prog w = _
  rw [run_index_string w 9 hexs .u8 (k : Int) Tryd.underlying9, dif_pos ⟨by omega, by omega⟩]
  have e := hexs_at k h
  have e2 : hexs.data.toList[k]? = some hexs[k] := by
    rw [List.getElem?_eq_getElem (by simpa using hs)]
    rfl
  rw [e2] at e
  injection e with e
  simp [e]

/-- 'append(out, c, d)' for two bytes: out is nil or the call's own. -/
theorem wp_app2 {P : Program} {W w : World} {o : Oper} {a : Act} {K : Act → World → Prop} {Q : Exit → Act → World → Prop} (s x : Operand) (t : TypeId)
    (ho : o.op = .call { callee := .builtin .append, args := #[s, x], argTypes := #[t, t] }) (E : TypeId) (i : TypeInfo) (ht : P.underlying t = some (.slice E)) (hi : P.info? E = some i)
    (hz : i.zero = some (.int .u8 0)) (hsize : i.size = 1) (hby : i.bytes = 1) (v : Value) (l : List UInt8) (hs : a.eval s = v) (c d : UInt8)
    (hx : a.eval x = .slice (some ⟨w.heap.size, 0, none⟩) 2 2) (hown : Own E w W.heap.size v l) (hb : Below W.heap.size W w) (hlen : l.length ≤ 70368744177664)
    (h : ∀ v' w', Own E w' W.heap.size v' (l ++ [c, d]) → Below W.heap.size W w' → K (a.put o.dst v') w') : o.wp P a (w.alloc (.cells #[.int .u8 (c.toNat : Int), .int .u8 (d.toNat : Int)] E)) K Q := by
  have hba : Below w.heap.size w (w.alloc (.cells #[.int .u8 (c.toNat : Int), .int .u8 (d.toNat : Int)] E)) := (Below.refl _ _).alloc (Nat.le_refl _) _
  have hown' := hown.up hba
  refine wp_append_own _ s x t ho W.heap.size E i (.int .u8 0) 1 1 ht hi hz hsize hby rfl (by omega) v l.length (us l) hs hown' ⟨w.heap.size, 0, none⟩ 2 2 (us [c, d]) hx rfl ?_ (us_cell _) ?_ ?_ ?_ ?_
  · intro j y hj
    have e : us [c, d] = [.int .u8 (c.toNat : Int), .int .u8 (d.toNat : Int)] := rfl
    rw [e] at hj
    rcases j with _ | _ | j
    · injection hj with hj
      subst hj
      simp [Addr.add]
    · injection hj with hj
      subst hj
      simp [Addr.add]
    · simp at hj
  · unfold maxLen; omega
  · omega
  · simp; have := hb.size; omega
  · intro v' w' h1 h2 _
    refine h v' w' ?_ ?_
    · unfold Own
      rw [us_app, List.length_append]
      exact h1
    · exact below_of_own hown' (hb.alloc hb.size _) h2
theorem wpList_app2 {P : Program} {W w : World} {ops : Array Oper} {rest : List Oper} {o : Oper} {a : Act} {Q : Exit → Act → World → Prop} (hgd : o.guard = none) (s x : Operand) (t : TypeId)
    (ho : o.op = .call { callee := .builtin .append, args := #[s, x], argTypes := #[t, t] }) (E : TypeId) (i : TypeInfo) (ht : P.underlying t = some (.slice E)) (hi : P.info? E = some i)
    (hz : i.zero = some (.int .u8 0)) (hsize : i.size = 1) (hby : i.bytes = 1) (v : Value) (l : List UInt8) (hs : a.eval s = v) (c d : UInt8)
    (hx : a.eval x = .slice (some ⟨w.heap.size, 0, none⟩) 2 2) (hown : Own E w W.heap.size v l) (hb : Below W.heap.size W w) (hlen : l.length ≤ 70368744177664)
    (h : ∀ v' w', Own E w' W.heap.size v' (l ++ [c, d]) → Below W.heap.size W w' → wpList P ops Q rest (a.put o.dst v') w') : wpList P ops Q (o :: rest) a (w.alloc (.cells #[.int .u8 (c.toNat : Int), .int .u8 (d.toNat : Int)] E)) :=
  wpList_plain hgd fun _ hK => wp_app2 s x t ho E i ht hi hz hsize hby v l hs c d hx hown hb hlen fun v' w' h2 h3 => hK _ _ (h v' w' h2 h3)
theorem step_app2 {P : Program} {W w : World} {ops : Array Oper} {o : Oper} {a : Act} {K : Act → World → Prop} {Q : Exit → Act → World → Prop} {F : Prop} (hgd : o.guard = none) (s x : Operand) (t : TypeId)
    (ho : o.op = .call { callee := .builtin .append, args := #[s, x], argTypes := #[t, t] }) (E : TypeId) (i : TypeInfo) (ht : P.underlying t = some (.slice E)) (hi : P.info? E = some i)
    (hz : i.zero = some (.int .u8 0)) (hsize : i.size = 1) (hby : i.bytes = 1) (v : Value) (l : List UInt8) (hs : a.eval s = v) (c d : UInt8)
    (hx : a.eval x = .slice (some ⟨w.heap.size, 0, none⟩) 2 2) (hown : Own E w W.heap.size v l) (hb : Below W.heap.size W w) (hlen : l.length ≤ 70368744177664)
    (h : ∀ v' w', Own E w' W.heap.size v' (l ++ [c, d]) → Below W.heap.size W w' → K (a.put o.dst v') w') :
    if Region.wanted o (yielded ops a.tmps) = true then Oper.wp P o a (w.alloc (.cells #[.int .u8 (c.toNat : Int), .int .u8 (d.toNat : Int)] E)) K Q else F := by
  have hw : Region.wanted o (yielded ops a.tmps) = true := by simp [Region.wanted, hgd]
  rw [if_pos hw]
  exact wp_app2 s x t ho E i ht hi hz hsize hby v l hs c d hx hown hb hlen h

/-- The call returns the string of l; nothing that was there has turned. -/
def StrB (w : World) (l : List UInt8) (e : Ending) (w' : World) : Prop := e = .returned (.string (ba l)) ∧ Below w.heap.size w w'

set_option maxHeartbeats 400000 in
theorem implHexText_any (v : Value) (l : List UInt8) (w : World) (h : Sl w w.heap.size v l) (hl : l.length ≤ 4294967296) :
    Calls Tryd.prog 22 #[v] w (StrB w (hexL l)) := by
  obtain ⟨i0, hi, hz0, hz1, hz2⟩ := info_parts u8info
  obtain ⟨A, c, rfl, h1, h2, h0, h3⟩ := h
  unfold maxLen at h2
  clear h0
  go_enter Tryd.func22, Tryd.ntmps22
  go_wp2
  go_loopw [3, 8] (fun s i wr => ∃ k : Nat, k ≤ l.length ∧ i = .int .i64 k ∧ Own 5 wr w.heap.size s (hexL (l.take k)) ∧ Below w.heap.size w wr)
    (fun _ i _ => l.length - (intOf i).toNat)
  case atStart => exact ⟨0, Nat.zero_le _, rfl, World.ownsRow_nil _ _ _ _, Below.refl _ _⟩
  case round =>
    obtain ⟨k, hk, rfl, hown, hbel⟩ := hrel
    have hlen : (hexL (l.take k)).length ≤ 8589934592 := by rw [hexL_len]; simp; omega
    by_cases hlt : k < l.length
    · obtain ⟨b, off, rfl, hbb, hcell⟩ := h3 (by omega)
      have hc0 := (hbel.cell (p := ⟨b, off + k, none⟩) hbb).trans (hcell k hlt)
      have hlo := bt_lo l k
      have hhi := bt_hi l k
      have hsn := Lib.hid (hexL_snoc l k hlt)
      clear hcell h3
      obtain ⟨q, hq⟩ := Int.eq_ofNat_of_zero_le hlo
      have hsq := hsn.out
      rw [hq] at hc0 hhi hsq
      rw [Int.toNat_natCast] at hsq
      have Hs := Lib.hid hsq
      clear hsq hsn hlo hq
      have hq1 : q ≤ 255 := by omega
      have hx1 := fun W => run_hexs (IntKind.u8.wrap ((q : Int) / 16)) (q / 16) (by omega) (by rw [IntWalk.u8_in _ (by omega)]; simp) W
      have hx2 := fun W => run_hexs ((q : Int).tmod 16) (q % 16) (by omega) (by rw [Int.tmod_eq_emod_of_nonneg (by omega)]; simp) W
      go_wp2_with fail
      have hownd : Own 5 wr.drew w.heap.size u3 (hexL (l.take k)) := hown
      go_region_law (refine step_app2 (W := w) (w := wr.drew) rfl (.tmp 12) (.tmp 19) 22 rfl 5 i0 Tryd.underlying22 hi hz0 hz1 hz2 u3 (hexL (l.take k)) (by simp [Act.eval]) (hexD (q / 16)) (hexD (q % 16)) (by simp [Act.eval]) hownd hbel.drew (by omega) ?_; intro v2 w2 hown2 hb2)
      all_goals
        go_wp2
        go_roundw
        case rel => exact ⟨k + 1, by omega, by go_num, by rw [Hs.out]; exact hown2, hb2⟩
        case measure => simp [intOf]; omega
    · obtain rfl : k = l.length := by omega
      rw [List.take_of_length_le (Nat.le_refl _)] at hown
      have hcv := run_conv (P := Tryd.prog) 22 5 9 Tryd.underlying22 Tryd.underlying5 Tryd.underlying9 hown.sl
      go_wp2
      go_ret
      exact ⟨rfl, hbel⟩
end Go.Proofs.YtahfklghnbpadaaDoor
