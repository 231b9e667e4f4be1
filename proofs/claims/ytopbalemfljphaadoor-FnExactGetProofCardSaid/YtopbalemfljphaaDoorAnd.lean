/- The contracts of BitsAnd, BitsOr and BitsIn, as the program has them and as their model has them. -/
import Derived.Test.YtopbalemfljphaaDoorList
import Derived.Test.YtopbalemfljphaaDoorPut
import Derived.Deep.RegionLaw
import Derived.RegionTactic
import Derived.BigRegion
namespace Go.Proofs.YtopbalemfljphaaDoor
open Go.ChangeShapes Go.WideShapes Go.ChangeAt Go.RowKit

/-- 'append(out, c)' inside a region that draws: out is nil or the call's own. -/
theorem wp_app1 {P : Program} {W w : World} {o : Oper} {a : Act} {K : Act → World → Prop} {Q : Exit → Act → World → Prop} (s x : Operand) (t : TypeId)
    (ho : o.op = .call { callee := .builtin .append, args := #[s, x], argTypes := #[t, t] }) (E : TypeId) (i : TypeInfo) (ht : P.underlying t = some (.slice E)) (hi : P.info? E = some i)
    (hz : i.zero = some (.int .u8 0)) (hsize : i.size = 1) (hby : i.bytes = 1) (v : Value) (l : List UInt8) (hs : a.eval s = v) (z : Int) (c : UInt8) (hzc : Hid (z = (c.toNat : Int)))
    (hx : a.eval x = .slice (some ⟨w.heap.size, 0, none⟩) 1 1) (hown : Own E w W.heap.size v l) (hb : Below W.heap.size W w) (hlen : l.length ≤ 70368744177664)
    (h : ∀ v' w', Own E w' W.heap.size v' (l ++ [c]) → Below W.heap.size W w' → K (a.put o.dst v') w') : o.wp P a (w.alloc (.cells #[.int .u8 z] E)) K Q := by
  have hzc := hzc.out
  subst hzc
  have hba : Below w.heap.size w (w.alloc (.cells #[.int .u8 (c.toNat : Int)] E)) := (Below.refl _ _).alloc (Nat.le_refl _) _
  have hown' := hown.up hba
  refine wp_append_own _ s x t ho W.heap.size E i (.int .u8 0) 1 1 ht hi hz hsize hby rfl (by omega) v l.length (us l) hs hown' ⟨w.heap.size, 0, none⟩ 1 1 (us [c]) hx rfl ?_ (us_cell _) ?_ ?_ ?_ ?_
  · intro j u hj
    rcases j with _ | j
    · rw [us_one] at hj
      injection hj with hj
      subst hj
      simp [Addr.add]
    · simp [us_one] at hj
  · unfold maxLen; omega
  · omega
  · simp; have := hb.size; omega
  · intro v' w' h1 h2 _
    refine h v' w' ?_ ?_
    · unfold Own
      rw [us_app, List.length_append]
      exact h1
    · exact below_of_own hown' (hb.alloc hb.size _) h2
theorem step_app1 {P : Program} {W w : World} {ops : Array Oper} {o : Oper} {a : Act} {K : Act → World → Prop} {Q : Exit → Act → World → Prop} {F : Prop} (hgd : o.guard = none) (s x : Operand) (t : TypeId)
    (ho : o.op = .call { callee := .builtin .append, args := #[s, x], argTypes := #[t, t] }) (E : TypeId) (i : TypeInfo) (ht : P.underlying t = some (.slice E)) (hi : P.info? E = some i)
    (hz : i.zero = some (.int .u8 0)) (hsize : i.size = 1) (hby : i.bytes = 1) (v : Value) (l : List UInt8) (hs : a.eval s = v) (z : Int) (c : UInt8) (hzc : Hid (z = (c.toNat : Int)))
    (hx : a.eval x = .slice (some ⟨w.heap.size, 0, none⟩) 1 1) (hown : Own E w W.heap.size v l) (hb : Below W.heap.size W w) (hlen : l.length ≤ 70368744177664)
    (h : ∀ v' w', Own E w' W.heap.size v' (l ++ [c]) → Below W.heap.size W w' → K (a.put o.dst v') w') :
    if Region.wanted o (yielded ops a.tmps) = true then Oper.wp P o a (w.alloc (.cells #[.int .u8 z] E)) K Q else F := by
  have hw : Region.wanted o (yielded ops a.tmps) = true := by simp [Region.wanted, hgd]
  rw [if_pos hw]
  exact wp_app1 s x t ho E i ht hi hz hsize hby v l hs z c hzc hx hown hb hlen h

theorem lens_ne {a b : List UInt8} (h : a.length ≠ b.length) : ((a.length : Int) != (b.length : Int)) = true := by
  have : (a.length : Int) ≠ (b.length : Int) := by omega
  simpa using this
theorem lens_eq {a b : List UInt8} (h : a.length = b.length) : ((a.length : Int) != (b.length : Int)) = false := by
  rw [h]; simp
theorem lens_eq' {a b : List UInt8} (h : a.length = b.length) : ((a.length : Int) == (b.length : Int)) = true := by
  rw [h]; simp
theorem lens_ne' {a b : List UInt8} (h : a.length ≠ b.length) : ((a.length : Int) == (b.length : Int)) = false := by
  have : (a.length : Int) ≠ (b.length : Int) := by omega
  simpa using this

theorem and_at {a b : List UInt8} (h : a.length = b.length) (k : Nat) (hk : k < a.length) : bits .and .u8 (bt a k) (bt b k) = (((andL a b).getD k 0).toNat : Int) := by
  unfold bt andL
  rw [if_pos h, u8_and_nat _ _ (UInt8.toNat_lt _) (UInt8.toNat_lt _)]
  congr 1
  simp only [List.getD_eq_getElem?_getD, List.getElem?_zipWith]
  rw [List.getElem?_eq_getElem hk, List.getElem?_eq_getElem (by omega)]
  simp
theorem and_take {a b : List UInt8} (h : a.length = b.length) (k : Nat) (hk : k < a.length) : (andL a b).take (k + 1) = (andL a b).take k ++ [(andL a b).getD k 0] := by
  have hl : k < (andL a b).length := by rw [andL_length h]; exact hk
  rw [List.take_add_one, List.getElem?_eq_getElem hl, List.getD_eq_getElem?_getD, List.getElem?_eq_getElem hl]
  rfl
theorem or_at8 {a b : List UInt8} (h : a.length = b.length) (k : Nat) (hk : k < a.length) : bits .or .u8 (bt a k) (bt b k) = (((orL a b).getD k 0).toNat : Int) := by
  unfold bt orL
  rw [if_pos h, u8_or_nat _ _ (UInt8.toNat_lt _) (UInt8.toNat_lt _)]
  congr 1
  simp only [List.getD_eq_getElem?_getD, List.getElem?_zipWith]
  rw [List.getElem?_eq_getElem hk, List.getElem?_eq_getElem (by omega)]
  simp
theorem or_take {a b : List UInt8} (h : a.length = b.length) (k : Nat) (hk : k < a.length) : (orL a b).take (k + 1) = (orL a b).take k ++ [(orL a b).getD k 0] := by
  have hl : k < (orL a b).length := by rw [orL_length h]; exact hk
  rw [List.take_add_one, List.getElem?_eq_getElem hl, List.getD_eq_getElem?_getD, List.getElem?_eq_getElem hl]
  rfl
end Go.Proofs.YtopbalemfljphaaDoor
