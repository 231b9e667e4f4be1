/- Plain functions on lists of bytes: the bits of a bitmap, and what its functions answer. No program is named here. -/
import Derived.Test.YtlchadbbldkkfaaDoorMem
import Derived.Test.YtlchadbbldkkfaaDoorMath
import Derived.Lib.BitFns
namespace Go.Proofs.YtlchadbbldkkfaaDoor
/-- Bit i of the bytes l. -/
def bitL (l : List UInt8) (i : Nat) : Bool := (l.getD (i / 8) 0).toNat.testBit (i % 8)
theorem bitL_div (l : List UInt8) (i : Nat) : bitL l i = decide ((l.getD (i / 8) 0).toNat / 2 ^ (i % 8) % 2 = 1) := Nat.testBit_eq_decide_div_mod_eq
theorem bitL_far (l : List UInt8) (i : Nat) (h : 8 * l.length ≤ i) : bitL l i = false := by
  unfold bitL
  have : l.length ≤ i / 8 := by omega
  rw [List.getD_eq_getElem?_getD, List.getElem?_eq_none this]
  simp
theorem byte_ext {a b : UInt8} (h : ∀ j, j < 8 → a.toNat.testBit j = b.toNat.testBit j) : a = b := by
  apply UInt8.toNat_inj.1
  apply Nat.eq_of_testBit_eq
  intro j
  by_cases hj : j < 8
  · exact h j hj
  · have e : ∀ c : UInt8, c.toNat.testBit j = false := fun c => Nat.testBit_lt_two_pow (Nat.lt_of_lt_of_le c.toNat_lt (Nat.pow_le_pow_right (by decide) (by omega : 8 ≤ j)))
    rw [e, e]
/-- Bytes with the same bits are the same. -/
theorem bits_ext {l m : List UInt8} (hl : l.length = m.length) (h : ∀ i, i < 8 * l.length → bitL l i = bitL m i) : l = m := by
  apply List.ext_getElem hl
  intro k h1 h2
  apply byte_ext
  intro j hj
  have e1 : (8 * k + j) / 8 = k := by omega
  have e2 : (8 * k + j) % 8 = j := by omega
  have := h (8 * k + j) (by omega)
  unfold bitL at this
  rw [e1, e2, List.getD_eq_getElem?_getD, List.getD_eq_getElem?_getD, List.getElem?_eq_getElem h1, List.getElem?_eq_getElem h2] at this
  exact this
/-- The byte with the bits g 0 .. g 7. -/
def byteOf (g : Nat → Bool) : UInt8 := UInt8.ofNat ((g 0).toNat + 2 * (g 1).toNat + 4 * (g 2).toNat + 8 * (g 3).toNat + 16 * (g 4).toNat + 32 * (g 5).toNat + 64 * (g 6).toNat + 128 * (g 7).toNat)
theorem byteOf_bit (g : Nat → Bool) (j : Nat) (hj : j < 8) : (byteOf g).toNat.testBit j = g j := by
  rw [Nat.testBit_eq_decide_div_mod_eq]
  have hb : ∀ i, (g i).toNat ≤ 1 := fun i => Bool.toNat_le _
  have h0 := hb 0; have h1 := hb 1; have h2 := hb 2; have h3 := hb 3; have h4 := hb 4; have h5 := hb 5; have h6 := hb 6; have h7 := hb 7
  have e : (byteOf g).toNat = (g 0).toNat + 2 * (g 1).toNat + 4 * (g 2).toNat + 8 * (g 3).toNat + 16 * (g 4).toNat + 32 * (g 5).toNat + 64 * (g 6).toNat + 128 * (g 7).toNat := by
    unfold byteOf
    simp
    omega
  have key : (byteOf g).toNat / 2 ^ j % 2 = (g j).toNat := by
    rw [e]
    have : j = 0 ∨ j = 1 ∨ j = 2 ∨ j = 3 ∨ j = 4 ∨ j = 5 ∨ j = 6 ∨ j = 7 := by omega
    rcases this with rfl | rfl | rfl | rfl | rfl | rfl | rfl | rfl <;> omega
  rw [key]
  cases g j <;> rfl
/-- The m bytes with the bits f. -/
def ofBits (f : Nat → Bool) (m : Nat) : List UInt8 := (List.range m).map fun k => byteOf fun j => f (8 * k + j)
theorem ofBits_length (f : Nat → Bool) (m : Nat) : (ofBits f m).length = m := by simp [ofBits]
theorem ofBits_bit (f : Nat → Bool) (m i : Nat) (h : i < 8 * m) : bitL (ofBits f m) i = f i := by
  have hk : i / 8 < m := by omega
  have e : (ofBits f m).getD (i / 8) 0 = byteOf fun j => f (8 * (i / 8) + j) := by
    simp [ofBits, List.getD_eq_getElem?_getD, hk]
  unfold bitL
  rw [e, byteOf_bit _ _ (by omega)]
  congr 1
  omega
theorem eq_ofBits {l : List UInt8} {f : Nat → Bool} {m : Nat} (hl : l.length = m) (h : ∀ i, i < 8 * m → bitL l i = f i) : l = ofBits f m := by
  refine bits_ext (by rw [ofBits_length, hl]) fun i hi => ?_
  rw [hl] at hi
  rw [h i hi, ofBits_bit _ _ _ hi]
/-- A byte written. -/
theorem bitL_set (l : List UInt8) (k : Nat) (c : UInt8) (i : Nat) (hk : k < l.length) : bitL (l.set k c) i = if i / 8 = k then c.toNat.testBit (i % 8) else bitL l i := by
  unfold bitL
  rw [List.getD_eq_getElem?_getD, List.getD_eq_getElem?_getD, List.getElem?_set]
  split
  · rename_i h
    subst h
    simp
  · rename_i h
    rw [if_neg (by omega)]

/-! ### signers -/
def hasB (l : List UInt8) (i : Int) : Bool := decide (0 ≤ i) && bitL l i.toNat
def sizeB (n : Int) : Int := if n < 1 then 0 else (n - 1) / 8 + 1
def cntOk (n : Int) : Prop := 1 ≤ n ∧ n ≤ 10
instance (n : Int) : Decidable (cntOk n) := by unfold cntOk; infer_instance
theorem sizeB_ok {n : Int} (h : cntOk n) : sizeB n = (n - 1) / 8 + 1 ∧ 1 ≤ sizeB n ∧ sizeB n ≤ 2 := by
  obtain ⟨h1, h2⟩ := h
  unfold sizeB
  rw [if_neg (by omega)]
  omega
def newL (n : Int) : List UInt8 := if cntOk n then List.replicate (sizeB n).toNat 0 else []
theorem newL_len (n : Int) : (newL n).length ≤ 2 := by
  unfold newL
  split
  · rename_i h
    have := sizeB_ok h
    simp
    omega
  · simp
theorem replicate_bit (m i : Nat) : bitL (List.replicate m 0) i = false := by
  unfold bitL
  rw [List.getD_eq_getElem?_getD, List.getElem?_replicate]
  split <;> simp
def okP (l : List UInt8) (n : Int) : Prop := cntOk n ∧ (l.length : Int) = sizeB n ∧ ∀ i : Nat, i < 16 → n ≤ (i : Int) → bitL l i = false
instance (l : List UInt8) (n : Int) : Decidable (okP l n) := by unfold okP; infer_instance
def okB (l : List UInt8) (n : Int) : Bool := decide (okP l n)
def setOk (l : List UInt8) (n i : Int) : Prop := okP l n ∧ 0 ≤ i ∧ i < n
instance (l : List UInt8) (n i : Int) : Decidable (setOk l n i) := by unfold setOk; infer_instance
def setL (l : List UInt8) (n i : Int) (on : Bool) : List UInt8 := if setOk l n i then ofBits (fun j => if (j : Int) = i then on else bitL l j) l.length else []
def setB (l : List UInt8) (n i : Int) : Bool := decide (setOk l n i)
theorem setL_len (l : List UInt8) (n i : Int) (on : Bool) : (setL l n i on).length ≤ l.length := by
  unfold setL
  split <;> simp [ofBits_length]
def ofOk (zs : List Int) (n : Int) : Prop := cntOk n ∧ ∀ z ∈ zs, 0 ≤ z ∧ z < n
instance (zs : List Int) (n : Int) : Decidable (ofOk zs n) := by unfold ofOk; infer_instance
def ofL (zs : List Int) (n : Int) : List UInt8 := if ofOk zs n then ofBits (fun j => decide ((j : Int) ∈ zs)) (sizeB n).toNat else []
def ofB (zs : List Int) (n : Int) : Bool := decide (ofOk zs n)
theorem ofL_len (zs : List Int) (n : Int) : (ofL zs n).length ≤ 2 := by
  unfold ofL
  split
  · rename_i h
    have := sizeB_ok h.1
    rw [ofBits_length]
    omega
  · simp
def listN (l : List UInt8) : List Nat := (List.range (8 * l.length)).filter fun i => bitL l i
def listI (l : List UInt8) : List Int := (listN l).map fun (i : Nat) => (i : Int)
theorem listI_len (l : List UInt8) : (listI l).length ≤ 8 * l.length := by
  unfold listI listN
  rw [List.length_map]
  exact Nat.le_trans (List.length_filter_le _ _) (by simp)
def cntB (l : List UInt8) : Int := ((listN l).length : Int)
theorem listN_mem (l : List UInt8) (i : Nat) : i ∈ listN l ↔ bitL l i = true := by
  unfold listN
  rw [List.mem_filter, List.mem_range]
  refine ⟨fun h => h.2, fun h => ⟨?_, h⟩⟩
  rcases Nat.lt_or_ge i (8 * l.length) with hlt | hge
  · exact hlt
  · rw [bitL_far l i hge] at h
    cases h
/-- What has been listed after k steps. -/
def listTo (l : List UInt8) (k : Nat) : List Nat := (List.range k).filter fun i => bitL l i
theorem listTo_succ (l : List UInt8) (k : Nat) : listTo l (k + 1) = if bitL l k then listTo l k ++ [k] else listTo l k := by
  unfold listTo
  rw [List.range_succ, List.filter_append]
  cases h : bitL l k <;> simp [h]
theorem listTo_len (l : List UInt8) (k : Nat) : (listTo l k).length ≤ k := Nat.le_trans (List.length_filter_le _ _) (by simp)
theorem pop_eq : ∀ n : Fin 256, ((List.range 8).filter fun j => n.val.testBit j).length = Go.Lib.onesCount n.val := by decide +kernel
theorem pop_byte (c : UInt8) : ((List.range 8).filter fun j => c.toNat.testBit j).length = Go.Lib.onesCount c.toNat := pop_eq ⟨c.toNat, c.toNat_lt⟩
theorem cnt_step (l : List UInt8) (k : Nat) : (listTo l (8 * (k + 1))).length = (listTo l (8 * k)).length + Go.Lib.onesCount (l.getD k 0).toNat := by
  have e : List.range (8 * (k + 1)) = List.range (8 * k) ++ (List.range 8).map (8 * k + ·) := by
    rw [show 8 * (k + 1) = 8 * k + 8 by omega, List.range_add]
  have e2 : ((List.range 8).filter ((fun i => bitL l i) ∘ (8 * k + ·))) = (List.range 8).filter fun j => (l.getD k 0).toNat.testBit j := by
    apply List.filter_congr
    intro j hj
    rw [List.mem_range] at hj
    simp only [Function.comp]
    unfold bitL
    rw [show (8 * k + j) / 8 = k by omega, show (8 * k + j) % 8 = j by omega]
  unfold listTo
  rw [e, List.filter_append, List.length_append, List.filter_map, List.length_map, e2, pop_byte]
def andL (a b : List UInt8) : List UInt8 := if a.length = b.length then List.zipWith (fun x y => x &&& y) a b else []
def orL (a b : List UInt8) : List UInt8 := if a.length = b.length then List.zipWith (fun x y => x ||| y) a b else []
theorem andL_len (a b : List UInt8) : (andL a b).length ≤ a.length := by
  unfold andL
  split
  · rw [List.length_zipWith]; omega
  · simp
theorem orL_len (a b : List UInt8) : (orL a b).length ≤ a.length := by
  unfold orL
  split
  · rw [List.length_zipWith]; omega
  · simp
theorem andL_bit {a b : List UInt8} (h : a.length = b.length) (i : Nat) : bitL (andL a b) i = (bitL a i && bitL b i) := by
  unfold andL bitL
  rw [if_pos h]
  simp only [List.getD_eq_getElem?_getD, List.getElem?_zipWith]
  rcases Nat.lt_or_ge (i / 8) a.length with hlt | hge
  · rw [List.getElem?_eq_getElem hlt, List.getElem?_eq_getElem (by omega)]
    simp [UInt8.toNat_and]
  · rw [List.getElem?_eq_none hge, List.getElem?_eq_none (by omega)]
    simp
theorem orL_bit {a b : List UInt8} (h : a.length = b.length) (i : Nat) : bitL (orL a b) i = (bitL a i || bitL b i) := by
  unfold orL bitL
  rw [if_pos h]
  simp only [List.getD_eq_getElem?_getD, List.getElem?_zipWith]
  rcases Nat.lt_or_ge (i / 8) a.length with hlt | hge
  · rw [List.getElem?_eq_getElem hlt, List.getElem?_eq_getElem (by omega)]
    simp [UInt8.toNat_or]
  · rw [List.getElem?_eq_none hge, List.getElem?_eq_none (by omega)]
    simp
theorem andL_length {a b : List UInt8} (h : a.length = b.length) : (andL a b).length = a.length := by
  unfold andL
  rw [if_pos h, List.length_zipWith]; omega
theorem orL_length {a b : List UInt8} (h : a.length = b.length) : (orL a b).length = a.length := by
  unfold orL
  rw [if_pos h, List.length_zipWith]; omega
def inB (a b : List UInt8) : Bool := decide (a.length = b.length) && (andL a b == a)
theorem inB_yes {a b : List UInt8} (h : a.length = b.length) (hb : ∀ i, bitL a i = true → bitL b i = true) : inB a b = true := by
  have e : andL a b = a := by
    refine bits_ext (andL_length h) fun i _ => ?_
    rw [andL_bit h]
    have := hb i
    cases hx : bitL a i
    · rfl
    · rw [this hx]; rfl
  simp [inB, h, e]
/-! ### what the law of bitmaps asks -/
theorem okP_len {l : List UInt8} {n : Int} (h : okP l n) : (l.length : Int) = sizeB n ∧ l.length ≤ 2 := by
  have := sizeB_ok h.1
  exact ⟨h.2.1, by have := h.2.1; omega⟩
theorem okP_bit {l : List UInt8} {n : Int} (h : okP l n) (i : Nat) (hi : bitL l i = true) : (i : Int) < n := by
  have hl := okP_len h
  rcases Nat.lt_or_ge i (8 * l.length) with hlt | hge
  · rcases Int.lt_or_le (i : Int) n with h1 | h1
    · exact h1
    · have := h.2.2 i (by omega) h1
      rw [this] at hi
      cases hi
  · rw [bitL_far l i hge] at hi
    cases hi
theorem ofL_listI {a : List UInt8} {n : Int} (h : okP a n) : ofL (listI a) n = a ∧ ofB (listI a) n = true := by
  have hl := okP_len h
  have hok : ofOk (listI a) n := by
    refine ⟨h.1, fun z hz => ?_⟩
    obtain ⟨i, hi, rfl⟩ := List.mem_map.1 hz
    rw [listN_mem] at hi
    exact ⟨by omega, okP_bit h i hi⟩
  refine ⟨?_, by simp [ofB, hok]⟩
  unfold ofL
  rw [if_pos hok]
  refine (eq_ofBits (by omega) fun i _ => ?_).symm
  have : ((i : Int) ∈ listI a) ↔ bitL a i = true := by
    rw [← listN_mem, listI, List.mem_map]
    exact ⟨fun ⟨j, hj, e⟩ => by have : j = i := by omega
                                subst this; exact hj, fun hi => ⟨i, hi, rfl⟩⟩
  cases hb : bitL a i
  · rw [hb] at this
    simp [this]
  · rw [hb] at this
    simp [this]
theorem filter_add (f g : Nat → Bool) (l : List Nat) : (l.filter fun i => f i && g i).length + (l.filter fun i => f i || g i).length = (l.filter f).length + (l.filter g).length := by
  induction l with
  | nil => rfl
  | cons x l ih =>
    simp only [List.filter_cons]
    cases f x <;> cases g x <;> simp <;> omega
theorem cnt_and_or {a b : List UInt8} (h : a.length = b.length) : cntB (andL a b) + cntB (orL a b) = cntB a + cntB b := by
  unfold cntB listN
  rw [andL_length h, orL_length h, ← h]
  have := filter_add (bitL a) (bitL b) (List.range (8 * a.length))
  have e1 : (fun i => bitL (andL a b) i) = fun i => bitL a i && bitL b i := funext fun i => andL_bit h i
  have e2 : (fun i => bitL (orL a b) i) = fun i => bitL a i || bitL b i := funext fun i => orL_bit h i
  rw [e1, e2]
  have e3 : ((List.range (8 * a.length)).filter fun i => bitL a i) = (List.range (8 * a.length)).filter (bitL a) := rfl
  have e4 : ((List.range (8 * a.length)).filter fun i => bitL b i) = (List.range (8 * a.length)).filter (bitL b) := rfl
  rw [e3, e4]
  omega
theorem inB_and {a b : List UInt8} (h : a.length = b.length) : inB (andL a b) a = true :=
  inB_yes (andL_length h) fun i hi => by
    rw [andL_bit h] at hi
    exact (Bool.and_eq_true _ _ ▸ hi).1
theorem inB_or {a b : List UInt8} (h : a.length = b.length) : inB a (orL a b) = true :=
  inB_yes (orL_length h).symm fun i hi => by
    rw [orL_bit h, hi]; rfl
theorem set_facts {a : List UInt8} {n : Int} {i : Nat} (h : okP a n) (hi : (i : Int) < n) (on : Bool) :
    setB a n i = true ∧ okP (setL a n i on) n ∧ (setL a n i on).length = a.length ∧ ∀ j, bitL (setL a n i on) j = if j = i then on else bitL a j := by
  have hl := okP_len h
  have hs := sizeB_ok h.1
  have hok : setOk a n i := ⟨h, by omega, hi⟩
  have e : setL a n i on = ofBits (fun j => if (j : Int) = (i : Int) then on else bitL a j) a.length := if_pos hok
  have hlen : (setL a n i on).length = a.length := by rw [e, ofBits_length]
  have hbit : ∀ j, bitL (setL a n i on) j = if j = i then on else bitL a j := by
    intro j
    rcases Nat.lt_or_ge j (8 * a.length) with hlt | hge
    · rw [e, ofBits_bit _ _ _ hlt]
      by_cases hj : j = i
      · simp [hj]
      · rw [if_neg hj, if_neg (by omega)]
    · rw [bitL_far _ j (by rw [hlen]; exact hge), bitL_far a j hge, if_neg (by omega)]
  refine ⟨by simp [setB, hok], ⟨h.1, by rw [hlen]; exact h.2.1, fun j hj hn => ?_⟩, hlen, hbit⟩
  rw [hbit, if_neg (by omega)]
  exact h.2.2 j hj hn
theorem cnt_new (n : Int) : cntB (newL n) = 0 := by
  unfold cntB listN newL
  split
  · have : ((List.range (8 * (List.replicate (sizeB n).toNat (0 : UInt8)).length)).filter fun i => bitL (List.replicate (sizeB n).toNat 0) i) = [] := by
      rw [List.filter_eq_nil_iff]
      intro i _
      rw [replicate_bit]
      simp
    rw [this]; rfl
  · rfl
end Go.Proofs.YtlchadbbldkkfaaDoor
