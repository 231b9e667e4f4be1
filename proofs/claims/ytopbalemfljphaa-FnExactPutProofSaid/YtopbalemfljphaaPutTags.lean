/- putTags: the rows of a slice of hashes behind a slice of bytes, copied into a row of exactly that size. -/
import Derived.Test.YtopbalemfljphaaAll32
import Derived.Laws.CopyOwn
namespace Go.Proofs.Ytopbalemfljphaa
open Go.ChangeShapes Go.WideShapes Go.ChangeAt Go.RowKit

/-- What putTags has written after j tags. -/
def tagsX (l : List UInt8) (L : List (List UInt8)) (j : Nat) : List UInt8 := l ++ catL (L.take j) ++ List.replicate (32 * (L.length - j)) 0
theorem sum32 {L : List (List UInt8)} (h : all32 L = true) : sumL L = 32 * L.length := by
  have h' := all32_at h
  clear h
  induction L with
  | nil => rfl
  | cons r L ih =>
    have h1 := h' r (.head _)
    have h2 := ih (fun r hr => h' r (.tail _ hr))
    simp only [sumL, List.length_cons]
    omega
theorem all32_take {L : List (List UInt8)} (h : all32 L = true) (j : Nat) : all32 (L.take j) = true := all32_of fun r hr => all32_at h r (List.mem_of_mem_take hr)
theorem cat32 {L : List (List UInt8)} (h : all32 L = true) (j : Nat) (hj : j ≤ L.length) : (catL (L.take j)).length = 32 * j := by
  rw [catL_length, sum32 (all32_take h j), List.length_take, Nat.min_eq_left hj]
theorem tagsX_length {l : List UInt8} {L : List (List UInt8)} (h : all32 L = true) (j : Nat) (hj : j ≤ L.length) : (tagsX l L j).length = l.length + 32 * L.length := by
  unfold tagsX
  rw [List.length_append, List.length_append, cat32 h j hj, List.length_replicate]
  omega
theorem tagsX_end (l : List UInt8) (L : List (List UInt8)) : tagsX l L L.length = l ++ catL L := by
  unfold tagsX
  rw [List.take_length, Nat.sub_self, Nat.mul_zero]
  simp
theorem us_zeros_t (n : Nat) : us (List.replicate n 0) = List.replicate n (.int .u8 0) := by simp [us]
theorem tagsX_start (l : List UInt8) (L : List (List UInt8)) : splice (us (List.replicate (l.length + 32 * L.length) 0)) 0 (us l) = us (tagsX l L 0) := by
  unfold splice tagsX
  simp only [List.take_zero, List.nil_append, catL, List.append_nil, Nat.sub_zero, us_app, Nat.zero_add, us_length, us_zeros_t, List.drop_replicate]
  congr 2
  omega
theorem tagsX_step {l : List UInt8} {L : List (List UInt8)} (h : all32 L = true) (j : Nat) (hj : j < L.length) : splice (us (tagsX l L j)) (l.length + 32 * j) (us (L.getD j [])) = us (tagsX l L (j + 1)) := by
  have hc := cat32 h j (Nat.le_of_lt hj)
  have hr : (L.getD j []).length = 32 := all32_at h _ (by simp [List.getD_eq_getElem?_getD, List.getElem?_eq_getElem hj])
  unfold splice tagsX
  rw [catL_take L j hj]
  generalize L.getD j [] = r at hr
  generalize catL (L.take j) = C at hc
  have e0 : (us (l ++ C)).length = l.length + 32 * j := by rw [us_length, List.length_append, hc]
  have e1 : (us r).length = 32 := by rw [us_length, hr]
  have e2 : 32 * (L.length - j) - 32 = 32 * (L.length - (j + 1)) := by omega
  rw [us_app (l ++ C), ← e0, List.take_left, List.drop_append, List.drop_eq_nil_of_le (by omega), Nat.add_sub_cancel_left, e1, us_zeros_t, List.drop_replicate, e2, ← us_zeros_t]
  simp only [us_app, List.append_assoc, List.nil_append]

theorem src_at {w : World} {B n c g off : Nat} {A : Option Addr} {l : List UInt8} (h : Sl w B (.slice A n c) l) :
    0 < (us l).length → (some ⟨g, off, none⟩ : Option Addr) = some ⟨g, off, none⟩ ∧ ∃ ad, A = some ad ∧ ∀ j v, (us l)[j]? = some v → w.cell? (ad.add j) = some v := by
  intro hp
  rw [us_length] at hp
  obtain ⟨A', c', he, h1, h2, h0, h3⟩ := h
  obtain ⟨b, off, rfl, hb, hc⟩ := h3 hp
  simp only [Value.slice.injEq] at he
  refine ⟨rfl, _, he.1, fun j v hv => ?_⟩
  have hj : j < l.length := by
    rw [← us_length l]
    exact (List.getElem?_eq_some_iff.1 hv).1
  rw [us_get l j hj] at hv
  rw [← hv]
  have e : (⟨b, off, none⟩ : Addr).add j = ⟨b, off + j, none⟩ := by
    unfold Addr.add
    split
    · rename_i h; subst h; rfl
    · rfl
  rw [e]
  exact hc j hj
theorem tags_row {E : TypeId} {w : World} {B g T : Nat} (h : w.ownsRow B E 1 (.slice (some ⟨g, 0, none⟩) T T) T (madeCells (Value.int .u8 0).cells (T * 1)).toList) : w.heap[g]? = some (.cells (us (List.replicate T 0)).toArray E (0, 0)) := by
  have e : (madeCells (Value.int .u8 0).cells (T * 1)).toList = us (List.replicate T 0) := by
    rw [Nat.mul_one, us_zeros_t]
    exact toList_madeCells_one _ _
  rw [e] at h
  rcases h.2 with ⟨h', _⟩ | ⟨g', cap', cur, h', hb, hg, hnc, hcm, hcs, htake⟩
  · simp at h'
  · simp only [Value.slice.injEq, Option.some.injEq, Addr.mk.injEq, and_true, true_and] at h'
    obtain ⟨rfl, rfl⟩ := h'
    rw [hg, ← htake, List.take_of_length_le (by simp [hcs])]
theorem tags_own {E : TypeId} {w : World} {B g T : Nat} {xs : List UInt8} (hg : w.heap[g]? = some (.cells (us xs).toArray E (0, 0))) (hB : B ≤ g) (hT : xs.length = T) (hm : T ≤ maxLen) : Own E w B (.slice (some ⟨g, 0, none⟩) T T) xs := by
  subst hT
  exact ⟨by rw [us_length]; omega, .inr ⟨g, xs.length, _, rfl, hB, hg, Nat.le_refl _, hm, by simp [us_length], by simp [List.take_of_length_le, us_length]⟩⟩

set_option maxRecDepth 100000 in
set_option maxHeartbeats 2000000 in
theorem putTags_any (v u : Value) (l : List UInt8) (L : List (List UInt8)) (w : World) (h : Sl w w.heap.size v l) (h' : SlS w w.heap.size u L) (hall : all32 L = true) (hl : l.length ≤ 2147483648) (hL : L.length ≤ 1048576) :
    Calls Try.prog 102 #[v, u] w (Fresh w (l ++ catL L)) := by
  obtain ⟨i0, hi, hz0, hz1, hz2⟩ := info_parts u8info
  have hs := h
  obtain ⟨A, c, rfl, h1, h2, h0, h3⟩ := h
  obtain ⟨A', c', rfl, h1', h2', h0', h3'⟩ := h'
  clear h0 h3 h0'
  obtain ⟨T, hT⟩ : ∃ T, T = l.length + 32 * L.length := ⟨_, rfl⟩
  have hTi : (l.length : Int) + 32 * (L.length : Int) = (T : Int) := by omega
  have hby : i0.bytes * T ≤ 281474976710656 := by rw [hz2]; omega
  have hml : T ≤ maxLen := by unfold maxLen; omega
  have hTb : T ≤ 2200000000 := by omega
  unfold maxLen at h2 h2'
  have hsz : (Try.prog.info? 5).map (·.size) = some 1 := by rw [hi]; simp [hz1]
  have Hmn : Hid ((us l).length = Nat.min l.length T) := Lib.hid (by rw [us_length]; exact (Nat.min_eq_left (by omega)).symm)
  have Hft : Hid (0 + (us l).length ≤ (us (List.replicate T 0)).length) := Lib.hid (by rw [us_length, us_length, List.length_replicate]; omega)
  have HTT := Lib.hid hT
  have HALL := Lib.hid hall
  clear hT hall
  go_enter Try.func102, Try.ntmps102
  go_wp2_with (first
    | (at_make; refine wpList_make_full _ rfl _ _ _ rfl w.heap.size 5 i0 (.int .u8 0) 1 Try.underlying25 hi hz0 hz1 .i64 .i64 _ _ T rfl rfl rfl rfl hby hml (Nat.le_refl _) ?_; intro w1 hown1 hg1; have hb1 := (Below.refl w.heap.size w).grown hg1 (Nat.le_refl _) (by simp); have hrow := tags_row hown1; have hs1 := Lib.hid (hs.up hb1); clear hown1 hg1)
    | (refine wpList_copy_splice rfl _ _ _ _ rfl 5 Try.underlying25 hsz _ _ _ _ _ _ (by rfl) (by rfl) w.heap.size 0 (us (List.replicate T 0)) 5 hrow (us l) Hmn.out (src_at hs1.out) Hft.out (us_cell l) w.heap.size w hb1 (Nat.le_refl _) ?_; intro w2 hg2 hb2))
  rw [us_length]
  have hx2 : Hid (w2.heap[w.heap.size]? = some (.cells (us (tagsX l L 0)).toArray 5 (0, 0))) := Lib.hid (by have := hg2.out; rw [HTT.out, tagsX_start] at this; exact this)
  clear hrow hs1 hg2 hb1 Hmn Hft
  go_loopw [6, 21] (fun e i wr => ∃ j : Nat, j ≤ L.length ∧ i = .int .i64 j ∧ e = .int .i64 ((l.length : Int) + 32 * (j : Int)) ∧ Hid (wr.heap[w.heap.size]? = some (.cells (us (tagsX l L j)).toArray 5 (0, 0))) ∧ Below w.heap.size w wr)
    (fun _ i _ => L.length - (intOf i).toNat)
  case atStart => exact ⟨0, Nat.zero_le _, rfl, by simp, hx2, hb2⟩
  case round =>
    clear hx2 hb2
    obtain ⟨j, hj, rfl, rfl, hx, hbel⟩ := hrel
    by_cases hlt : j < L.length
    · obtain ⟨b, off, rfl, hbb, hcell⟩ := h3' (by omega)
      obtain ⟨x, hc0, hxs⟩ := hcell j hlt
      have hc1 := (hbel.cell (p := ⟨b, off + j, none⟩) hbb).trans hc0
      have hx1 := hxs.up hbel
      have hstep := tagsX_step (l := l) HALL.out j hlt
      have hr32 : (L.getD j []).length = 32 := all32_at HALL.out _ (by simp [List.getD_eq_getElem?_getD, List.getElem?_eq_getElem hlt])
      have htl := tagsX_length (l := l) HALL.out j hj
      rw [← HTT.out] at htl
      generalize L.getD j [] = r at hx1 hstep hr32
      obtain ⟨o, ho⟩ : ∃ o, o = l.length + 32 * j := ⟨_, rfl⟩
      have hoi : (l.length : Int) + 32 * (j : Int) = (o : Int) := by omega
      rw [← ho] at hstep
      rw [hoi]
      have hoT : o + 32 ≤ T := by rw [HTT.out, ho]; omega
      have hX := Lib.hid hx1
      obtain ⟨A1, c1, rfl, m1, m2, m0, m3⟩ := hx1
      rw [hr32] at hX m1 hc1
      have Hm : Hid ((us r).length = Nat.min 32 (T - o)) := Lib.hid (by rw [us_length, hr32]; exact (Nat.min_eq_left (by omega)).symm)
      have Hf : Hid (o + (us r).length ≤ (us (tagsX l L j)).length) := Lib.hid (by rw [us_length, us_length, htl, hr32]; omega)
      have HS := Lib.hid hstep
      have HR := Lib.hid hr32
      have HO := Lib.hid ho
      clear hcell hc0 hxs hstep hr32 htl ho m0 m2 m3
      have ho1 : (o : Int) ≤ (T : Int) := by omega
      have ho2 : o < T := by omega
      have ho3 : (o : Int) < (T : Int) := by omega
      go_wp2_with (refine wpList_copy_splice rfl _ _ _ _ rfl 5 Try.underlying25 hsz _ _ _ _ _ _ (by rfl) (by rfl) w.heap.size o (us (tagsX l L j)) 5 hx.out (us r) Hm.out (src_at hX.out) Hf.out (us_cell r) w.heap.size w hbel (Nat.le_refl _) ?_; intro w5 hg5 hb5)
      rw [us_length, HR.out]
      have hx5 : Hid (w5.heap[w.heap.size]? = some (.cells (us (tagsX l L (j + 1))).toArray 5 (0, 0))) := Lib.hid (by have := hg5.out; rw [HS.out] at this; exact this)
      go_roundw
      case rel => exact ⟨j + 1, by omega, by go_num, by have := HO.out; refine congrArg _ ?_; unfold wrap64; omega, hx5, hb5⟩
      case measure => simp [intOf]; omega
    · obtain rfl : j = L.length := by omega
      go_wp2
      go_ret
      refine ⟨_, rfl, tags_own (xs := l ++ catL L) (by have := hx.out; rw [tagsX_end] at this; exact this) (Nat.le_refl _) ?_ hml, hbel⟩
      rw [List.length_append, catL_length, sum32 HALL.out, HTT.out]
end Go.Proofs.Ytopbalemfljphaa
