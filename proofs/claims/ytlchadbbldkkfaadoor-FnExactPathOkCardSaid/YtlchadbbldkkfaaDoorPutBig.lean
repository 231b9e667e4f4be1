/- The contract of putBig, as the program has it: all bytes of a part of a row of the call's own. -/
import Derived.Test.YtlchadbbldkkfaaDoorShaPad
import Derived.Laws.CopyOwn
namespace Go.Proofs.YtlchadbbldkkfaaDoor
open Go.ChangeShapes Go.WideShapes Go.ChangeAt Go.RowKit

/-- The row l behind j rounds over the part of k bytes from off on. -/
def PB (l : List UInt8) (off k x : Nat) : Nat → List UInt8
  | 0 => l
  | j + 1 => (PB l off k x j).set (off + (k - 1 - j)) (UInt8.ofNat (x / 256 ^ j % 256))
theorem PB_length (l : List UInt8) (off k x j : Nat) : (PB l off k x j).length = l.length := by
  induction j with
  | zero => rfl
  | succ j ih => simp [PB, ih]
theorem pb_set (l : List UInt8) (off k x j y : Nat) (hy : y = x / 256 ^ j) : (us (PB l off k x j)).set (off + (k - 1 - j)) (.int .u8 ((y : Int) % 256)) = us (PB l off k x (j + 1)) := by
  have e : (y : Int) % 256 = ((UInt8.ofNat (x / 256 ^ j % 256)).toNat : Int) := by
    rw [hy]
    simp
  rw [e, us_set]
  rfl
theorem set_at (p q : List UInt8) (i : Nat) (c : UInt8) : (p ++ q).set (p.length + i) c = p ++ q.set i c := by
  rw [List.set_append_right _ _ (by omega)]
  congr 2
  omega
theorem PB_4 (p m q : List UInt8) (x : Nat) (hm : m.length = 4) : PB (p ++ m ++ q) p.length 4 x 4 = p ++ four x ++ q := by
  match m, hm with
  | [a, b, c, d], _ =>
    simp only [PB, List.append_assoc, set_at]
    simp [four]
theorem PB_8 (p m : List UInt8) (x : Nat) (hm : m.length = 8) : PB (p ++ m) p.length 8 x 8 = p ++ eight x := by
  match m, hm with
  | [a, b, c, d, e, f, g, h], _ =>
    simp only [PB, set_at]
    simp [eight, List.range_succ]
/-- Nothing returned; the row is l' now; nothing else that was there has turned. -/
def Filled (B g n cap : Nat) (l' : List UInt8) (w : World) (e : Ending) (w' : World) : Prop :=
  e = .returned (.tuple #[]) ∧ w'.ownsRow B 5 1 (.slice (some ⟨g, 0, none⟩) n cap) n (us l') ∧ w.grownBy w' (some g)
set_option maxHeartbeats 1000000 in
theorem putBig_any (g n cap off k c : Nat) (l : List UInt8) (x : Nat) (B : Nat) (w : World) (h : w.ownsRow B 5 1 (.slice (some ⟨g, 0, none⟩) n cap) n (us l)) (hn : l.length = n)
    (hk : off + k ≤ n) (hk8 : k ≤ 8) (hx : x < 18446744073709551616) (_hbig : n ≤ 4294967360) :
    Calls Tryd.prog 83 #[.slice (some ⟨g, off, none⟩) k c, .int .u64 (x : Int)] w (Filled B g n cap (PB l off k x k) w) := by
  have Hn := Lib.hid hn
  clear hn
  go_enter Tryd.func83, Tryd.ntmps83
  go_wp2
  go_loopw [1, 7] (fun q i wr => ∃ j y : Nat, j ≤ k ∧ y = x / 256 ^ j ∧ i = .int .i64 j ∧ q = .int .u64 y ∧ wr.ownsRow B 5 1 (.slice (some ⟨g, 0, none⟩) n cap) n (us (PB l off k x j)) ∧ w.grownBy wr (some g))
    (fun _ i _ => k - (intOf i).toNat)
  case atStart => exact ⟨0, x, Nat.zero_le _, by simp, rfl, rfl, h, World.grownBy.refl _ _⟩
  case round =>
    obtain ⟨j, y, hj, hy, rfl, rfl, hown, hgr⟩ := hrel
    have HY := Lib.hid hy
    have hyx : y < 18446744073709551616 := by rw [hy]; exact Nat.lt_of_le_of_lt (Nat.div_le_self _ _) hx
    clear hy
    by_cases hlt : j < k
    · have hq : (k : Int) - 1 - (j : Int) = ((k - 1 - j : Nat) : Int) := by omega
      have hset := pb_set l off k x j y HY.out
      obtain ⟨q, hq2⟩ : ∃ q, q = k - 1 - j := ⟨_, rfl⟩
      rw [← hq2] at hq hset
      have hqk : q < k := by omega
      clear hq2
      have hc1 := (World.ownsRow.cellAt hown (off + q) (by omega)).trans (us_get (PB l off k x j) (off + q) (by rw [PB_length, Hn.out]; omega))
      have hf1 := World.ownsRow.frozenAt hown (off + q)
      have hst := World.ownsRow.stored hown (off + q) (.int .u8 ((y : Int) % 256))
      rw [hset] at hst
      have hst1 := Lib.hid hst
      clear hst hset
      go_wp2
      go_roundw
      case rel => exact ⟨j + 1, y / 256, by omega, by rw [HY.out, Nat.pow_succ, Nat.div_div_eq_div_mul], by go_num, by go_num, hst1.out.1, gtrans hgr hst1.out.2⟩
      case measure => simp [intOf]; omega
    · obtain rfl : j = k := by omega
      go_wp2
      go_end0
      exact ⟨rfl, hown, hgr⟩

/-- What the copy leaves: the bytes of l and zeros behind them. -/
theorem splice_us (l : List UInt8) (T : Nat) : splice (us (List.replicate T 0)) 0 (us l) = us (l ++ List.replicate (T - l.length) 0) := by
  simp [splice, us]
theorem addr_add (b off j : Nat) : (⟨b, off, none⟩ : Addr).add j = ⟨b, off + j, none⟩ := by
  unfold Addr.add
  split
  · next h => subst h; rfl
  · rfl
theorem row_zero {E : TypeId} {w : World} {B g T : Nat} (h : w.ownsRow B E 1 (.slice (some ⟨g, 0, none⟩) T T) T (madeCells (Value.int .u8 0).cells (T * 1)).toList) : w.ownsRow B E 1 (.slice (some ⟨g, 0, none⟩) T T) T (us (List.replicate T 0)) := by
  have e : (madeCells (Value.int .u8 0).cells (T * 1)).toList = us (List.replicate T 0) := by
    rw [Nat.mul_one, us_zeros]
    exact toList_madeCells_one _ _
  rw [← e]
  exact h
theorem src_pos {w : World} {B n c g : Nat} {A : Option Addr} {l : List UInt8} (h : Sl w B (.slice A n c) l) :
    0 < (us l).length → (some ⟨g, 0, none⟩ : Option Addr) = some ⟨g, 0, none⟩ ∧ ∃ ad, A = some ad ∧ ∀ j v, (us l)[j]? = some v → w.cell? (ad.add j) = some v := by
  intro hp
  rw [us_length] at hp
  obtain ⟨A', c', he, h1, h2, h0, h3⟩ := h
  obtain ⟨b, off, rfl, hb, hc⟩ := h3 hp
  simp only [Value.slice.injEq] at he
  refine ⟨rfl, _, he.1, fun j v hv => ?_⟩
  have hj : j < l.length := by
    rw [← us_length l]
    exact (List.getElem?_eq_some_iff.1 hv).1
  rw [us_get l j hj] at hv
  rw [← hv]
  rw [addr_add]
  exact hc j hj
theorem row_full {E : TypeId} {w : World} {B g T : Nat} {xs : List Value} (h : w.ownsRow B E 1 (.slice (some ⟨g, 0, none⟩) T T) T xs) : w.heap[g]? = some (.cells xs.toArray E (0, 0)) := by
  rcases h.2 with ⟨h', _⟩ | ⟨g', cap', cur, h', hb, hg, hnc, hcm, hcs, htake⟩
  · simp at h'
  · simp only [Value.slice.injEq, Option.some.injEq, Addr.mk.injEq, and_true, true_and] at h'
    obtain ⟨rfl, rfl⟩ := h'
    rw [hg, ← htake, List.take_of_length_le (by simp [hcs])]
theorem row_is {E : TypeId} {w : World} {B g T : Nat} {xs : List Value} (hg : w.heap[g]? = some (.cells xs.toArray E (0, 0))) (hB : B ≤ g) (hT : xs.length = T) (hm : T ≤ maxLen) : w.ownsRow B E 1 (.slice (some ⟨g, 0, none⟩) T T) T xs :=
  ⟨by omega, .inr ⟨g, T, _, rfl, hB, hg, Nat.le_refl _, hm, by simp [hT], by simp [List.take_of_length_le, hT]⟩⟩
theorem copied {w : World} {g T : Nat} {l : List UInt8} (hg : w.heap[g]? = some (.cells (splice (us (List.replicate T 0)) 0 (us l)).toArray 5 (0, 0))) (h : l.length < T) (hm : T ≤ maxLen) :
    w.ownsRow g 5 1 (.slice (some ⟨g, 0, none⟩) T T) T (us (l ++ List.replicate (T - l.length) 0)) := by
  rw [splice_us] at hg
  exact row_is hg (Nat.le_refl _) (by rw [us_length, List.length_append, List.length_replicate]; omega) hm
theorem copied_cell {w : World} {g T : Nat} {l : List UInt8} (h : w.ownsRow g 5 1 (.slice (some ⟨g, 0, none⟩) T T) T (us (l ++ List.replicate (T - l.length) 0))) (hl : l.length < T) :
    w.cell? ⟨g, l.length, none⟩ = some (.int .u8 (bt (l ++ List.replicate (T - l.length) 0) l.length)) :=
  (World.ownsRow.cellAt h l.length (by omega)).trans (us_get _ _ (by rw [List.length_append, List.length_replicate]; omega))
theorem pad_total (n : Nat) : (((n : Int) + 8) / 64 + 1) * 64 = ((n + 9 + zerosOf n : Nat) : Int) := by
  unfold zerosOf
  omega
theorem padL_len (l : List UInt8) : (padL l).length ≤ l.length + 72 := by
  rw [padL_length]
  unfold zerosOf
  omega
theorem pad_parts (l : List UInt8) {T T8 : Nat} (hT : T = l.length + 9 + zerosOf l.length) (h8 : T = T8 + 8) :
    (l ++ List.replicate (T - l.length) 0).set l.length 128 = (l ++ [128] ++ List.replicate (zerosOf l.length) 0) ++ List.replicate 8 0 ∧ (l ++ [128] ++ List.replicate (zerosOf l.length) 0).length = T8 ∧
      ∀ N, N = 8 * l.length → PB ((l ++ [128] ++ List.replicate (zerosOf l.length) 0) ++ List.replicate 8 0) T8 8 N 8 = padL l := by
  have hl : (l ++ [128] ++ List.replicate (zerosOf l.length) 0).length = T8 := by simp; omega
  refine ⟨?_, hl, ?_⟩
  · have e : T - l.length = (zerosOf l.length + 8) + 1 := by omega
    rw [e, List.replicate_succ, List.set_append_right _ _ (Nat.le_refl _), Nat.sub_self]
    rw [← List.replicate_append_replicate]
    simp
  · rintro N rfl
    rw [← hl, PB_8 _ _ _ (by simp)]
    rfl
set_option maxRecDepth 100000 in
set_option maxHeartbeats 2000000 in
theorem implShaPad_any (v : Value) (l : List UInt8) (w : World) (h : Sl w w.heap.size v l) (hl : l.length ≤ 1073741824) :
    Calls Tryd.prog 70 #[v] w (Fresh w (padL l)) := by
  obtain ⟨i0, hi, hz0, hz1, hz2⟩ := info_parts u8info
  have hs := h
  obtain ⟨A, c, rfl, h1, h2, h0, h3⟩ := h
  have hT := pad_total l.length
  have hPL := padL_length l
  have hz : zerosOf l.length ≤ 63 := by unfold zerosOf; omega
  obtain ⟨T, hTT⟩ : ∃ T, T = l.length + 9 + zerosOf l.length := ⟨_, rfl⟩
  rw [← hTT] at hT hPL
  have hTn : l.length + 9 ≤ T := by omega
  have hTb : T ≤ 1073741896 := by omega
  have HT := Lib.hid hTT
  have HPL := Lib.hid hPL
  clear hTT hPL hz
  have hby : i0.bytes * T ≤ 281474976710656 := by rw [hz2]; omega
  have hml : T ≤ maxLen := by unfold maxLen; omega
  unfold maxLen at h2
  clear h0
  have hsz : (Tryd.prog.info? 5).map (·.size) = some 1 := by rw [hi]; simp [hz1]
  obtain ⟨T8, hT8⟩ : ∃ T8, T = T8 + 8 := ⟨T - 8, by omega⟩
  have hT8i : (T : Int) - 8 = (T8 : Int) := by omega
  have hT8l : T8 + 8 ≤ T := by omega
  have HT8 := Lib.hid hT8
  clear hT8
  obtain ⟨N, hNN⟩ : ∃ N, N = 8 * l.length := ⟨_, rfl⟩
  have hN : 8 * (l.length : Int) = (N : Int) := by omega
  have hNb : N < 18446744073709551616 := by omega
  have HN := Lib.hid hNN
  clear hNN
  have hT88 : T - T8 = 8 := by have := HT8.out; omega
  have Hlt : Hid (l.length < T) := Lib.hid (by omega)
  have Hmn : Hid ((us l).length = Nat.min l.length T) := Lib.hid (by rw [us_length]; exact (Nat.min_eq_left (by omega)).symm)
  have Hft : Hid (0 + (us l).length ≤ (us (List.replicate T 0)).length) := Lib.hid (by rw [us_length, us_length, List.length_replicate]; omega)
  go_enter Tryd.func70, Tryd.ntmps70
  go_wp2_with (first
    | (at_make; refine wpList_make_full _ rfl _ _ _ rfl w.heap.size 5 i0 (.int .u8 0) 1 Tryd.underlying22 hi hz0 hz1 .i64 .i64 _ _ T rfl rfl rfl rfl hby hml (Nat.le_refl _) ?_; intro w1 hown1 hg1; have hb1 := (Below.refl w.heap.size w).grown hg1 (Nat.le_refl _) (by simp); have hrow := row_full (row_zero hown1); have hs1 := Lib.hid (hs.up hb1); clear hown1 hg1)
    | (refine wpList_copy_splice rfl _ _ _ _ rfl 5 Tryd.underlying22 hsz _ _ _ _ _ _ (by rfl) (by rfl) w.heap.size 0 (us (List.replicate T 0)) 5 hrow (us l) Hmn.out (src_pos hs1.out) Hft.out (us_cell l) w.heap.size w hb1 (Nat.le_refl _) ?_; intro w2 hg2 hb2; have ho2 := copied hg2.out Hlt.out hml; have hc2 := copied_cell ho2 Hlt.out; have hf2 := World.ownsRow.frozenAt ho2 l.length; have hst2 := Lib.hid (World.ownsRow.stored ho2 l.length (.int .u8 128)); clear hg2 ho2))
  have ho3 : (w2.setCell ⟨w.heap.size, l.length, none⟩ (.int .u8 128)).ownsRow w.heap.size 5 1 (.slice (some ⟨w.heap.size, 0, none⟩) T T) T (us ((l ++ List.replicate (T - l.length) 0).set l.length 128)) := by
    have := hst2.out.1
    rw [show (Value.int .u8 128) = .int .u8 ((128 : UInt8).toNat : Int) from rfl, us_set] at this
    exact this
  have hg3 := hst2.out.2
  have hb3 : Below w.heap.size w (w2.setCell ⟨w.heap.size, l.length, none⟩ (.int .u8 128)) := hb2.setCell (Nat.le_refl _) _
  obtain ⟨e1, e2, e3⟩ := pad_parts l HT.out HT8.out
  rw [e1] at ho3
  clear hst2 hc2 hf2 hg3
  generalize w2.setCell ⟨w.heap.size, l.length, none⟩ (.int .u8 128) = w3 at ho3 hb3 ⊢
  refine (putBig_any w.heap.size T T T8 8 8 _ N w.heap.size w3 ho3 (by rw [← e1, List.length_set, List.length_append, List.length_replicate]; omega) hT8l (by decide) hNb (by omega)).mono ?_
  rintro e w4 ⟨rfl, ho4, hg4⟩
  have hb4 : Below w.heap.size w w4 := hb3.grown hg4 hb3.size (by simp)
  rw [e3 N HN.out] at ho4
  go_wp2
  go_ret
  exact ⟨_, rfl, by unfold Own; rw [HPL.out]; exact ho4, hb4⟩
end Go.Proofs.YtlchadbbldkkfaaDoor
