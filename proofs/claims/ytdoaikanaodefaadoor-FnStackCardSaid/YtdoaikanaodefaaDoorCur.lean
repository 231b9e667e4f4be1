/- The cursor over the bytes of a draw: l01New, l01Byte, l01Below, l01Bytes, and what MakeNum and MakeBytes make of it. -/
import Derived.Test.YtdoaikanaodefaaDoorPut
namespace Go.Proofs.YtdoaikanaodefaaDoor
open Go.ChangeShapes Go.WideShapes Go.ChangeAt Go.RowKit

/-- The cursor in block g, over a slice that reads as l and lies below B. -/
def Cur (w : World) (B g : Nat) (l : List UInt8) : Prop :=
  B ≤ g ∧ g < w.heap.size ∧ w.frozen? ⟨g, 1, none⟩ = false ∧ w.frozen? ⟨g, 2, none⟩ = false ∧
    ∃ u i h, w.cell? ⟨g, 0, none⟩ = some u ∧ w.cell? ⟨g, 1, none⟩ = some (.int .i64 i) ∧ w.cell? ⟨g, 2, none⟩ = some (.int .i64 h) ∧ Sl w B u l ∧ 0 ≤ i ∧ i ≤ l.length

theorem cell_of_kept {w w' : World} {row : Option Nat} (hg : w.grownBy w' row) {g k : Nat} (hlt : g < w.heap.size) (hne : row ≠ some g) : w'.cell? ⟨g, k, none⟩ = w.cell? ⟨g, k, none⟩ := by
  have := hg.block g hlt (fun e => hne e.symm)
  simp [World.cell?, this]
theorem frozen_of_kept {w w' : World} {row : Option Nat} (hg : w.grownBy w' row) {g k : Nat} (hlt : g < w.heap.size) (hne : row ≠ some g) : w'.frozen? ⟨g, k, none⟩ = w.frozen? ⟨g, k, none⟩ := by
  have := hg.block g hlt (fun e => hne e.symm)
  simp [World.frozen?, this]
theorem below_of_kept {w w' : World} {B : Nat} {row : Option Nat} (hg : w.grownBy w' row) (hB : B ≤ w.heap.size) (hr : ∀ g, row = some g → B ≤ g) : Below B w w' :=
  (Below.refl _ _).grown hg hB hr
theorem Cur.kept {w w' : World} {B g : Nat} {l : List UInt8} {row : Option Nat} (h : Cur w B g l) (hg : w.grownBy w' row) (hne : row ≠ some g) (hr : ∀ k, row = some k → B ≤ k) : Cur w' B g l := by
  obtain ⟨h1, h2, h3, h4, u, i, x, c0, c1, c2, hs, h5, h6⟩ := h
  have hB : B ≤ w.heap.size := by omega
  exact ⟨h1, Nat.lt_of_lt_of_le h2 hg.size, (frozen_of_kept hg h2 hne).trans h3, (frozen_of_kept hg h2 hne).trans h4, u, i, x, (cell_of_kept hg h2 hne).trans c0, (cell_of_kept hg h2 hne).trans c1, (cell_of_kept hg h2 hne).trans c2, hs.below (below_of_kept hg hB hr), h5, h6⟩

theorem gset (w : World) (g k : Nat) (v : Value) : w.grownBy (w.setCell ⟨g, k, none⟩ v) (some g) :=
  ⟨rfl, rfl, rfl, by simp [World.setCell], fun _ _ hk => Below.heap_setCell _ _ _ _ (fun e => hk (by simp [e]))⟩
theorem Cur.setH {w : World} {B g : Nat} {l : List UInt8} (h : Cur w B g l) (y : Int) : Cur (w.setCell ⟨g, 2, none⟩ (.int .i64 y)) B g l := by
  obtain ⟨h1, h2, h3, h4, u, i, x, c0, c1, c2, hs, h5, h6⟩ := h
  exact ⟨h1, Nat.lt_of_lt_of_le h2 (gset w g 2 _).size, by simpa using h3, by simpa using h4, u, i, y, (World.cell?_setCell_other _ _ _ _ (by simp)).trans c0, (World.cell?_setCell_other _ _ _ _ (by simp)).trans c1, World.cell?_setCell_same _ _ _ c2, hs.below ((Below.refl _ _).setCell h1 _), h5, h6⟩
theorem Cur.setI {w : World} {B g : Nat} {l : List UInt8} (h : Cur w B g l) (y : Int) (hy : 0 ≤ y) (hy' : y ≤ l.length) : Cur (w.setCell ⟨g, 1, none⟩ (.int .i64 y)) B g l := by
  obtain ⟨h1, h2, h3, h4, u, i, x, c0, c1, c2, hs, h5, h6⟩ := h
  exact ⟨h1, Nat.lt_of_lt_of_le h2 (gset w g 1 _).size, by simpa using h3, by simpa using h4, u, y, x, (World.cell?_setCell_other _ _ _ _ (by simp)).trans c0, World.cell?_setCell_same _ _ _ c1, (World.cell?_setCell_other _ _ _ _ (by simp)).trans c2, hs.below ((Below.refl _ _).setCell h1 _), hy, hy'⟩
theorem Cur.drewN {w : World} {B g : Nat} {l : List UInt8} (h : Cur w B g l) (n : Nat) : Cur (w.drewN n) B g l := h
theorem gand {a b c : World} {row row' : Option Nat} (h : a.grownBy b row) (k : b.grownBy c row') (hr : ∀ j, row' = some j → a.heap.size ≤ j) : a.grownBy c row :=
  ⟨k.os.trans h.os, k.tape.trans h.tape, k.output.trans h.output, Nat.le_trans h.size k.size, fun i hi hne => (k.block i (Nat.lt_of_lt_of_le hi h.size) (fun e => by have := hr i e.symm; omega)).trans (h.block i hi hne)⟩
theorem gdrewN {w w' : World} {row : Option Nat} (h : w.grownBy w' row) (n : Nat) : w.grownBy (w'.drewN n) row := ⟨h.os, h.tape, h.output, h.size, h.block⟩

theorem cur_new {w : World} {v : Value} {l : List UInt8} (h : Sl w w.heap.size v l) (x : Int) (t : TypeId) : Cur (w.alloc (.cells #[v, .int .i64 0, .int .i64 x] t)) w.heap.size w.heap.size l := by
  refine ⟨Nat.le_refl _, by simp, by simp, by simp, v, 0, x, by simp, by simp, by simp, h.below ((Below.refl _ _).alloc (Nat.le_refl _) _), by omega, by omega⟩

theorem and_hi (x : Int) (m : Nat) (hm : m < 4611686018427387904) : 0 ≤ bits .and .i64 x (m : Int) ∧ bits .and .i64 x (m : Int) ≤ (m : Int) := by
  have h1 : (BitVec.ofInt 64 x &&& BitVec.ofInt 64 (m : Int)).toNat ≤ m := by
    rw [BitVec.toNat_and]
    refine Nat.le_trans Nat.and_le_right ?_
    rw [BitVec.toNat_ofInt]
    omega
  have e : bits .and .i64 x (m : Int) = IntKind.i64.wrap ((BitVec.ofInt 64 x &&& BitVec.ofInt 64 (m : Int)).toNat : Int) := rfl
  rw [e, IntKind.wrap_i64]
  omega
theorem and_255 (x : Int) : 0 ≤ bits .and .i64 x 255 ∧ bits .and .i64 x 255 ≤ 255 := and_hi x 255 (by omega)
theorem and_30 (x : Int) : 0 ≤ bits .and .i64 x 1073741823 ∧ bits .and .i64 x 1073741823 ≤ 1073741823 := and_hi x 1073741823 (by omega)

/-- A byte has been drawn. -/
def Drew (w : World) (B g : Nat) (l : List UInt8) (e : Ending) (w' : World) : Prop :=
  ∃ x : Int, e = .returned (.int .i64 x) ∧ 0 ≤ x ∧ x ≤ 255 ∧ Cur w' B g l ∧ w.grownBy w' (some g)

set_option maxHeartbeats 1000000 in
theorem l01Byte_any (B g : Nat) (l : List UInt8) (w : World) (h : Cur w B g l) (hl : l.length ≤ 4294967296) :
    Calls Tryd.prog 99 #[.pointer (some ⟨g, 0, none⟩)] w (Drew w B g l) := by
  have hC := Lib.hid h
  obtain ⟨h1, h2, h3, h4, u, i, x, c0, c1, c2, hs, h5, h6⟩ := h
  obtain ⟨A, c, rfl, hs1, hs2, hs0, hs3⟩ := hs
  unfold maxLen at hs2
  clear hs0
  go_enter Tryd.func99, Tryd.ntmps99
  go_wp2
  go_quiet (fail)
  obtain ⟨hy0, hy1⟩ := and_255 (bits BinOp.xor IntKind.i64 (wrap64 (wrap64 (x * 6364136223846793005) + 1442695040888963407) / 8589934592) (wrap64 (wrap64 (x * 6364136223846793005) + 1442695040888963407) / 35184372088832))
  revert hy0 hy1
  generalize bits BinOp.and IntKind.i64 (bits BinOp.xor IntKind.i64 (wrap64 (wrap64 (x * 6364136223846793005) + 1442695040888963407) / 8589934592) (wrap64 (wrap64 (x * 6364136223846793005) + 1442695040888963407) / 35184372088832)) 255 = y
  generalize wrap64 (wrap64 (x * 6364136223846793005) + 1442695040888963407) = x'
  intro hy0 hy1
  go_wp2
  by_cases hlt : i < (l.length : Int)
  · obtain ⟨k, rfl⟩ := Int.eq_ofNat_of_zero_le h5
    obtain ⟨b, off, rfl, hb, hc⟩ := hs3 (by omega)
    have hck := hc k (by omega)
    go_quiet (fail)
    go_wp2
    go_quiet (fail)
    go_wp2
    go_ret
    obtain ⟨hz0, hz1⟩ := and_255 (wrap64 (y + wrap64 (bt l k)))
    exact ⟨_, rfl, hz0, hz1, ((hC.out.setH x').drewN _).setI _ (by omega) (by omega), gtrans (gdrewN (gset w g 2 _) _) (gset _ g 1 _)⟩
  · go_quiet (fail)
    go_wp2
    go_ret
    exact ⟨_, rfl, hy0, hy1, (hC.out.setH x').drewN _, gdrewN (gset w g 2 _) _⟩

set_option maxHeartbeats 1000000 in
theorem l01Below_any (B g : Nat) (l : List UInt8) (n : Int) (w : World) (h : Cur w B g l) (hl : l.length ≤ 4294967296) (hn : 0 < n) (hn' : n ≤ 1073741824) :
    Calls Tryd.prog 75 #[.pointer (some ⟨g, 0, none⟩), .int .i64 n] w fun e w' => ∃ x : Int, e = .returned (.int .i64 x) ∧ 0 ≤ x ∧ x < n ∧ Cur w' B g l ∧ w.grownBy w' (some g) := by
  by_cases hsm : n ≤ 256
  · go_enter Tryd.func75, Tryd.ntmps75
    go_wp2_with fail
    refine (l01Byte_any B g l _ h hl).mono ?_
    rintro e w1 ⟨x, rfl, hx0, hx1, hC1, hg1⟩
    go_wp2
    go_ret
    exact ⟨_, rfl, Int.emod_nonneg _ (by omega), Int.emod_lt_of_pos _ hn, hC1, hg1⟩
  · go_enter Tryd.func75, Tryd.ntmps75
    go_wp2_with fail
    refine (l01Byte_any B g l _ h hl).mono ?_
    rintro e w1 ⟨x1, rfl, hx0, hx1, hC1, hg1⟩
    go_wp2_with fail
    refine (l01Byte_any B g l _ hC1 hl).mono ?_
    rintro e w2 ⟨x2, rfl, hy0, hy1, hC2, hg2⟩
    go_wp2_with fail
    refine (l01Byte_any B g l _ hC2 hl).mono ?_
    rintro e w3 ⟨x3, rfl, hz0, hz1, hC3, hg3⟩
    go_wp2_with fail
    refine (l01Byte_any B g l _ hC3 hl).mono ?_
    rintro e w4 ⟨x4, rfl, hu0, hu1, hC4, hg4⟩
    go_wp2
    go_ret
    exact ⟨_, rfl, Int.emod_nonneg _ (by omega), Int.emod_lt_of_pos _ hn, hC4, gtrans (gtrans (gtrans hg1 hg2) hg3) hg4⟩

set_option maxRecDepth 100000 in
set_option maxHeartbeats 1000000 in
theorem l01New_any (v : Value) (l : List UInt8) (w : World) (h : Sl w w.heap.size v l) (hl : l.length ≤ 1073741824) :
    Calls Tryd.prog 36 #[v] w fun e w' => ∃ g, e = .returned (.pointer (some ⟨g, 0, none⟩)) ∧ Cur w' w.heap.size g l ∧ Below w.heap.size w w' := by
  have k := h
  obtain ⟨A, c, rfl, h1, h2, h0, h3⟩ := h
  unfold maxLen at h2
  clear h0
  go_enter Tryd.func36, Tryd.ntmps36
  go_wp2
  go_loopw [3, 4] (fun h i wr => ∃ (z : Int) (k : Nat), k ≤ l.length ∧ i = .int .i64 k ∧ h = .int .i64 z ∧ 0 ≤ z ∧ z ≤ 2147483648 ∧ wr = w)
    (fun _ i _ => l.length - (intOf i).toNat)
  case atStart => exact ⟨1611 + l.length, 0, Nat.zero_le _, rfl, by go_num, by omega, by omega, rfl⟩
  case round =>
    obtain ⟨z, k', hk, rfl, rfl, hz0, hz1, rfl⟩ := hrel
    by_cases hlt : k' < l.length
    · by_cases hlt' : (k' : Int) < 4000
      · obtain ⟨b, off, rfl, hbb, hcell⟩ := h3 (by omega)
        have hc0 := hcell k' hlt
        have hb0 := bt_lo l k'
        have hb1 := bt_hi l k'
        clear hcell
        go_wp2
        go_roundw
        case rel =>
          obtain ⟨ha0, ha1⟩ := and_30 (z * 37 + bt l k' + 7)
          exact ⟨_, k' + 1, by omega, by go_num, rfl, ha0, by omega, trivial⟩
        case measure => simp [intOf]; omega
      · go_wp2
        go_ret
        exact ⟨_, rfl, cur_new k z _, by go_grown⟩
    · obtain rfl : k' = l.length := by omega
      go_wp2
      go_ret
      exact ⟨_, rfl, cur_new k z _, by go_grown⟩

/-- 'append(out, c)' for one byte c, where other rows turn beside it. -/
theorem wpList_app1g {P : Program} {w : World} {ops : Array Oper} {rest : List Oper} {o : Oper} {a : Act} {Q : Exit → Act → World → Prop} (hgd : o.guard = none) (s x : Operand) (t : TypeId)
    (ho : o.op = .call { callee := .builtin .append, args := #[s, x], argTypes := #[t, t] }) (E : TypeId) (i : TypeInfo) (ht : P.underlying t = some (.slice E)) (hi : P.info? E = some i)
    (hz : i.zero = some (.int .u8 0)) (hsize : i.size = 1) (hby : i.bytes = 1) (B : Nat) (v : Value) (l : List UInt8) (hs : a.eval s = v) (z : Int) (c : UInt8) (hzc : Hid (z = (c.toNat : Int)))
    (hx : a.eval x = .slice (some ⟨w.heap.size, 0, none⟩) 1 1) (hown : Own E w B v l) (hB : B ≤ w.heap.size) (hlen : l.length ≤ 70368744177664)
    (h : ∀ v' w', Own E w' B v' (l ++ [c]) → w.grownBy w' v.ownBlock → wpList P ops Q rest (a.put o.dst v') w') : wpList P ops Q (o :: rest) a (w.alloc (.cells #[.int .u8 z] E)) := by
  have hzc := hzc.out
  subst hzc
  have hba : Below w.heap.size w (w.alloc (.cells #[.int .u8 (c.toNat : Int)] E)) := (Below.refl _ _).alloc (Nat.le_refl _) _
  have hown' := hown.up hba
  refine wpList_append_own _ hgd s x t ho B E i (.int .u8 0) 1 1 ht hi hz hsize hby rfl (by omega) v l.length (us l) hs hown' ⟨w.heap.size, 0, none⟩ 1 1 (us [c]) hx rfl ?_ (us_cell _) ?_ ?_ ?_ ?_
  · intro j u hj
    rcases j with _ | j
    · rw [us_one] at hj
      injection hj with hj
      subst hj
      simp [Addr.add]
    · simp [us_one] at hj
  · unfold maxLen; omega
  · omega
  · simp; omega
  · intro v' w' h1 h2 _
    refine h v' w' ?_ ?_
    · unfold Own
      rw [us_app, List.length_append]
      exact h1
    · exact gtrans (World.grownBy_alloc w _ _) h2

/-- Bytes have been drawn. -/
def DrewBytes (w : World) (B g : Nat) (l : List UInt8) (most : Int) (e : Ending) (w' : World) : Prop :=
  ∃ (u : Value) (t : List UInt8), e = .returned u ∧ (t.length : Int) ≤ most ∧ Own 5 w' w.heap.size u t ∧ Cur w' B g l ∧ w.grownBy w' (some g)

set_option maxHeartbeats 1000000 in
theorem l01Bytes_any (B g : Nat) (l : List UInt8) (most : Int) (w : World) (h : Cur w B g l) (hl : l.length ≤ 4294967296) (hn : 0 ≤ most) (hn' : most ≤ 1048576) :
    Calls Tryd.prog 74 #[.pointer (some ⟨g, 0, none⟩), .int .i64 most] w (DrewBytes w B g l most) := by
  obtain ⟨i0, hi, hz0, hz1, hz2⟩ := info_parts u8info
  have hlt0 : g < w.heap.size := h.2.1
  have hBg : B ≤ g := h.1
  have hstart : Own 5 (w.alloc (.cells #[] 5)) w.heap.size (.slice (some ⟨w.heap.size, 0, none⟩) 0 0) [] :=
    World.ownsRow_lit w #[] 0 (Nat.le_refl _) (by simp [maxLen]) rfl
  have hg0 : w.grownBy (w.alloc (.cells #[] 5)) none := World.grownBy_alloc w _ _
  have hC0 : Cur (w.alloc (.cells #[] 5)) B g l := h.kept hg0 (by simp) (by simp)
  have hge : w.heap.size ≤ (w.alloc (.cells #[] 5)).heap.size := hg0.size
  go_enter Tryd.func74, Tryd.ntmps74
  go_wp2_with fail
  refine (l01Below_any B g l (most + 1) _ hC0 hl (by omega) (by omega)).mono ?_
  rintro e w1 ⟨m, rfl, hm0, hm1, hC1, hg1⟩
  have hgw : w.grownBy w1 (some g) := gtrans (World.grownBy_alloc w _ _) hg1
  have hown1 : Own 5 w1 w.heap.size (.slice (some ⟨w.heap.size, 0, none⟩) 0 0) [] := hstart.kept hg1 (.inr (by simp [Value.ownBlock]; omega))
  clear hstart hg0 hC0 hge hg1
  go_wp2
  go_loopw [5, 6] (fun b n wr => ∃ (t : List UInt8) (k : Nat), n = .int .i64 k ∧ (t.length : Int) + (k : Int) ≤ most ∧ Own 5 wr w.heap.size b t ∧ Cur wr B g l ∧ w.grownBy wr (some g))
    (fun _ n _ => (intOf n).toNat)
  case atStart =>
    obtain ⟨k, rfl⟩ := Int.eq_ofNat_of_zero_le hm0
    exact ⟨[], k, rfl, by simp; omega, hown1, hC1, hgw⟩
  case round =>
    obtain ⟨t, k, rfl, htk, hown, hC, hgr⟩ := hrel
    have hle : w.heap.size ≤ wr.heap.size := hgr.size
    by_cases hk : 0 < k
    · have hk' : (0 : Int) < (k : Int) := by omega
      go_wp2_with fail
      refine (l01Byte_any B g l _ hC hl).mono ?_
      rintro e w2 ⟨y, rfl, hy0, hy1, hC2, hg2⟩
      have hown2 : Own 5 w2 w.heap.size _ t := hown.kept hg2 (by
        rcases hv : Value.ownBlock _ with _ | b
        · exact .inl rfl
        · exact .inr (fun e => by have := (hown.lt b hv).1; injection e with e; omega))
      obtain ⟨q, rfl⟩ := Int.eq_ofNat_of_zero_le hy0
      have hc : ((UInt8.ofNat q).toNat : Int) = (q : Int) := by simp; omega
      have Hc := Lib.hid hc
      clear hc
      go_wp2_with (at_builtin; refine wpList_app1g (w := w2) rfl _ _ 22 rfl 5 i0 Tryd.underlying22 hi hz0 hz1 hz2 w.heap.size _ t (by rfl) _ (UInt8.ofNat q) (Lib.hid Hc.out.symm) rfl hown2 (Nat.le_trans hle hg2.size) (by omega) ?_; intro v3 w3 hown3 hg3)
      go_roundw
      case rel => exact ⟨t ++ [UInt8.ofNat q], k - 1, by go_num, by simp; omega, hown3, hC2.kept hg3 (fun e => by have := (hown.lt g e).1; omega) (fun j e => by have := (hown.lt j e).1; omega), gand (gtrans hgr hg2) hg3 (fun j e => (hown.lt j e).1)⟩
      case measure => simp [intOf]; omega
    · obtain rfl : k = 0 := by omega
      go_wp2
      go_ret
      exact ⟨_, t, rfl, by omega, hown, hC, hgr⟩

/-- The call returns a number below n; nothing that was there has turned. -/
def Num (w : World) (n : Int) (e : Ending) (w' : World) : Prop := ∃ x : Int, e = .returned (.int .i64 x) ∧ 0 ≤ x ∧ x < n ∧ Below w.heap.size w w'
/-- The call returns new bytes, most at most; nothing that was there has turned. -/
def Bytes (w : World) (most : Int) (e : Ending) (w' : World) : Prop := ∃ (u : Value) (t : List UInt8), e = .returned u ∧ (t.length : Int) ≤ most ∧ Own 5 w' w.heap.size u t ∧ Below w.heap.size w w'

end Go.Proofs.YtdoaikanaodefaaDoor
