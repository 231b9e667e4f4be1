/- slices.Grow of nil and slices.Concat over ints and over slices of bytes, at the level of cells; hashCopy, l06Copy. -/
import Derived.Test.YtdoaikanaodefaaDoorStackOk
import Derived.Test.YtdoaikanaodefaaDoorTree
namespace Go.Proofs.YtdoaikanaodefaaDoor
open Go.ChangeShapes Go.WideShapes Go.ChangeAt Go.RowKit

/-- The slice v has the cells ys, in blocks below B. -/
def RdC (w : World) (B : Nat) (v : Value) (ys : List Value) : Prop :=
  ∃ A c, v = .slice A ys.length c ∧ ys.length ≤ c ∧ c ≤ maxLen ∧ (A = none → c = 0) ∧ (∀ y ∈ ys, y.oneCell' = true) ∧
    (0 < ys.length → ∃ b off, A = some ⟨b, off, none⟩ ∧ b < B ∧ ∀ k, k < ys.length → w.cell? ⟨b, off + k, none⟩ = ys[k]?)
section
variable {w w' : World} {B B' : Nat} {v : Value} {ys : List Value}
theorem RdC.mono (h : RdC w B v ys) (hB : B ≤ B') : RdC w B' v ys := by
  obtain ⟨A, c, rfl, h1, h2, h0, h4, h3⟩ := h
  exact ⟨A, c, rfl, h1, h2, h0, h4, fun hp => by
    obtain ⟨b, off, e, hb, hc⟩ := h3 hp
    exact ⟨b, off, e, by omega, hc⟩⟩
theorem RdC.below (h : RdC w B v ys) (hb : Below B w w') : RdC w' B v ys := by
  obtain ⟨A, c, rfl, h1, h2, h0, h4, h3⟩ := h
  exact ⟨A, c, rfl, h1, h2, h0, h4, fun hp => by
    obtain ⟨b, off, e, hbb, hc⟩ := h3 hp
    exact ⟨b, off, e, hbb, fun k hk => (hb.cell (p := ⟨b, off + k, none⟩) hbb).trans (hc k hk)⟩⟩
theorem RdC.up (h : RdC w w.heap.size v ys) (hb : Below w.heap.size w w') : RdC w' w'.heap.size v ys := (h.below hb).mono hb.size
theorem SlI.rdC {l : List Int} (h : SlI w B v l) : RdC w B v (is l) := by
  obtain ⟨A, c, rfl, h1, h2, h0, h3⟩ := h
  refine ⟨A, c, by rw [is_length], by rw [is_length]; exact h1, h2, h0, is_cell l, fun hp => ?_⟩
  rw [is_length] at hp ⊢
  obtain ⟨b, off, e, hb, hc⟩ := h3 hp
  exact ⟨b, off, e, hb, fun k hk => (hc k hk).trans (is_get l k hk).symm⟩
theorem SlS.rdC {L : List (List UInt8)} (h : SlS w B v L) : ∃ ys, RdC w B v ys ∧ ys.length = L.length ∧ ∀ k y, ys[k]? = some y → Sl w B y (L.getD k []) := by
  obtain ⟨A, c, rfl, h1, h2, h0, h3⟩ := h
  rcases Nat.eq_zero_or_pos L.length with hz | hp
  · refine ⟨[], ⟨A, c, by rw [hz]; rfl, by simp, h2, h0, (fun y hy => by cases hy), fun hp => by simp at hp⟩, hz.symm, fun k y h => by simp at h⟩
  · obtain ⟨b, off, rfl, hbb, hcell⟩ := h3 hp
    obtain ⟨ys, hl, hy⟩ := named (P := fun k y => w.cell? ⟨b, off + k, none⟩ = some y ∧ Sl w B y (L.getD k [])) L.length hcell
    refine ⟨ys, ⟨_, c, by rw [hl], by omega, h2, h0, fun y hm => ?_, fun _ => ⟨b, off, rfl, hbb, fun k hk => ?_⟩⟩, hl, fun k y h => (hy k y h).2⟩
    · obtain ⟨j, hj, he⟩ := List.mem_iff_getElem.1 hm
      exact (hy j y (by rw [List.getElem?_eq_getElem hj, he])).2.one
    · rw [List.getElem?_eq_getElem hk]
      exact (hy k _ (List.getElem?_eq_getElem hk)).1
end
/-- The slice v is a slice of slices, each with the cells that M has. -/
def RdX (w : World) (B : Nat) (v : Value) (M : List (List Value)) : Prop :=
  ∃ b off c, v = .slice (some ⟨b, off, none⟩) M.length c ∧ M.length ≤ c ∧ c ≤ maxLen ∧ b < B ∧ ∀ k, k < M.length → ∃ u, w.cell? ⟨b, off + k, none⟩ = some u ∧ RdC w B u (M.getD k [])
theorem rdX_lit2 {w : World} {x y : Value} {l m : List Value} (E : TypeId) (hx : RdC w w.heap.size x l) (hy : RdC w w.heap.size y m) :
    RdX (w.alloc (.cells #[x, y] E)) (w.alloc (.cells #[x, y] E)).heap.size (.slice (some ⟨w.heap.size, 0, none⟩) 2 2) [l, m] := by
  have hb : Below w.heap.size w (w.alloc (.cells #[x, y] E)) := (Below.refl _ _).alloc (Nat.le_refl _) _
  refine ⟨w.heap.size, 0, 2, rfl, Nat.le_refl _, by simp [maxLen], by simp, fun k hk => ?_⟩
  rcases k with _ | k
  · exact ⟨x, by simp, hx.up hb⟩
  rcases k with _ | k
  · exact ⟨y, by simp, hy.up hb⟩
  · simp at hk
    omega
/-- The cells of the first j parts, and how many they are. -/
def flC (M : List (List Value)) (j : Nat) : List Value := (M.take j).flatten
def flN (M : List (List Value)) (j : Nat) : Nat := (flC M j).length
theorem flC_zero (M : List (List Value)) : flC M 0 = [] := rfl
theorem flC_all (M : List (List Value)) : flC M M.length = M.flatten := by rw [flC, List.take_length]
theorem flC_succ {M : List (List Value)} {k : Nat} (h : k < M.length) : flC M (k + 1) = flC M k ++ M.getD k [] := by
  unfold flC
  rw [take_getD M k [] h, List.flatten_append]
  simp
theorem flN_succ {M : List (List Value)} {k : Nat} (h : k < M.length) : flN M (k + 1) = flN M k + (M.getD k []).length := by
  unfold flN
  rw [flC_succ h, List.length_append]
theorem flN_le (M : List (List Value)) (k : Nat) : flN M k ≤ flN M M.length := by
  unfold flN
  rw [flC_all]
  unfold flC
  have h : M.flatten = (M.take k).flatten ++ (M.drop k).flatten := by rw [← List.flatten_append, List.take_append_drop]
  rw [h, List.length_append]
  omega

/-- 'append(out, x...)' for a slice x: out is nil or the call's own. -/
theorem wpList_appC {P : Program} {W w : World} {ops : Array Oper} {rest : List Oper} {o : Oper} {a : Act} {Q : Exit → Act → World → Prop} (hgd : o.guard = none) (s x : Operand) (t : TypeId)
    (ho : o.op = .call { callee := .builtin .append, args := #[s, x], argTypes := #[t, t] }) (E : TypeId) (i : TypeInfo) (ht : P.underlying t = some (.slice E)) (hi : P.info? E = some i) (z : Value) (by_ : Nat)
    (hz : i.zero = some z) (hsize : i.size = 1) (hby : i.bytes = by_) (hz1 : z.cells = #[z]) (hb1 : by_ ≤ 24) (v : Value) (xs : List Value) (hs : a.eval s = v) (u : Value) (ys : List Value)
    (hx : a.eval x = u) (hm : RdC w w.heap.size u ys) (hown : GOwn w W.heap.size (E, v, xs)) (hb : Below W.heap.size W w) (hlen : xs.length + ys.length ≤ 1073741824)
    (h : ∀ v' w', GOwn w' W.heap.size (E, v', xs ++ ys) → Below W.heap.size W w' → wpList P ops Q rest (a.put o.dst v') w') : wpList P ops Q (o :: rest) a w := by
  obtain ⟨A, c, rfl, h1, h2, h0, h4, h3⟩ := hm
  have hG : w.ownsRow W.heap.size E 1 v xs.length xs := hown
  rcases A with _ | ad
  · have hm0 : ys = [] := by
      rcases ys with _ | ⟨y, m⟩
      · rfl
      · obtain ⟨b, off, e, _⟩ := h3 (by simp)
        cases e
    subst hm0
    obtain rfl := h0 rfl
    exact wpList_append_own_none hgd s x t ho W.heap.size E i 1 ht hi v xs.length xs hs hG hx (by simpa using h v w (by simpa using hown) hb)
  · have hmul : (xs.length + ys.length) * by_ ≤ 140737488355328 := by
      have : (xs.length + ys.length) * by_ ≤ 1073741824 * 24 := Nat.mul_le_mul hlen hb1
      omega
    refine wpList_append_own _ hgd s x t ho W.heap.size E i z 1 by_ ht hi hz hsize hby (by rw [hz1]; rfl) (by omega) v xs.length xs hs hG ad ys.length c ys hx (Nat.mul_one _).symm ?_ h4 (by unfold maxLen; omega) hmul hb.size (fun v' w' k1 k2 _ => ?_)
    · intro j y hj
      have hjm : j < ys.length := (List.getElem?_eq_some_iff.1 hj).1
      obtain ⟨b, off, e, _, hc⟩ := h3 (by omega)
      injection e with e
      subst e
      have := (hc j hjm).trans hj
      unfold Addr.add
      split
      · rename_i h0; subst h0; simpa using this
      · exact this
    · refine h v' w' ?_ (hb.grown k2 hb.size fun k hk => (World.ownsRow.lt hG k hk).1)
      unfold GOwn
      simp only [List.length_append]
      exact k1

set_option maxHeartbeats 1000000 in
/-- slices.Grow of nil. -/
theorem growI_any (n : Nat) (w : World) (h0 : 0 < n) (hn : n ≤ 1073741824) :
    Calls Tryd.prog 76 #[.slice none 0 0, .int .i64 (n : Int)] w (fun e w' => ∃ u, e = .returned u ∧ GOwn w' w.heap.size (3, u, []) ∧ Below w.heap.size w w') := by
  obtain ⟨i0, hi, hz0, hz1, hz2⟩ := info_parts i64info
  have hrz : ∀ ty, (Builtin.append_ #[25, 3] ty #[.slice none 0 0, .int .i64 (n : Int)]).run Tryd.prog w = _ := fun ty =>
    Lib.run_append_nil_zeros w 25 3 ty 3 i0 (.int .i64 0) .i64 .i64 Tryd.underlying25 Tryd.underlying3 hi hz0 n h0 (by rw [hz1]; decide) (by omega) (by rw [hz2]; omega)
  have hge := grownCap_ge w n 0 3
  have hle := grownCap_le_maxLen w n 0 3 (by unfold maxLen; omega)
  generalize grownCap w n 0 3 = G at hrz hge hle
  have hs1 : (Builtin.zeroCells (Value.cells (.int .i64 0)) n ++ Builtin.zeroCells (Value.cells (.int .i64 0)) (G - n)).size = G := by
    rw [Array.size_append, size_zeroCells, size_zeroCells]
    simp [Value.cells]
    omega
  generalize Builtin.zeroCells (Value.cells (.int .i64 0)) n ++ Builtin.zeroCells (Value.cells (.int .i64 0)) (G - n) = Z at hrz hs1
  have hown : GOwn (w.drew.alloc (.cells Z 3)) w.heap.size (3, .slice (some ⟨w.heap.size, 0, none⟩) 0 G, []) := by
    refine ⟨by simp, .inr ⟨w.heap.size, G, Z, rfl, Nat.le_refl _, ?_, Nat.zero_le _, hle, by rw [hs1, Nat.mul_one], by simp⟩⟩
    exact heap_alloc_new w.drew _
  have hbel : Below w.heap.size w (w.drew.alloc (.cells Z 3)) := ((below_drewN (Below.refl w.heap.size w) 1).alloc (Nat.le_refl _) _)
  have hno := Lib.hid hown
  have hbo := Lib.hid hbel
  have hG63 : G ≤ 9223372036854775807 := by unfold maxLen at hle; omega
  clear hown hbel hle hs1
  have h1 : ¬ ((n : Int) < 0) := by omega
  have h4 : (n : Int) > 0 := by omega
  go_enter Tryd.func76, Tryd.ntmps76
  go_wp2_with (at_builtin; refine Lib.wpList_append_run _ rfl _ _ _ _ rfl _ _ rfl rfl _ _ (hrz _) ?_)
  go_ret
  exact ⟨_, rfl, hno.out, hbo.out⟩

set_option maxRecDepth 100000 in
set_option maxHeartbeats 2000000 in
theorem concatI_any (v : Value) (M : List (List Value)) (w : World) (h : RdX w w.heap.size v M) (hl : M.length ≤ 1048576) (hs : flN M M.length ≤ 1073741824) (h0 : 0 < flN M M.length) :
    Calls Tryd.prog 40 #[v] w (fun e w' => ∃ u, e = .returned u ∧ GOwn w' w.heap.size (3, u, flC M M.length) ∧ Below w.heap.size w w') := by
  obtain ⟨i0, hi, hz0, hz1, hz2⟩ := info_parts i64info
  obtain ⟨b, off, c, rfl, h1, h2, hbb, hcell⟩ := h
  unfold maxLen at h2
  have HC := Lib.hid hcell
  clear hcell
  go_enter Tryd.func40, Tryd.ntmps40
  go_wp2
  go_loopw [3, 11] (fun q i wr => ∃ j : Nat, j ≤ M.length ∧ i = .int .i64 j ∧ q = .int .i64 (flN M j : Int) ∧ w = wr)
    (fun _ i _ => M.length - (intOf i).toNat)
  case atStart => exact ⟨0, Nat.zero_le _, rfl, rfl, rfl⟩
  case round =>
    obtain ⟨j, hj, rfl, rfl, rfl⟩ := hrel
    by_cases hlj : j < M.length
    · obtain ⟨x, hc0, hx⟩ := HC.out j hlj
      have hsum := flN_succ hlj
      have hle := flN_le M (j + 1)
      obtain ⟨A1, c1, rfl, m1, m2, m0, m4, m3⟩ := hx
      clear m0 m1 m2 m3 m4
      generalize (M.getD j []) = y at hc0 hsum
      have HS := Lib.hid hsum
      generalize flN M j = q at hsum HS ⊢
      have hqz : q + y.length ≤ 1073741824 := by omega
      have hnn : ¬ (q : Int) + (y.length : Int) < 0 := by omega
      clear hsum hle
      go_wp2
      go_roundw
      case rel => exact ⟨j + 1, by omega, by go_num, by rw [HS.out]; go_num, trivial⟩
      case measure => simp [intOf]; omega
    · obtain rfl : j = M.length := by omega
      have hn0 : Hid (flC M 0 = []) := Lib.hid rfl
      go_wp2_with (go_at_call 76; refine (growI_any (flN M M.length) _ h0 hs).mono ?_; rintro e w3 ⟨u3, rfl, hown3, hb3⟩)
      rw [← hn0.out] at hown3
      go_loopw [6, 27] (fun o i wq => ∃ j : Nat, j ≤ M.length ∧ i = .int .i64 j ∧ GOwn wq w.heap.size (3, o, flC M j) ∧ Below w.heap.size w wq)
        (fun _ i _ => M.length - (intOf i).toNat)
      case atStart => exact ⟨0, Nat.zero_le _, rfl, hown3, hb3⟩
      case round =>
        clear hown3 hb3
        obtain ⟨j, hj, rfl, hown, hbel⟩ := hrel
        by_cases hlj : j < M.length
        · obtain ⟨x, hc0, hx⟩ := HC.out j hlj
          have hc1 := (hbel.cell (p := ⟨b, off + j, none⟩) hbb).trans hc0
          have hx1 := hx.up hbel
          have hct := flC_succ hlj
          have hlt2 : (flC M j).length + (M.getD j []).length ≤ 1073741824 := by
            have h2 := flN_le M (j + 1)
            rw [flN_succ hlj] at h2
            exact Nat.le_trans h2 hs
          generalize M.getD j [] = y at hx1 hct hlt2
          generalize flC M j = C at hown hct hlt2
          have HX := Lib.hid hx1
          have HCT := Lib.hid hct
          have HB := Lib.hid hlt2
          clear hc0 hx hx1 hct hlt2
          go_wp2_with (at_builtin; refine wpList_appC (W := w) rfl _ _ 25 rfl 3 i0 Tryd.underlying25 hi (.int .i64 0) 8 hz0 hz1 hz2 rfl (by omega) _ C (by rfl) _ y (by rfl) HX.out hown hbel HB.out ?_; intro v7 w7 hown7 hb7)
          go_roundw
          case rel => exact ⟨j + 1, by omega, by go_num, by rw [HCT.out]; exact hown7, hb7⟩
          case measure => simp [intOf]; omega
        · obtain rfl : j = M.length := by omega
          go_wp2
          go_ret
          exact ⟨_, rfl, hown, hbel⟩

set_option maxHeartbeats 1000000 in
/-- slices.Grow of nil. -/
theorem growS_any (n : Nat) (w : World) (h0 : 0 < n) (hn : n ≤ 1073741824) :
    Calls Tryd.prog 77 #[.slice none 0 0, .int .i64 (n : Int)] w (fun e w' => ∃ u, e = .returned u ∧ GOwn w' w.heap.size (22, u, []) ∧ Below w.heap.size w w') := by
  obtain ⟨i0, hi, hz0, hz1, hz2⟩ := info_parts sbinfo
  have hrz : ∀ ty, (Builtin.append_ #[23, 3] ty #[.slice none 0 0, .int .i64 (n : Int)]).run Tryd.prog w = _ := fun ty =>
    Lib.run_append_nil_zeros w 23 3 ty 22 i0 (.slice none 0 0) .i64 .i64 Tryd.underlying23 Tryd.underlying3 hi hz0 n h0 (by rw [hz1]; decide) (by omega) (by rw [hz2]; omega)
  have hge := grownCap_ge w n 0 22
  have hle := grownCap_le_maxLen w n 0 22 (by unfold maxLen; omega)
  generalize grownCap w n 0 22 = G at hrz hge hle
  have hs1 : (Builtin.zeroCells (Value.cells (.slice none 0 0)) n ++ Builtin.zeroCells (Value.cells (.slice none 0 0)) (G - n)).size = G := by
    rw [Array.size_append, size_zeroCells, size_zeroCells]
    simp [Value.cells]
    omega
  generalize Builtin.zeroCells (Value.cells (.slice none 0 0)) n ++ Builtin.zeroCells (Value.cells (.slice none 0 0)) (G - n) = Z at hrz hs1
  have hown : GOwn (w.drew.alloc (.cells Z 22)) w.heap.size (22, .slice (some ⟨w.heap.size, 0, none⟩) 0 G, []) := by
    refine ⟨by simp, .inr ⟨w.heap.size, G, Z, rfl, Nat.le_refl _, ?_, Nat.zero_le _, hle, by rw [hs1, Nat.mul_one], by simp⟩⟩
    exact heap_alloc_new w.drew _
  have hbel : Below w.heap.size w (w.drew.alloc (.cells Z 22)) := ((below_drewN (Below.refl w.heap.size w) 1).alloc (Nat.le_refl _) _)
  have hno := Lib.hid hown
  have hbo := Lib.hid hbel
  have hG63 : G ≤ 9223372036854775807 := by unfold maxLen at hle; omega
  clear hown hbel hle hs1
  have h1 : ¬ ((n : Int) < 0) := by omega
  have h4 : (n : Int) > 0 := by omega
  go_enter Tryd.func77, Tryd.ntmps77
  go_wp2_with (at_builtin; refine Lib.wpList_append_run _ rfl _ _ _ _ rfl _ _ rfl rfl _ _ (hrz _) ?_)
  go_ret
  exact ⟨_, rfl, hno.out, hbo.out⟩

set_option maxRecDepth 100000 in
set_option maxHeartbeats 2000000 in
theorem concatS_any (v : Value) (M : List (List Value)) (w : World) (h : RdX w w.heap.size v M) (hl : M.length ≤ 1048576) (hs : flN M M.length ≤ 1073741824) (h0 : 0 < flN M M.length) :
    Calls Tryd.prog 42 #[v] w (fun e w' => ∃ u, e = .returned u ∧ GOwn w' w.heap.size (22, u, flC M M.length) ∧ Below w.heap.size w w') := by
  obtain ⟨i0, hi, hz0, hz1, hz2⟩ := info_parts sbinfo
  obtain ⟨b, off, c, rfl, h1, h2, hbb, hcell⟩ := h
  unfold maxLen at h2
  have HC := Lib.hid hcell
  clear hcell
  go_enter Tryd.func42, Tryd.ntmps42
  go_wp2
  go_loopw [3, 11] (fun q i wr => ∃ j : Nat, j ≤ M.length ∧ i = .int .i64 j ∧ q = .int .i64 (flN M j : Int) ∧ w = wr)
    (fun _ i _ => M.length - (intOf i).toNat)
  case atStart => exact ⟨0, Nat.zero_le _, rfl, rfl, rfl⟩
  case round =>
    obtain ⟨j, hj, rfl, rfl, rfl⟩ := hrel
    by_cases hlj : j < M.length
    · obtain ⟨x, hc0, hx⟩ := HC.out j hlj
      have hsum := flN_succ hlj
      have hle := flN_le M (j + 1)
      obtain ⟨A1, c1, rfl, m1, m2, m0, m4, m3⟩ := hx
      clear m0 m1 m2 m3 m4
      generalize (M.getD j []) = y at hc0 hsum
      have HS := Lib.hid hsum
      generalize flN M j = q at hsum HS ⊢
      have hqz : q + y.length ≤ 1073741824 := by omega
      have hnn : ¬ (q : Int) + (y.length : Int) < 0 := by omega
      clear hsum hle
      go_wp2
      go_roundw
      case rel => exact ⟨j + 1, by omega, by go_num, by rw [HS.out]; go_num, trivial⟩
      case measure => simp [intOf]; omega
    · obtain rfl : j = M.length := by omega
      have hn0 : Hid (flC M 0 = []) := Lib.hid rfl
      go_wp2_with (go_at_call 77; refine (growS_any (flN M M.length) _ h0 hs).mono ?_; rintro e w3 ⟨u3, rfl, hown3, hb3⟩)
      rw [← hn0.out] at hown3
      go_loopw [6, 27] (fun o i wq => ∃ j : Nat, j ≤ M.length ∧ i = .int .i64 j ∧ GOwn wq w.heap.size (22, o, flC M j) ∧ Below w.heap.size w wq)
        (fun _ i _ => M.length - (intOf i).toNat)
      case atStart => exact ⟨0, Nat.zero_le _, rfl, hown3, hb3⟩
      case round =>
        clear hown3 hb3
        obtain ⟨j, hj, rfl, hown, hbel⟩ := hrel
        by_cases hlj : j < M.length
        · obtain ⟨x, hc0, hx⟩ := HC.out j hlj
          have hc1 := (hbel.cell (p := ⟨b, off + j, none⟩) hbb).trans hc0
          have hx1 := hx.up hbel
          have hct := flC_succ hlj
          have hlt2 : (flC M j).length + (M.getD j []).length ≤ 1073741824 := by
            have h2 := flN_le M (j + 1)
            rw [flN_succ hlj] at h2
            exact Nat.le_trans h2 hs
          generalize M.getD j [] = y at hx1 hct hlt2
          generalize flC M j = C at hown hct hlt2
          have HX := Lib.hid hx1
          have HCT := Lib.hid hct
          have HB := Lib.hid hlt2
          clear hc0 hx hx1 hct hlt2
          go_wp2_with (at_builtin; refine wpList_appC (W := w) rfl _ _ 23 rfl 22 i0 Tryd.underlying23 hi (.slice none 0 0) 24 hz0 hz1 hz2 rfl (by omega) _ C (by rfl) _ y (by rfl) HX.out hown hbel HB.out ?_; intro v7 w7 hown7 hb7)
          go_roundw
          case rel => exact ⟨j + 1, by omega, by go_num, by rw [HCT.out]; exact hown7, hb7⟩
          case measure => simp [intOf]; omega
        · obtain rfl : j = M.length := by omega
          go_wp2
          go_ret
          exact ⟨_, rfl, hown, hbel⟩
end Go.Proofs.YtdoaikanaodefaaDoor
