/- PathLen: PathLenS, PathLen. -/
import Derived.Test.YtopbalemfljphaaDoorPut
import Derived.Test.YtopbalemfljphaaDoorMem
import Derived.Test.YtopbalemfljphaaDoorPathIter
import Derived.Laws.EntriesVeiled

/- The contracts of l08In and PathLen as their models have them. -/
namespace Go.Proofs.YtopbalemfljphaaDoor
open Go.ChangeShapes Go.WideShapes Go.ChangeAt Go.RowKit

/-- Is there a path? -/
def pathB (i n : Int) : Bool := decide (1 ≤ n ∧ n ≤ 1048576 ∧ 0 ≤ i ∧ i < n)
theorem pathB_yes {i n : Int} (h : 1 ≤ n ∧ n ≤ 1048576 ∧ 0 ≤ i ∧ i < n) : pathB i n = true := decide_eq_true h
theorem pathB_no {i n : Int} (h : ¬ (1 ≤ n ∧ n ≤ 1048576 ∧ 0 ≤ i ∧ i < n)) : pathB i n = false := decide_eq_false h
/-- The length of the path, 0 if there is none. -/
def plenZ (i n : Int) : Int := if pathB i n = true then (plenN i.toNat n.toNat : Int) else 0

set_option maxHeartbeats 1000000 in
theorem l08In_any (i n : Int) (w : World) :
    Calls Tryd.prog 77 #[.int .i64 i, .int .i64 n] w (fun e w' => e = .returned (.bool (pathB i n)) ∧ w = w') := by
  by_cases h1 : 1 ≤ n ∧ n ≤ 1048576
  · by_cases h2 : 0 ≤ i ∧ i ≤ n - 1
    · rw [pathB_yes ⟨h1.1, h1.2, h2.1, by omega⟩]
      have HA := Lib.hid (fun w => l01In_yes n 1 1048576 w h1.1 h1.2)
      have HB := Lib.hid (fun w => l01In_yes i 0 (n - 1) w h2.1 h2.2)
      have hn1 := h1.1
      have hn2 := h1.2
      clear h1 h2
      go_enter Tryd.func77, Tryd.ntmps77
      go_wp2_with fail
      refine (HA.out _).mono ?_
      rintro e _ ⟨rfl, rfl⟩
      go_wp2_with fail
      refine (HB.out _).mono ?_
      rintro e _ ⟨rfl, rfl⟩
      go_wp2
      go_ret
      exact ⟨rfl, rfl⟩
    · rw [pathB_no (by omega)]
      have HA := Lib.hid (fun w => l01In_yes n 1 1048576 w h1.1 h1.2)
      have HB := Lib.hid (fun w => l01In_no i 0 (n - 1) w h2)
      have hn1 := h1.1
      have hn2 := h1.2
      clear h1 h2
      go_enter Tryd.func77, Tryd.ntmps77
      go_wp2_with fail
      refine (HA.out _).mono ?_
      rintro e _ ⟨rfl, rfl⟩
      go_wp2_with fail
      refine (HB.out _).mono ?_
      rintro e _ ⟨rfl, rfl⟩
      go_wp2
      go_ret
      exact ⟨rfl, rfl⟩
  · rw [pathB_no (by omega)]
    have HA := Lib.hid (fun w => l01In_no n 1 1048576 w h1)
    clear h1
    go_enter Tryd.func77, Tryd.ntmps77
    go_wp2_with fail
    refine (HA.out _).mono ?_
    rintro e _ ⟨rfl, rfl⟩
    go_wp2
    go_ret
    exact ⟨rfl, rfl⟩

set_option maxHeartbeats 2000000 in
theorem specPathLen_in : ∀ (f i n : Nat) (w : World), n ≤ f → i < n → n ≤ 1048576 →
    Calls Tryd.prog 52 #[.int .i64 (i : Int), .int .i64 (n : Int)] w (fun e w' => e = .returned (.int .i64 (plenN i n : Int)) ∧ w = w') := by
  intro f
  induction f with
  | zero => intro i n w hf hi; omega
  | succ f ih =>
    intro i n w hf hi hn
    have HI := Lib.hid (fun w => l08In_any (i : Int) (n : Int) w)
    rw [pathB_yes (by omega)] at HI
    by_cases h1 : n = 1
    · have h1' : ((n : Int) == 1) = true := by simp [h1]
      rw [plenN_small (by omega) hi]
      clear h1 ih
      go_enter Tryd.func52, Tryd.ntmps52
      go_wp2_with fail
      refine (HI.out _).mono ?_
      rintro e _ ⟨rfl, rfl⟩
      go_wp2
      go_ret
      exact ⟨rfl, rfl⟩
    · have h1' : ((n : Int) == 1) = false := by rw [beq_eq_false_iff_ne]; omega
      have hn2 : 2 ≤ n := by omega
      have hlt := splitN_lt hn2
      have hps := splitN_pos hn2
      have HA := Lib.hid (fun w => specSplitAt_any (n : Int) w (by omega))
      rw [splitZ_nat] at HA
      by_cases hk : i < splitN n
      · rw [plenN_left hn2 hk]
        generalize splitN n = s at hlt hps HA hk ⊢
        have IH := Lib.hid (fun w => ih i s w (by omega) hk (by omega))
        have hb := Nat.le_trans (upN_len i s s) (show s ≤ 1048576 by omega)
        change plenN i s ≤ 1048576 at hb
        have hki : (i : Int) < (s : Int) := by omega
        generalize plenN i s = R at hb IH ⊢
        clear h1 ih hn2
        go_enter Tryd.func52, Tryd.ntmps52
        go_wp2_with fail
        refine (HI.out _).mono ?_
        rintro e _ ⟨rfl, rfl⟩
        go_wp2_with fail
        refine (HA.out _).mono ?_
        rintro e w' ⟨rfl, hw⟩
        obtain rfl : w = w' := hw.symm
        go_wp2_with fail
        refine (IH.out _).mono ?_
        rintro e _ ⟨rfl, rfl⟩
        go_wp2
        go_ret
        exact ⟨by go_num, rfl⟩
      · rw [plenN_right hn2 (by omega) hi]
        generalize splitN n = s at hlt hps HA hk ⊢
        have IH := Lib.hid (fun w => ih (i - s) (n - s) w (by omega) (by omega) (by omega))
        have hb := Nat.le_trans (upN_len (i - s) (n - s) (n - s)) (show n - s ≤ 1048576 by omega)
        change plenN (i - s) (n - s) ≤ 1048576 at hb
        have hki : ¬ (i : Int) < (s : Int) := by omega
        have e1 : (i : Int) - (s : Int) = ((i - s : Nat) : Int) := by omega
        have e2 : (n : Int) - (s : Int) = ((n - s : Nat) : Int) := by omega
        have hx1 : i - s ≤ 1048576 := by omega
        have hx2 : n - s ≤ 1048576 := by omega
        generalize plenN (i - s) (n - s) = R at hb IH ⊢
        generalize i - s = i' at e1 IH hx1
        generalize n - s = n' at e2 IH hx2
        clear h1 ih hn2
        go_enter Tryd.func52, Tryd.ntmps52
        go_wp2_with fail
        refine (HI.out _).mono ?_
        rintro e _ ⟨rfl, rfl⟩
        go_wp2_with fail
        refine (HA.out _).mono ?_
        rintro e w' ⟨rfl, hw⟩
        obtain rfl : w = w' := hw.symm
        go_wp2_with fail
        refine (IH.out _).mono ?_
        rintro e _ ⟨rfl, rfl⟩
        go_wp2
        go_ret
        exact ⟨by go_num, rfl⟩

set_option maxHeartbeats 1000000 in
theorem specPathLen_any (i n : Int) (w : World) :
    Calls Tryd.prog 52 #[.int .i64 i, .int .i64 n] w (fun e w' => e = .returned (.int .i64 (plenZ i n)) ∧ w = w') := by
  unfold plenZ
  by_cases h : 1 ≤ n ∧ n ≤ 1048576 ∧ 0 ≤ i ∧ i < n
  · rw [if_pos (pathB_yes h)]
    obtain ⟨k, rfl⟩ := Int.eq_ofNat_of_zero_le h.2.2.1
    obtain ⟨m, rfl⟩ := Int.eq_ofNat_of_zero_le (show 0 ≤ n by omega)
    exact specPathLen_in m k m w (Nat.le_refl _) (by omega) (by omega)
  · rw [pathB_no h, if_neg (by decide)]
    have HI := Lib.hid (fun w => l08In_any i n w)
    rw [pathB_no h] at HI
    clear h
    go_enter Tryd.func52, Tryd.ntmps52
    go_wp2_with fail
    refine (HI.out _).mono ?_
    rintro e _ ⟨rfl, rfl⟩
    go_wp2
    go_ret
    exact ⟨rfl, rfl⟩
end Go.Proofs.YtopbalemfljphaaDoor

/- The contract of PathLen as the program has it: a range over the parts beside a leaf that counts them. -/
namespace Go.Proofs.YtopbalemfljphaaDoor
open Go.ChangeShapes Go.WideShapes Go.ChangeAt Go.RowKit Go.Shelf

attribute [local go_sem] Oper.semAt_some

/-- Is i a leaf of n? -/
def leafB (i n : Int) : Bool := decide (0 ≤ i ∧ i < n)
theorem leafB_yes {i n : Int} (h : 0 ≤ i ∧ i < n) : leafB i n = true := decide_eq_true h
theorem leafB_no {i n : Int} (h : ¬ (0 ≤ i ∧ i < n)) : leafB i n = false := decide_eq_false h

set_option maxHeartbeats 1000000 in
theorem isLeaf_any (i n : Int) (w : World) :
    Calls Tryd.prog 97 #[.int .i64 i, .int .i64 n] w (fun e w' => e = .returned (.bool (leafB i n)) ∧ w = w') := by
  by_cases h1 : 0 ≤ i
  · by_cases h2 : i < n
    · rw [leafB_yes ⟨h1, h2⟩]
      go_enter Tryd.func97, Tryd.ntmps97
      go_wp2
      go_ret
      exact ⟨by first | rfl | simp [h2], rfl⟩
    · rw [leafB_no (by omega)]
      go_enter Tryd.func97, Tryd.ntmps97
      go_wp2
      go_ret
      exact ⟨by first | rfl | simp [h2], rfl⟩
  · rw [leafB_no (by omega)]
    go_enter Tryd.func97, Tryd.ntmps97
    go_wp2
    go_ret
    exact ⟨rfl, rfl⟩

set_option maxHeartbeats 1000000 in
theorem hasPath_any (i n : Int) (w : World) :
    Calls Tryd.prog 82 #[.int .i64 i, .int .i64 n] w (fun e w' => e = .returned (.bool (pathB i n)) ∧ w = w') := by
  by_cases h1 : 0 ≤ i ∧ i < n
  · have HA := Lib.hid (fun w => isLeaf_any i n w)
    rw [leafB_yes h1] at HA
    by_cases h2 : n ≤ 1048576
    · rw [pathB_yes (by omega)]
      clear h1
      go_enter Tryd.func82, Tryd.ntmps82
      go_wp2_with fail
      refine (HA.out _).mono ?_
      rintro e _ ⟨rfl, rfl⟩
      go_wp2
      go_ret
      exact ⟨by first | rfl | simp [h2], rfl⟩
    · rw [pathB_no (by omega)]
      clear h1
      go_enter Tryd.func82, Tryd.ntmps82
      go_wp2_with fail
      refine (HA.out _).mono ?_
      rintro e _ ⟨rfl, rfl⟩
      go_wp2
      go_ret
      exact ⟨by first | rfl | simp [h2], rfl⟩
  · rw [pathB_no (by omega)]
    have HA := Lib.hid (fun w => isLeaf_any i n w)
    rw [leafB_no h1] at HA
    clear h1
    go_enter Tryd.func82, Tryd.ntmps82
    go_wp2_with fail
    refine (HA.out _).mono ?_
    rintro e _ ⟨rfl, rfl⟩
    go_wp2
    go_ret
    exact ⟨rfl, rfl⟩

/-- A variable that holds an int all along. -/
theorem ownFrom_boxed {β : Type} (B b : Nat) (t : TypeId) (f : β → Value) : OwnFrom B (fun s W => Boxed W b t (f s)) := by
  intro s W W' row h hg hr
  refine h.kept hg fun e => ?_
  obtain ⟨_, o, ho, hc⟩ := hr b e.symm
  rw [show W.heap[b]? = _ from h] at ho
  cases ho
  simp [Obj.isCells] at hc
theorem ownFrom_size {β : Type} (B k : Nat) : OwnFrom B (fun (_ : β) W => k < W.heap.size) := fun _ _ _ _ hs hg _ => Nat.lt_of_lt_of_le hs hg.size
theorem kpP_b {n₀ Bi Bn : Nat} {w : World} (hn : n₀ ≤ w.heap.size) (hi : Bi < w.heap.size) (hs : Bn < w.heap.size) (W : World) (l : Nat) (o o' : Obj) (hl : w.heap.size ≤ l) (h : W.heap[l]? = some o) (h1 : o.isCells = false) (h2 : o.isWalk = false) : KpP n₀ Bi Bn W (W.putObj l o') :=
  ⟨belowK_b hn W l o o' hl h h1 h2, World.putObj_heap_other (by omega), World.putObj_heap_other (by omega)⟩

set_option maxRecDepth 100000 in
set_option maxHeartbeats 4000000 in
theorem implPathLen_in (i n : Nat) (w : World) (hi : i < n) (hn : n ≤ 1048576) :
    Calls Tryd.prog 56 #[.int .i64 (i : Int), .int .i64 (n : Int)] w (fun e w' => e = .returned (.int .i64 (plenN i n : Int)) ∧ Below w.heap.size w w') := by
  have HP := Lib.hid (fun w => hasPath_any (i : Int) (n : Int) w)
  rw [pathB_yes (by omega)] at HP
  obtain ⟨zs, hzs⟩ := prt_sub i n
  have HZ := Lib.hid hzs
  have HN := Lib.hid (zs_len hzs)
  have hb := prt_len hi (show n ≤ 2 ^ 30 by omega)
  change plenN i n ≤ 30 at hb
  generalize plenN i n = R at HN hb ⊢
  clear hzs
  refine (callsIn_wide (n := 3)).1 ?_
  refine callsIn_of_wp_marks Tryd.func56 rfl trivial ?_ rfl
  simp only [Tryd.ntmps56, List.size_toArray, List.length_cons, List.length_nil, Nat.reduceAdd, Nat.reduceSub, Array.replicate_succ, Array.replicate_zero, List.push_toArray, List.append_toArray, List.nil_append, List.cons_append]
  gi_wp2_with (first
    | (refine ⟨trivial, ?_⟩; gi_at_call 82; refine (callsIn_wide.2 (HP.out _)).mono ?_; rintro e _ ⟨rfl, rfl⟩)
    | (refine ⟨trivial, ?_⟩; gi_at_call 83; refine (parts_in _ _ _ _).mono ?_; rintro e w' ⟨rfl, rfl⟩))
  obtain ⟨B, hB⟩ : ∃ B, B = w.heap.size := ⟨_, rfl⟩
  rw [← hB]
  obtain ⟨w3, hw3⟩ : ∃ w3, w3 = ((w.alloc (.cells #[.int .i64 0] 3)).alloc (.cells #[.int .i64 (i : Int)] 3)).alloc (.cells #[.int .i64 (n : Int)] 3) := ⟨_, rfl⟩
  rw [← hw3]
  have bS : Boxed w3 B 3 (.int .i64 (([] : List (PA n)).length : Int)) := by rw [hw3, hB]; exact ((Boxed.new w 3 (.int .i64 0)).alloc _).alloc _
  have bI : Boxed w3 (B + 1) 3 (.int .i64 (i : Int)) := by
    have := (Boxed.new (w.alloc (.cells #[.int .i64 0] 3)) 3 (.int .i64 (i : Int))).alloc (.cells #[.int .i64 (n : Int)] 3)
    rw [World.size_alloc] at this
    rw [hw3, hB]
    exact this
  have bN : Boxed w3 (B + 1 + 1) 3 (.int .i64 (n : Int)) := by
    have := Boxed.new ((w.alloc (.cells #[.int .i64 0] 3)).alloc (.cells #[.int .i64 (i : Int)] 3)) 3 (.int .i64 (n : Int))
    rw [World.size_alloc, World.size_alloc] at this
    rw [hw3, hB]
    exact this
  have hsz : w3.heap.size = B + 3 := by rw [hw3, hB]; simp
  have hBL : Below B w w3 := by rw [hw3, hB]; exact (((Below.refl _ w).alloc (Nat.le_refl _) _).alloc (by simp) _).alloc (by simp; omega) _
  have HB := Lib.hid hB
  clear hw3 hB
  refine wpIn_rangeFunc_ownG (w0 := w3) (N := zs.length) (S := fun ys => ys = zs) (Sp := fun _ => True) (Kp := KpP B (B + 1) (B + 1 + 1)) (encs := fun x : PA n => #[.agg #[.int .i64 (x.1.1 : Int), .int .i64 (x.1.2 : Int)]]) rfl (by omega)
    (gf := 98) (lb := #[.pointer (some ⟨B + 1, 0, none⟩), .pointer (some ⟨B + 1 + 1, 0, none⟩)]) rfl trivial (enters_of Tryd.func98 (by kernel_rfl) rfl)
    (fun l' J Jx W hW hJ _ hY h0 => ?seq) KpP.trans (kpP_b (by omega) (by omega) (by omega)) (Below.refl _ _) (fun _ => rfl)
    (fun pre W => Boxed W B 3 (.int .i64 (pre.length : Int)) ∧ Below B w W)
    (fun _ _ _ => False)
    (OwnFrom.and (ownFrom_boxed _ B 3 fun pre : List (PA n) => .int .i64 (pre.length : Int)) (ownFrom_below (Nat.le_of_eq HB.out) (by omega)))
    (fun _ _ _ _ _ hs _ _ => hs)
    ⟨bS, hBL⟩
    (fun x => { tmps := #[.int .i64 (i : Int), .int .i64 (n : Int), undef, undef, .int .i64 0, .pointer (some ⟨B, 0, none⟩), .int .i64 (i : Int), .int .i64 (n : Int), .bool true, .bool false, .int .i64 (i : Int), .int .i64 (n : Int),
      .func (.func 98) #[] #[.pointer (some ⟨B + 1, 0, none⟩), .pointer (some ⟨B + 1 + 1, 0, none⟩)], .agg #[.int .i64 (x.1.1 : Int), .int .i64 (x.1.2 : Int)], undef, undef, undef], defers := [] }) ?assign ?body ?done ?stop
  case seq =>
    refine parts1_in i zs HZ.out hi (by omega) _ (by omega) l' (B + 1) (B + 1 + 1) B J Jx hY W ?_ ?_ ?_
    · exact (hW.cell (p := ⟨B + 1, 0, none⟩) (by simp; omega)).trans bI.cell
    · exact (hW.cell (p := ⟨B + 1 + 1, 0, none⟩) (by simp; omega)).trans bN.cell
    · exact hJ _ _ _ none h0 ⟨rfl, rfl, rfl, Nat.le_refl _, fun _ _ _ => rfl⟩ (fun _ e => by cases e)
  case assign =>
    intro l' x W K hK
    gi_wp2
    simpa using hK
  case body =>
    rintro l' pre x W ⟨hv, hbw⟩ hpl
    have hvc := hv.cell
    have hvf := hv.frozen
    have hpl2 : pre.length < 30 := by have := HN.out; omega
    have HL : Hid ((pre ++ [x]).length = pre.length + 1) := Lib.hid (by simp)
    generalize pre.length = k at hvc hv HL hpl2
    generalize hq : pre ++ [x] = q at HL
    clear hq hpl
    have hgv : B ≤ B := Nat.le_refl _
    gi_wp2
    refine ⟨(KeepsOthers.setCell _ _ _).from _, ⟨(Below.refl B W).setCell (p := ⟨B, 0, none⟩) hgv _, Below.heap_setCell _ _ _ _ (by simp), Below.heap_setCell _ _ _ _ (show B + 1 + 1 ≠ B by omega)⟩, ?_, hbw.setCell (p := ⟨B, 0, none⟩) hgv _⟩
    rw [HL.out]
    exact hv.set _
  case done =>
    rintro D ys W hD rfl ⟨hv, hbw⟩ hK
    have hvc := hv.cell
    rw [HN.out] at hvc
    clear hv
    gi_wp2
    refine ⟨by simp, .inl ⟨_, _, rfl, run_takeDeferred hK, ?_⟩⟩
    refine ⟨.int .i64 (R : Int), by simp [results, Tryd.results56, go_sem], rfl, ?_⟩
    rw [← HB.out]
    exact hbw.trans (belowK_b (w := w3) (by omega) W D _ _ (by omega) hK rfl rfl)
  case stop =>
    rintro D c pre W _ _ h _
    exact h.elim

set_option maxHeartbeats 1000000 in
theorem implPathLen_any (i n : Int) (w : World) :
    Calls Tryd.prog 56 #[.int .i64 i, .int .i64 n] w (fun e w' => e = .returned (.int .i64 (plenZ i n)) ∧ Below w.heap.size w w') := by
  unfold plenZ
  by_cases h : 1 ≤ n ∧ n ≤ 1048576 ∧ 0 ≤ i ∧ i < n
  · rw [if_pos (pathB_yes h)]
    obtain ⟨k, rfl⟩ := Int.eq_ofNat_of_zero_le h.2.2.1
    obtain ⟨m, rfl⟩ := Int.eq_ofNat_of_zero_le (show 0 ≤ n by omega)
    exact implPathLen_in k m w (by omega) (by omega)
  · rw [pathB_no h, if_neg (by decide)]
    have HI := Lib.hid (fun w => hasPath_any i n w)
    rw [pathB_no h] at HI
    clear h
    go_enter Tryd.func56, Tryd.ntmps56
    go_wp2_with fail
    refine (HI.out _).mono ?_
    rintro e _ ⟨rfl, rfl⟩
    go_wp2
    go_ret
    exact ⟨rfl, Below.refl _ _⟩

theorem specPathLenB_any (i n : Int) (w : World) :
    Calls Tryd.prog 52 #[.int .i64 i, .int .i64 n] w (fun e w' => e = .returned (.int .i64 (plenZ i n)) ∧ Below w.heap.size w w') :=
  (specPathLen_any i n w).mono fun e w' h => ⟨h.1, by rw [← h.2]; exact Below.refl _ _⟩
end Go.Proofs.YtopbalemfljphaaDoor
