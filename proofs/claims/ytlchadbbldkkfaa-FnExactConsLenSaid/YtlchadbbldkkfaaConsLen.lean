/- The contracts of isPrefix, hasCons and ConsLen as the program has them: a range over the parts of a consistency proof that counts them. -/
import Derived.Test.YtlchadbbldkkfaaConsIter
import Derived.Test.YtlchadbbldkkfaaConsLenS
import Derived.Laws.EntriesVeiled
namespace Go.Proofs.Ytlchadbbldkkfaa
open Go.ChangeShapes Go.WideShapes Go.ChangeAt Go.RowKit Go.Shelf

attribute [local go_sem] Oper.semAt_some

/-- Is m from 1 to n? -/
def prefB (m n : Int) : Bool := decide (1 ≤ m ∧ m ≤ n)
theorem prefB_yes {m n : Int} (h : 1 ≤ m ∧ m ≤ n) : prefB m n = true := decide_eq_true h
theorem prefB_no {m n : Int} (h : ¬ (1 ≤ m ∧ m ≤ n)) : prefB m n = false := decide_eq_false h

set_option maxHeartbeats 1000000 in
theorem isPrefix_any (m n : Int) (w : World) :
    Calls Try.prog 13 #[.int .i64 m, .int .i64 n] w (fun e w' => e = .returned (.bool (prefB m n)) ∧ w = w') := by
  by_cases h1 : 1 ≤ m
  · by_cases h2 : m ≤ n
    · rw [prefB_yes ⟨h1, h2⟩]
      go_enter Try.func13, Try.ntmps13
      go_wp2
      go_ret
      exact ⟨by first | rfl | simp [h2], rfl⟩
    · rw [prefB_no (by omega)]
      go_enter Try.func13, Try.ntmps13
      go_wp2
      go_ret
      exact ⟨by first | rfl | simp [h2], rfl⟩
  · rw [prefB_no (by omega)]
    go_enter Try.func13, Try.ntmps13
    go_wp2
    go_ret
    exact ⟨rfl, rfl⟩

set_option maxHeartbeats 1000000 in
theorem hasCons_any (m n : Int) (w : World) :
    Calls Try.prog 8 #[.int .i64 m, .int .i64 n] w (fun e w' => e = .returned (.bool (consB m n)) ∧ w = w') := by
  by_cases h1 : 1 ≤ m ∧ m ≤ n
  · have HA := Lib.hid (fun w => isPrefix_any m n w)
    rw [prefB_yes h1] at HA
    by_cases h2 : n ≤ 1048576
    · rw [consB_yes ⟨h2, h1⟩]
      clear h1
      go_enter Try.func8, Try.ntmps8
      go_wp2_with fail
      refine (HA.out _).mono ?_
      rintro e _ ⟨rfl, rfl⟩
      go_wp2
      go_ret
      exact ⟨by first | rfl | simp [h2], rfl⟩
    · rw [consB_no (fun e => h2 e.1)]
      clear h1
      go_enter Try.func8, Try.ntmps8
      go_wp2_with fail
      refine (HA.out _).mono ?_
      rintro e _ ⟨rfl, rfl⟩
      go_wp2
      go_ret
      exact ⟨by first | rfl | simp [h2], rfl⟩
  · rw [consB_no (fun e => h1 e.2)]
    have HA := Lib.hid (fun w => isPrefix_any m n w)
    rw [prefB_no h1] at HA
    clear h1
    go_enter Try.func8, Try.ntmps8
    go_wp2_with fail
    refine (HA.out _).mono ?_
    rintro e _ ⟨rfl, rfl⟩
    go_wp2
    go_ret
    exact ⟨rfl, rfl⟩

theorem zsC_len {m n : Nat} {zs : List (PA n)} (hz : zs.map (fun x => x.1) = cprt m n true) : zs.length = clenN m n true := by
  unfold clenN
  rw [← hz, List.length_map]
theorem at_lt {α : Type} {zs : List α} {k : Nat} {x : α} (h : zs[k]? = some x) : k < zs.length := (List.getElem?_eq_some_iff.1 h).1

set_option maxRecDepth 100000 in
set_option maxHeartbeats 4000000 in
theorem implConsLen_in (m n : Nat) (w : World) (h0 : 1 ≤ m) (hmn : m ≤ n) (hn : n ≤ 1048576) :
    Calls Try.prog 5 #[.int .i64 (m : Int), .int .i64 (n : Int)] w (fun e w' => e = .returned (.int .i64 (clenN m n true : Int)) ∧ Below w.heap.size w w') := by
  have HP := Lib.hid (fun w => hasCons_any (m : Int) (n : Int) w)
  rw [consB_yes (by omega)] at HP
  obtain ⟨zs, hzs, hzm⟩ := consZ_ex h0 hmn
  have HZ := Lib.hid hzs
  have HN := Lib.hid (zsC_len hzm)
  have hb := cprt_len (b := true) h0 hmn (show n ≤ 2 ^ 30 by omega)
  change clenN m n true ≤ 31 at hb
  generalize clenN m n true = R at HN hb ⊢
  clear hzs hzm
  refine (callsIn_wide (n := 4)).1 ?_
  refine callsIn_of_wp_marks Try.func5 rfl trivial ?_ rfl
  simp only [Try.ntmps5, List.size_toArray, List.length_cons, List.length_nil, Nat.reduceAdd, Nat.reduceSub, Array.replicate_succ, Array.replicate_zero, List.push_toArray, List.append_toArray, List.nil_append, List.cons_append]
  gi_wp2_with (first
    | (refine ⟨trivial, ?_⟩; gi_at_call 8; refine (callsIn_wide.2 (HP.out _)).mono ?_; rintro e _ ⟨rfl, rfl⟩)
    | (refine ⟨trivial, ?_⟩; gi_at_call 9; refine (cons_in _ _ _ _).mono ?_; rintro e w' ⟨rfl, rfl⟩))
  obtain ⟨B, hB⟩ : ∃ B, B = w.heap.size := ⟨_, rfl⟩
  rw [← hB]
  obtain ⟨w3, hw3⟩ : ∃ w3, w3 = ((w.alloc (.cells #[.int .i64 0] 3)).alloc (.cells #[.int .i64 (m : Int)] 3)).alloc (.cells #[.int .i64 (n : Int)] 3) := ⟨_, rfl⟩
  rw [← hw3]
  have bS : Boxed w3 B 3 (.int .i64 ((0 : Nat) : Int)) := by rw [hw3, hB]; exact ((Boxed.new w 3 (.int .i64 0)).alloc _).alloc _
  have bI : Boxed w3 (B + 1) 3 (.int .i64 (m : Int)) := by
    have := (Boxed.new (w.alloc (.cells #[.int .i64 0] 3)) 3 (.int .i64 (m : Int))).alloc (.cells #[.int .i64 (n : Int)] 3)
    rw [World.size_alloc] at this
    rw [hw3, hB]
    exact this
  have bN : Boxed w3 (B + 1 + 1) 3 (.int .i64 (n : Int)) := by
    have := Boxed.new ((w.alloc (.cells #[.int .i64 0] 3)).alloc (.cells #[.int .i64 (m : Int)] 3)) 3 (.int .i64 (n : Int))
    rw [World.size_alloc, World.size_alloc] at this
    rw [hw3, hB]
    exact this
  have hsz : w3.heap.size = B + 3 := by rw [hw3, hB]; simp
  have hBL : Below B w w3 := by rw [hw3, hB]; exact (((Below.refl _ w).alloc (Nat.le_refl _) _).alloc (by simp) _).alloc (by simp; omega) _
  have HB := Lib.hid hB
  clear hw3 hB
  refine wpIn_range_gives (zs := zs) (Kp := KpC B (B + 1) (B + 1 + 1) (w3.heap.size + 2) 1000000) (encs := fun x : PA n => #[.agg #[.int .i64 (x.1.1 : Int), .int .i64 (x.1.2 : Int)]]) rfl (by omega)
    (gf := 14) (lb := #[.pointer (some ⟨B + 1, 0, none⟩), .pointer (some ⟨B + 1 + 1, 0, none⟩)]) rfl trivial (enters_of Try.func14 (by kernel_rfl) rfl)
    (fun l' J W hW hbel hJ hY hj => ?seq) KpC.trans (fun W o o' h _ => ⟨KpP.turn W o' h (by omega) (by omega) (by omega), KeepsBut.turn W o' (by omega)⟩) (fun _ => rfl)
    (fun k W => Boxed W B 3 (.int .i64 (k : Int)) ∧ Below B w W)
    (OwnFrom.and (ownFrom_boxed _ B 3 fun k : Nat => .int .i64 (k : Int)) (ownFrom_below (Nat.le_of_eq HB.out) (by omega)))
    ⟨bS, hBL⟩
    (fun x a' _ => a' = { tmps := #[.int .i64 (m : Int), .int .i64 (n : Int), undef, undef, .int .i64 0, .pointer (some ⟨B, 0, none⟩), .int .i64 (m : Int), .int .i64 (n : Int), .bool true, .bool false, .int .i64 (m : Int), .int .i64 (n : Int),
      .func (.func 14) #[] #[.pointer (some ⟨B + 1, 0, none⟩), .pointer (some ⟨B + 1 + 1, 0, none⟩)], .agg #[.int .i64 (x.1.1 : Int), .int .i64 (x.1.2 : Int)], undef, undef, undef], defers := [] }) (fun _ _ _ _ _ _ hs _ _ => hs) ?assign ?body ?done
  case seq =>
    refine cons1_in zs HZ.out h0 hmn (by omega) 1000000 (by decide) (by decide) _ l' (B + 1) (B + 1 + 1) B J W (by rw [hW]; exact hJ) (by rw [hW]; exact hY) (by omega) (by omega) (by omega) ?_ ?_ hj
    · exact (hbel.cell (p := ⟨B + 1, 0, none⟩) (by simp; omega)).trans bI.cell
    · exact (hbel.cell (p := ⟨B + 1 + 1, 0, none⟩) (by simp; omega)).trans bN.cell
  case assign =>
    intro l' k x W K hI hK
    gi_wp2
    refine hK _ _ (KeepsFrom.refl _ _) ⟨KpP.refl _ _ _ _, KeepsBut.refl _ _ _⟩ hI ?_
    simp
  case body =>
    rintro l' k x a' W _ hx ⟨hv, hbw⟩ rfl
    have hvc := hv.cell
    have hvf := hv.frozen
    have hk31 : k < 31 := by have := at_lt hx; have := HN.out; omega
    clear hx
    have hgv : B ≤ B := Nat.le_refl _
    have HL : Hid (((k : Int) + 1) = ((k + 1 : Nat) : Int)) := Lib.hid rfl
    gi_wp2
    refine ⟨(KeepsOthers.setCell _ _ _).from _, ⟨⟨(Below.refl B W).setCell (p := ⟨B, 0, none⟩) hgv _, Below.heap_setCell _ _ _ _ (by simp), Below.heap_setCell _ _ _ _ (show B + 1 + 1 ≠ B by omega)⟩, KeepsBut.of_grownBy (grownBy_setCell' W B _) fun j e => .inl (by cases e; omega)⟩, ?_, hbw.setCell (p := ⟨B, 0, none⟩) hgv _⟩
    rw [HL.out]
    exact hv.set _
  case done =>
    rintro D W hD ⟨hv, hbw⟩ hK
    have hvc := hv.cell
    rw [HN.out] at hvc
    clear hv
    gi_wp2
    refine ⟨by simp, .inl ⟨_, _, rfl, run_takeDeferred hK, ?_⟩⟩
    refine ⟨.int .i64 (R : Int), by simp [results, Try.results5, go_sem], rfl, ?_⟩
    rw [← HB.out]
    exact hbw.trans (belowK_b (w := w3) (by omega) W D _ _ (by omega) hK rfl rfl)

set_option maxHeartbeats 1000000 in
theorem implConsLen_any (m n : Int) (w : World) :
    Calls Try.prog 5 #[.int .i64 m, .int .i64 n] w (fun e w' => e = .returned (.int .i64 (clenZ m n)) ∧ Below w.heap.size w w') := by
  unfold clenZ
  by_cases h : n ≤ 1048576 ∧ 1 ≤ m ∧ m ≤ n
  · rw [if_pos (consB_yes h)]
    obtain ⟨k, rfl⟩ := Int.eq_ofNat_of_zero_le (show 0 ≤ m by omega)
    obtain ⟨q, rfl⟩ := Int.eq_ofNat_of_zero_le (show 0 ≤ n by omega)
    exact implConsLen_in k q w (by omega) (by omega) (by omega)
  · rw [consB_no h, if_neg (by decide)]
    have HI := Lib.hid (fun w => hasCons_any m n w)
    rw [consB_no h] at HI
    clear h
    go_enter Try.func5, Try.ntmps5
    go_wp2_with fail
    refine (HI.out _).mono ?_
    rintro e _ ⟨rfl, rfl⟩
    go_wp2
    go_ret
    exact ⟨rfl, Below.refl _ _⟩
end Go.Proofs.Ytlchadbbldkkfaa
