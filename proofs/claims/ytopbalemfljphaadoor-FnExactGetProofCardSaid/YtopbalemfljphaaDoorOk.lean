/- The contracts of BitsOk, as the program has it and as its model has it. -/
import Derived.Test.YtopbalemfljphaaDoorFlags
import Derived.Laws.StructEq
namespace Go.Proofs.YtopbalemfljphaaDoor
open Go.ChangeShapes Go.WideShapes Go.ChangeAt Go.RowKit

theorem flagsOf_z (v : Value) (l : List UInt8) (n : Nat) (nz : Int) (w : World) (h : Sl w w.heap.size v l) (hl : l.length ≤ 4294967296) (hn : n ≤ 16) (hz : nz = (n : Int)) :
    Calls Tryd.prog 104 #[v, .int .i64 nz] w fun e w' => e = .returned (.agg (fl (flk l n))) ∧ Below w.heap.size w w' := by
  subst hz
  exact flagsOf_any v l n w h hl hn
theorem eq_flags (d : Nat) (f g : Nat → Bool) (w : World) :
    (Op.equalIn (d + 2) 161 (.agg (fl f)) (.agg (fl g))).run Tryd.prog w = .ok ((List.range 16).all fun i => f i == g i) w := by
  have hsz : ∀ w, (sizeOf 4).run Tryd.prog w = .ok 1 w := fun w => by kernel_rfl
  rw [List.range_eq_range', Op.equalIn]
  simp only [Sem.run_bind, run_underlying arrDesc, Result.andThen_ok, hsz, Std.Legacy.Range.forIn_eq_forIn_range', Std.Legacy.Range.size, Nat.sub_zero, Nat.add_sub_cancel, Nat.div_one]
  have hl : ∀ i ∈ List.range' 0 16 1, i < 16 := fun i hi => by simpa using (List.mem_range'_1.1 hi).2
  generalize List.range' 0 16 1 = l at hl ⊢
  induction l with
  | nil => simp
  | cons i l ih =>
    have hi : i < 16 := hl i (by simp)
    have px : (part 4 (fl f) (i * 1)).run Tryd.prog w = .ok (.bool (f i)) w := by
      simp [part, isAgg, run_underlying Tryd.underlying4, fl_get f i hi]
    have py : (part 4 (fl g) (i * 1)).run Tryd.prog w = .ok (.bool (g i)) w := by
      simp [part, isAgg, run_underlying Tryd.underlying4, fl_get g i hi]
    have pe : (Op.equalIn (d + 1) 4 (.bool (f i)) (.bool (g i))).run Tryd.prog w = .ok (f i == g i) w := run_equalIn_bool' w d 4 _ _ Tryd.underlying4
    simp only [List.forIn_cons, Sem.run_bind, px, py, pe, Result.andThen_ok, List.all_cons]
    cases hb : (f i == g i)
    · simp
    · simp only [Bool.not_true, Bool.false_eq_true, if_false, Sem.run_pure, Result.andThen_ok, Bool.true_and]
      exact ih fun j hj => hl j (by simp [hj])
theorem flk_far {l : List UInt8} {N : Nat} (hN : N ≤ 8 * l.length) : ((List.range 16).all fun i => flk l N i == flk l (8 * l.length) i) = true ↔ ∀ i : Nat, i < 16 → (N : Int) ≤ (i : Int) → bitL l i = false := by
  rw [List.all_eq_true]
  refine ⟨fun h i hi hn => ?_, fun h i hi => ?_⟩
  · have h1 := h i (List.mem_range.2 hi)
    rcases Nat.lt_or_ge i (8 * l.length) with hlt | hge
    · unfold flk at h1
      rw [decide_eq_false (by omega), decide_eq_true hlt] at h1
      simpa using h1
    · exact bitL_far l i hge
  · rw [List.mem_range] at hi
    unfold flk
    rcases Nat.lt_or_ge i N with hlt | hge
    · rw [decide_eq_true hlt, decide_eq_true (by omega)]
      simp
    · rw [h i hi (by omega)]
      simp
theorem okB_no {l : List UInt8} {n : Int} (h : ¬ okP l n) : okB l n = false := decide_eq_false h
theorem okB_yes {l : List UInt8} {n : Int} (h : okP l n) : okB l n = true := decide_eq_true h
set_option maxRecDepth 100000 in
set_option maxHeartbeats 1000000 in
theorem implBitsOk_any (v : Value) (l : List UInt8) (n : Int) (w : World) (h : Sl w w.heap.size v l) (hl : l.length ≤ 4294967296) :
    Calls Tryd.prog 103 #[v, .int .i64 n] w fun e w' => e = .returned (.bool (okB l n)) ∧ Below w.heap.size w w' := by
  have hs := h
  obtain ⟨A, c, rfl, h1, h2, h0, h3⟩ := h
  unfold maxLen at h2
  clear h0 h3
  by_cases hn : cntOk n
  · have hd := decide_eq_true hn
    have hn9 : n ≤ 9223372036854775807 := by have := hn.2; omega
    have hsz := sizeB_ok hn
    by_cases hlen : (l.length : Int) = sizeB n
    · have hle : ((l.length : Int) == sizeB n) = true := by simpa using hlen
      obtain ⟨N, rfl⟩ := Int.eq_ofNat_of_zero_le (show 0 ≤ n by have := hn.1; omega)
      have hN : N ≤ 16 := by have := hn.2; omega
      have hL : l.length ≤ 2 := by omega
      obtain ⟨Z, hZ⟩ : ∃ Z, Z = sizeB (N : Int) := ⟨_, rfl⟩
      rw [← hZ] at hle
      have HZ := Lib.hid hZ
      have HN := Lib.hid hn
      have Hlen := Lib.hid hlen
      obtain ⟨B, hB⟩ : ∃ B, B = okB l (N : Int) := ⟨_, rfl⟩
      have hq : ∀ w, (Op.equalIn 10000 161 (.agg (fl (flk l N))) (.agg (fl (flk l (8 * l.length))))).run Tryd.prog w = .ok B w := fun w => by
        rw [eq_flags 9998, hB]
        congr 1
        have hf := flk_far (l := l) (N := N) (by have := hn.2; omega)
        rw [Bool.eq_iff_iff, hf]
        unfold okB
        rw [decide_eq_true_iff]
        exact ⟨fun h => ⟨hn, hlen, h⟩, fun h => h.2.2⟩
      rw [← hB]
      clear hn hlen hZ hsz hB
      go_enter Tryd.func103, Tryd.ntmps103
      go_wp2_with fail
      refine (isSignerCount_any _ _).mono ?_
      rw [hd]
      rintro e w' ⟨rfl, rfl⟩
      go_wp2_with fail
      refine (implBitsSize_any _ _ hn9).mono ?_
      rw [← HZ.out]
      rintro e w' ⟨rfl, rfl⟩
      go_wp2_with fail
      refine (flagsOf_any _ l N _ hs hl hN).mono ?_
      rintro e w1 ⟨rfl, hb1⟩
      go_wp2_with fail
      refine (flagsOf_z _ l (8 * l.length) _ _ (hs.up hb1) hl (by omega) (by omega)).mono ?_
      rintro e w2 ⟨rfl, hb2⟩
      go_wp2
      go_ret
      exact ⟨rfl, hb1.trans (hb2.mono hb1.size)⟩
    · have hle : ((l.length : Int) == sizeB n) = false := by simpa using hlen
      obtain ⟨Z, hZ⟩ : ∃ Z, Z = sizeB n := ⟨_, rfl⟩
      rw [← hZ] at hle
      have HZ := Lib.hid hZ
      rw [okB_no (fun h => hlen h.2.1)]
      clear hn hlen hZ hsz
      go_enter Tryd.func103, Tryd.ntmps103
      go_wp2_with fail
      refine (isSignerCount_any _ _).mono ?_
      rw [hd]
      rintro e w' ⟨rfl, rfl⟩
      go_wp2_with fail
      refine (implBitsSize_any _ _ hn9).mono ?_
      rw [← HZ.out]
      rintro e w' ⟨rfl, rfl⟩
      go_wp2
      go_ret
      exact ⟨rfl, Below.refl _ _⟩
  · have hd := decide_eq_false hn
    rw [okB_no (fun h => hn h.1)]
    clear hn
    go_enter Tryd.func103, Tryd.ntmps103
    go_wp2_with fail
    refine (isSignerCount_any _ _).mono ?_
    rw [hd]
    rintro e w' ⟨rfl, rfl⟩
    go_wp2
    go_ret
    exact ⟨rfl, Below.refl _ _⟩

theorem listN_last {l : List UInt8} {x : Nat} (h : x ∈ listN l) : x ≤ (listN l).getD ((listN l).length - 1) 0 := by
  have hp : (listN l).Pairwise (· < ·) := List.Pairwise.filter _ List.pairwise_lt_range
  obtain ⟨j, hj, rfl⟩ := List.getElem_of_mem h
  rw [List.getD_eq_getElem?_getD, List.getElem?_eq_getElem (show (listN l).length - 1 < (listN l).length by omega)]
  simp only [Option.getD_some]
  rcases Nat.lt_or_ge j ((listN l).length - 1) with hlt | hge
  · exact Nat.le_of_lt (List.pairwise_iff_getElem.1 hp j _ hj (by omega) hlt)
  · have e : j = (listN l).length - 1 := by omega
    subst e
    exact Nat.le_refl _
theorem okB_last {l : List UInt8} {n : Int} {q : Nat} (hn : cntOk n) (hl : (l.length : Int) = sizeB n) (hq : (listI l).length = q + 1) : okB l n = decide (it (listI l) q < n) := by
  have hq' : (listN l).length = q + 1 := by simpa [listI] using hq
  have e : it (listI l) q = ((listN l).getD q 0 : Nat) := by
    unfold listI it
    rw [List.getD_eq_getElem?_getD, List.getD_eq_getElem?_getD, List.getElem?_map, List.getElem?_eq_getElem (show q < (listN l).length by omega)]
    rfl
  rw [e]
  unfold okB
  apply decide_eq_decide.2
  have hm : (listN l).getD q 0 ∈ listN l := by
    rw [List.getD_eq_getElem?_getD, List.getElem?_eq_getElem (show q < (listN l).length by omega)]
    exact List.getElem_mem _
  refine ⟨fun h => okP_bit h _ ((listN_mem l _).1 hm), fun h => ⟨hn, hl, fun i _ hi => ?_⟩⟩
  cases hb : bitL l i
  · rfl
  · have h1 := listN_last ((listN_mem l i).2 hb)
    rw [hq'] at h1
    have h2 : q + 1 - 1 = q := rfl
    rw [h2] at h1
    omega
theorem okB_none {l : List UInt8} {n : Int} (hn : cntOk n) (hl : (l.length : Int) = sizeB n) (hq : (listI l).length = 0) : okB l n = true := by
  have hq' : (listN l).length = 0 := by simpa [listI] using hq
  have e := List.eq_nil_of_length_eq_zero hq'
  refine okB_yes ⟨hn, hl, fun i _ _ => ?_⟩
  cases hb : bitL l i
  · rfl
  · have h1 := (listN_mem l i).2 hb
    rw [e] at h1
    cases h1
set_option maxRecDepth 100000 in
set_option maxHeartbeats 1000000 in
theorem specBitsOk_any (v : Value) (l : List UInt8) (n : Int) (w : World) (h : Sl w w.heap.size v l) (hl : l.length ≤ 4294967296) :
    Calls Tryd.prog 87 #[v, .int .i64 n] w fun e w' => e = .returned (.bool (okB l n)) ∧ Below w.heap.size w w' := by
  have hs := h
  obtain ⟨A, c, rfl, h1, h2, h0, h3⟩ := h
  unfold maxLen at h2
  clear h0 h3
  by_cases hn : cntOk n
  · have hd := decide_eq_true hn
    have hn9 : n ≤ 9223372036854775807 := by have := hn.2; omega
    by_cases hlen : (l.length : Int) = sizeB n
    · have hle : ((l.length : Int) != sizeB n) = false := by simpa using hlen
      obtain ⟨Z, hZ⟩ : ∃ Z, Z = sizeB n := ⟨_, rfl⟩
      rw [← hZ] at hle
      have HZ := Lib.hid hZ
      have Hn := Lib.hid hn
      have Hlen := Lib.hid hlen
      obtain ⟨B, hB⟩ : ∃ B, B = okB l n := ⟨_, rfl⟩
      have HB := Lib.hid hB
      rw [← hB]
      clear hn hlen hZ hB
      go_enter Tryd.func87, Tryd.ntmps87
      go_wp2_with fail
      refine (l02Signers_any _ _).mono ?_
      rw [hd]
      rintro e w' ⟨rfl, rfl⟩
      go_wp2_with fail
      refine (specBitsSize_any _ _ hn9).mono ?_
      rw [← HZ.out]
      rintro e w' ⟨rfl, rfl⟩
      go_wp2_with fail
      refine (specBitsList_any _ l _ hs hl).mono ?_
      rintro e w1 ⟨v1, rfl, hown, hb1⟩
      obtain ⟨A1, c1, rfl, k1, k2, k0, k3⟩ := hown.sl
      unfold maxLen at k2
      clear k0
      rcases Nat.eq_zero_or_pos (listI l).length with hz | hp
      · rw [hz] at k1 ⊢
        have hBt : B = true := by rw [HB.out]; exact okB_none Hn.out Hlen.out hz
        clear k3 hz hown
        go_wp2
        go_ret
        exact ⟨by rw [hBt]; rfl, hb1⟩
      · obtain ⟨q, hq⟩ : ∃ q, (listI l).length = q + 1 := ⟨(listI l).length - 1, by omega⟩
        obtain ⟨b, off, rfl, hbb, hcell⟩ := k3 hp
        have hc := hcell q (by omega)
        have hBq : B = decide (it (listI l) q < n) := by rw [HB.out]; exact okB_last Hn.out Hlen.out hq
        have HBq := Lib.hid hBq
        rw [hq] at k1 ⊢
        clear hcell k3 hq hown hp hBq
        generalize it (listI l) q = x at *
        go_wp2
        go_ret
        exact ⟨by rw [HBq.out]; rfl, hb1⟩
    · have hle : ((l.length : Int) != sizeB n) = true := by simpa using hlen
      obtain ⟨Z, hZ⟩ : ∃ Z, Z = sizeB n := ⟨_, rfl⟩
      rw [← hZ] at hle
      have HZ := Lib.hid hZ
      rw [okB_no (fun h => hlen h.2.1)]
      clear hn hlen hZ
      go_enter Tryd.func87, Tryd.ntmps87
      go_wp2_with fail
      refine (l02Signers_any _ _).mono ?_
      rw [hd]
      rintro e w' ⟨rfl, rfl⟩
      go_wp2_with fail
      refine (specBitsSize_any _ _ hn9).mono ?_
      rw [← HZ.out]
      rintro e w' ⟨rfl, rfl⟩
      go_wp2
      go_ret
      exact ⟨rfl, Below.refl _ _⟩
  · have hd := decide_eq_false hn
    rw [okB_no (fun h => hn h.1)]
    clear hn
    go_enter Tryd.func87, Tryd.ntmps87
    go_wp2_with fail
    refine (l02Signers_any _ _).mono ?_
    rw [hd]
    rintro e w' ⟨rfl, rfl⟩
    go_wp2
    go_ret
    exact ⟨rfl, Below.refl _ _⟩
end Go.Proofs.YtopbalemfljphaaDoor
