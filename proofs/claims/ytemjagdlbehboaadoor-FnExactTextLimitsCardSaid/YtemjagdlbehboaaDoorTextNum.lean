/- TextNum: the contracts of the program's function (strconv.Atoi by the shelf's contract) and of its model, and the walk of its exact law. -/
import Derived.Test.YtemjagdlbehboaaDoorNumMath
import Derived.Test.YtemjagdlbehboaaDoorUnhex
import Derived.Test.YtemjagdlbehboaaDoorShelf2
namespace Go.Proofs.YtemjagdlbehboaaDoor
open Go.ChangeShapes Go.WideShapes Go.ChangeAt Go.RowKit

/-- The two errors of strconv are as the library's text lays them: two values that are not nil. -/
def ErrVars (w : World) : Prop := (∃ a p, w.var? Tryd.prog "strconv.ErrSyntax" = some #[.iface a p]) ∧ ∃ a p, w.var? Tryd.prog "strconv.ErrRange" = some #[.iface a p]
/-- A number and a bool; nothing that was there has turned. -/
def NB (w : World) (n : Int) (b : Bool) (e : Ending) (w' : World) : Prop := e = .returned (.tuple #[.int .i64 n, .bool b]) ∧ Below w.heap.size w w'
theorem bas_eq (t : ByteArray) : t = ba t.data.toList := ba_eq rfl
theorem strNe_eq {l m : List UInt8} (h : l = m) : ((ba l).toList == (ba m).toList) = true := by subst h; simp
theorem strNe_ne {l m : List UInt8} (h : l ≠ m) : ((ba l).toList == (ba m).toList) = false := by
  rw [ba_bytes, ba_bytes]
  simpa using h

set_option maxRecDepth 100000 in
set_option maxHeartbeats 2000000 in
theorem specTextNum_any (t : ByteArray) (w : World) (ht : t.size ≤ 4294967296) :
    Calls Tryd.prog 17 #[.string t] w (NB w (tnN t.data.toList) (tnB t.data.toList)) := by
  obtain ⟨l, hl⟩ : ∃ l, l = t.data.toList := ⟨_, rfl⟩
  have hll : l.length = t.size := by rw [hl, Array.length_toList]; rfl
  have hno : ∀ h : ¬ isCan l, tnN l = 0 ∧ tnB l = false := fun h => tn_no h
  have htl : t = ba l := by rw [hl]; exact bas_eq t
  rw [← hl]
  by_cases h0 : t.size = 0
  · obtain ⟨e1, e2⟩ := tn_no (l := l) (fun h => by have := (can_len h).1; omega)
    rw [e1, e2]
    have hz : ((t.size : Int) == 0) = true := beq_iff_eq.2 (by omega)
    clear e1 e2 hl hll hno htl h0
    go_enter Tryd.func17, Tryd.ntmps17
    go_wp2
    go_ret2
    exact ⟨rfl, Below.refl _ _⟩
  · have hz : ((t.size : Int) == 0) = false := beq_eq_false_iff_ne.2 (by omega)
    have hpos : 0 < t.size := by omega
    by_cases h19 : 19 < t.size
    · obtain ⟨e1, e2⟩ := tn_no (l := l) (fun h => by have := (can_len h).2; omega)
      rw [e1, e2]
      have hz2 : (19 : Int) < (t.size : Int) := by omega
      clear e1 e2 hl hll hno htl h0
      go_enter Tryd.func17, Tryd.ntmps17
      go_wp2
      go_ret2
      exact ⟨rfl, Below.refl _ _⟩
    · have hz2 : ¬ ((19 : Int) < (t.size : Int)) := by omega
      have Hl := Lib.hid hl
      have Hll := Lib.hid hll
      have Htl := Lib.hid htl
      have Hno := Lib.hid hno
      clear hl hll hno htl h0
      go_enter Tryd.func17, Tryd.ntmps17
      go_wp2
      go_loop [4, 5, 6] (fun n i _ => ∃ (nn : Int) (k : Nat), n = .int .i64 nn ∧ i = .int .i64 k ∧ k ≤ t.size ∧ 0 ≤ nn ∧ nn ≤ 1152921504606846975 ∧ nn = (valL (l.take k) : Int)) (fun _ i _ => t.size - (intOf i).toNat)
      case atStart => exact ⟨0, 0, rfl, rfl, Nat.zero_le _, by omega, by omega, by simp [valL]⟩
      case round =>
        obtain ⟨nn, k, rfl, rfl, hk, hn0, hn1, hnn⟩ := hrel
        have Hnn := Lib.hid hnn
        clear hnn
        by_cases hlt : k < t.size
        · have hx := fun W => run_idx t k (k : Int) hlt rfl W
          rw [← Hl.out] at hx
          have b0 := bt_lo l k
          have b1 := bt_hi l k
          obtain ⟨q, hq⟩ : ∃ q, q = bt l k := ⟨_, rfl⟩
          rw [← hq] at hx b0 b1
          have hkl : k < l.length := by rw [Hll.out]; exact hlt
          have hqc : q = ((l[k]).toNat : Int) := by rw [hq]; simp [bt, List.getD_eq_getElem?_getD, List.getElem?_eq_getElem hkl]
          have hsn : valL (l.take (k + 1)) = valL (l.take k) * 10 + ((l[k]).toNat - 48) := by rw [List.take_succ_eq_append_getElem hkl, valL_snoc]
          have hdig : isCan l → 48 ≤ q ∧ q ≤ 57 := fun h => by
            have := can_dig h (l[k]) (List.getElem_mem hkl)
            unfold isDig at this
            omega
          have hval : isCan l → (valL (l.take (k + 1)) : Int) ≤ 1152921504606846975 := fun h => by
            have h1 := valL_take l (k + 1)
            have h2 := h.1
            omega
          have Hq := Lib.hid hq
          have Hqc := Lib.hid hqc
          have Hsn := Lib.hid hsn
          have Hdig := Lib.hid hdig
          have Hval := Lib.hid hval
          clear hq hqc hsn hdig hval
          by_cases hc1 : q < 48
          · obtain ⟨e1, e2⟩ := Hno.out (fun h => by have := Hdig.out h; omega)
            have E1 := Lib.hid e1
            have E2 := Lib.hid e2
            clear e1 e2
            go_wp2
            go_ret2
            rw [E1.out, E2.out]
            exact ⟨rfl, Below.refl _ _⟩
          · by_cases hc2 : 57 < q
            · obtain ⟨e1, e2⟩ := Hno.out (fun h => by have := Hdig.out h; omega)
              have E1 := Lib.hid e1
              have E2 := Lib.hid e2
              clear e1 e2
              go_wp2
              go_ret2
              rw [E1.out, E2.out]
              exact ⟨rfl, Below.refl _ _⟩
            · have hstep : (valL (l.take (k + 1)) : Int) = nn * 10 + (q - 48) := by
                have h1 := Hsn.out
                have h2 := Hqc.out
                have h3 := Hnn.out
                omega
              have Hstep := Lib.hid hstep
              clear hstep
              by_cases hc3 : (1152921504606846975 - (q - 48)) / 10 < nn
              · obtain ⟨e1, e2⟩ := Hno.out (fun h => by have := Hval.out h; have := Hstep.out; omega)
                have E1 := Lib.hid e1
                have E2 := Lib.hid e2
                clear e1 e2
                go_wp2
                go_ret2
                rw [E1.out, E2.out]
                exact ⟨rfl, Below.refl _ _⟩
              · go_wp2
                go_round
                case rel => exact ⟨nn * 10 + (q - 48), k + 1, by go_num, by go_num, by omega, by omega, by omega, Hstep.out.symm⟩
                case measure => first | (simp [intOf]; done) | (simp [intOf]; omega)
        · obtain rfl : k = t.size := by omega
          have hv : nn = (valL l : Int) := by rw [Hnn.out, List.take_of_length_le (by rw [Hll.out]; exact Nat.le_refl _)]
          have hne : l ≠ [] := fun h => by have := Hll.out; rw [h, List.length_nil] at this; omega
          have Hv := Lib.hid hv
          have Hne := Lib.hid hne
          clear hv hne
          by_cases hcan : numL nn = l
          · obtain ⟨hc, _⟩ := can_of_numL Hne.out hcan
            obtain ⟨e1, e2⟩ := tn_yes hc
            have hss := strNe_eq hcan
            rw [← Htl.out] at hss
            rw [← Hv.out] at e1
            have E1 := Lib.hid e1
            have E2 := Lib.hid e2
            clear hcan hc e1 e2
            go_wp2_with fail
            refine (specNumText_any nn _).mono ?_
            rintro e w1 ⟨rfl, hb1⟩
            go_wp2
            go_ret2
            rw [E1.out, E2.out]
            exact ⟨rfl, hb1⟩
          · obtain ⟨e1, e2⟩ := Hno.out (fun h => hcan (by rw [Hv.out]; exact numL_can h))
            have hss := strNe_ne hcan
            rw [← Htl.out] at hss
            have E1 := Lib.hid e1
            have E2 := Lib.hid e2
            clear hcan e1 e2
            go_wp2_with fail
            refine (specNumText_any nn _).mono ?_
            rintro e w1 ⟨rfl, hb1⟩
            go_wp2
            go_ret2
            rw [E1.out, E2.out]
            exact ⟨rfl, hb1⟩

theorem errSynNamed : Tryd.prog.globalNamed "strconv.ErrSyntax" = some 1 := by kernel_rfl
theorem errRngNamed : Tryd.prog.globalNamed "strconv.ErrRange" = some 2 := by kernel_rfl
theorem var_lt {w : World} {n : String} {g : Nat} {cs : Array Value} (hn : Tryd.prog.globalNamed n = some g) (h : w.var? Tryd.prog n = some cs) : g < w.heap.size := by
  unfold World.var? at h
  simp only [hn, Option.bind_some] at h
  rcases Nat.lt_or_ge g w.heap.size with h' | h'
  · exact h'
  · simp [Array.getElem?_eq_none h'] at h
theorem ErrVars.up {w w' : World} (h : ErrVars w) (hb : Below w.heap.size w w') : ErrVars w' := by
  obtain ⟨⟨a, p, h1⟩, b, q, h2⟩ := h
  exact ⟨⟨a, p, var?_below hb errSynNamed (var_lt errSynNamed h1) h1⟩, b, q, var?_below hb errRngNamed (var_lt errRngNamed h2) h2⟩

/-- strconv.Atoi of a numeral. -/
theorem atoi_ok (t : ByteArray) (ht : t.size ≤ 4294967296) (v : Int) (h : Lib.atoiAll t.data.toList = .ok v) (w : World) :
    Calls Tryd.prog 32 #[.string t] w fun e w' => e = .returned (.tuple #[.int .i64 v, .nilIface]) ∧ Below w.heap.size w w' := by
  have hc : Calls Tryd.prog 32 #[.string t] w fun e w' => e = .returned (.tuple #[.int .i64 v, .nilIface]) ∧ (w' = w ∨ ∃ t, w' = Lib.bytesWorld w 5 t) := Any.strconv_Atoi_ok Tryd.laysC172 t (by omega) v h w
  refine hc.mono fun e w' ⟨h1, h2⟩ => ⟨h1, ?_⟩
  rcases h2 with rfl | ⟨x, rfl⟩
  · exact Below.refl _ _
  · exact Joins.below_bytesWorld _ _ _ _ (Nat.le_refl _)
/-- What the call returns where the text is no int's numeral: an error that is not nil. -/
def BadAtoi (w : World) (e : Ending) (w' : World) : Prop := ∃ (n : Int) (a : TypeId) (p : Value), e = .returned (.tuple #[.int .i64 n, .iface a p]) ∧ Below w.heap.size w w'
theorem atoi_bad (t : ByteArray) (ht : t.size ≤ 4294967296) (h : ∀ v, Lib.atoiAll t.data.toList ≠ .ok v) (w : World) (hv : ErrVars w) :
    Calls Tryd.prog 32 #[.string t] w (BadAtoi w) := by
  obtain ⟨⟨a, p, h1⟩, b, q, h2⟩ := hv
  rcases hr : Lib.atoiAll t.data.toList with v | _ | _
  · exact absurd hr (h v)
  · exact (Any.strconv_Atoi_syntax_var Tryd.laysC172 t (by omega) hr a p w h1).mono fun e w' ⟨N, k1, _, _, k2⟩ => ⟨_, _, _, k1, k2⟩
  · exact (Any.strconv_Atoi_range_var Tryd.laysC172 t (by omega) hr b q w h2).mono fun e w' ⟨N, k1, _, _, k2⟩ => ⟨_, _, _, k1, k2⟩

set_option maxRecDepth 100000 in
set_option maxHeartbeats 2000000 in
theorem implTextNum_any (t : ByteArray) (w : World) (ht : t.size ≤ 4294967296) (hv : ErrVars w) (hT : Tab10 w) :
    Calls Tryd.prog 19 #[.string t] w (NB w (tnN t.data.toList) (tnB t.data.toList)) := by
  obtain ⟨l, hl⟩ : ∃ l, l = t.data.toList := ⟨_, rfl⟩
  have htl : t = ba l := by rw [hl]; exact bas_eq t
  rw [← hl]
  by_cases hok : ∃ v, Lib.atoiAll l = .ok v
  · obtain ⟨v, hok⟩ := hok
    have hne : l ≠ [] := fun h => by rw [h] at hok; cases hok
    have hat := atoi_ok t ht v (by rw [← hl]; exact hok) w
    have Hat := Lib.hid hat
    by_cases hcan : numL v = l
    · obtain ⟨hc, hcv⟩ := can_of_numL hne hcan
      obtain ⟨e1, e2⟩ := tn_yes hc
      rw [hcv] at e1
      have hss := strNe_eq hcan
      rw [← htl] at hss
      rw [e1, e2]
      clear e1 e2 hc hcv hcan hat hne hok hl htl
      go_enter Tryd.func19, Tryd.ntmps19
      go_wp2_with fail
      refine Hat.out.mono ?_
      rintro e w1 ⟨rfl, hb1⟩
      go_wp2_with fail
      refine (implNumText_any v _ (hT.up hb1)).mono ?_
      rintro e w2 ⟨rfl, hb2⟩
      go_wp2
      go_ret2
      exact ⟨rfl, hb1.trans (hb2.mono hb1.size)⟩
    · have hno : ¬ isCan l := fun h => by
        have h1 := atoi_dec (valL l) h.1
        rw [h.2, hok] at h1
        injection h1 with h1
        exact hcan (by rw [h1]; exact numL_can h)
      obtain ⟨e1, e2⟩ := tn_no hno
      have hss := strNe_ne hcan
      rw [← htl] at hss
      rw [e1, e2]
      clear e1 e2 hno hcan hat hne hok hl htl
      go_enter Tryd.func19, Tryd.ntmps19
      go_wp2_with fail
      refine Hat.out.mono ?_
      rintro e w1 ⟨rfl, hb1⟩
      go_wp2_with fail
      refine (implNumText_any v _ (hT.up hb1)).mono ?_
      rintro e w2 ⟨rfl, hb2⟩
      go_wp2
      go_ret2
      exact ⟨rfl, hb1.trans (hb2.mono hb1.size)⟩
  · have hno : ¬ isCan l := fun h => hok ⟨_, by have h1 := atoi_dec (valL l) h.1; rw [h.2] at h1; exact h1⟩
    obtain ⟨e1, e2⟩ := tn_no hno
    have hat := atoi_bad t ht (fun v h => hok ⟨v, by rw [hl]; exact h⟩) w hv
    have Hat := Lib.hid hat
    rw [e1, e2]
    clear e1 e2 hno hat hok hl htl
    go_enter Tryd.func19, Tryd.ntmps19
    go_wp2_with fail
    refine Hat.out.mono ?_
    rintro e w1 ⟨n, a, p, rfl, hb1⟩
    go_wp2
    go_ret2
    exact ⟨rfl, hb1⟩

end Go.Proofs.YtemjagdlbehboaaDoor
