/- Limits from their text: the contracts of TextLimits as the program has it (an array of five numbers) and as its model has it (a slice of them). -/
import Derived.Test.YtemjagdlbehboaaDoorLimText
import Derived.Test.YtemjagdlbehboaaDoorLines
import Derived.Test.YtemjagdlbehboaaDoorTextNum
namespace Go.Proofs.YtemjagdlbehboaaDoor
open Go.ChangeShapes Go.WideShapes Go.ChangeAt Go.RowKit

/-- Number j of the words L. -/
def tlZ (L : List ByteArray) (j : Nat) : Int := tnN (tt L (1 + j)).data.toList
/-- Whether s is the text of limits. -/
def tlOk (s : ByteArray) : Prop := (cutL s 32).length = 6 ∧ limB (tlZ (cutL s 32) 0) (tlZ (cutL s 32) 1) (tlZ (cutL s 32) 2) (tlZ (cutL s 32) 3) (tlZ (cutL s 32) 4) = true ∧ limTxt (tlZ (cutL s 32) 0) (tlZ (cutL s 32) 1) (tlZ (cutL s 32) 2) (tlZ (cutL s 32) 3) (tlZ (cutL s 32) 4) = s
instance (s : ByteArray) : Decidable (tlOk s) := by unfold tlOk; infer_instance
/-- Number j that TextLimits answers. -/
def tlI (s : ByteArray) (j : Nat) : Int := if tlOk s then tlZ (cutL s 32) j else 0
/-- What TextLimits answers; nothing that was there has turned. -/
def TLim (w : World) (s : ByteArray) (e : Ending) (w' : World) : Prop :=
  e = .returned (.tuple #[.agg #[.int .i64 (tlI s 0), .int .i64 (tlI s 1), .int .i64 (tlI s 2), .int .i64 (tlI s 3), .int .i64 (tlI s 4)], .bool (decide (tlOk s))]) ∧ Below w.heap.size w w'
theorem below5 {w w1 : World} (hb : Below w.heap.size w w1) {g : Nat} (hg : w.heap.size ≤ g) (a b c d e : Value) : Below w.heap.size w (((((w1.setCell ⟨g, 0, none⟩ a).setCell ⟨g, 1, none⟩ b).setCell ⟨g, 2, none⟩ c).setCell ⟨g, 3, none⟩ d).setCell ⟨g, 4, none⟩ e) :=
  ((((hb.setCell (p := ⟨g, 0, none⟩) hg a).setCell (p := ⟨g, 1, none⟩) hg b).setCell (p := ⟨g, 2, none⟩) hg c).setCell (p := ⟨g, 3, none⟩) hg d).setCell (p := ⟨g, 4, none⟩) hg e
theorem tl_no {s : ByteArray} (h : ¬ tlOk s) (w : World) {e : Ending} {w' : World} (he : e = .returned (.tuple #[.agg #[.int .i64 0, .int .i64 0, .int .i64 0, .int .i64 0, .int .i64 0], .bool false])) (hb : Below w.heap.size w w') : TLim w s e w' := by
  refine ⟨?_, hb⟩
  have e1 : ∀ j, tlI s j = 0 := fun j => if_neg h
  rw [he, e1, e1, e1, e1, e1, decide_eq_false h]
theorem tl_yes {s : ByteArray} (h : tlOk s) (w : World) {e : Ending} {w' : World} (he : e = .returned (.tuple #[.agg #[.int .i64 (tlZ (cutL s 32) 0), .int .i64 (tlZ (cutL s 32) 1), .int .i64 (tlZ (cutL s 32) 2), .int .i64 (tlZ (cutL s 32) 3), .int .i64 (tlZ (cutL s 32) 4)], .bool true])) (hb : Below w.heap.size w w') : TLim w s e w' := by
  refine ⟨?_, hb⟩
  have e1 : ∀ j, tlI s j = tlZ (cutL s 32) j := fun j => if_pos h
  rw [he, e1, e1, e1, e1, e1, decide_eq_true h]

/-- No piece is longer than the string. -/
theorem cutS_size (s : ByteArray) (c : Int) : ∀ k, k ≤ s.size → ∀ x ∈ (cutS s c k).1, x.size ≤ s.size
  | 0, _ => by intro x hx; simp [cutS] at hx
  | k + 1, hk => by
    intro x hx
    by_cases h : bt s.data.toList k = c
    · rw [cutS_yes h] at hx
      simp only [List.mem_append, List.mem_singleton] at hx
      rcases hx with hx | rfl
      · exact cutS_size s c k (by omega) x hx
      · rw [ByteArray.size_extract]; omega
    · rw [cutS_no h] at hx
      exact cutS_size s c k (by omega) x hx
theorem cutL_size (s : ByteArray) (c : Int) (j : Nat) : (tt (cutL s c) j).size ≤ s.size := by
  unfold tt
  rcases Nat.lt_or_ge j (cutL s c).length with h | h
  · rw [List.getD_eq_getElem?_getD, List.getElem?_eq_getElem h]
    have hm : (cutL s c)[j] ∈ cutL s c := List.getElem_mem h
    unfold cutL at hm
    simp only [List.mem_append, List.mem_singleton] at hm
    rcases hm with hm | hm
    · exact cutS_size s c s.size (Nat.le_refl _) _ hm
    · show ((cutL s c)[j]).size ≤ s.size
      unfold cutL
      rw [hm, ByteArray.size_extract]; omega
  · rw [List.getD_eq_getElem?_getD, List.getElem?_eq_none h]
    show (0 : Nat) ≤ s.size
    omega

/-- A row of six strings. -/
theorem OwnT.six {E : TypeId} {w : World} {B : Nat} {v : Value} {l : List ByteArray} (h : OwnT E w B v l) (h6 : l.length = 6) :
    ∃ g cap, 6 ≤ cap ∧ cap ≤ 9223372036854775807 ∧ v = .slice (some ⟨g, 0, none⟩) 6 cap ∧ B ≤ g ∧ g < w.heap.size ∧ ∀ j, j < 6 → w.cell? ⟨g, j, none⟩ = some (.string (tt l j)) := by
  rcases h.2 with ⟨rfl, h0⟩ | ⟨g, cap, cur, rfl, hb, hg, hn, hm, hs, ht⟩
  · omega
  · refine ⟨g, cap, by omega, by unfold maxLen at hm; omega, by rw [h6], hb, (Array.getElem?_eq_some_iff.1 hg).1, fun j hj => ?_⟩
    exact (World.ownsRow.cellAt (base := B) (e := E) (size := 1) (n := l.length) (xs := ts l) h j (by omega)).trans (ts_get l j (by omega))
/-- A row of five ints. -/
theorem OwnI.five {E : TypeId} {w : World} {B : Nat} {v : Value} {l : List Int} (h : OwnI E w B v l) (h5 : l.length = 5) :
    ∃ g cap, 5 ≤ cap ∧ cap ≤ 9223372036854775807 ∧ v = .slice (some ⟨g, 0, none⟩) 5 cap ∧ B ≤ g ∧ g < w.heap.size ∧ ∀ j, j < 5 → w.cell? ⟨g, j, none⟩ = some (.int .i64 (it l j)) := by
  rcases h.2 with ⟨rfl, h0⟩ | ⟨g, cap, cur, rfl, hb, hg, hn, hm, hs, ht⟩
  · omega
  · refine ⟨g, cap, by omega, by unfold maxLen at hm; omega, by rw [h5], hb, (Array.getElem?_eq_some_iff.1 hg).1, fun j hj => ?_⟩
    exact (World.ownsRow.cellAt (base := B) (e := E) (size := 1) (n := l.length) (xs := is l) h j (by omega)).trans (is_get l j (by omega))

/-- Block g holds five ints. -/
def Box5 (w : World) (g : Nat) (T : TypeId) (a b c d e : Int) : Prop := w.heap[g]? = some (.cells #[.int .i64 a, .int .i64 b, .int .i64 c, .int .i64 d, .int .i64 e] T (0, 0))
theorem Box5.new (w : World) (T : TypeId) (a b c d e : Int) : Box5 (w.alloc (.cells #[.int .i64 a, .int .i64 b, .int .i64 c, .int .i64 d, .int .i64 e] T)) w.heap.size T a b c d e := heap_alloc_new w _
theorem Box5.lt {w : World} {g : Nat} {T : TypeId} {a b c d e : Int} (h : Box5 w g T a b c d e) : g < w.heap.size := (Array.getElem?_eq_some_iff.1 h).1
theorem Box5.up {w w' : World} {g : Nat} {T : TypeId} {a b c d e : Int} (h : Box5 w g T a b c d e) (hb : Below w.heap.size w w') : Box5 w' g T a b c d e := (hb.block g h.lt).trans h
theorem Box5.facts {w : World} {g : Nat} {T : TypeId} {a b c d e : Int} (h : Box5 w g T a b c d e) :
    (w.cell? ⟨g, 0, none⟩ = some (.int .i64 a) ∧ w.cell? ⟨g, 1, none⟩ = some (.int .i64 b) ∧ w.cell? ⟨g, 2, none⟩ = some (.int .i64 c) ∧ w.cell? ⟨g, 3, none⟩ = some (.int .i64 d) ∧ w.cell? ⟨g, 4, none⟩ = some (.int .i64 e)) ∧
    (w.frozen? ⟨g, 0, none⟩ = false ∧ w.frozen? ⟨g, 1, none⟩ = false ∧ w.frozen? ⟨g, 2, none⟩ = false ∧ w.frozen? ⟨g, 3, none⟩ = false ∧ w.frozen? ⟨g, 4, none⟩ = false) := by
  unfold Box5 at h
  refine ⟨⟨?_, ?_, ?_, ?_, ?_⟩, ?_, ?_, ?_, ?_, ?_⟩ <;> simp [World.cell?, World.frozen?, h]

set_option maxRecDepth 100000 in
set_option maxHeartbeats 4000000 in
theorem specTextLimits_any (s : ByteArray) (w : World) (hs : s.size ≤ 1048576) :
    Calls Tryd.prog 8 #[.string s] w (TLim w s) := by
  have hb0 : Below w.heap.size w (w.alloc (.cells #[.int .i64 0, .int .i64 0, .int .i64 0, .int .i64 0, .int .i64 0] 25)) := (Below.refl _ _).alloc (Nat.le_refl _) _
  have hB0 := Box5.new w 25 0 0 0 0 0
  obtain ⟨i0, hi, hz0, hz1, hz2⟩ := info_parts i64info
  go_enter Tryd.func8, Tryd.ntmps8
  go_wp2_with fail
  refine (specCut_any s _ (by omega)).mono ?_
  rintro ev w1 ⟨u, rfl, hown, hb1⟩
  replace hB0 := hB0.up hb1
  replace hb0 := hb0.trans (hb1.mono hb0.size)
  clear hb1
  by_cases h6 : (cutL s 32).length = 6
  · obtain ⟨g, cap, hcap, hcap2, rfl, hg0, hgl, hrow⟩ := hown.six h6
    have hsz := fun j => cutL_size s 32 j
    have hyes := fun e w' => tl_yes (s := s) (w := w) (e := e) (w' := w')
    have hnot : ∀ e w', ¬ tlOk s → _ → _ → TLim w s e w' := fun e w' h => tl_no (s := s) h w (e := e) (w' := w')
    have hiff : tlOk s ↔ limB (tlZ (cutL s 32) 0) (tlZ (cutL s 32) 1) (tlZ (cutL s 32) 2) (tlZ (cutL s 32) 3) (tlZ (cutL s 32) 4) = true ∧ limTxt (tlZ (cutL s 32) 0) (tlZ (cutL s 32) 1) (tlZ (cutL s 32) 2) (tlZ (cutL s 32) 3) (tlZ (cutL s 32) 4) = s := ⟨fun h => h.2, fun h => ⟨h6, h⟩⟩
    obtain ⟨L, hL⟩ : ∃ L, L = cutL s 32 := ⟨_, rfl⟩
    rw [← hL] at hrow hyes hiff
    simp only [← hL] at hsz
    obtain ⟨z0, e0⟩ : ∃ z, z = tlZ L 0 := ⟨_, rfl⟩
    obtain ⟨z1, e1⟩ : ∃ z, z = tlZ L 1 := ⟨_, rfl⟩
    obtain ⟨z2, e2⟩ : ∃ z, z = tlZ L 2 := ⟨_, rfl⟩
    obtain ⟨z3, e3⟩ : ∃ z, z = tlZ L 3 := ⟨_, rfl⟩
    obtain ⟨z4, e4⟩ : ∃ z, z = tlZ L 4 := ⟨_, rfl⟩
    rw [← e0, ← e1, ← e2, ← e3, ← e4] at hyes hiff
    obtain ⟨ns, hns⟩ : ∃ ns, ns = [z0, z1, z2, z3, z4] := ⟨_, rfl⟩
    have hnl : ns.length = 5 := by rw [hns]; rfl
    have hit : ∀ j, j < 5 → it ns j = tnN (tt L (1 + j)).data.toList := by
      intro j hj
      rw [hns]
      rcases (show j = 0 ∨ j = 1 ∨ j = 2 ∨ j = 3 ∨ j = 4 by omega) with rfl | rfl | rfl | rfl | rfl
      · exact e0
      · exact e1
      · exact e2
      · exact e3
      · exact e4
    have hzs : it ns 0 = z0 ∧ it ns 1 = z1 ∧ it ns 2 = z2 ∧ it ns 3 = z3 ∧ it ns 4 = z4 := by rw [hns]; exact ⟨rfl, rfl, rfl, rfl, rfl⟩
    have Hyes := Lib.hid hyes
    have Hnot := Lib.hid hnot
    have Hiff := Lib.hid hiff
    have Hnl := Lib.hid hnl
    have Hit := Lib.hid hit
    have Hzs := Lib.hid hzs
    have Hrow := Lib.hid hrow
    have Hsz := Lib.hid hsz
    have HB0 := Lib.hid hB0
    clear hyes hnot hiff hnl hit hzs hns e0 e1 e2 e3 e4 hrow hsz hL h6 hown hB0
    have hown0 : OwnI 3 (w1.alloc (.cells #[] 3)) w1.heap.size (.slice (some ⟨w1.heap.size, 0, none⟩) 0 0) [] :=
      World.ownsRow_lit w1 #[] 0 (Nat.le_refl _) (by simp [maxLen]) rfl
    have hbi : Below w1.heap.size w1 (w1.alloc (.cells #[] 3)) := (Below.refl _ _).alloc (Nat.le_refl _) _
    go_wp2
    go_loopw [5, 7, 8, 9, 21, 25] (fun o x k q i y wr => ∃ (j : Nat), j ≤ 5 ∧ i = .int .i64 j ∧ OwnI 3 wr w1.heap.size o (ns.take j) ∧ Below w1.heap.size w1 wr)
      (fun _ _ _ _ i _ _ => 5 - (intOf i).toNat)
    case atStart => exact ⟨0, Nat.zero_le _, rfl, hown0, hbi⟩
    case round =>
      obtain ⟨j, hj, rfl, ho, hbel⟩ := hrel
      by_cases hlt : j < 5
      · have hc0 := (hbel.cell (p := ⟨g, 1 + j, none⟩) hgl).trans (Hrow.out (1 + j) (by omega))
        have htn := fun W => specTextNum_any (tt L (1 + j)) W (by have := Hsz.out (1 + j); omega)
        rw [← Hit.out j hlt] at htn
        obtain ⟨q, hq⟩ : ∃ q, q = tt L (1 + j) := ⟨_, rfl⟩
        rw [← hq] at hc0 htn
        obtain ⟨z, hz⟩ : ∃ z, z = it ns j := ⟨_, rfl⟩
        rw [← hz] at htn
        have htk : ns.take (j + 1) = ns.take j ++ [z] := by
          rw [List.take_succ_eq_append_getElem (by rw [Hnl.out]; exact hlt), hz]
          simp [it, List.getD_eq_getElem?_getD, List.getElem?_eq_getElem (show j < ns.length by rw [Hnl.out]; exact hlt)]
        have hlen : (ns.take j).length ≤ 5 := by rw [List.length_take]; omega
        have Htn := Lib.hid htn
        have Htk := Lib.hid htk
        clear hq hz htn htk
        go_wp2_with fail
        refine (Htn.out _).mono ?_
        rintro ev w4 ⟨rfl, hb4⟩
        have ho4 := ho.up hb4
        have hbel4 := hbel.trans (hb4.mono hbel.size)
        go_wp2_with (at_builtin; refine wpList_appI1 (W := w1) rfl _ _ 33 rfl 3 i0 Tryd.underlying33 hi hz0 hz1 hz2 _ (ns.take j) (by rfl) _ rfl ho4 hbel4 (by omega) ?_; intro v2 w2 hown2 hb2)
        go_roundw
        case rel => exact ⟨j + 1, by omega, by go_num, by rw [Htk.out]; exact hown2, hb2⟩
        case measure => simp [intOf]; omega
      · obtain rfl : j = 5 := by omega
        rw [List.take_of_length_le (by rw [Hnl.out]; exact Nat.le_refl _)] at ho
        obtain ⟨g2, cap2, k1, k2, rfl, hg2, hgl2, hrow2⟩ := ho.five Hnl.out
        have a0 := hrow2 0 (by omega); have a1 := hrow2 1 (by omega); have a2 := hrow2 2 (by omega); have a3 := hrow2 3 (by omega); have a4 := hrow2 4 (by omega)
        rw [Hzs.out.1] at a0; rw [Hzs.out.2.1] at a1; rw [Hzs.out.2.2.1] at a2; rw [Hzs.out.2.2.2.1] at a3; rw [Hzs.out.2.2.2.2] at a4
        clear hrow2 ho
        go_wp2
        go_region_held3 (fun w' => w'.cell? ⟨g2, 0, none⟩ = some (.int .i64 z0) ∧ w'.cell? ⟨g2, 1, none⟩ = some (.int .i64 z1) ∧ w'.cell? ⟨g2, 2, none⟩ = some (.int .i64 z2) ∧ w'.cell? ⟨g2, 3, none⟩ = some (.int .i64 z3) ∧ w'.cell? ⟨g2, 4, none⟩ = some (.int .i64 z4))
          (go_keep)
          (fail)
        have hX : Box5 (wr.alloc (.cells #[.int .i64 z0, .int .i64 z1, .int .i64 z2, .int .i64 z3, .int .i64 z4] 25)).drew wr.heap.size 25 z0 z1 z2 z3 z4 := Box5.new wr _ z0 z1 z2 z3 z4
        have hbr : Below w1.heap.size w1 (wr.alloc (.cells #[.int .i64 z0, .int .i64 z1, .int .i64 z2, .int .i64 z3, .int .i64 z4] 25)).drew := below_drewN (hbel.alloc hbel.size _) 1
        generalize (wr.alloc (.cells #[.int .i64 z0, .int .i64 z1, .int .i64 z2, .int .i64 z3, .int .i64 z4] 25)).drew = w5 at *
        obtain ⟨g5, hg5⟩ : ∃ g5, g5 = wr.heap.size := ⟨_, rfl⟩
        rw [← hg5] at hX ⊢
        have hb5 := hb0.trans (hbr.mono hb0.size)
        have hZ := HB0.out.up hbr
        clear a0 a1 a2 a3 a4 hg5 hbr hg2 hgl2 k1 k2 hlt hj hbel hown0 hbi hcap hcap2 hg0 hgl
        obtain ⟨⟨b0, b1, b2, b3, b4⟩, _⟩ := hX.facts
        cases hx : limB z0 z1 z2 z3 z4 with
        | false =>
          have hc := fun W => specLimitsOk_any z0 z1 z2 z3 z4 W
          simp only [hx] at hc
          have HC := Lib.hid hc
          have hnk : ¬ tlOk s := fun h => by have := (Hiff.out.1 h).1; rw [hx] at this; cases this
          have Hnk := Lib.hid hnk
          clear hc hx hnk
          go_wp2_with fail
          refine (HC.out _).mono ?_
          rintro ev w6 ⟨rfl, hb6⟩
          obtain ⟨⟨c0, c1, c2, c3, c4⟩, f0, f1, f2, f3, f4⟩ := (hZ.up hb6).facts
          replace hb5 := hb5.trans (hb6.mono hb5.size)
          clear hb6 hZ hX b0 b1 b2 b3 b4
          go_wp2
          refine bodyPost_ret (v := .tuple #[.agg #[.int .i64 0, .int .i64 0, .int .i64 0, .int .i64 0, .int .i64 0], .bool false]) (by simp [results, Tryd.results8, go_sem, c0, c1, c2, c3, c4]) rfl (Hnot.out _ _ Hnk.out rfl (below5 hb5 (Nat.le_refl _) _ _ _ _ _))
        | true =>
          have hc := fun W => specLimitsOk_any z0 z1 z2 z3 z4 W
          simp only [hx] at hc
          have HC := Lib.hid hc
          have hq := fun W => specLimitsText_any z0 z1 z2 z3 z4 W
          have hiff2 : tlOk s ↔ limTxt z0 z1 z2 z3 z4 = s := ⟨fun h => (Hiff.out.1 h).2, fun h => Hiff.out.2 ⟨hx, h⟩⟩
          obtain ⟨t, ht⟩ : ∃ t, t = limTxt z0 z1 z2 z3 z4 := ⟨_, rfl⟩
          rw [← ht] at hiff2
          simp only [← ht] at hq
          have HQ := Lib.hid hq
          have Hiff2 := Lib.hid hiff2
          clear hc hx hq ht hiff2
          by_cases hts : t = s
          · subst hts
            have hok : tlOk t := Hiff2.out.2 rfl
            have Hok := Lib.hid hok
            have hne : (t.toList != t.toList) = false := by simp
            clear hok
            go_wp2_with fail
            refine (HC.out _).mono ?_
            rintro ev w6 ⟨rfl, hb6⟩
            replace hX := hX.up hb6
            replace hZ := hZ.up hb6
            replace hb5 := hb5.trans (hb6.mono hb5.size)
            clear hb6 b0 b1 b2 b3 b4
            obtain ⟨⟨b0, b1, b2, b3, b4⟩, _⟩ := hX.facts
            go_wp2_with fail
            refine (HQ.out _).mono ?_
            rintro ev w7 ⟨rfl, hb7⟩
            replace hX := hX.up hb7
            replace hZ := hZ.up hb7
            replace hb5 := hb5.trans (hb7.mono hb5.size)
            clear hb7 b0 b1 b2 b3 b4
            obtain ⟨⟨b0, b1, b2, b3, b4⟩, _⟩ := hX.facts
            obtain ⟨⟨c0, c1, c2, c3, c4⟩, f0, f1, f2, f3, f4⟩ := hZ.facts
            clear hZ hX
            go_wp2
            refine bodyPost_ret (v := .tuple #[.agg #[.int .i64 z0, .int .i64 z1, .int .i64 z2, .int .i64 z3, .int .i64 z4], .bool true]) (by simp [results, Tryd.results8, go_sem, c0, c1, c2, c3, c4]) rfl (Hyes.out _ _ Hok.out rfl (below5 hb5 (Nat.le_refl _) _ _ _ _ _))
          · have hnk : ¬ tlOk s := fun h => hts (Hiff2.out.1 h)
            have Hnk := Lib.hid hnk
            have hne := str_ne hts
            clear hnk hts
            go_wp2_with fail
            refine (HC.out _).mono ?_
            rintro ev w6 ⟨rfl, hb6⟩
            replace hX := hX.up hb6
            replace hZ := hZ.up hb6
            replace hb5 := hb5.trans (hb6.mono hb5.size)
            clear hb6 b0 b1 b2 b3 b4
            obtain ⟨⟨b0, b1, b2, b3, b4⟩, _⟩ := hX.facts
            go_wp2_with fail
            refine (HQ.out _).mono ?_
            rintro ev w7 ⟨rfl, hb7⟩
            replace hZ := hZ.up hb7
            replace hb5 := hb5.trans (hb7.mono hb5.size)
            clear hb7 b0 b1 b2 b3 b4 hX
            obtain ⟨⟨c0, c1, c2, c3, c4⟩, f0, f1, f2, f3, f4⟩ := hZ.facts
            clear hZ
            go_wp2
            refine bodyPost_ret (v := .tuple #[.agg #[.int .i64 0, .int .i64 0, .int .i64 0, .int .i64 0, .int .i64 0], .bool false]) (by simp [results, Tryd.results8, go_sem, c0, c1, c2, c3, c4]) rfl (Hnot.out _ _ Hnk.out rfl (below5 hb5 (Nat.le_refl _) _ _ _ _ _))
  · have hnk : ¬ tlOk s := fun h => h6 h.1
    obtain ⟨A, c, rfl⟩ := hown.slice
    have hne : (((cutL s 32).length : Int) != 6) = true := bne_iff_ne.2 (by omega)
    obtain ⟨n, hn⟩ : ∃ n, n = (cutL s 32).length := ⟨_, rfl⟩
    rw [← hn] at hne ⊢
    obtain ⟨⟨c0, c1, c2, c3, c4⟩, f0, f1, f2, f3, f4⟩ := hB0.facts
    have Hnk := Lib.hid hnk
    clear hn h6 hown hnk hB0
    go_wp2
    refine bodyPost_ret (v := .tuple #[.agg #[.int .i64 0, .int .i64 0, .int .i64 0, .int .i64 0, .int .i64 0], .bool false]) (by simp [results, Tryd.results8, go_sem, c0, c1, c2, c3, c4]) rfl (tl_no Hnk.out w rfl (below5 hb0 (Nat.le_refl _) _ _ _ _ _))
/-- The five places of the array after j numbers. -/
def zK (ns : List Int) (j : Nat) : List Int := ns.take j ++ List.replicate (5 - j) 0
theorem zK_len {ns : List Int} (h : ns.length = 5) (j : Nat) (hj : j ≤ 5) : (zK ns j).length = 5 := by simp [zK, h]; omega
theorem zK_set {ns : List Int} (h : ns.length = 5) (j : Nat) (hj : j < 5) : (zK ns j).set j (it ns j) = zK ns (j + 1) := by
  unfold zK
  have e : List.replicate (5 - j) (0 : Int) = 0 :: List.replicate (5 - (j + 1)) 0 := by rw [show 5 - j = (5 - (j + 1)) + 1 by omega]; rfl
  have hl : (ns.take j).length = j := by rw [List.length_take, h]; omega
  rw [e, List.set_append_right _ _ (by omega), hl, Nat.sub_self, List.set_cons_zero, List.take_succ_eq_append_getElem (by omega)]
  have hi : it ns j = ns[j]'(by omega) := by simp [it, List.getD_eq_getElem?_getD, List.getElem?_eq_getElem (show j < ns.length by omega)]
  rw [hi, List.append_assoc]
  rfl
theorem zK_full {ns : List Int} (h : ns.length = 5) : zK ns 5 = ns := by simp [zK, h, List.take_of_length_le]
theorem below_grown {W w w' : World} {r : Nat} (hb : Below W.heap.size W w) (hg : w.grownBy w' (some r)) (hr : W.heap.size ≤ r) : Below W.heap.size W w' :=
  hb.grown hg hb.size fun k hk => by injection hk with hk; omega

set_option maxRecDepth 100000 in
set_option maxHeartbeats 4000000 in
theorem implTextLimits_any (s : ByteArray) (w : World) (hs : s.size ≤ 1048576) (hv : ErrVars w) (hT : Tab10 w) :
    Calls Tryd.prog 9 #[.string s] w (TLim w s) := by
  have hb00 : Below w.heap.size w ((w.alloc (.cells #[.int .i64 0, .int .i64 0, .int .i64 0, .int .i64 0, .int .i64 0] 25)).alloc (.cells #[.int .i64 0, .int .i64 0, .int .i64 0, .int .i64 0, .int .i64 0] 40)) := ((Below.refl _ _).alloc (Nat.le_refl _) _).alloc (by simp) _
  have hB0 : Box5 ((w.alloc (.cells #[.int .i64 0, .int .i64 0, .int .i64 0, .int .i64 0, .int .i64 0] 25)).alloc (.cells #[.int .i64 0, .int .i64 0, .int .i64 0, .int .i64 0, .int .i64 0] 40)) w.heap.size 25 0 0 0 0 0 := (Box5.new w 25 0 0 0 0 0).up ((Below.refl _ _).alloc (Nat.le_refl _) _)
  have hA0 : OwnI 40 ((w.alloc (.cells #[.int .i64 0, .int .i64 0, .int .i64 0, .int .i64 0, .int .i64 0] 25)).alloc (.cells #[.int .i64 0, .int .i64 0, .int .i64 0, .int .i64 0, .int .i64 0] 40)) (w.heap.size + 1) (.slice (some ⟨w.heap.size + 1, 0, none⟩) 5 5) [0, 0, 0, 0, 0] := by
    have h := World.ownsRow_lit (base := w.heap.size + 1) (e := 40) (size := 1) (w.alloc (.cells #[.int .i64 0, .int .i64 0, .int .i64 0, .int .i64 0, .int .i64 0] 25)) #[.int .i64 0, .int .i64 0, .int .i64 0, .int .i64 0, .int .i64 0] 5 (by simp) (by simp [maxLen]) rfl
    simp only [show (w.alloc (.cells #[.int .i64 0, .int .i64 0, .int .i64 0, .int .i64 0, .int .i64 0] 25)).heap.size = w.heap.size + 1 by simp] at h
    exact h
  have hsz2 : ((w.alloc (.cells #[.int .i64 0, .int .i64 0, .int .i64 0, .int .i64 0, .int .i64 0] 25)).alloc (.cells #[.int .i64 0, .int .i64 0, .int .i64 0, .int .i64 0, .int .i64 0] 40)).heap.size = w.heap.size + 2 := by simp
  have Hv := Lib.hid hv
  have HT := Lib.hid hT
  clear hv hT
  go_enter Tryd.func9, Tryd.ntmps9
  go_wp2_with fail
  refine (implCut_any s _ (by omega)).mono ?_
  rintro ev w1 ⟨u, rfl, hown, hb1⟩
  rw [hsz2] at hown
  have hb0 := hb00.trans (hb1.mono hb00.size)
  replace hB0 := hB0.up hb1
  replace hA0 := hA0.up hb1
  clear hb1 hb00 hsz2
  by_cases h6 : (cutL s 32).length = 6
  · obtain ⟨g, cap, hcap, hcap2, rfl, hg0, hgl, hrow⟩ := hown.six h6
    have hsz := fun j => cutL_size s 32 j
    have hyes := fun e w' => tl_yes (s := s) (w := w) (e := e) (w' := w')
    have hnot : ∀ e w', ¬ tlOk s → _ → _ → TLim w s e w' := fun e w' h => tl_no (s := s) h w (e := e) (w' := w')
    have hiff : tlOk s ↔ limTxt (tlZ (cutL s 32) 0) (tlZ (cutL s 32) 1) (tlZ (cutL s 32) 2) (tlZ (cutL s 32) 3) (tlZ (cutL s 32) 4) = s := by
      refine ⟨fun h => h.2.2, fun h => ⟨h6, ?_, h⟩⟩
      cases hx : limB (tlZ (cutL s 32) 0) (tlZ (cutL s 32) 1) (tlZ (cutL s 32) 2) (tlZ (cutL s 32) 3) (tlZ (cutL s 32) 4) with
      | true => rfl
      | false =>
        rw [limTxt_no hx] at h
        have h1 := (cutL_len s 32).2
        have h2 : s.size = 0 := by rw [← h]; rfl
        omega
    obtain ⟨L, hL⟩ : ∃ L, L = cutL s 32 := ⟨_, rfl⟩
    rw [← hL] at hrow hyes hiff
    simp only [← hL] at hsz
    obtain ⟨z0, e0⟩ : ∃ z, z = tlZ L 0 := ⟨_, rfl⟩
    obtain ⟨z1, e1⟩ : ∃ z, z = tlZ L 1 := ⟨_, rfl⟩
    obtain ⟨z2, e2⟩ : ∃ z, z = tlZ L 2 := ⟨_, rfl⟩
    obtain ⟨z3, e3⟩ : ∃ z, z = tlZ L 3 := ⟨_, rfl⟩
    obtain ⟨z4, e4⟩ : ∃ z, z = tlZ L 4 := ⟨_, rfl⟩
    rw [← e0, ← e1, ← e2, ← e3, ← e4] at hyes hiff
    obtain ⟨ns, hns⟩ : ∃ ns, ns = [z0, z1, z2, z3, z4] := ⟨_, rfl⟩
    have hnl : ns.length = 5 := by rw [hns]; rfl
    have hit : ∀ j, j < 5 → it ns j = tnN (tt L (1 + j)).data.toList := by
      intro j hj
      rw [hns]
      rcases (show j = 0 ∨ j = 1 ∨ j = 2 ∨ j = 3 ∨ j = 4 by omega) with rfl | rfl | rfl | rfl | rfl
      · exact e0
      · exact e1
      · exact e2
      · exact e3
      · exact e4
    have hzs : it ns 0 = z0 ∧ it ns 1 = z1 ∧ it ns 2 = z2 ∧ it ns 3 = z3 ∧ it ns 4 = z4 := by rw [hns]; exact ⟨rfl, rfl, rfl, rfl, rfl⟩
    have hA1 : OwnI 40 w1 (w.heap.size + 1) (.slice (some ⟨w.heap.size + 1, 0, none⟩) 5 5) (zK ns 0) := hA0
    have Hyes := Lib.hid hyes
    have Hnot := Lib.hid hnot
    have Hiff := Lib.hid hiff
    have Hnl := Lib.hid hnl
    have Hit := Lib.hid hit
    have Hzs := Lib.hid hzs
    have Hrow := Lib.hid hrow
    have Hsz := Lib.hid hsz
    have HB0 := Lib.hid hB0
    clear hyes hnot hiff hnl hit hzs hns e0 e1 e2 e3 e4 hrow hsz hL h6 hown hB0 hA0
    go_wp2
    go_loopw [6, 7, 18, 23] (fun x k i y wr => ∃ (j : Nat), j ≤ 5 ∧ i = .int .i64 j ∧ OwnI 40 wr (w.heap.size + 1) (.slice (some ⟨w.heap.size + 1, 0, none⟩) 5 5) (zK ns j) ∧ w1.grownBy wr (some (w.heap.size + 1)))
      (fun _ _ i _ _ => 5 - (intOf i).toNat)
    case atStart => exact ⟨0, Nat.zero_le _, rfl, hA1, World.grownBy.refl _ _⟩
    case round =>
      obtain ⟨j, hj, rfl, ho, hgr⟩ := hrel
      have hbw : Below w.heap.size w wr := below_grown hb0 hgr (by omega)
      by_cases hlt : j < 5
      · have hc0 : wr.cell? ⟨g, 1 + j, none⟩ = some (.string (tt L (1 + j))) := (World.cell?_of_block (a := ⟨g, 1 + j, none⟩) (hgr.block g hgl (by intro e; injection e with e; omega))).trans (Hrow.out (1 + j) (by omega))
        have htn := fun W h1 h2 => implTextNum_any (tt L (1 + j)) W (by have := Hsz.out (1 + j); omega) h1 h2
        rw [← Hit.out j hlt] at htn
        obtain ⟨q, hq⟩ : ∃ q, q = tt L (1 + j) := ⟨_, rfl⟩
        rw [← hq] at hc0 htn
        have hset := zK_set Hnl.out j hlt
        have hlen := zK_len Hnl.out j hj
        have hlen2 := zK_len Hnl.out (j + 1) (by omega)
        obtain ⟨z, hz⟩ : ∃ z, z = it ns j := ⟨_, rfl⟩
        rw [← hz] at htn hset
        have Htn := Lib.hid htn
        have Hset := Lib.hid hset
        have Hlen := Lib.hid hlen
        have Hlen2 := Lib.hid hlen2
        clear hq hz htn hset hlen hlen2
        go_wp2_with fail
        refine (Htn.out _ (Hv.out.up hbw) (HT.out.up hbw)).mono ?_
        rintro ev w4 ⟨rfl, hb4⟩
        have ho4 := ho.up hb4
        have hgr4 := gtrans hgr (grown_of_below hb4 (some (w.heap.size + 1)))
        unfold OwnI at ho4
        rw [Hlen.out] at ho4
        have hc1 := (World.ownsRow.cellAt ho4 j (by omega)).trans (is_get (zK ns j) j (by rw [Hlen.out]; exact hlt))
        have hf1 := World.ownsRow.frozenAt ho4 j
        have hst := World.ownsRow.stored ho4 j (.int .i64 z)
        have hst1 := Lib.hid hst
        clear hst
        go_wp2
        go_roundw
        case rel => exact ⟨j + 1, by omega, by go_num, by unfold OwnI; rw [Hlen2.out, ← Hset.out, ← is_set]; exact hst1.out.1, gtrans hgr4 hst1.out.2⟩
        case measure => simp [intOf]; omega
      · obtain rfl : j = 5 := by omega
        rw [zK_full Hnl.out] at ho
        have hrow2 := fun k (hk : k < 5) => (World.ownsRow.cellAt (by have h := ho; unfold OwnI at h; rw [Hnl.out] at h; exact h) k (by omega)).trans (is_get ns k (by rw [Hnl.out]; exact hk))
        have a0 := hrow2 0 (by omega); have a1 := hrow2 1 (by omega); have a2 := hrow2 2 (by omega); have a3 := hrow2 3 (by omega); have a4 := hrow2 4 (by omega)
        rw [Hzs.out.1] at a0; rw [Hzs.out.2.1] at a1; rw [Hzs.out.2.2.1] at a2; rw [Hzs.out.2.2.2.1] at a3; rw [Hzs.out.2.2.2.2] at a4
        have hZ0 : Box5 wr w.heap.size 25 0 0 0 0 0 := (hgr.block w.heap.size HB0.out.lt (by intro e; injection e with e; omega)).trans HB0.out
        clear hrow2 ho
        go_wp2_with fail
        have hX : Box5 (wr.alloc (.cells #[.int .i64 z0, .int .i64 z1, .int .i64 z2, .int .i64 z3, .int .i64 z4] 25)) wr.heap.size 25 z0 z1 z2 z3 z4 := Box5.new wr _ z0 z1 z2 z3 z4
        have hbr : Below wr.heap.size wr (wr.alloc (.cells #[.int .i64 z0, .int .i64 z1, .int .i64 z2, .int .i64 z3, .int .i64 z4] 25)) := (Below.refl _ _).alloc (Nat.le_refl _) _
        have hb5 := hbw.trans (hbr.mono hbw.size)
        have hZ := hZ0.up hbr
        generalize wr.alloc (.cells #[.int .i64 z0, .int .i64 z1, .int .i64 z2, .int .i64 z3, .int .i64 z4] 25) = w5 at *
        have hq := fun W h => implLimitsText_any z0 z1 z2 z3 z4 W h
        have hiff2 := Hiff.out
        obtain ⟨t, ht⟩ : ∃ t, t = limTxt z0 z1 z2 z3 z4 := ⟨_, rfl⟩
        rw [← ht] at hiff2
        simp only [← ht] at hq
        have HQ := Lib.hid hq
        have Hiff2 := Lib.hid hiff2
        clear hq ht hiff2 a0 a1 a2 a3 a4 hbr hZ0 hbw hgr hlt hj hA1 hcap hcap2 hg0 hgl
        refine (HQ.out _ (HT.out.up hb5)).mono ?_
        rintro ev w7 ⟨rfl, hb7⟩
        replace hX := hX.up hb7
        replace hZ := hZ.up hb7
        replace hb5 := hb5.trans (hb7.mono hb5.size)
        clear hb7
        generalize wr.heap.size = g5 at *
        obtain ⟨⟨b0, b1, b2, b3, b4⟩, _⟩ := hX.facts
        obtain ⟨⟨c0, c1, c2, c3, c4⟩, f0, f1, f2, f3, f4⟩ := hZ.facts
        clear hZ hX
        by_cases hts : t = s
        · subst hts
          have hok : tlOk t := Hiff2.out.2 rfl
          have Hok := Lib.hid hok
          have hne : (t.toList != t.toList) = false := by simp
          clear hok
          go_wp2
          refine bodyPost_ret (v := .tuple #[.agg #[.int .i64 z0, .int .i64 z1, .int .i64 z2, .int .i64 z3, .int .i64 z4], .bool true]) (by simp [results, Tryd.results9, go_sem, c0, c1, c2, c3, c4]) rfl (Hyes.out _ _ Hok.out rfl (below5 hb5 (Nat.le_refl _) _ _ _ _ _))
        · have hnk : ¬ tlOk s := fun h => hts (Hiff2.out.1 h)
          have Hnk := Lib.hid hnk
          have hne := str_ne hts
          clear hnk hts
          go_wp2
          refine bodyPost_ret (v := .tuple #[.agg #[.int .i64 0, .int .i64 0, .int .i64 0, .int .i64 0, .int .i64 0], .bool false]) (by simp [results, Tryd.results9, go_sem, c0, c1, c2, c3, c4]) rfl (Hnot.out _ _ Hnk.out rfl (below5 hb5 (Nat.le_refl _) _ _ _ _ _))
  · have hnk : ¬ tlOk s := fun h => h6 h.1
    obtain ⟨A, c, rfl⟩ := hown.slice
    have hne : (((cutL s 32).length : Int) != 6) = true := bne_iff_ne.2 (by omega)
    obtain ⟨n, hn⟩ : ∃ n, n = (cutL s 32).length := ⟨_, rfl⟩
    rw [← hn] at hne ⊢
    obtain ⟨⟨c0, c1, c2, c3, c4⟩, f0, f1, f2, f3, f4⟩ := hB0.facts
    have Hnk := Lib.hid hnk
    clear hn h6 hown hnk hB0 hA0
    go_wp2
    refine bodyPost_ret (v := .tuple #[.agg #[.int .i64 0, .int .i64 0, .int .i64 0, .int .i64 0, .int .i64 0], .bool false]) (by simp [results, Tryd.results9, go_sem, c0, c1, c2, c3, c4]) rfl (tl_no Hnk.out w rfl (below5 hb0 (Nat.le_refl _) _ _ _ _ _))

set_option maxHeartbeats 1000000 in
theorem eqLimits_any (a b c d e : Int) (w : World) :
    Calls Tryd.prog 10 #[.agg #[.int .i64 a, .int .i64 b, .int .i64 c, .int .i64 d, .int .i64 e], .agg #[.int .i64 a, .int .i64 b, .int .i64 c, .int .i64 d, .int .i64 e]] w (BoolB w true) := by
  have h0 : (a != a) = false := by simp
  have h1 : (b != b) = false := by simp
  have h2 : (c != c) = false := by simp
  have h3 : (d != d) = false := by simp
  have h4 : (e != e) = false := by simp
  go_enter Tryd.func10, Tryd.ntmps10
  go_wp2
  go_ret
  exact ⟨rfl, ((Below.refl _ _).alloc (Nat.le_refl _) _).alloc (by simp) _⟩
end Go.Proofs.YtemjagdlbehboaaDoor
