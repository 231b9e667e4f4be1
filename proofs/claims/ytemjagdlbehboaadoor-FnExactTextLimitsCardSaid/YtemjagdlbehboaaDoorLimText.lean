/- The text of limits: the contracts of LimitsText as the program has it (strings.Join by the shelf's contract) and as its model has it. -/
import Derived.Test.YtemjagdlbehboaaDoorNumText
import Derived.Test.YtemjagdlbehboaaDoorLimits
import Derived.Test.YtemjagdlbehboaaDoorStrRow
import Derived.Lib.Join
import Derived.Deep.RegionHeld3
namespace Go.Proofs.YtemjagdlbehboaaDoor
open Go.ChangeShapes Go.WideShapes Go.ChangeAt Go.RowKit

/-- The word ahead of the numbers. -/
def limWord : List UInt8 := [108, 105, 109, 105, 116, 115]
/-- The text after k numbers. -/
def limTo (ns : List Int) (k : Nat) : List UInt8 := limWord ++ Lib.joinTail [32] ((ns.map numL).take k)
theorem limTo_zero (ns : List Int) : limTo ns 0 = limWord := by simp [limTo, Lib.joinTail]
theorem limTo_succ {ns : List Int} {k : Nat} (h : k < ns.length) : limTo ns (k + 1) = limTo ns k ++ [32] ++ numL (it ns k) := by
  unfold limTo
  rw [Lib.joinTail_take_succ [32] (ns.map numL) k (numL (it ns k)) (by simp [it, List.getD_eq_getElem?_getD, List.getElem?_eq_getElem h])]
  simp [List.append_assoc]
theorem numL_len (n : Int) : (numL n).length ≤ 19 := by
  unfold numL
  split
  · exact dec_len 18 _ (by omega)
  · simp
theorem limTo_len (ns : List Int) : ∀ k, k ≤ ns.length → (limTo ns k).length ≤ 6 + 20 * k
  | 0, _ => by rw [limTo_zero]; simp [limWord]
  | k + 1, h => by
    have := limTo_len ns k (by omega)
    have h2 := numL_len (it ns k)
    rw [limTo_succ (by omega)]
    simp only [List.length_append, List.length_singleton]
    omega
/-- The text of limits; of limits that are not valid, none. -/
def limTxt (a b c d e : Int) : ByteArray := if limB a b c d e = true then ba (limTo [a, b, c, d, e] 5) else ⟨#[]⟩
theorem limTxt_yes {a b c d e : Int} (h : limB a b c d e = true) : limTxt a b c d e = ba (limTo [a, b, c, d, e] 5) := if_pos h
theorem limTxt_no {a b c d e : Int} (h : limB a b c d e = false) : limTxt a b c d e = ⟨#[]⟩ := if_neg (by rw [h]; simp)
theorem join_limTo (a b c d e : Int) : Lib.join [limWord, numL a, numL b, numL c, numL d, numL e] [32] = limTo [a, b, c, d, e] 5 := by
  rw [Lib.join_cons]; rfl

/-- A string; nothing that was there has turned. -/
def StrB (w : World) (s : ByteArray) (e : Ending) (w' : World) : Prop := e = .returned (.string s) ∧ Below w.heap.size w w'

set_option maxRecDepth 100000 in
set_option maxHeartbeats 2000000 in
theorem specLimitsText_any (a b c d e : Int) (w : World) :
    Calls Tryd.prog 5 #[.agg #[.int .i64 a, .int .i64 b, .int .i64 c, .int .i64 d, .int .i64 e]] w (StrB w (limTxt a b c d e)) := by
  have hb0 : Below w.heap.size w (w.alloc (.cells #[.int .i64 a, .int .i64 b, .int .i64 c, .int .i64 d, .int .i64 e] 25)) := (Below.refl _ _).alloc (Nat.le_refl _) _
  have hB0 := BoxL.new w 25 a b c d e
  have hc := specLimitsOk_any a b c d e
  cases hx : limB a b c d e with
  | false =>
    rw [limTxt_no hx]
    rw [hx] at hc
    have HC := Lib.hid hc
    clear hc hx
    go_enter Tryd.func5, Tryd.ntmps5
    go_wp2_with fail
    refine (HC.out _).mono ?_
    rintro ev w1 ⟨rfl, hb1⟩
    go_wp2
    go_ret
    exact ⟨rfl, hb0.trans (hb1.mono hb0.size)⟩
  | true =>
    obtain ⟨R, hR⟩ : ∃ R, R = limTxt a b c d e := ⟨_, rfl⟩
    rw [← hR]
    rw [limTxt_yes hx] at hR
    rw [hx] at hc
    have HC := Lib.hid hc
    have HR := Lib.hid hR
    clear hc hx hR
    go_enter Tryd.func5, Tryd.ntmps5
    go_wp2_with fail
    refine (HC.out _).mono ?_
    rintro ev w1 ⟨rfl, hb1⟩
    replace hB0 := hB0.up hb1
    replace hb0 := hb0.trans (hb1.mono hb0.size)
    clear hb1
    obtain ⟨k, k0, k1, k2, k3, k4⟩ := hB0
    obtain ⟨ns, hns⟩ : ∃ ns : List Int, ns = [a, b, c, d, e] := ⟨_, rfl⟩
    have hnl : ns.length = 5 := by rw [hns]; rfl
    obtain ⟨w2, hw2⟩ : ∃ w2, w2 = w1.alloc (.cells #[.int .i64 a, .int .i64 b, .int .i64 c, .int .i64 d, .int .i64 e] 3) := ⟨_, rfl⟩
    obtain ⟨g, hg⟩ : ∃ g, g = w1.heap.size := ⟨_, rfl⟩
    have hrow : ∀ j, j < 5 → w2.cell? ⟨g, j, none⟩ = some (.int .i64 (it ns j)) := by
      intro j hj
      rw [hw2, hns, hg]
      rcases (show j = 0 ∨ j = 1 ∨ j = 2 ∨ j = 3 ∨ j = 4 by omega) with rfl | rfl | rfl | rfl | rfl <;> simp [it]
    have hgl : g < w2.heap.size := by rw [hw2, hg]; simp
    have hb2 : Below w.heap.size w w2 := by rw [hw2]; exact hb0.alloc hb0.size _
    have hfin : ba (limTo ns 5) = R := by rw [HR.out, hns]
    have Hfin := Lib.hid hfin
    have Hnl := Lib.hid hnl
    have Hrow := Lib.hid hrow
    clear hfin hnl hrow hns HR
    go_wp2
    rw [← hw2, ← hg]
    clear k k0 k1 k2 k3 k4 hb0 hw2 hg
    go_loopw [3, 5, 21] (fun s n i wr => ∃ (j : Nat) (t : ByteArray), j ≤ 5 ∧ s = .string t ∧ i = .int .i64 j ∧ t.data.toList = limTo ns j ∧ Below w2.heap.size w2 wr)
      (fun _ _ i _ => 5 - (intOf i).toNat)
    case atStart => exact ⟨0, _, Nat.zero_le _, rfl, rfl, by rw [limTo_zero]; rfl, Below.refl _ _⟩
    case round =>
      obtain ⟨j, t, hj, rfl, rfl, ht, hbel⟩ := hrel
      have hts : t.size ≤ 6 + 20 * j := by
        have := limTo_len ns j (by rw [Hnl.out]; exact hj)
        have e : t.data.toList.length = t.size := by rw [Array.length_toList]; rfl
        rw [← ht, e] at this
        exact this
      have Ht := Lib.hid ht
      clear ht
      by_cases hlt : j < 5
      · have hc0 := (hbel.cell (p := ⟨g, j, none⟩) hgl).trans (Hrow.out j hlt)
        have hsuc := limTo_succ (ns := ns) (k := j) (by rw [Hnl.out]; exact hlt)
        have hnx := specNumText_any (it ns j)
        obtain ⟨q, hq⟩ : ∃ q, q = ba (numL (it ns j)) := ⟨_, rfl⟩
        have hqs : q.size ≤ 19 := by rw [hq, ba_size]; exact numL_len _
        have hql : q.data.toList = numL (it ns j) := by rw [hq, ba_toList]
        unfold StrN at hnx
        rw [← hq] at hnx
        rw [← hql] at hsuc
        obtain ⟨z, hz⟩ : ∃ z, z = it ns j := ⟨_, rfl⟩
        rw [← hz] at hnx hc0
        have Hsuc := Lib.hid hsuc
        have Hnx := Lib.hid hnx
        clear hq hql hz hsuc hnx
        go_wp2_with fail
        refine (Hnx.out _).mono ?_
        rintro ev w4 ⟨rfl, hb4⟩
        go_wp2
        go_roundw
        case rel => exact ⟨j + 1, _, by omega, rfl, by go_num, by rw [Joins.data_append, Joins.data_append, Ht.out, Hsuc.out], hbel.trans (hb4.mono hbel.size)⟩
        case measure => simp [intOf]; omega
      · obtain rfl : j = 5 := by omega
        have he : t = R := by rw [← Hfin.out]; exact ba_eq Ht.out
        have He := Lib.hid he
        clear he
        go_wp2
        go_ret
        rw [He.out]
        exact ⟨rfl, hb2.trans (hbel.mono hb2.size)⟩

set_option maxRecDepth 100000 in
set_option maxHeartbeats 4000000 in
theorem implLimitsText_any (a b c d e : Int) (w : World) (ht : Tab10 w) :
    Calls Tryd.prog 7 #[.agg #[.int .i64 a, .int .i64 b, .int .i64 c, .int .i64 d, .int .i64 e]] w (StrB w (limTxt a b c d e)) := by
  have hb0 : Below w.heap.size w (w.alloc (.cells #[.int .i64 a, .int .i64 b, .int .i64 c, .int .i64 d, .int .i64 e] 25)) := (Below.refl _ _).alloc (Nat.le_refl _) _
  have hB0 := BoxL.new w 25 a b c d e
  have hc := implLimitsOk_any a b c d e
  cases hx : limB a b c d e with
  | false =>
    rw [limTxt_no hx]
    rw [hx] at hc
    have HC := Lib.hid hc
    clear hc hx
    go_enter Tryd.func7, Tryd.ntmps7
    go_wp2_with fail
    refine (HC.out _).mono ?_
    rintro ev w1 ⟨rfl, hb1⟩
    go_wp2
    go_ret
    exact ⟨rfl, hb0.trans (hb1.mono hb0.size)⟩
  | true =>
    obtain ⟨R, hR⟩ : ∃ R, R = limTxt a b c d e := ⟨_, rfl⟩
    rw [← hR]
    rw [limTxt_yes hx, ← join_limTo] at hR
    rw [hx] at hc
    have HC := Lib.hid hc
    have q0 := fun W h => implNumText_any a W h
    have q1 := fun W h => implNumText_any b W h
    have q2 := fun W h => implNumText_any c W h
    have q3 := fun W h => implNumText_any d W h
    have q4 := fun W h => implNumText_any e W h
    have l0 := numL_len a
    have l1 := numL_len b
    have l2 := numL_len c
    have l3 := numL_len d
    have l4 := numL_len e
    unfold StrN at q0 q1 q2 q3 q4
    obtain ⟨A, hA⟩ : ∃ A, A = numL a := ⟨_, rfl⟩
    obtain ⟨B, hB⟩ : ∃ B, B = numL b := ⟨_, rfl⟩
    obtain ⟨C, hC⟩ : ∃ C, C = numL c := ⟨_, rfl⟩
    obtain ⟨D, hD⟩ : ∃ D, D = numL d := ⟨_, rfl⟩
    obtain ⟨E, hE⟩ : ∃ E, E = numL e := ⟨_, rfl⟩
    rw [← hA, ← hB, ← hC, ← hD, ← hE] at hR
    rw [← hA] at q0 l0; rw [← hB] at q1 l1; rw [← hC] at q2 l2; rw [← hD] at q3 l3; rw [← hE] at q4 l4
    have hjl : (Lib.join [limWord, A, B, C, D, E] [32]).length ≤ 200 := by
      rw [Lib.join_cons, List.length_append, Lib.joinTail_length]
      simp [limWord, Lib.lens]
      omega
    clear hA hB hC hD hE l0 l1 l2 l3 l4
    obtain ⟨sA, hsA⟩ : ∃ sA, sA = ba A := ⟨_, rfl⟩
    obtain ⟨sB, hsB⟩ : ∃ sB, sB = ba B := ⟨_, rfl⟩
    obtain ⟨sC, hsC⟩ : ∃ sC, sC = ba C := ⟨_, rfl⟩
    obtain ⟨sD, hsD⟩ : ∃ sD, sD = ba D := ⟨_, rfl⟩
    obtain ⟨sE, hsE⟩ : ∃ sE, sE = ba E := ⟨_, rfl⟩
    rw [← hsA] at q0; rw [← hsB] at q1; rw [← hsC] at q2; rw [← hsD] at q3; rw [← hsE] at q4
    have hmap : ([⟨#[108, 105, 109, 105, 116, 115]⟩, sA, sB, sC, sD, sE] : List ByteArray).map (·.data.toList) = [limWord, A, B, C, D, E] := by
      rw [hsA, hsB, hsC, hsD, hsE]
      simp [ba_toList, limWord]
    have hRj : (⟨(Lib.join (([⟨#[108, 105, 109, 105, 116, 115]⟩, sA, sB, sC, sD, sE] : List ByteArray).map (·.data.toList)) [32]).toArray⟩ : ByteArray) = R := by rw [hmap, hR]; rfl
    have hjl2 : (Lib.join (([⟨#[108, 105, 109, 105, 116, 115]⟩, sA, sB, sC, sD, sE] : List ByteArray).map (·.data.toList)) [32]).length ≤ 140737488355328 := by rw [hmap]; omega
    have HRj := Lib.hid hRj
    have Hjl := Lib.hid hjl2
    have Q0 := Lib.hid q0; have Q1 := Lib.hid q1; have Q2 := Lib.hid q2; have Q3 := Lib.hid q3; have Q4 := Lib.hid q4
    clear hc hx hR hRj hjl hjl2 q0 q1 q2 q3 q4 hsA hsB hsC hsD hsE hmap
    have HT := Lib.hid ht
    clear ht
    go_enter Tryd.func7, Tryd.ntmps7
    go_wp2_with fail
    refine (HC.out _).mono ?_
    rintro ev w1 ⟨rfl, hb1⟩
    replace hB0 := hB0.up hb1
    replace hb0 := hb0.trans (hb1.mono hb0.size)
    clear hb1
    have HB0 := Lib.hid hB0
    have HT0 : Hid (Tab10 w1.drew) := Lib.hid (HT.out.up (below_drewN hb0 1))
    have hd1 : Below w1.heap.size w1 w1.drew := below_drewN (Below.refl _ _) 1
    have HK0 := Lib.hid hd1
    clear hd1
    obtain ⟨k, k0, k1, k2, k3, k4⟩ := hB0
    go_wp2
    go_region_held3 (fun w' => w'.cell? ⟨w.heap.size, 0, none⟩ = some (.int .i64 a) ∧ w'.cell? ⟨w.heap.size, 1, none⟩ = some (.int .i64 b) ∧ w'.cell? ⟨w.heap.size, 2, none⟩ = some (.int .i64 c) ∧ w'.cell? ⟨w.heap.size, 3, none⟩ = some (.int .i64 d) ∧ w'.cell? ⟨w.heap.size, 4, none⟩ = some (.int .i64 e))
      (first
        | exact (HB0.out.up HK0.out).2
        | exact (HB0.out.up HK1.out).2
        | exact (HB0.out.up HK2.out).2
        | exact (HB0.out.up HK3.out).2
        | exact (HB0.out.up HK4.out).2
        | exact (HB0.out.up HK5.out).2
        | exact (HB0.out.up (HK5.out.alloc HK5.out.size _)).2)
      (first
        | (go_at_call_of 14 (Value.int IntKind.i64 a); refine (Q0.out _ HT0.out).mono ?_; rintro ev v1 ⟨rfl, hn⟩; have HT1 := Lib.hid (HT0.out.up hn); have HK1 := Lib.hid (HK0.out.trans (hn.mono HK0.out.size)); clear hn)
        | (go_at_call_of 14 (Value.int IntKind.i64 b); refine (Q1.out _ HT1.out).mono ?_; rintro ev v2 ⟨rfl, hn⟩; have HT2 := Lib.hid (HT1.out.up hn); have HK2 := Lib.hid (HK1.out.trans (hn.mono HK1.out.size)); clear hn)
        | (go_at_call_of 14 (Value.int IntKind.i64 c); refine (Q2.out _ HT2.out).mono ?_; rintro ev v3 ⟨rfl, hn⟩; have HT3 := Lib.hid (HT2.out.up hn); have HK3 := Lib.hid (HK2.out.trans (hn.mono HK2.out.size)); clear hn)
        | (go_at_call_of 14 (Value.int IntKind.i64 d); refine (Q3.out _ HT3.out).mono ?_; rintro ev v4 ⟨rfl, hn⟩; have HT4 := Lib.hid (HT3.out.up hn); have HK4 := Lib.hid (HK3.out.trans (hn.mono HK3.out.size)); clear hn)
        | (go_at_call_of 14 (Value.int IntKind.i64 e); refine (Q4.out _ HT4.out).mono ?_; rintro ev v5 ⟨rfl, hn⟩; have HK5 := Lib.hid (HK4.out.trans (hn.mono HK4.out.size)); clear hn))
    have hJ : Calls Tryd.prog 15 #[.slice (some ⟨v5.heap.size, 0, none⟩) 6 6, .string ⟨#[32]⟩] (v5.alloc (.cells #[.string ⟨#[108, 105, 109, 105, 116, 115]⟩, .string sA, .string sB, .string sC, .string sD, .string sE] 9)) (fun ev w' => ev = .returned (.string R) ∧ Below (v5.alloc (.cells #[.string ⟨#[108, 105, 109, 105, 116, 115]⟩, .string sA, .string sB, .string sC, .string sD, .string sE] 9)).heap.size (v5.alloc (.cells #[.string ⟨#[108, 105, 109, 105, 116, 115]⟩, .string sA, .string sB, .string sC, .string sD, .string sE] 9)) w') := by
      rw [← HRj.out]
      refine Tryd.strings_Join v5.heap.size 0 6 [⟨#[108, 105, 109, 105, 116, 115]⟩, sA, sB, sC, sD, sE] ⟨#[32]⟩ _ ?_ (by simp) (by simp) (by simp) Hjl.out
      intro j x hx
      rcases (show j = 0 ∨ j = 1 ∨ j = 2 ∨ j = 3 ∨ j = 4 ∨ j = 5 ∨ 6 ≤ j by omega) with rfl | rfl | rfl | rfl | rfl | rfl | h6
      all_goals first
        | (simp at hx; subst hx; simp; done)
        | (rw [List.getElem?_eq_none (by simpa using h6)] at hx; cases hx)
    have HJ := Lib.hid hJ
    clear hJ
    have hb6 : Below w.heap.size w (v5.alloc (.cells #[.string ⟨#[108, 105, 109, 105, 116, 115]⟩, .string sA, .string sB, .string sC, .string sD, .string sE] 9)) := hb0.trans ((HK5.out.alloc HK5.out.size _).mono hb0.size)
    generalize v5.alloc (.cells #[.string ⟨#[108, 105, 109, 105, 116, 115]⟩, .string sA, .string sB, .string sC, .string sD, .string sE] 9) = w6 at *
    go_wp2_with fail
    refine HJ.out.mono ?_
    rintro ev w7 ⟨rfl, hb7⟩
    go_wp2
    go_ret
    exact ⟨rfl, hb6.trans (hb7.mono hb6.size)⟩
end Go.Proofs.YtemjagdlbehboaaDoor
