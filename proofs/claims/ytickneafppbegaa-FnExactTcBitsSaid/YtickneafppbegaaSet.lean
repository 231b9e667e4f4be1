/- The contracts of BitsSet, as the program has it and as its model has it. -/
import Derived.Test.YtickneafppbegaaOk
namespace Go.Proofs.Ytickneafppbegaa
open Go.ChangeShapes Go.WideShapes Go.ChangeAt Go.RowKit

theorem setL_no {l : List UInt8} {n i : Int} (o : Bool) (h : ¬ setOk l n i) : setL l n i o = [] ∧ setB l n i = false := ⟨if_neg h, decide_eq_false h⟩
theorem setL_of {l L : List UInt8} {n : Int} {i : Nat} {o : Bool} (h : setOk l n i) (hL : L.length = l.length) (hb : ∀ j, j < 8 * l.length → bitL L j = if j = i then o else bitL l j) : L = setL l n i o ∧ setB l n i = true := by
  refine ⟨?_, decide_eq_true h⟩
  unfold setL
  rw [if_pos h]
  refine eq_ofBits hL fun j hj => ?_
  rw [hb j hj]
  by_cases e : j = i
  · rw [if_pos e, if_pos (by omega)]
  · rw [if_neg e, if_neg (by omega)]
set_option maxRecDepth 100000 in
set_option maxHeartbeats 1000000 in
theorem specBitsSet_any (v : Value) (l : List UInt8) (n i : Int) (o : Bool) (w : World) (h : Sl w w.heap.size v l) (hl : l.length ≤ 4294967296) :
    Calls Try.prog 58 #[v, .int .i64 n, .int .i64 i, .bool o] w (Fresh2 w (setL l n i o) (.bool (setB l n i))) := by
  by_cases hok : okP l n
  · have hob := okB_yes hok
    have hn1 := hok.1.1
    have hn2 := hok.1.2
    by_cases hin : 0 ≤ i ∧ i < n
    · obtain ⟨I, rfl⟩ := Int.eq_ofNat_of_zero_le hin.1
      have hset : setOk l n (I : Int) := ⟨hok, hin⟩
      have hI : I < 10 := by omega
      have hlen := okP_len hok
      have hsz := sizeB_ok hok.1
      have hq : I / 8 < l.length := by omega
      have hhas := hasB_at l I
      have hin2 : (I : Int) ≤ n - 1 := by omega
      have hL2 : l.length ≤ 2 := hlen.2
      by_cases he : bitL l I = o
      · have hres := setL_of (L := l) hset rfl (fun j _ => by
          by_cases e : j = I
          · rw [if_pos e, e, he]
          · rw [if_neg e])
        rw [← hres.1, hres.2]
        rw [he] at hhas
        have ho : (o != o) = false := by simp
        clear hset hres hlen hsz hok hin he
        go_enter Try.func58, Try.ntmps58
        go_wp2_with fail
        refine (specBitsOk_any _ l _ _ h hl).mono ?_
        rw [hob]
        rintro e w1 ⟨rfl, hb1⟩
        go_wp2_with fail
        refine (l01In_yes _ _ _ _ (by omega) hin2).mono ?_
        rintro e w' ⟨rfl, rfl⟩
        go_wp2_with fail
        refine (l01Copy_any _ l _ (h.up hb1) hl).mono ?_
        rintro e w2 ⟨v2, rfl, hown2, hb2⟩
        have hbw : Below w.heap.size w w2 := hb1.trans (hb2.mono hb1.size)
        go_wp2_with fail
        refine (specBitsHas_any _ l I _ (h.up hbw) hl (by omega)).mono ?_
        rw [hhas]
        rintro e w3 ⟨rfl, d, rfl⟩
        go_wp2
        go_ret2
        exact ⟨v2, rfl, (hown2.mono hb1.size).drewN d, below_drewN hbw d⟩
      · have he' : bitL l I = !o := by cases hb : bitL l I <;> cases o <;> simp_all
        have hres := setL_of (L := turn1 l I) hset (turn1_length l I) (fun j _ => by
          rw [turn1_bit _ _ _ hq]
          by_cases e : j = I
          · rw [if_pos e, if_pos e, e, he', Bool.not_not]
          · rw [if_neg e, if_neg e])
        rw [← hres.1, hres.2]
        rw [he'] at hhas
        have ho : ((!o) != o) = true := by cases o <;> rfl
        clear hset hres hlen hsz hok hin he he'
        go_enter Try.func58, Try.ntmps58
        go_wp2_with fail
        refine (specBitsOk_any _ l _ _ h hl).mono ?_
        rw [hob]
        rintro e w1 ⟨rfl, hb1⟩
        go_wp2_with fail
        refine (l01In_yes _ _ _ _ (by omega) hin2).mono ?_
        rintro e w' ⟨rfl, rfl⟩
        go_wp2_with fail
        refine (l01Copy_any _ l _ (h.up hb1) hl).mono ?_
        rintro e w2 ⟨v2, rfl, hown2, hb2⟩
        have hbw : Below w.heap.size w w2 := hb1.trans (hb2.mono hb1.size)
        have hown2' := hown2.mono hb1.size
        rcases hown2'.2 with ⟨rfl, h0⟩ | ⟨g, cap, cur, rfl, hgb, hg, hnc, hcm, hs, ht⟩
        · omega
        · clear hown2 hg hs ht
          have hbw0 := hbw.size
          go_wp2_with fail
          refine (specBitsHas_any _ l I _ (h.up hbw) hl (by omega)).mono ?_
          rw [hhas]
          rintro e w3 ⟨rfl, d, rfl⟩
          have hown3 := hown2'.drewN d
          have hbw3 := below_drewN hbw d
          generalize w2.drewN d = w3 at *
          have hc1 := (World.ownsRow.cellAt hown3 (I / 8) (by omega)).trans (us_get l (I / 8) hq)
          have hf1 := World.ownsRow.frozenAt hown3 (I / 8)
          have hq' : (I : Int) / 8 < (l.length : Int) := by omega
          have hst := World.ownsRow.stored hown3 (I / 8) (.int .u8 (bits .xor .u8 (bt l (I / 8)) (2 ^ (I % 8) % 256)))
          rw [turn1_us] at hst
          have hst1 := Lib.hid hst
          clear hst
          go_wp2
          go_region
          all_goals
            go_wp2
            go_ret2
            refine ⟨_, rfl, ?_, by first | exact (hbw3.setCell hgb _).drew | exact hbw3.setCell hgb _ | exact hbw3.drew.setCell hgb _⟩
            unfold Own
            rw [turn1_length]
            exact hst1.out.1
    · obtain ⟨e1, e2⟩ := setL_no (l := l) o (show ¬ setOk l n i from fun h => hin h.2)
      rw [e1, e2]
      have hno : ¬ (0 ≤ i ∧ i ≤ n - 1) := by omega
      have HN := Lib.hid hno
      clear hok hin e1 e2 hno
      go_enter Try.func58, Try.ntmps58
      go_wp2_with fail
      refine (specBitsOk_any _ l _ _ h hl).mono ?_
      rw [hob]
      rintro e w1 ⟨rfl, hb1⟩
      go_wp2_with fail
      refine (l01In_no _ _ _ _ HN.out).mono ?_
      rintro e w' ⟨rfl, rfl⟩
      go_wp2
      go_ret2
      exact ⟨_, rfl, World.ownsRow_nil _ _ _ _, hb1⟩
  · have hob := okB_no hok
    obtain ⟨e1, e2⟩ := setL_no (l := l) o (show ¬ setOk l n i from fun h => hok h.1)
    rw [e1, e2]
    clear hok e1 e2
    go_enter Try.func58, Try.ntmps58
    go_wp2_with fail
    refine (specBitsOk_any _ l _ _ h hl).mono ?_
    rw [hob]
    rintro e w1 ⟨rfl, hb1⟩
    go_wp2
    go_ret2
    exact ⟨_, rfl, World.ownsRow_nil _ _ _ _, hb1⟩
end Go.Proofs.Ytickneafppbegaa
