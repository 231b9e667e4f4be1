/- The contracts of BitsSet, as the program has it and as its model has it. -/
import Derived.Test.YtoaokhhpgoabmaaDoorOk
namespace Go.Proofs.YtoaokhhpgoabmaaDoor
open Go.ChangeShapes Go.WideShapes Go.ChangeAt Go.RowKit

theorem setL_no {l : List UInt8} {n i : Int} (o : Bool) (h : ¬ setOk l n i) : setL l n i o = [] ∧ setB l n i = false := ⟨if_neg h, decide_eq_false h⟩
theorem setL_of {l L : List UInt8} {n : Int} {i : Nat} {o : Bool} (h : setOk l n i) (hL : L.length = l.length) (hb : ∀ j, j < 8 * l.length → bitL L j = if j = i then o else bitL l j) : L = setL l n i o ∧ setB l n i = true := by
  refine ⟨?_, decide_eq_true h⟩
  unfold setL
  rw [if_pos h]
  refine eq_ofBits hL fun j hj => ?_
  rw [hb j hj]
  by_cases e : j = i
  · rw [if_pos e, if_pos (by omega)]
  · rw [if_neg e, if_neg (by omega)]
set_option maxRecDepth 100000 in
set_option maxHeartbeats 1000000 in
theorem implBitsSet_any (v : Value) (l : List UInt8) (n i : Int) (o : Bool) (w : World) (h : Sl w w.heap.size v l) (hl : l.length ≤ 4294967296) :
    Calls Tryd.prog 15 #[v, .int .i64 n, .int .i64 i, .bool o] w (Fresh2 w (setL l n i o) (.bool (setB l n i))) := by
  by_cases hok : okP l n
  · have hob := okB_yes hok
    by_cases hin : 0 ≤ i ∧ i < n
    · have hib : isIn i n = true := decide_eq_true hin
      obtain ⟨I, rfl⟩ := Int.eq_ofNat_of_zero_le hin.1
      obtain ⟨N, rfl⟩ := Int.eq_ofNat_of_zero_le (show 0 ≤ n by omega)
      have hset : setOk l (N : Int) (I : Int) := ⟨hok, hin⟩
      have hN : N ≤ 10 := by have := hok.1.2; omega
      have hI : (I : Int) < 16 := by omega
      have hlen := okP_len hok
      have hsz := sizeB_ok hok.1
      have hres := setL_of (L := ofBits (fun j => decide ((j : Int) < (N : Int)) && (fun j => if j = I then o else flk l N j) j) (sizeB (N : Int)).toNat) (o := o) hset (by rw [ofBits_length]; omega) (fun j hj => by
        rw [ofBits_bit _ _ _ (by omega)]
        have hz : (N : Int) ≤ (j : Int) → bitL l j = false := fun hn => hok.2.2 j (by omega) hn
        by_cases e : j = I
        · simp only [if_pos e]
          rw [decide_eq_true (by omega), Bool.true_and]
        · simp only [if_neg e]
          unfold flk
          by_cases hj2 : j < N
          · rw [decide_eq_true hj2, decide_eq_true (by omega)]
            rfl
          · rw [hz (by omega), Bool.and_false, Bool.and_false])
      rw [← hres.1, hres.2]
      have HC := Lib.hid hok.1
      have hNN : N ≤ 16 := by omega
      have hI2 : I < 16 := by omega
      clear hset hres hlen hsz hok hin
      go_enter Tryd.func15, Tryd.ntmps15
      go_wp2_with fail
      refine (implBitsOk_any _ l _ _ h hl).mono ?_
      rw [hob]
      rintro e w1 ⟨rfl, hb1⟩
      go_wp2_with fail
      refine (isSigner_any _ _ _).mono ?_
      rw [hib]
      rintro e w' ⟨rfl, rfl⟩
      go_wp2_with fail
      refine (flagsOf_any _ l N _ (h.up hb1) hl hNN).mono ?_
      rintro e w2 ⟨rfl, hb2⟩
      have hA := flags_new w2 fun _ => false
      have hbw : Below w.heap.size w w2 := hb1.trans (hb2.mono hb1.size)
      go_wp2_with (first
        | (refine wpList_store_row rfl _ _ _ rfl w2.heap.size (fl (flk l N)) rfl rfl _ _ hA (arrSize _) (by rw [fl_size, fl_size]) (fl_cell _) ?_
           change wpList _ _ _ _ _ (World.setRow (w2.alloc (.cells (fl fun _ => false) 49)) w2.heap.size (fl (flk l N)))
           have hA2 : Flags (World.setRow (w2.alloc (.cells (fl fun _ => false) 49)) w2.heap.size (fl (flk l N))) w2.heap.size (flk l N) := setRow_heap _ _ _ _ _ _ hA
           have hb3 : Below w.heap.size w (World.setRow (w2.alloc (.cells (fl fun _ => false) 49)) w2.heap.size (fl (flk l N))) := (hbw.alloc hbw.size _).trans (setRow_below hbw.size)
           generalize (World.setRow (w2.alloc (.cells (fl fun _ => false) 49)) w2.heap.size (fl (flk l N))) = w3 at *
           have hc := hA2.at I hI2
           have hf := hA2.free I
           have hA3 := hA2.set I o hI2)
        | (refine wpList_load_row rfl _ _ rfl w2.heap.size rfl _ _ _ _ hA3 arrDesc rfl (arrSize _) ?_))
      refine (bitmap_any (fun j => if j = I then o else flk l N j) N _ HC.out).mono ?_
      rintro e w4 ⟨v4, rfl, hown4, hb4⟩
      go_wp2
      go_ret2
      have hb5 : Below w.heap.size w (w3.setCell ⟨w2.heap.size, I, none⟩ (.bool o)) := hb3.setCell hbw.size _
      exact ⟨v4, rfl, hown4.mono hb5.size, hb5.trans (hb4.mono hb5.size)⟩
    · have hib : isIn i n = false := decide_eq_false hin
      obtain ⟨e1, e2⟩ := setL_no (l := l) o (show ¬ setOk l n i from fun h => hin h.2)
      rw [e1, e2]
      clear hok hin e1 e2
      go_enter Tryd.func15, Tryd.ntmps15
      go_wp2_with fail
      refine (implBitsOk_any _ l _ _ h hl).mono ?_
      rw [hob]
      rintro e w1 ⟨rfl, hb1⟩
      go_wp2_with fail
      refine (isSigner_any _ _ _).mono ?_
      rw [hib]
      rintro e w' ⟨rfl, rfl⟩
      go_wp2
      go_ret2
      exact ⟨_, rfl, World.ownsRow_nil _ _ _ _, hb1⟩
  · have hob := okB_no hok
    obtain ⟨e1, e2⟩ := setL_no (l := l) o (show ¬ setOk l n i from fun h => hok h.1)
    rw [e1, e2]
    clear hok e1 e2
    go_enter Tryd.func15, Tryd.ntmps15
    go_wp2_with fail
    refine (implBitsOk_any _ l _ _ h hl).mono ?_
    rw [hob]
    rintro e w1 ⟨rfl, hb1⟩
    go_wp2
    go_ret2
    exact ⟨_, rfl, World.ownsRow_nil _ _ _ _, hb1⟩
end Go.Proofs.YtoaokhhpgoabmaaDoor
