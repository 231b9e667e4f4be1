/- The contracts of BitsOf, as the program has it and as its model has it. -/
import Derived.Test.YtickneafppbegaaSet
import Derived.Test.YtickneafppbegaaStackBase
namespace Go.Proofs.Ytickneafppbegaa
open Go.ChangeShapes Go.WideShapes Go.ChangeAt Go.RowKit

/-- Whether signer j is among the first k of zs. -/
def mem (zs : List Int) (k j : Nat) : Bool := decide ((j : Int) ∈ zs.take k)
theorem take_it (zs : List Int) (k : Nat) (h : k < zs.length) : zs.take (k + 1) = zs.take k ++ [it zs k] := by
  rw [List.take_add_one, List.getElem?_eq_getElem h, it, List.getD_eq_getElem?_getD, List.getElem?_eq_getElem h]
  rfl
theorem it_mem (zs : List Int) (k : Nat) (h : k < zs.length) : it zs k ∈ zs := by
  rw [it, List.getD_eq_getElem?_getD, List.getElem?_eq_getElem h]
  exact List.getElem_mem h
theorem mem_succ (zs : List Int) (k X j : Nat) (h : k < zs.length) (hx : it zs k = (X : Int)) : mem zs (k + 1) j = if j = X then true else mem zs k j := by
  unfold mem
  rw [take_it zs k h, hx]
  by_cases e : j = X
  · rw [if_pos e, e]
    simp
  · rw [if_neg e]
    apply decide_eq_decide.2
    rw [List.mem_append, List.mem_singleton]
    exact ⟨fun h => h.elim id fun h => absurd h (by omega), .inl⟩
/-- The first k of zs are signers. -/
def fit (zs : List Int) (k : Nat) (n : Int) : Prop := ∀ z ∈ zs.take k, 0 ≤ z ∧ z < n
theorem fit_succ {zs : List Int} {k : Nat} {n : Int} (h : k < zs.length) : fit zs (k + 1) n ↔ fit zs k n ∧ 0 ≤ it zs k ∧ it zs k < n := by
  unfold fit
  rw [take_it zs k h]
  constructor
  · intro hf
    exact ⟨fun z hz => hf z (List.mem_append_left _ hz), hf _ (List.mem_append_right _ (List.mem_singleton.2 rfl))⟩
  · rintro ⟨h1, h2⟩ z hz
    rcases List.mem_append.1 hz with hz | hz
    · exact h1 z hz
    · rw [List.mem_singleton.1 hz]
      exact h2
theorem fit_all {zs : List Int} {n : Int} : fit zs zs.length n ↔ ∀ z ∈ zs, 0 ≤ z ∧ z < n := by
  unfold fit
  rw [List.take_of_length_le (Nat.le_refl _)]
theorem ofL_no {zs : List Int} {n : Int} (h : ¬ ofOk zs n) : ofL zs n = [] ∧ ofB zs n = false := ⟨if_neg h, decide_eq_false h⟩
theorem ofL_yes {zs : List Int} {n : Int} (h : ofOk zs n) : ofL zs n = ofBits (mem zs zs.length) (sizeB n).toNat ∧ ofB zs n = true := by
  refine ⟨?_, decide_eq_true h⟩
  unfold ofL mem
  rw [if_pos h, List.take_of_length_le (Nat.le_refl _)]

set_option maxRecDepth 100000 in
set_option maxHeartbeats 1000000 in
theorem implBitsOf_any (v : Value) (zs : List Int) (n : Int) (w : World) (h : SlI w w.heap.size v zs) (hl : zs.length ≤ 4294967296) :
    Calls Try.prog 45 #[v, .int .i64 n] w (Fresh2 w (ofL zs n) (.bool (ofB zs n))) := by
  obtain ⟨A, c, rfl, h1, h2, h0, h3⟩ := h
  unfold maxLen at h2
  clear h0
  by_cases hn : cntOk n
  · have hd := decide_eq_true hn
    have hn2 : n ≤ 10 := hn.2
    have HC := Lib.hid hn
    have hA := (flags_new w fun _ => false).ext (f' := mem zs 0) fun i _ => by simp [mem]
    have hB : Below w.heap.size w (w.alloc (.cells (fl fun _ => false) 76)) := (Below.refl _ _).alloc (Nat.le_refl _) _
    clear hn
    go_enter Try.func45, Try.ntmps45
    go_wp2_with fail
    refine (isSignerCount_any _ _).mono ?_
    rw [hd]
    rintro e w' ⟨rfl, rfl⟩
    go_wp2
    go_loopw [14] (fun i wr => ∃ k : Nat, k ≤ zs.length ∧ i = .int .i64 k ∧ fit zs k n ∧ Flags wr w.heap.size (mem zs k) ∧ Below w.heap.size w wr)
      (fun i _ => zs.length - (intOf i).toNat)
    case atStart => exact ⟨0, Nat.zero_le _, rfl, fun z hz => absurd hz (by simp), hA, hB⟩
    case round =>
      obtain ⟨k, hk, rfl, hfit, hF, hbel⟩ := hrel
      have HF := Lib.hid hfit
      clear hfit
      by_cases hlt : k < zs.length
      · obtain ⟨b, off, rfl, hbb, hcell⟩ := h3 (by omega)
        have hc0 := (hbel.cell (p := ⟨b, off + k, none⟩) hbb).trans (hcell k hlt)
        clear hcell h3
        by_cases hin : 0 ≤ it zs k ∧ it zs k < n
        · have hib : isIn (it zs k) n = true := decide_eq_true hin
          have hfs := Lib.hid ((fit_succ hlt).2 ⟨HF.out, hin⟩)
          have hms := fun X j => mem_succ zs k X j hlt
          generalize it zs k = x at *
          obtain ⟨X, rfl⟩ := Int.eq_ofNat_of_zero_le hin.1
          have hX : (X : Int) < 16 := by omega
          have hc1 := hF.at X (by omega)
          have hf1 := hF.free X
          have hst := Lib.hid ((hF.set X true (by omega)).ext (f' := mem zs (k + 1)) fun j _ => (hms X j rfl).symm)
          clear hms hin
          go_wp2_with fail
          refine (isSigner_any _ _ _).mono ?_
          rw [hib]
          rintro e w' ⟨rfl, rfl⟩
          go_wp2
          go_roundw
          case rel => exact ⟨k + 1, by omega, by go_num, hfs.out, hst.out, hbel.setCell (Nat.le_refl _) _⟩
          case measure => simp [intOf]; omega
        · have hib : isIn (it zs k) n = false := decide_eq_false hin
          obtain ⟨e1, e2⟩ := ofL_no (zs := zs) (n := n) (fun h => hin (h.2 _ (it_mem zs k hlt)))
          have E1 := Lib.hid e1
          have E2 := Lib.hid e2
          clear hin e1 e2
          generalize it zs k = x at *
          go_wp2_with fail
          refine (isSigner_any _ _ _).mono ?_
          rw [hib]
          rintro e w' ⟨rfl, rfl⟩
          go_wp2
          go_ret2
          exact ⟨_, by rw [E2.out]; rfl, by rw [E1.out]; exact World.ownsRow_nil _ _ _ _, hbel⟩
      · obtain rfl : k = zs.length := by omega
        have hok : ofOk zs n := ⟨HC.out, fit_all.1 HF.out⟩
        obtain ⟨e1, e2⟩ := ofL_yes hok
        have e3 : ofL zs n = ofBits (fun i => decide ((i : Int) < n) && mem zs zs.length i) (sizeB n).toNat := by
          rw [e1]
          refine eq_ofBits (by rw [ofBits_length]) fun i hi => ?_
          rw [ofBits_bit _ _ _ hi]
          cases hm : mem zs zs.length i
          · rw [Bool.and_false]
          · unfold mem at hm
            rw [decide_eq_true_iff] at hm
            have := HF.out _ hm
            rw [decide_eq_true this.2]
            rfl
        have E2 := Lib.hid e2
        have E3 := Lib.hid e3
        clear hok e1 e2 e3
        go_wp2_with (refine wpList_load_row rfl _ _ rfl w.heap.size rfl _ _ _ _ hF arrDesc rfl (arrSize _) ?_)
        refine (bitmap_any (mem zs zs.length) n _ HC.out).mono ?_
        rintro e w4 ⟨v4, rfl, hown4, hb4⟩
        go_wp2
        go_ret2
        exact ⟨v4, by rw [E2.out]; rfl, by rw [E3.out]; exact hown4.mono hbel.size, hbel.trans (hb4.mono hbel.size)⟩
  · have hd := decide_eq_false hn
    obtain ⟨e1, e2⟩ := ofL_no (zs := zs) (n := n) (fun h => hn h.1)
    rw [e1, e2]
    clear hn h3 e1 e2
    go_enter Try.func45, Try.ntmps45
    go_wp2_with fail
    refine (isSignerCount_any _ _).mono ?_
    rw [hd]
    rintro e w' ⟨rfl, rfl⟩
    go_wp2
    go_ret2
    exact ⟨_, rfl, World.ownsRow_nil _ _ _ _, Below.refl _ _⟩

/-- What the model's loop knows after k rounds. -/
def ofInv (zs : List Int) (n : Int) (k : Nat) (L : List UInt8) (g : Bool) : Prop :=
  L.length ≤ 2 ∧ (g = true → cntOk n ∧ fit zs k n ∧ L = ofBits (mem zs k) (sizeB n).toNat) ∧ (g = false → ¬ ofOk zs n)
theorem ofInv_zero (zs : List Int) (n : Int) : ofInv zs n 0 (newL n) (decide (cntOk n)) := by
  refine ⟨newL_len n, fun h => ?_, fun h => ?_⟩
  · have hn : cntOk n := of_decide_eq_true h
    refine ⟨hn, fun z hz => absurd hz (by simp), ?_⟩
    unfold newL
    rw [if_pos hn]
    exact eq_ofBits (by simp) fun i _ => by rw [replicate_bit]; simp [mem]
  · have hn : ¬ cntOk n := of_decide_eq_false h
    exact fun h => hn h.1
theorem ofInv_step {zs : List Int} {n : Int} {k : Nat} {L : List UInt8} {g : Bool} (h : ofInv zs n k L g) (hk : k < zs.length) : ofInv zs n (k + 1) (setL L n (it zs k) true) (g && setB L n (it zs k)) := by
  obtain ⟨h1, h2, h3⟩ := h
  have hlen := setL_len L n (it zs k) true
  cases g
  · exact ⟨by omega, fun h => (by cases h), fun _ => h3 rfl⟩
  · obtain ⟨hn, hfit, hL⟩ := h2 rfl
    have hsz := sizeB_ok hn
    have hLl : L.length = (sizeB n).toNat := by rw [hL, ofBits_length]
    have hb : ∀ i, i < 8 * L.length → bitL L i = mem zs k i := fun i hi => by
      rw [hL]
      exact ofBits_bit _ _ _ (by omega)
    have hokL : okP L n := by
      refine ⟨hn, by omega, fun i _ hni => ?_⟩
      rcases Nat.lt_or_ge i (8 * L.length) with hlt | hge
      · rw [hb i hlt]
        unfold mem
        rw [decide_eq_false_iff_not]
        intro hm
        have := (hfit _ hm).2
        omega
      · exact bitL_far L i hge
    by_cases hin : 0 ≤ it zs k ∧ it zs k < n
    · obtain ⟨X, hX⟩ := Int.eq_ofNat_of_zero_le hin.1
      have hs : setOk L n (X : Int) := ⟨hokL, by rw [← hX]; exact hin⟩
      obtain ⟨e1, e2⟩ := setL_of (L := ofBits (mem zs (k + 1)) (sizeB n).toNat) (o := true) hs (by rw [ofBits_length, hLl]) (fun j hj => by
        rw [ofBits_bit _ _ _ (by omega), mem_succ zs k X j hk hX, hb j hj])
      refine ⟨by omega, fun _ => ⟨hn, (fit_succ hk).2 ⟨hfit, hin⟩, by rw [hX]; exact e1.symm⟩, fun hf => ?_⟩
      rw [hX, e2] at hf
      cases hf
    · have hno := (setL_no (l := L) (n := n) (i := it zs k) true (fun h => hin h.2)).2
      rw [hno]
      exact ⟨by omega, fun h => (by cases h), fun _ h => hin (h.2 _ (it_mem zs k hk))⟩
set_option maxRecDepth 100000 in
set_option maxHeartbeats 1000000 in
theorem specBitsOf_any (v : Value) (zs : List Int) (n : Int) (w : World) (h : SlI w w.heap.size v zs) (hl : zs.length ≤ 4294967296) :
    Calls Try.prog 44 #[v, .int .i64 n] w (Fresh2 w (ofL zs n) (.bool (ofB zs n))) := by
  obtain ⟨A, c, rfl, h1, h2, h0, h3⟩ := h
  unfold maxLen at h2
  clear h0
  have hz := Lib.hid (ofInv_zero zs n)
  go_enter Try.func44, Try.ntmps44
  go_wp2_with fail
  refine (specBitsNew_any _ _).mono ?_
  rintro e w1 ⟨v1, rfl, hown1, hb1⟩
  go_wp2_with fail
  refine (l02Signers_any _ _).mono ?_
  rintro e w' ⟨rfl, rfl⟩
  go_wp2
  go_loopw [6, 7, 18] (fun b g i wr => ∃ (k : Nat) (L : List UInt8) (gb : Bool), k ≤ zs.length ∧ i = .int .i64 k ∧ g = .bool gb ∧ ofInv zs n k L gb ∧ Own 5 wr w.heap.size b L ∧ Below w.heap.size w wr)
    (fun _ _ i _ => zs.length - (intOf i).toNat)
  case atStart => exact ⟨0, newL n, _, Nat.zero_le _, rfl, rfl, hz.out, hown1, hb1⟩
  case round =>
    obtain ⟨k, L, gb, hk, rfl, rfl, hinv, hown, hbel⟩ := hrel
    have HI := Lib.hid hinv
    have hL2 := hinv.1
    clear hinv
    by_cases hlt : k < zs.length
    · obtain ⟨b, off, rfl, hbb, hcell⟩ := h3 (by omega)
      have hc0 := (hbel.cell (p := ⟨b, off + k, none⟩) hbb).trans (hcell k hlt)
      have hst := Lib.hid (ofInv_step HI.out hlt)
      clear hcell h3
      generalize it zs k = x at *
      go_wp2_with fail
      refine (specBitsSet_any _ L n x true _ hown.sl (by omega)).mono ?_
      rintro e w2 ⟨v2, rfl, hown2, hb2⟩
      cases gb
      · go_wp2
        go_roundw
        case rel => exact ⟨k + 1, _, _, by omega, by go_num, rfl, hst.out, hown2.mono hbel.size, hbel.trans (hb2.mono hbel.size)⟩
        case measure => simp [intOf]; omega
      · go_wp2
        go_roundw
        case rel => exact ⟨k + 1, _, _, by omega, by go_num, rfl, hst.out, hown2.mono hbel.size, hbel.trans (hb2.mono hbel.size)⟩
        case measure => simp [intOf]; omega
    · obtain rfl : k = zs.length := by omega
      cases gb
      · obtain ⟨e1, e2⟩ := ofL_no (HI.out.2.2 rfl)
        have E1 := Lib.hid e1
        have E2 := Lib.hid e2
        clear e1 e2
        go_wp2
        go_ret2
        exact ⟨_, by rw [E2.out]; rfl, by rw [E1.out]; exact World.ownsRow_nil _ _ _ _, hbel⟩
      · obtain ⟨k1, k2, k3⟩ := HI.out.2.1 rfl
        obtain ⟨e1, e2⟩ := ofL_yes (zs := zs) (n := n) ⟨k1, fit_all.1 k2⟩
        have E1 := Lib.hid (e1.trans k3.symm)
        have E2 := Lib.hid e2
        clear e1 e2 k1 k2 k3
        go_wp2
        go_ret2
        exact ⟨_, by rw [E2.out]; rfl, by rw [E1.out]; exact hown, hbel⟩
end Go.Proofs.Ytickneafppbegaa
