/- PutTc, of the program and of its model. -/
import Derived.Test.YtickneafppbegaaTcOkS
import Derived.Test.YtickneafppbegaaTcOk
import Derived.Test.YtickneafppbegaaPutVote
import Derived.Test.YtickneafppbegaaAppF
import Derived.Deep.RegionHeld3
namespace Go.Proofs.Ytickneafppbegaa
open Go.ChangeShapes Go.WideShapes Go.ChangeAt Go.RowKit

/-- An entry behind l. -/
def entL (l : List UInt8) (t : Et) : List UInt8 := putVarL (putVarL l t.x) t.y ++ t.k
/-- Entries, one behind the other. -/
def entsL (l : List UInt8) (L : List Et) : List UInt8 := L.foldl entL l
theorem entsL_take (l : List UInt8) (L : List Et) (j : Nat) (t : Et) (h : L[j]? = some t) : entsL l (L.take (j + 1)) = entL (entsL l (L.take j)) t := by
  unfold entsL
  rw [List.take_add_one, h, List.foldl_append]
  rfl
theorem entL_len (l : List UInt8) (t : Et) : (entL l t).length ≤ l.length + 18 + t.k.length := by
  have h1 := putVarL_len l t.x
  have h2 := putVarL_len (putVarL l t.x) t.y
  unfold entL
  rw [List.length_append]
  omega
theorem entsL_len : ∀ (L : List Et) (l : List UInt8), (∀ t ∈ L, t.k.length = 32) → (entsL l L).length ≤ l.length + 50 * L.length
  | [], l, _ => by simp [entsL]
  | t :: L, l, h => by
    have h1 := entsL_len L (entL l t) (fun q hq => h q (.tail _ hq))
    have h2 := h t (.head _)
    have h3 := entL_len l t
    unfold entsL at h1 ⊢
    simp only [List.foldl_cons, List.length_cons]
    omega
/-- What PutTc writes of a valid timeout certificate behind l. -/
def tcL (l : List UInt8) (x : Int) (L : List Et) : List UInt8 := entsL (putVarL (putVarL l x) L.length) L
noncomputable def putTcL (a b c d e : Int) (l : List UInt8) (x : Int) (L : List Et) : List UInt8 := if tcB a b c d e x L = true then tcL l x L else []
theorem tcB_parts {a b c d e x : Int} {L : List Et} (h : tcB a b c d e x L = true) : L.length ≤ 10 ∧ ∀ t ∈ L, t.k.length = 32 := by
  obtain ⟨h1, h2, h3, h4⟩ := tcB_yes h
  have h5 := (limB_yes h1).1
  unfold cntOk at h5
  refine ⟨by omega, fun t ht => ?_⟩
  obtain ⟨i, hi⟩ := List.getElem?_of_mem ht
  exact (entB_yes (entsB_all h4 i t hi).1).2.2.2.2
theorem putTcL_len (a b c d e : Int) (l : List UInt8) (x : Int) (L : List Et) : (putTcL a b c d e l x L).length ≤ l.length + 600 := by
  unfold putTcL
  split
  · rename_i h
    obtain ⟨h1, h2⟩ := tcB_parts h
    have h3 := putVarL_len l x
    have h4 := putVarL_len (putVarL l x) L.length
    have h5 := entsL_len L (putVarL (putVarL l x) L.length) h2
    unfold tcL
    omega
  · simp

set_option maxRecDepth 100000 in
set_option maxHeartbeats 8000000 in
theorem implPutTc_any (a b c0 d e x : Int) (t s : Value) (l : List UInt8) (L : List Et) (w : World) (ht : Sl w w.heap.size t l) (hs : SlE w w.heap.size s L) (hl : l.length ≤ 536870912) :
    Calls Try.prog 18 #[.agg #[.int .i64 a, .int .i64 b, .int .i64 c0, .int .i64 d, .int .i64 e], t, .agg #[.int .i64 x, s]] w (Fresh2 w (putTcL a b c0 d e l x L) (.bool (tcB a b c0 d e x L))) := by
  have HT0 := Lib.hid ht
  have HS0 := Lib.hid hs
  obtain ⟨A0, tc, rfl, p1, p2, p0, p3⟩ := ht
  clear p1 p2 p0 p3
  obtain ⟨A, c, rfl, h1, h2, h0, h3⟩ := hs
  unfold maxLen at h2
  clear h0
  have hP : tcB a b c0 d e x L = true → (L.length ≤ 10 ∧ ∀ t ∈ L, t.k.length = 32) ∧ putTcL a b c0 d e l x L = entsL (putVarL (putVarL l x) L.length) L := fun h => ⟨tcB_parts h, if_pos h⟩
  have hN : tcB a b c0 d e x L = false → putTcL a b c0 d e l x L = [] := fun h => if_neg (by simp [h])
  obtain ⟨R, hR⟩ : ∃ R, R = putTcL a b c0 d e l x L := ⟨_, rfl⟩
  obtain ⟨x0, g0⟩ : ∃ x0, x0 = tcB a b c0 d e x L := ⟨_, rfl⟩
  rw [← hR] at hP hN ⊢
  rw [← g0] at hP hN ⊢
  have G0 := Lib.hid g0
  have HP := Lib.hid hP
  have HN := Lib.hid hN
  clear hP hN hR g0
  have H0 : InvF w _ [segX 33 (w.heap.size + 1) [.int .i64 x, .slice A L.length c], segX 29 w.heap.size [.int .i64 a, .int .i64 b, .int .i64 c0, .int .i64 d, .int .i64 e]] := ((InvF.start w).newG 29 #[.int .i64 a, .int .i64 b, .int .i64 c0, .int .i64 d, .int .i64 e] w.heap.size).newG 33 #[.int .i64 x, .slice A L.length c] (w.heap.size + 1)
  go_enter Try.func18, Try.ntmps18
  go_wp2_with fail
  refine (implTcOk_any a b c0 d e x _ L _ (HS0.out.up H0.bel)).mono ?_
  rw [← G0.out]
  rintro ev w1 ⟨rfl, hb1⟩
  have H := H0.up hb1
  clear H0 hb1
  rcases x0 with _ | _
  · go_wp2
    go_ret2
    exact ⟨_, rfl, by rw [HN.out (by first | trivial | rfl)]; exact World.ownsRow_nil _ _ _ _, H.bel⟩
  obtain ⟨⟨hT8, hT32⟩, hRe⟩ := HP.out (by first | trivial | rfl)
  have HRE := Lib.hid hRe
  have hbd : Hid (∀ j, (entsL (putVarL (putVarL l x) L.length) (L.take j)).length ≤ 1073741000) := Lib.hid (fun j => by
    have k0 := putVarL_len l x
    have k1 := putVarL_len (putVarL l x) L.length
    have k2 := entsL_len (L.take j) (putVarL (putVarL l x) L.length) (fun r hr => hT32 r (List.mem_of_mem_take hr))
    have k3 : (L.take j).length ≤ 10 := by rw [List.length_take]; omega
    omega)
  have hbr : Hid (∀ t ∈ L, t.k.length = 32) := Lib.hid hT32
  have hst := Lib.hid (fun j t hj => entsL_take (putVarL (putVarL l x) L.length) L j t hj)
  clear HP HN hT32 hRe
  obtain ⟨o0, o1⟩ := H.c2 (.head _)
  obtain ⟨t0, t1, t2, t3, t4⟩ := H.c5 (.tail _ (.head _))
  go_wp2_with fail
  have hI2 := Lib.hid (show OwnI 3 (w1.alloc (.cells #[.int .i64 x, .int .i64 (L.length : Int)] 3)) w1.heap.size (.slice (some ⟨w1.heap.size, 0, none⟩) 2 2) [x, (L.length : Int)] from World.ownsRow_lit w1 #[.int .i64 x, .int .i64 (L.length : Int)] 2 (Nat.le_refl _) (by simp [maxLen]) rfl).sl
  have H3 := H.up ((Below.refl _ _).alloc (Nat.le_refl _) (.cells #[.int .i64 x, .int .i64 (L.length : Int)] 3))
  refine (putNumbers_any _ _ l [x, (L.length : Int)] _ (HT0.out.up H3.bel) hI2.out (by simp) (by simp) (by omega)).mono ?_
  rintro ev w3 ⟨v3, rfl, ho3, hb3⟩
  have H4 : InvF w w3 [segB 5 v3 (putVarL (putVarL l x) L.length), segX 33 (w.heap.size + 1) [.int .i64 x, .slice A L.length c], segX 29 w.heap.size [.int .i64 a, .int .i64 b, .int .i64 c0, .int .i64 d, .int .i64 e]] := H3.moreB ho3 hb3
  clear H H3 ho3 hb3 o0 o1 t0 t1 t2 t3 t4 hI2
  have H5 : Hid (InvF w w3 [segB 5 v3 (entsL (putVarL (putVarL l x) L.length) (L.take 0)), segX 33 (w.heap.size + 1) [.int .i64 x, .slice A L.length c], segX 29 w.heap.size [.int .i64 a, .int .i64 b, .int .i64 c0, .int .i64 d, .int .i64 e]]) := Lib.hid H4
  generalize putVarL (putVarL l x) (L.length : Int) = h9 at *
  obtain ⟨o0, o1⟩ := H4.c2 (.tail _ (.head _))
  clear H4
  go_wp2
  go_loopw [1, 25] (fun bv i wr => ∃ (j : Nat) (ov : Value), ov = bv ∧ j ≤ L.length ∧ i = .int .i64 (j : Int) ∧ Hid (InvF w wr [segB 5 ov (entsL h9 (L.take j)), segX 33 (w.heap.size + 1) [.int .i64 x, .slice A L.length c], segX 29 w.heap.size [.int .i64 a, .int .i64 b, .int .i64 c0, .int .i64 d, .int .i64 e]]))
    (fun _ i _ => L.length - (intOf i).toNat)
  case atStart => exact ⟨0, _, rfl, Nat.zero_le _, rfl, H5⟩
  case round =>
    clear H5 o0 o1
    obtain ⟨j, ov, rfl, hj, rfl, Hj⟩ := hrel
    by_cases hlt : j < L.length
    · obtain ⟨b0, off, rfl, hbb, hcell⟩ := h3 (by omega)
      obtain ⟨t, ht⟩ := getE hlt
      obtain ⟨u, g0, g1, g2, s1⟩ := hcell j t ht
      replace g0 := (Hj.out.bel.cell (p := ⟨b0, off + j * 3, none⟩) hbb).trans g0
      replace g1 := (Hj.out.bel.cell (p := ⟨b0, off + j * 3 + 1, none⟩) hbb).trans g1
      replace g2 := (Hj.out.bel.cell (p := ⟨b0, off + j * 3 + 2, none⟩) hbb).trans g2
      have HS1 := Lib.hid s1
      have H32 := Lib.hid (hbr.out t (List.mem_of_getElem? ht))
      have HST := Lib.hid (hst.out j t ht)
      have HBD := Lib.hid (hbd.out j)
      have HBD1 := Lib.hid (hbd.out (j + 1))
      obtain ⟨A1, e1, rfl, _⟩ := s1
      obtain ⟨tx, ty, tk⟩ := t
      unfold entL at HST
      dsimp only at *
      clear hcell ht
      obtain ⟨out, hout⟩ : ∃ out, out = entsL h9 (L.take j) := ⟨_, rfl⟩
      obtain ⟨out', hout'⟩ : ∃ out', out' = entsL h9 (L.take (j + 1)) := ⟨_, rfl⟩
      rw [← hout, ← hout'] at HST
      rw [← hout] at HBD Hj
      have HO' := Lib.hid hout'
      clear hout hout'
      have HE : InvF w _ [segX 53 wr.heap.size [.int .i64 tx, .int .i64 ty, .slice A1 tk.length e1], segB 5 ov out, segX 33 (w.heap.size + 1) [.int .i64 x, .slice (some ⟨b0, off, none⟩) L.length c], segX 29 w.heap.size [.int .i64 a, .int .i64 b, .int .i64 c0, .int .i64 d, .int .i64 e]] := Hj.out.newG 53 #[.int .i64 tx, .int .i64 ty, .slice A1 tk.length e1] wr.heap.size
      obtain ⟨m0, m1, m2⟩ := HE.c3 (.head _)
      go_wp2_with fail
      have hw1 : (wr.alloc (.cells #[.int .i64 tx, .int .i64 ty, .slice A1 tk.length e1] 53)).heap.size = wr.heap.size + 1 := by simp
      have hI2 := Lib.hid (show OwnI 3 ((wr.alloc (.cells #[.int .i64 tx, .int .i64 ty, .slice A1 tk.length e1] 53)).alloc (.cells #[.int .i64 tx, .int .i64 ty] 3)) (wr.heap.size + 1) (.slice (some ⟨wr.heap.size + 1, 0, none⟩) 2 2) [tx, ty] from by
        have h := World.ownsRow_lit (base := wr.heap.size + 1) (e := 3) (size := 1) (wr.alloc (.cells #[.int .i64 tx, .int .i64 ty, .slice A1 tk.length e1] 53)) #[.int .i64 tx, .int .i64 ty] 2 (by rw [hw1]; exact Nat.le_refl _) (by simp [maxLen]) rfl
        rw [hw1] at h
        exact h).sl
      have H3 := HE.up ((Below.refl _ _).alloc (Nat.le_refl _) (.cells #[.int .i64 tx, .int .i64 ty] 3))
      clear HE hw1
      refine (putNumbers_any _ _ out [tx, ty] _ (H3.slB 5 (.tail _ (.head _))) hI2.out (by simp) (by simp) (by have := HBD.out; omega)).mono ?_
      rintro ev w5 ⟨v5, rfl, ho5, hb5⟩
      have H5 := H3.moreB ho5 hb5
      obtain ⟨m0, m1, m2⟩ := H5.c3 (.tail _ (.head _))
      have HV5 := Lib.hid H5
      have HLN : Hid ((numsL out [tx, ty]).length ≤ 4294967296) := Lib.hid (by have q := numsL_len out [tx, ty]; have := HBD.out; simp only [List.length_cons, List.length_nil] at q; omega)
      clear H3 ho5 hb5 hI2 H5
      go_wp2_with fail
      refine (joined_any v5 (.slice A1 tk.length e1) (numsL out [tx, ty]) tk _ (HV5.out.slB 5 (.head _)) (HS1.out.up HV5.out.bel) HLN.out (by have := H32.out; omega)).mono ?_
      rintro ev w6 ⟨v6, rfl, ho6, hb6⟩
      have H6 := HV5.out.moreB ho6 hb6
      have HF : Hid (InvF w w6 [segB 5 v6 (entsL h9 (L.take (j + 1))), segX 33 (w.heap.size + 1) [.int .i64 x, .slice (some ⟨b0, off, none⟩) L.length c], segX 29 w.heap.size [.int .i64 a, .int .i64 b, .int .i64 c0, .int .i64 d, .int .i64 e]]) := Lib.hid (by rw [← HO'.out, HST.out]; exact H6.sub (.cons_cons _ (.cons _ (.cons _ (.cons _ (.cons_cons _ (.cons_cons _ .slnil)))))))
      clear H6 HV5 ho6 hb6 m0 m1 m2
      go_wp2
      go_roundw
      case rel => exact ⟨j + 1, v6, rfl, by omega, by go_num, HF⟩
      case measure => simp [intOf]; omega
    · obtain rfl : j = L.length := by omega
      have hfull : L.take L.length = L := List.take_length
      rw [hfull] at Hj
      clear hfull
      go_wp2
      go_ret2
      exact ⟨_, rfl, by rw [HRE.out]; exact Hj.out.ownB 5 (.head _), Hj.out.bel⟩

set_option maxRecDepth 100000 in
set_option maxHeartbeats 8000000 in
theorem specPutTc_any (a b c0 d e x : Int) (t s : Value) (l : List UInt8) (L : List Et) (w : World) (ht : Sl w w.heap.size t l) (hs : SlE w w.heap.size s L) (hl : l.length ≤ 536870912) :
    Calls Try.prog 16 #[.agg #[.int .i64 a, .int .i64 b, .int .i64 c0, .int .i64 d, .int .i64 e], t, .agg #[.int .i64 x, s]] w (Fresh2 w (putTcL a b c0 d e l x L) (.bool (tcB a b c0 d e x L))) := by
  obtain ⟨i0, hi, hz0, hz1, hz2⟩ := info_parts u8info
  have HT0 := Lib.hid ht
  have HS0 := Lib.hid hs
  obtain ⟨A0, tc, rfl, p1, p2, p0, p3⟩ := ht
  clear p1 p2 p0 p3
  obtain ⟨A, c, rfl, h1, h2, h0, h3⟩ := hs
  unfold maxLen at h2
  clear h0
  have hP : tcB a b c0 d e x L = true → (L.length ≤ 10 ∧ ∀ t ∈ L, t.k.length = 32) ∧ putTcL a b c0 d e l x L = entsL (putVarL (putVarL l x) L.length) L := fun h => ⟨tcB_parts h, if_pos h⟩
  have hN : tcB a b c0 d e x L = false → putTcL a b c0 d e l x L = [] := fun h => if_neg (by simp [h])
  obtain ⟨R, hR⟩ : ∃ R, R = putTcL a b c0 d e l x L := ⟨_, rfl⟩
  obtain ⟨x0, g0⟩ : ∃ x0, x0 = tcB a b c0 d e x L := ⟨_, rfl⟩
  rw [← hR] at hP hN ⊢
  rw [← g0] at hP hN ⊢
  have G0 := Lib.hid g0
  have HP := Lib.hid hP
  have HN := Lib.hid hN
  clear hP hN hR g0
  have H0 : InvF w _ [segX 33 (w.heap.size + 1) [.int .i64 x, .slice A L.length c], segX 29 w.heap.size [.int .i64 a, .int .i64 b, .int .i64 c0, .int .i64 d, .int .i64 e]] := ((InvF.start w).newG 29 #[.int .i64 a, .int .i64 b, .int .i64 c0, .int .i64 d, .int .i64 e] w.heap.size).newG 33 #[.int .i64 x, .slice A L.length c] (w.heap.size + 1)
  go_enter Try.func16, Try.ntmps16
  go_wp2_with fail
  refine (specTcOk_any a b c0 d e x _ L _ (HS0.out.up H0.bel)).mono ?_
  rw [← G0.out]
  rintro ev w1 ⟨rfl, hb1⟩
  have H := H0.up hb1
  clear H0 hb1
  rcases x0 with _ | _
  · go_wp2
    go_ret2
    exact ⟨_, rfl, by rw [HN.out (by first | trivial | rfl)]; exact World.ownsRow_nil _ _ _ _, H.bel⟩
  obtain ⟨⟨hT8, hT32⟩, hRe⟩ := HP.out (by first | trivial | rfl)
  have HRE := Lib.hid hRe
  have hbd : Hid (∀ j, (entsL (putVarL (putVarL l x) L.length) (L.take j)).length ≤ 1073741000) := Lib.hid (fun j => by
    have k0 := putVarL_len l x
    have k1 := putVarL_len (putVarL l x) L.length
    have k2 := entsL_len (L.take j) (putVarL (putVarL l x) L.length) (fun r hr => hT32 r (List.mem_of_mem_take hr))
    have k3 : (L.take j).length ≤ 10 := by rw [List.length_take]; omega
    omega)
  have hbr : Hid (∀ t ∈ L, t.k.length = 32) := Lib.hid hT32
  have hst := Lib.hid (fun j t hj => entsL_take (putVarL (putVarL l x) L.length) L j t hj)
  clear HP HN hT32 hRe
  obtain ⟨o0, o1⟩ := H.c2 (.head _)
  obtain ⟨t0, t1, t2, t3, t4⟩ := H.c5 (.tail _ (.head _))
  have hlx : Hid ((putVarL l x).length ≤ 4294967296) := Lib.hid (by have := putVarL_len l x; omega)
  have HX := Lib.hid (H.drewN 1)
  have HKX := Lib.hid (HX.out.c2 (.head _))
  clear H
  go_wp2_with fail
  go_region_held3 (fun w' => w'.cell? ⟨w.heap.size + 1, 0, none⟩ = some (.int .i64 x) ∧ w'.cell? ⟨w.heap.size + 1, 1, none⟩ = some (.slice A L.length c))
    (first
      | exact HKX.out
      | exact HK2.out
      | exact HK3.out)
    (first
      | (go_at_call_of 40 (Value.slice A0 l.length tc); refine (l11Num_any (.slice A0 l.length tc) l x _ (HT0.out.up HX.out.bel) (by omega)).mono ?_; rintro e w2 ⟨v2, rfl, ho2, hb2⟩; have H2 := Lib.hid (HX.out.moreB ho2 hb2); have HK2 := Lib.hid (H2.out.c2 (.tail _ (.head _))); clear ho2 hb2)
      | (go_at_call_of 40 v2; refine (l11Num_any v2 (putVarL l x) L.length _ (H2.out.slB 5 (.head _)) hlx.out).mono ?_; rintro e w3 ⟨v3, rfl, ho3, hb3⟩; have H3 := Lib.hid (H2.out.moreB ho3 hb3); have HK3 := Lib.hid (H3.out.c2 (.tail _ (.tail _ (.head _)))); clear ho3 hb3))
  have H4 : InvF w w3 [segB 5 v3 (putVarL (putVarL l x) L.length), segX 33 (w.heap.size + 1) [.int .i64 x, .slice A L.length c], segX 29 w.heap.size [.int .i64 a, .int .i64 b, .int .i64 c0, .int .i64 d, .int .i64 e]] := H3.out.sub (.cons_cons _ (.cons _ (.cons_cons _ (.cons_cons _ .slnil))))
  clear HX HKX HK2 HK3 H2 H3 o0 o1 t0 t1 t2 t3 t4
  have H5 : Hid (InvF w w3 [segB 5 v3 (entsL (putVarL (putVarL l x) L.length) (L.take 0)), segX 33 (w.heap.size + 1) [.int .i64 x, .slice A L.length c], segX 29 w.heap.size [.int .i64 a, .int .i64 b, .int .i64 c0, .int .i64 d, .int .i64 e]]) := Lib.hid H4
  generalize putVarL (putVarL l x) (L.length : Int) = h9 at *
  obtain ⟨o0, o1⟩ := H4.c2 (.tail _ (.head _))
  clear H4
  go_wp2
  go_loopw [8, 26] (fun bv i wr => ∃ (j : Nat) (ov : Value), ov = bv ∧ j ≤ L.length ∧ i = .int .i64 (j : Int) ∧ Hid (InvF w wr [segB 5 ov (entsL h9 (L.take j)), segX 33 (w.heap.size + 1) [.int .i64 x, .slice A L.length c], segX 29 w.heap.size [.int .i64 a, .int .i64 b, .int .i64 c0, .int .i64 d, .int .i64 e]]))
    (fun _ i _ => L.length - (intOf i).toNat)
  case atStart => exact ⟨0, _, rfl, Nat.zero_le _, rfl, H5⟩
  case round =>
    clear H5 o0 o1
    obtain ⟨j, ov, rfl, hj, rfl, Hj⟩ := hrel
    by_cases hlt : j < L.length
    · obtain ⟨b0, off, rfl, hbb, hcell⟩ := h3 (by omega)
      obtain ⟨t, ht⟩ := getE hlt
      obtain ⟨u, g0, g1, g2, s1⟩ := hcell j t ht
      replace g0 := (Hj.out.bel.cell (p := ⟨b0, off + j * 3, none⟩) hbb).trans g0
      replace g1 := (Hj.out.bel.cell (p := ⟨b0, off + j * 3 + 1, none⟩) hbb).trans g1
      replace g2 := (Hj.out.bel.cell (p := ⟨b0, off + j * 3 + 2, none⟩) hbb).trans g2
      have HS1 := Lib.hid s1
      have H32 := Lib.hid (hbr.out t (List.mem_of_getElem? ht))
      have HST := Lib.hid (hst.out j t ht)
      have HBD := Lib.hid (hbd.out j)
      have HBD1 := Lib.hid (hbd.out (j + 1))
      obtain ⟨A1, e1, rfl, _⟩ := s1
      obtain ⟨tx, ty, tk⟩ := t
      unfold entL at HST
      dsimp only at *
      clear hcell ht
      obtain ⟨out, hout⟩ : ∃ out, out = entsL h9 (L.take j) := ⟨_, rfl⟩
      obtain ⟨out', hout'⟩ : ∃ out', out' = entsL h9 (L.take (j + 1)) := ⟨_, rfl⟩
      rw [← hout, ← hout'] at HST
      rw [← hout] at HBD Hj
      have HO' := Lib.hid hout'
      clear hout hout'
      have HE : InvF w _ [segX 53 wr.heap.size [.int .i64 tx, .int .i64 ty, .slice A1 tk.length e1], segB 5 ov out, segX 33 (w.heap.size + 1) [.int .i64 x, .slice (some ⟨b0, off, none⟩) L.length c], segX 29 w.heap.size [.int .i64 a, .int .i64 b, .int .i64 c0, .int .i64 d, .int .i64 e]] := Hj.out.newG 53 #[.int .i64 tx, .int .i64 ty, .slice A1 tk.length e1] wr.heap.size
      have hln : Hid (out.length ≤ 4294967296 ∧ (putVarL out tx).length ≤ 4294967296 ∧ 0 < tk.length ∧ (putVarL (putVarL out tx) ty).length + tk.length ≤ 2147483648) := Lib.hid (by
        have q1 := putVarL_len out tx; have q2 := putVarL_len (putVarL out tx) ty; have q3 := HBD.out; have q4 := H32.out
        omega)
      have HX := Lib.hid (HE.drewN 1)
      have HKX := Lib.hid (HX.out.c3 (.head _))
      clear HE
      go_wp2_with fail
      go_region_held3 (fun w' => w'.cell? ⟨wr.heap.size, 0, none⟩ = some (.int .i64 tx) ∧ w'.cell? ⟨wr.heap.size, 1, none⟩ = some (.int .i64 ty) ∧ w'.cell? ⟨wr.heap.size, 2, none⟩ = some (.slice A1 tk.length e1))
        (first
          | exact HKX.out
          | exact HK2.out
          | exact HK3.out
          | exact HK4.out)
        (first
          | (go_at_call_of 40 ov; refine (l11Num_any ov out tx _ (HX.out.slB 5 (.tail _ (.head _))) hln.out.1).mono ?_; rintro e w2 ⟨v2, rfl, ho2, hb2⟩; have H2 := Lib.hid (HX.out.moreB ho2 hb2); have HK2 := Lib.hid (H2.out.c3 (.tail _ (.head _))); clear ho2 hb2)
          | (go_at_call_of 40 v2; refine (l11Num_any v2 (putVarL out tx) ty _ (H2.out.slB 5 (.head _)) hln.out.2.1).mono ?_; rintro e w5 ⟨v5, rfl, ho5, hb5⟩; have H5 := Lib.hid (H2.out.moreB ho5 hb5); have HK3 := Lib.hid (H5.out.c3 (.tail _ (.tail _ (.head _)))); clear ho5 hb5)
          | (refine step_appF (W := w) (w := w5) (by rfl) (.tmp 36) (.tmp 38) 38 rfl 5 i0 Try.underlying38 hi hz0 hz1 hz2 v5 (putVarL (putVarL out tx) ty) (by rfl) _ tk (by rfl) (HS1.out.up H5.out.bel) hln.out.2.2.1 H5.out (by have := hln.out.2.2.2; omega) ?_; intro v6 w6 hh6; have H6 := Lib.hid hh6; have HK4 := Lib.hid (H6.out.c3 (.tail _ (.tail _ (.head _)))); clear hh6))
      have HF : Hid (InvF w w6 [segB 5 v6 (entsL h9 (L.take (j + 1))), segX 33 (w.heap.size + 1) [.int .i64 x, .slice (some ⟨b0, off, none⟩) L.length c], segX 29 w.heap.size [.int .i64 a, .int .i64 b, .int .i64 c0, .int .i64 d, .int .i64 e]]) := Lib.hid (by rw [← HO'.out, HST.out]; exact H6.out.sub (.cons_cons _ (.cons _ (.cons _ (.cons _ (.cons_cons _ (.cons_cons _ .slnil)))))))
      clear H6 H5 H2 HX HKX HK2 HK3 HK4
      go_wp2
      go_roundw
      case rel => exact ⟨j + 1, v6, rfl, by omega, by go_num, HF⟩
      case measure => simp [intOf]; omega
    · obtain rfl : j = L.length := by omega
      have hfull : L.take L.length = L := List.take_length
      rw [hfull] at Hj
      clear hfull
      go_wp2
      go_ret2
      exact ⟨_, rfl, by rw [HRE.out]; exact Hj.out.ownB 5 (.head _), Hj.out.bel⟩

end Go.Proofs.Ytickneafppbegaa
