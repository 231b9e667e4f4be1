/- PutIncl of the model. -/
import Derived.Test.YtopbalemfljphaaInclOkS
import Derived.Test.YtopbalemfljphaaText
import Derived.Test.YtopbalemfljphaaPutVote
import Derived.Test.YtopbalemfljphaaAppF
import Derived.Deep.RegionHeld3
namespace Go.Proofs.Ytopbalemfljphaa
open Go.ChangeShapes Go.WideShapes Go.ChangeAt Go.RowKit
set_option linter.unusedSimpArgs false

/-- What PutIncl writes of a valid proof of inclusion behind l. -/
def inclL (l : List UInt8) (x y z : Int) (k : List UInt8) (L : List (List UInt8)) : List UInt8 := putTextL (putVarL (putVarL (putVarL l x) y) z) k ++ catL L
def putInclL (a b c d e : Int) (l : List UInt8) (x y z : Int) (k : List UInt8) (L : List (List UInt8)) : List UInt8 := if inclB a b c d e x y z k L = true then inclL l x y z k L else []
theorem inclL_len (l : List UInt8) (x y z : Int) (k : List UInt8) (L : List (List UInt8)) (hk : k.length ≤ 4294967296) : (inclL l x y z k L).length ≤ l.length + k.length + sumL L + 36 := by
  unfold inclL
  rw [List.length_append, catL_length]
  have h0 := putTextL_len (putVarL (putVarL (putVarL l x) y) z) k hk
  have h1 := putVarL_len l x
  have h2 := putVarL_len (putVarL l x) y
  have h3 := putVarL_len (putVarL (putVarL l x) y) z
  omega
theorem putInclL_len (a b c d e : Int) (l : List UInt8) (x y z : Int) (k : List UInt8) (L : List (List UInt8)) (hk : k.length ≤ 4294967296) : (putInclL a b c d e l x y z k L).length ≤ l.length + k.length + sumL L + 36 := by
  unfold putInclL
  split
  · exact inclL_len l x y z k L hk
  · exact Nat.zero_le _
theorem four5 {p q r s t : Prop} (h : p ∧ q ∧ r ∧ s ∧ t) : p ∧ q ∧ r ∧ s := ⟨h.1, h.2.1, h.2.2.1, h.2.2.2.1⟩

set_option maxRecDepth 100000 in
set_option maxHeartbeats 8000000 in
theorem specPutIncl_any (a b c d e x y z : Int) (t u s : Value) (l k : List UInt8) (L : List (List UInt8)) (w : World) (ht : Sl w w.heap.size t l) (hu : Sl w w.heap.size u k) (hs : SlS w w.heap.size s L) (hk : k.length ≤ 1048576) (hN : sumL L ≤ 1048576) (hl : l.length ≤ 536870912) :
    Calls Try.prog 31 #[.agg #[.int .i64 a, .int .i64 b, .int .i64 c, .int .i64 d, .int .i64 e], t, .agg #[.int .i64 x, .int .i64 y, .int .i64 z, u, s]] w (Fresh2 w (putInclL a b c d e l x y z k L) (.bool (inclB a b c d e x y z k L))) := by
  obtain ⟨i0, hi, hz0, hz1, hz2⟩ := info_parts u8info
  have HT0 := Lib.hid ht
  have HU0 := Lib.hid hu
  have HS0 := Lib.hid hs
  obtain ⟨A, n, rfl, p1, p2, p0, p3⟩ := ht
  obtain ⟨B, n', rfl, q1, q2, q0, q3⟩ := hu
  obtain ⟨C, f, rfl, t1, t2, t0, t3⟩ := hs
  have t2' := t2
  unfold maxLen at t2'
  clear p1 p2 p0 p3 q1 q2 q0 q3 t2 t0
  have c0 := fun W h h' => specInclOk_any a b c d e x y z (.slice B k.length n') (.slice C L.length f) k L W h h'
  have hP : inclB a b c d e x y z k L = true → putInclL a b c d e l x y z k L = inclL l x y z k L := fun h => if_pos h
  have hNo : inclB a b c d e x y z k L = false → putInclL a b c d e l x y z k L = [] := fun h => if_neg (by simp [h])
  obtain ⟨R, hR⟩ : ∃ R, R = putInclL a b c d e l x y z k L := ⟨_, rfl⟩
  obtain ⟨x0, g0⟩ : ∃ x0, x0 = inclB a b c d e x y z k L := ⟨_, rfl⟩
  rw [← hR] at hP hNo ⊢
  rw [← g0] at hP hNo ⊢
  simp only [← g0] at c0
  have C0 := Lib.hid c0
  have HP := Lib.hid hP
  have HNo := Lib.hid hNo
  clear c0 hP hNo hR g0
  have H0 := ((InvF.start w).newG 33 #[.int .i64 a, .int .i64 b, .int .i64 c, .int .i64 d, .int .i64 e] w.heap.size).newG 54 #[.int .i64 x, .int .i64 y, .int .i64 z, .slice B k.length n', .slice C L.length f] (w.heap.size + 1)
  go_enter Try.func31, Try.ntmps31
  go_wp2_with fail
  refine (C0.out _ (HU0.out.up H0.bel) (HS0.out.up H0.bel)).mono ?_
  rintro ev w1 ⟨rfl, hb1⟩
  have H := H0.up hb1
  clear H0 hb1
  rcases x0 with _ | _
  · go_wp2
    go_ret2
    exact ⟨_, rfl, by rw [HNo.out (by first | trivial | rfl)]; exact World.ownsRow_nil _ _ _ _, H.bel⟩
  have hRe := HP.out (by first | trivial | rfl)
  unfold inclL at hRe
  have HRE := Lib.hid hRe
  clear HP HNo hRe
  have hlen : Hid ((putVarL l x).length ≤ 4294967296 ∧ (putVarL (putVarL l x) y).length ≤ 4294967296 ∧ (putVarL (putVarL (putVarL l x) y) z).length ≤ 1073741824 ∧ k.length ≤ 1073741824) := Lib.hid (by
    have h1 := putVarL_len l x; have h2 := putVarL_len (putVarL l x) y; have h3 := putVarL_len (putVarL (putVarL l x) y) z
    omega)
  have hlen2 : Hid (∀ j, j < L.length → (putTextL (putVarL (putVarL (putVarL l x) y) z) k ++ catL (L.take j)).length + (L.getD j []).length ≤ 8589934592) := Lib.hid (fun j hj => by
    have h1 := putVarL_len l x; have h2 := putVarL_len (putVarL l x) y; have h3 := putVarL_len (putVarL (putVarL l x) y) z
    have h0 := putTextL_len (putVarL (putVarL (putVarL l x) y) z) k (by omega)
    have h4 := catL_take L j hj
    have h5 : (catL (L.take (j + 1))).length ≤ sumL L := by
      have e := catL_app (L.take (j + 1)) (L.drop (j + 1))
      rw [List.take_append_drop] at e
      have e2 := congrArg List.length e
      rw [List.length_append, catL_length] at e2
      omega
    rw [h4, List.length_append] at h5
    rw [List.length_append]
    omega)
  replace H := H.drewN 1
  have HX := Lib.hid H
  clear H
  have HKX := Lib.hid (four5 (HX.out.c5 (.head _)))
  have hl0 : l.length ≤ 4294967296 := by omega
  go_wp2_with fail
  go_region_held3 (fun w' => w'.cell? ⟨w.heap.size + 1, 0, none⟩ = some (.int .i64 x) ∧ w'.cell? ⟨w.heap.size + 1, 1, none⟩ = some (.int .i64 y) ∧ w'.cell? ⟨w.heap.size + 1, 2, none⟩ = some (.int .i64 z) ∧ w'.cell? ⟨w.heap.size + 1, 3, none⟩ = some (.slice B k.length n'))
    (first
      | exact HKX.out
      | exact HK2.out
      | exact HK3.out
      | exact HK4.out
      | exact HK5.out)
    (first
      | (go_at_call_of 56 (Value.slice A l.length n); refine (l11Num_any (.slice A l.length n) l x _ (HT0.out.up HX.out.bel) hl0).mono ?_; rintro e w2 ⟨v2, rfl, ho2, hb2⟩; have H2 := Lib.hid (HX.out.moreB ho2 hb2); have HK2 := Lib.hid (four5 (H2.out.c5 (.tail _ (.head _)))); clear ho2 hb2)
      | (go_at_call_of 56 v2; refine (l11Num_any v2 (putVarL l x) y _ (H2.out.slB 5 (.head _)) hlen.out.1).mono ?_; rintro e w3 ⟨v3, rfl, ho3, hb3⟩; have H3 := Lib.hid (H2.out.moreB ho3 hb3); have HK3 := Lib.hid (four5 (H3.out.c5 (.tail _ (.tail _ (.head _))))); clear ho3 hb3)
      | (go_at_call_of 56 v3; refine (l11Num_any v3 (putVarL (putVarL l x) y) z _ (H3.out.slB 5 (.head _)) hlen.out.2.1).mono ?_; rintro e w4 ⟨v4, rfl, ho4, hb4⟩; have H4 := Lib.hid (H3.out.moreB ho4 hb4); have HK4 := Lib.hid (four5 (H4.out.c5 (.tail _ (.tail _ (.tail _ (.head _)))))); clear ho4 hb4)
      | (go_at_call 81; refine (specPutText_any v4 (.slice B k.length n') (putVarL (putVarL (putVarL l x) y) z) k _ (H4.out.slB 5 (.head _)) (HU0.out.up H4.out.bel) hlen.out.2.2.1 hlen.out.2.2.2).mono ?_; rintro e w5 ⟨v5, rfl, ho5, hb5⟩; have H5 := Lib.hid (H4.out.moreB ho5 hb5); have HK5 := Lib.hid (four5 (H5.out.c5 (.tail _ (.tail _ (.tail _ (.tail _ (.head _))))))); clear ho5 hb5))
  have H6 := H5.out
  obtain ⟨o0, o1, o2, o3, o4⟩ := H6.c5 (.tail _ (.tail _ (.tail _ (.tail _ (.head _)))))
  have hb6 := H6.bel
  have ho6 : Own 5 w5 w.heap.size v5 (putTextL (putVarL (putVarL (putVarL l x) y) z) k ++ catL (L.take 0)) := by
    have h := H6.ownB 5 (.head _)
    simpa [catL] using h
  clear HKX HK2 HK3 HK4 HK5 H2 H3 H4 H5 H6 HX
  generalize putTextL (putVarL (putVarL (putVarL l x) y) z) k = Z at ho6 hlen2 HRE
  go_wp2
  clear o0 o1 o2 o3 o4
  go_loopw [8, 31] (fun o i wq => ∃ j : Nat, j ≤ L.length ∧ i = .int .i64 j ∧ Own 5 wq w.heap.size o (Z ++ catL (L.take j)) ∧ Below w.heap.size w wq)
    (fun _ i _ => L.length - (intOf i).toNat)
  case atStart => exact ⟨0, Nat.zero_le _, rfl, ho6, hb6⟩
  case round =>
    clear ho6 hb6
    obtain ⟨j, hj, rfl, hown, hbel⟩ := hrel
    by_cases hlj : j < L.length
    · obtain ⟨bb, off, rfl, hbb, hcell⟩ := t3 (by omega)
      obtain ⟨zz, hc0, hzz⟩ := hcell j hlj
      have hc1 := (hbel.cell (p := ⟨bb, off + j, none⟩) hbb).trans hc0
      have hx1 := hzz.up hbel
      have hct := catL_take L j hlj
      have hlt2 : (Z ++ catL (L.take j)).length + (L.getD j []).length ≤ 70368744177664 := by
        have := hlen2.out j hlj
        omega
      generalize L.getD j [] = r at hx1 hct hlt2
      have HX := Lib.hid hx1
      have HC := Lib.hid (show Z ++ catL (L.take (j + 1)) = Z ++ catL (L.take j) ++ r by rw [hct, List.append_assoc])
      have HB := Lib.hid hlt2
      generalize Z ++ catL (L.take j) = Y at hown HC HB
      clear hcell hc0 hzz hx1 hct hlt2
      go_wp2_with (at_builtin; refine wpList_appS (W := w) rfl _ _ 25 rfl 5 i0 Try.underlying25 hi hz0 hz1 hz2 _ Y (by rfl) _ r (by rfl) HX.out hown hbel HB.out ?_; intro v7 w7 hown7 hb7)
      go_roundw
      case rel => exact ⟨j + 1, by omega, by go_num, by rw [HC.out]; exact hown7, hb7⟩
      case measure => simp [intOf]; omega
    · obtain rfl : j = L.length := by omega
      rw [List.take_length] at hown
      go_wp2
      go_ret2
      exact ⟨_, rfl, by rw [HRE.out]; exact hown, hbel⟩
end Go.Proofs.Ytopbalemfljphaa
