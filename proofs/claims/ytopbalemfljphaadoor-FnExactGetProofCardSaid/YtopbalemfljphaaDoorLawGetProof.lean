import Derived.Test.YtopbalemfljphaaDoorGetProofS
import Derived.Test.YtopbalemfljphaaDoorGetProofI
import Derived.Test.YtopbalemfljphaaDoorProof
import Derived.Test.YtopbalemfljphaaDoorHdTC
import Derived.Deep.RegionHeld3
/- GetProof of both sides, in the words that the walk of its law asks. -/
namespace Go.Proofs.YtopbalemfljphaaDoor
open Go.ChangeShapes Go.WideShapes Go.ChangeAt Go.RowKit

def FreshPT3 (w : World) (M : List Ht) (x y : Int) (m k : List UInt8) (L : List (List UInt8)) (n c : Int) (e : Ending) (w' : World) : Prop :=
  ∃ hs qa qb qs ps row vs, e = .returned (.tuple #[.agg #[hs, .int .i64 x, .int .i64 y, qa, qb, qs], .int .i64 n, .int .i64 c]) ∧ OkHT M ps ∧ vs.length = L.length ∧ Reads0 qs row vs ∧ InvF w w' [segHT hs ps M, segB 5 qa m, segB 5 qb k, row :: rowsS 5 vs L]
def ReadPf3 (w : World) (M : List Ht) (x y : Int) (m k : List UInt8) (L : List (List UInt8)) (n c : Int) (e : Ending) (w' : World) : Prop :=
  ∃ hs qa qb qs, e = .returned (.tuple #[.agg #[hs, .int .i64 x, .int .i64 y, qa, qb, qs], .int .i64 n, .int .i64 c]) ∧ Below w.heap.size w w' ∧ SlH w' w'.heap.size hs M ∧ Sl w' w'.heap.size qa m ∧ Sl w' w'.heap.size qb k ∧ SlS w' w'.heap.size qs L
theorem specGetProofL_any (a b c d e p : Int) (v : Value) (l : List UInt8) (w : World) (hv : Sp w w.heap.size v l) (hl : l.length ≤ 1073741824) :
    Calls Tryd.prog 5 #[.agg #[.int .i64 a, .int .i64 b, .int .i64 c, .int .i64 d, .int .i64 e], v, .int .i64 p] w (ReadPf3 w (gpM (pfAt l a e p (limE a b c d e))) (gpX (pfAt l a e p (limE a b c d e))) (gpY (pfAt l a e p (limE a b c d e))) (gpA (pfAt l a e p (limE a b c d e))) (gpB (pfAt l a e p (limE a b c d e))) (gpL (pfAt l a e p (limE a b c d e))) (gpP (pfAt l a e p (limE a b c d e))) (pfAt l a e p (limE a b c d e)).e) := specGetProof_any a b c d e p v l w hv hl
theorem implGetProofL_any (a b c d e p : Int) (v : Value) (l : List UInt8) (w : World) (hv : Sp w w.heap.size v l) (hl : l.length ≤ 1073741824) (hp : p ≤ 9223372036854775807) (hg : ErrT w) :
    Calls Tryd.prog 8 #[.agg #[.int .i64 a, .int .i64 b, .int .i64 c, .int .i64 d, .int .i64 e], v, .int .i64 p] w (FreshPT3 w (gpM (pfAt l a e p (limE a b c d e))) (gpX (pfAt l a e p (limE a b c d e))) (gpY (pfAt l a e p (limE a b c d e))) (gpA (pfAt l a e p (limE a b c d e))) (gpB (pfAt l a e p (limE a b c d e))) (gpL (pfAt l a e p (limE a b c d e))) (gpP (pfAt l a e p (limE a b c d e))) (pfAt l a e p (limE a b c d e)).e) := implGetProof_any a b c d e p v l w hv hl hp hg
end Go.Proofs.YtopbalemfljphaaDoor
/- The walk of the exact law of GetProof: for every argument the law answers true and leaves all memory that was there as it was. -/
namespace Go.Proofs.YtopbalemfljphaaDoor
open Go.ChangeShapes Go.WideShapes Go.ChangeAt Go.RowKit

set_option maxRecDepth 100000 in
set_option maxHeartbeats 8000000 in
theorem GetProof_walk (x0_0 x0_1 x0_2 x0_3 x0_4 : Int) (v1 : Value) (l1 : List UInt8) (n2 : Int) (W : World) (h1 : Sl W W.heap.size v1 l1) (hw2 : n2 ≤ 9223372036854775807) (hg : ErrT W) :
    Calls Tryd.prog 3 #[.agg #[.int .i64 x0_0, .int .i64 x0_1, .int .i64 x0_2, .int .i64 x0_3, .int .i64 x0_4], v1, .int .i64 n2] W (Yes W) := by
  have hs1 := h1
  obtain ⟨A1, c1, rfl, p1, q1, r1, z1⟩ := h1
  unfold maxLen at q1
  clear r1 z1
  by_cases hbig1 : 1048576 < l1.length
  · have hb : (1048576 : Int) < (l1.length : Int) := by omega
    go_enter Tryd.func3, Tryd.ntmps3
    go_wp2
    go_ret
    exact ⟨rfl, ((Below.refl _ _).alloc (by simp <;> omega) _)⟩
  have hb1 : ¬ ((1048576 : Int) < (l1.length : Int)) := by omega
  have hp0 : mkH (gpM (pfAt l1 x0_0 x0_4 n2 (limE x0_0 x0_1 x0_2 x0_3 x0_4))) ≤ 8388608 := by have := gpM_mk l1 x0_0 x0_1 x0_2 x0_3 x0_4 n2; have := gpA_len l1 x0_0 x0_4 n2 (limE x0_0 x0_1 x0_2 x0_3 x0_4); have := gpB_len l1 x0_0 x0_4 n2 (limE x0_0 x0_1 x0_2 x0_3 x0_4); have := gpL_sum l1 x0_0 x0_4 n2 (limE x0_0 x0_1 x0_2 x0_3 x0_4); omega
  obtain ⟨R0, hR⟩ : ∃ R, R = gpM (pfAt l1 x0_0 x0_4 n2 (limE x0_0 x0_1 x0_2 x0_3 x0_4)) := ⟨_, rfl⟩
  rw [← hR] at hp0
  have HR0 := Lib.hid hR
  clear hR
  obtain ⟨X1, hR⟩ : ∃ R, R = gpX (pfAt l1 x0_0 x0_4 n2 (limE x0_0 x0_1 x0_2 x0_3 x0_4)) := ⟨_, rfl⟩
  have HR1 := Lib.hid hR
  clear hR
  have hxx1 : (X1 != X1) = false := by simp
  obtain ⟨X2, hR⟩ : ∃ R, R = gpY (pfAt l1 x0_0 x0_4 n2 (limE x0_0 x0_1 x0_2 x0_3 x0_4)) := ⟨_, rfl⟩
  have HR2 := Lib.hid hR
  clear hR
  have hxx2 : (X2 != X2) = false := by simp
  have hp3 : (gpA (pfAt l1 x0_0 x0_4 n2 (limE x0_0 x0_1 x0_2 x0_3 x0_4))).length ≤ 4194304 := by have := gpM_mk l1 x0_0 x0_1 x0_2 x0_3 x0_4 n2; have := gpA_len l1 x0_0 x0_4 n2 (limE x0_0 x0_1 x0_2 x0_3 x0_4); have := gpB_len l1 x0_0 x0_4 n2 (limE x0_0 x0_1 x0_2 x0_3 x0_4); have := gpL_sum l1 x0_0 x0_4 n2 (limE x0_0 x0_1 x0_2 x0_3 x0_4); omega
  obtain ⟨R3, hR⟩ : ∃ R, R = gpA (pfAt l1 x0_0 x0_4 n2 (limE x0_0 x0_1 x0_2 x0_3 x0_4)) := ⟨_, rfl⟩
  rw [← hR] at hp3
  have HR3 := Lib.hid hR
  clear hR
  have hp4 : (gpB (pfAt l1 x0_0 x0_4 n2 (limE x0_0 x0_1 x0_2 x0_3 x0_4))).length ≤ 4194304 := by have := gpM_mk l1 x0_0 x0_1 x0_2 x0_3 x0_4 n2; have := gpA_len l1 x0_0 x0_4 n2 (limE x0_0 x0_1 x0_2 x0_3 x0_4); have := gpB_len l1 x0_0 x0_4 n2 (limE x0_0 x0_1 x0_2 x0_3 x0_4); have := gpL_sum l1 x0_0 x0_4 n2 (limE x0_0 x0_1 x0_2 x0_3 x0_4); omega
  obtain ⟨R4, hR⟩ : ∃ R, R = gpB (pfAt l1 x0_0 x0_4 n2 (limE x0_0 x0_1 x0_2 x0_3 x0_4)) := ⟨_, rfl⟩
  rw [← hR] at hp4
  have HR4 := Lib.hid hR
  clear hR
  have hp5 : sumL (gpL (pfAt l1 x0_0 x0_4 n2 (limE x0_0 x0_1 x0_2 x0_3 x0_4))) ≤ 4194304 := by have := gpM_mk l1 x0_0 x0_1 x0_2 x0_3 x0_4 n2; have := gpA_len l1 x0_0 x0_4 n2 (limE x0_0 x0_1 x0_2 x0_3 x0_4); have := gpB_len l1 x0_0 x0_4 n2 (limE x0_0 x0_1 x0_2 x0_3 x0_4); have := gpL_sum l1 x0_0 x0_4 n2 (limE x0_0 x0_1 x0_2 x0_3 x0_4); omega
  obtain ⟨R5, hR⟩ : ∃ R, R = gpL (pfAt l1 x0_0 x0_4 n2 (limE x0_0 x0_1 x0_2 x0_3 x0_4)) := ⟨_, rfl⟩
  rw [← hR] at hp5
  have HR5 := Lib.hid hR
  clear hR
  obtain ⟨b0, hB⟩ : ∃ b, b = gpP (pfAt l1 x0_0 x0_4 n2 (limE x0_0 x0_1 x0_2 x0_3 x0_4)) := ⟨_, rfl⟩
  have HB0 := Lib.hid hB
  clear hB
  have hbb0 : (b0 != b0) = false := by simp
  obtain ⟨b1, hB⟩ : ∃ b, b = (pfAt l1 x0_0 x0_4 n2 (limE x0_0 x0_1 x0_2 x0_3 x0_4)).e := ⟨_, rfl⟩
  have HB1 := Lib.hid hB
  clear hB
  have hbb1 : (b1 != b1) = false := by simp
  have H : InvF W W [] := InvF.start W
  replace H := H.newG 23 #[.int .i64 x0_0, .int .i64 x0_1, .int .i64 x0_2, .int .i64 x0_3, .int .i64 x0_4] (W.heap.size)
  replace H : InvF W _ [segX 23 W.heap.size [.int .i64 x0_0, .int .i64 x0_1, .int .i64 x0_2, .int .i64 x0_3, .int .i64 x0_4]] := H
  go_enter Tryd.func3, Tryd.ntmps3
  obtain ⟨b1_0, b1_1, b1_2, b1_3, b1_4⟩ := H.c5 (.head _)
  go_wp2_with fail
  refine (toLimits_any x0_0 x0_1 x0_2 x0_3 x0_4   _  ).mono ?_
  rintro e w1 ⟨rfl, hb⟩
  replace H := H.up hb
  clear hb
  clear b1_0 b1_1 b1_2 b1_3 b1_4
  obtain ⟨b2_0, b2_1, b2_2, b2_3, b2_4⟩ := H.c5 (.head _)
  go_wp2_with fail
  refine (toByteS_any _ l1 _ (hs1.up H.bel) (by omega)).mono ?_
  rintro e w2 ⟨u2, rfl, ho, hb⟩
  replace H := H.moreB ho hb
  clear ho hb
  clear b2_0 b2_1 b2_2 b2_3 b2_4
  obtain ⟨b3_0, b3_1, b3_2, b3_3, b3_4⟩ := H.c5 (.tail _ (.head _))
  go_wp2_with fail
  refine (specGetProofL_any x0_0 x0_1 x0_2 x0_3 x0_4 n2 _ l1 _  (H.ownB 5 (.head _)).sp (by omega) ).mono ?_
  rw [← HR0.out, ← HR1.out, ← HR2.out, ← HR3.out, ← HR4.out, ← HR5.out, ← HB0.out, ← HB1.out]
  rintro e w3 ⟨u3_0, u3_3, u3_4, u3_5, rfl, hb, hsr0, hsr3, hsr4, hsr5⟩
  obtain ⟨A3_0', c3_0', rfl, _⟩ := id hsr0
  have HSR3_0 := Lib.hid hsr0
  clear hsr0
  obtain ⟨A3_3', c3_3', rfl, _⟩ := id hsr3
  have HSR3_3 := Lib.hid hsr3
  clear hsr3
  obtain ⟨A3_4', c3_4', rfl, _⟩ := id hsr4
  have HSR3_4 := Lib.hid hsr4
  clear hsr4
  obtain ⟨A3_5', c3_5', rfl, _⟩ := id hsr5
  have HSR3_5 := Lib.hid hsr5
  clear hsr5
  have HBASE : Hid (Below W.heap.size W w3) := Lib.hid (H.bel.trans (hb.mono H.bel.size))
  have HH0 := H.up hb
  have HARG1 : Hid (∀ w', Below w3.heap.size w3 w' → w'.cell? ⟨W.heap.size, 0, none⟩ = some (.int .i64 x0_0) ∧ w'.cell? ⟨W.heap.size, 1, none⟩ = some (.int .i64 x0_1) ∧ w'.cell? ⟨W.heap.size, 2, none⟩ = some (.int .i64 x0_2) ∧ w'.cell? ⟨W.heap.size, 3, none⟩ = some (.int .i64 x0_3) ∧ w'.cell? ⟨W.heap.size, 4, none⟩ = some (.int .i64 x0_4)) := Lib.hid (fun w' hw => (HH0.up hw).c5 (.tail _ (.head _)))
  clear HH0 H hb
  have H := InvF.start w3
  replace hs1 := hs1.up HBASE.out
  replace hg := hg.up HBASE.out
  replace H := H.newX 30 #[(.slice A3_0' R0.length c3_0'), .int .i64 X1, .int .i64 X2, (.slice A3_3' R3.length c3_3'), (.slice A3_4' R4.length c3_4'), (.slice A3_5' R5.length c3_5')]
  replace H : InvF w3 _ [segX 30 w3.heap.size [(.slice A3_0' R0.length c3_0'), .int .i64 X1, .int .i64 X2, (.slice A3_3' R3.length c3_3'), (.slice A3_4' R4.length c3_4'), (.slice A3_5' R5.length c3_5')]] := H
  clear b3_0 b3_1 b3_2 b3_3 b3_4
  obtain ⟨b4_0, b4_1, b4_2, b4_3, b4_4⟩ := HARG1.out _ H.bel
  obtain ⟨b5_0, b5_1, b5_2, b5_3, b5_4, b5_5⟩ := H.c6 (.head _)
  go_wp2_with fail
  refine (toByteS_any _ l1 _ (hs1.up H.bel) (by omega)).mono ?_
  rintro e w4 ⟨u4, rfl, ho, hb⟩
  replace H := H.moreB ho hb
  clear ho hb
  clear b4_0 b4_1 b4_2 b4_3 b4_4 b5_0 b5_1 b5_2 b5_3 b5_4 b5_5
  obtain ⟨b6_0, b6_1, b6_2, b6_3, b6_4⟩ := HARG1.out _ H.bel
  obtain ⟨b7_0, b7_1, b7_2, b7_3, b7_4, b7_5⟩ := H.c6 (.tail _ (.head _))
  go_wp2_with fail
  refine (toLimits_any x0_0 x0_1 x0_2 x0_3 x0_4   _  ).mono ?_
  rintro e w5 ⟨rfl, hb⟩
  replace H := H.up hb
  clear hb
  clear b6_0 b6_1 b6_2 b6_3 b6_4 b7_0 b7_1 b7_2 b7_3 b7_4 b7_5
  obtain ⟨b8_0, b8_1, b8_2, b8_3, b8_4⟩ := HARG1.out _ H.bel
  obtain ⟨b9_0, b9_1, b9_2, b9_3, b9_4, b9_5⟩ := H.c6 (.tail _ (.head _))
  go_wp2_with fail
  refine (implGetProofL_any x0_0 x0_1 x0_2 x0_3 x0_4 n2 _ l1 _  (H.ownB 5 (.head _)).sp (by omega) hw2 (hg.up H.bel)).mono ?_
  rw [← HR0.out, ← HR1.out, ← HR2.out, ← HR3.out, ← HR4.out, ← HR5.out, ← HB0.out, ← HB1.out]
  rintro e w6 ⟨u6_0, u6_3, u6_4, u6_5, vs6_0, row6_5, vs6_5, rfl, hv6_0, hv6_5, hr6_5, K⟩
  have HV6_0 := Lib.hid hv6_0
  have HV6_5 := Lib.hid hv6_5
  have HR6_5 := Lib.hid hr6_5
  obtain ⟨A6_0', c6_0', rfl⟩ := K.openHT hv6_0 (.head _)
  clear hv6_0
  obtain ⟨A6_3', c6_3', rfl⟩ := K.openB' (.tail _ (.head _))
  obtain ⟨A6_4', c6_4', rfl⟩ := K.openB' (.tail _ (.tail _ (.head _)))
  obtain ⟨A6_5', c6_5', rfl⟩ := K.openT hv6_5 hr6_5 
  clear hv6_5 hr6_5
  have HT := H.moreF K
  clear K
  replace H : InvF w3 w6 [segHT (.slice A6_0' R0.length c6_0') vs6_0 R0, segB 5 (.slice A6_3' R3.length c6_3') R3, segB 5 (.slice A6_4' R4.length c6_4') R4, (row6_5 :: rowsS 5 vs6_5 R5), segB 5 u4 l1, segX 30 w3.heap.size [(.slice A3_0' R0.length c3_0'), .int .i64 X1, .int .i64 X2, (.slice A3_3' R3.length c3_3'), (.slice A3_4' R4.length c3_4'), (.slice A3_5' R5.length c3_5')]] := HT
  clear HT
  replace H := H.newX 30 #[(.slice A6_0' R0.length c6_0'), .int .i64 X1, .int .i64 X2, (.slice A6_3' R3.length c6_3'), (.slice A6_4' R4.length c6_4'), (.slice A6_5' R5.length c6_5')]
  replace H : InvF w3 _ [segX 30 w6.heap.size [(.slice A6_0' R0.length c6_0'), .int .i64 X1, .int .i64 X2, (.slice A6_3' R3.length c6_3'), (.slice A6_4' R4.length c6_4'), (.slice A6_5' R5.length c6_5')], segHT (.slice A6_0' R0.length c6_0') vs6_0 R0, segB 5 (.slice A6_3' R3.length c6_3') R3, segB 5 (.slice A6_4' R4.length c6_4') R4, (row6_5 :: rowsS 5 vs6_5 R5), segB 5 u4 l1, segX 30 w3.heap.size [(.slice A3_0' R0.length c3_0'), .int .i64 X1, .int .i64 X2, (.slice A3_3' R3.length c3_3'), (.slice A3_4' R4.length c3_4'), (.slice A3_5' R5.length c3_5')]] := H
  clear b8_0 b8_1 b8_2 b8_3 b8_4 b9_0 b9_1 b9_2 b9_3 b9_4 b9_5
  obtain ⟨b10_0, b10_1, b10_2, b10_3, b10_4⟩ := HARG1.out _ H.bel
  obtain ⟨b11_0, b11_1, b11_2, b11_3, b11_4, b11_5⟩ := H.c6 (.head _)
  obtain ⟨b12_0, b12_1, b12_2, b12_3, b12_4, b12_5⟩ := H.c6 (.tail _ (.tail _ (.tail _ (.tail _ (.tail _ (.tail _ (.head _)))))))
  go_wp2_with fail
  refine (eqProof_any X1 X2 _ _ _ _ _ _ _ _ R0 R3 R4 R5 _ (H.slHT HV6_0.out (.tail _ (.head _))) (H.slB 5 (.tail _ (.tail _ (.head _)))) (H.slB 5 (.tail _ (.tail _ (.tail _ (.head _))))) (H.slT (E := 5) HV6_5.out HR6_5.out (.tail _ (.tail _ (.tail _ (.tail _ (.head _)))))) (HSR3_0.out.up H.bel) (HSR3_3.out.up H.bel) (HSR3_4.out.up H.bel) (HSR3_5.out.up H.bel)).mono ?_
  rintro e w7 ⟨rfl, hb⟩
  replace H := H.up hb
  clear hb
  clear b10_0 b10_1 b10_2 b10_3 b10_4 b11_0 b11_1 b11_2 b11_3 b11_4 b11_5 b12_0 b12_1 b12_2 b12_3 b12_4 b12_5
  obtain ⟨b13_0, b13_1, b13_2, b13_3, b13_4⟩ := HARG1.out _ H.bel
  obtain ⟨b14_0, b14_1, b14_2, b14_3, b14_4, b14_5⟩ := H.c6 (.head _)
  obtain ⟨b15_0, b15_1, b15_2, b15_3, b15_4, b15_5⟩ := H.c6 (.tail _ (.tail _ (.tail _ (.tail _ (.tail _ (.tail _ (.head _)))))))
  go_wp2_with fail
  refine (toByteS_any _ l1 _ (hs1.up H.bel) (by omega)).mono ?_
  rintro e w8 ⟨u8, rfl, ho, hb⟩
  replace H := H.moreB ho hb
  clear ho hb
  clear b13_0 b13_1 b13_2 b13_3 b13_4 b14_0 b14_1 b14_2 b14_3 b14_4 b14_5 b15_0 b15_1 b15_2 b15_3 b15_4 b15_5
  obtain ⟨b16_0, b16_1, b16_2, b16_3, b16_4⟩ := HARG1.out _ H.bel
  obtain ⟨b17_0, b17_1, b17_2, b17_3, b17_4, b17_5⟩ := H.c6 (.tail _ (.head _))
  obtain ⟨b18_0, b18_1, b18_2, b18_3, b18_4, b18_5⟩ := H.c6 (.tail _ (.tail _ (.tail _ (.tail _ (.tail _ (.tail _ (.tail _ (.head _))))))))
  go_wp2_with fail
  refine (eqByteS_any _ _ l1 _ (H.slB 5 (.tail _ (.tail _ (.tail _ (.tail _ (.tail _ (.tail _ (.head _)))))))) (H.slB 5 (.head _))).mono ?_
  rintro e _ ⟨rfl, d9, rfl⟩
  replace H := H.drewN d9
  replace H := H.sub (qs := [segX 30 w6.heap.size [(.slice A6_0' R0.length c6_0'), .int .i64 X1, .int .i64 X2, (.slice A6_3' R3.length c6_3'), (.slice A6_4' R4.length c6_4'), (.slice A6_5' R5.length c6_5')], segHT (.slice A6_0' R0.length c6_0') vs6_0 R0, segB 5 (.slice A6_3' R3.length c6_3') R3, segB 5 (.slice A6_4' R4.length c6_4') R4, (row6_5 :: rowsS 5 vs6_5 R5), segB 5 u4 l1, segX 30 w3.heap.size [(.slice A3_0' R0.length c3_0'), .int .i64 X1, .int .i64 X2, (.slice A3_3' R3.length c3_3'), (.slice A3_4' R4.length c3_4'), (.slice A3_5' R5.length c3_5')]]) (.cons _ (.cons_cons _ (.cons_cons _ (.cons_cons _ (.cons_cons _ (.cons_cons _ (.cons_cons _ (.cons_cons _ .slnil))))))))
  replace H : InvF w3 _ [segB 5 u4 l1, segX 30 w6.heap.size [(.slice A6_0' R0.length c6_0'), .int .i64 X1, .int .i64 X2, (.slice A6_3' R3.length c6_3'), (.slice A6_4' R4.length c6_4'), (.slice A6_5' R5.length c6_5')], segHT (.slice A6_0' R0.length c6_0') vs6_0 R0, segB 5 (.slice A6_3' R3.length c6_3') R3, segB 5 (.slice A6_4' R4.length c6_4') R4, (row6_5 :: rowsS 5 vs6_5 R5), segX 30 w3.heap.size [(.slice A3_0' R0.length c3_0'), .int .i64 X1, .int .i64 X2, (.slice A3_3' R3.length c3_3'), (.slice A3_4' R4.length c3_4'), (.slice A3_5' R5.length c3_5')]] := H.front 5 rfl
  clear b16_0 b16_1 b16_2 b16_3 b16_4 b17_0 b17_1 b17_2 b17_3 b17_4 b17_5 b18_0 b18_1 b18_2 b18_3 b18_4 b18_5
  obtain ⟨b19_0, b19_1, b19_2, b19_3, b19_4⟩ := HARG1.out _ H.bel
  obtain ⟨b20_0, b20_1, b20_2, b20_3, b20_4, b20_5⟩ := H.c6 (.tail _ (.head _))
  obtain ⟨b21_0, b21_1, b21_2, b21_3, b21_4, b21_5⟩ := H.c6 (.tail _ (.tail _ (.tail _ (.tail _ (.tail _ (.tail _ (.head _)))))))
  go_wp2_with fail
  refine (markByteS_z _ l1 (1) _ _ _ (H.ownB 5 (.head _)) rfl (by omega) (by omega)).mono ?_
  rintro e w10 ⟨rfl, ho, hg⟩
  replace H := H.wroteB ho hg
  clear ho hg
  have hltk : ¬ ((1 : Int) + (l1.length : Int) < 0) := by omega
  clear b19_0 b19_1 b19_2 b19_3 b19_4 b20_0 b20_1 b20_2 b20_3 b20_4 b20_5 b21_0 b21_1 b21_2 b21_3 b21_4 b21_5
  obtain ⟨b22_0, b22_1, b22_2, b22_3, b22_4⟩ := HARG1.out _ H.bel
  obtain ⟨b23_0, b23_1, b23_2, b23_3, b23_4, b23_5⟩ := H.c6 (.tail _ (.head _))
  obtain ⟨b24_0, b24_1, b24_2, b24_3, b24_4, b24_5⟩ := H.c6 (.tail _ (.tail _ (.tail _ (.tail _ (.tail _ (.tail _ (.head _)))))))
  go_wp2_with fail
  refine (eqProof_any X1 X2 _ _ _ _ _ _ _ _ R0 R3 R4 R5 _ (H.slHT HV6_0.out (.tail _ (.tail _ (.head _)))) (H.slB 5 (.tail _ (.tail _ (.tail _ (.head _))))) (H.slB 5 (.tail _ (.tail _ (.tail _ (.tail _ (.head _)))))) (H.slT (E := 5) HV6_5.out HR6_5.out (.tail _ (.tail _ (.tail _ (.tail _ (.tail _ (.head _))))))) (HSR3_0.out.up H.bel) (HSR3_3.out.up H.bel) (HSR3_4.out.up H.bel) (HSR3_5.out.up H.bel)).mono ?_
  rintro e w11 ⟨rfl, hb⟩
  replace H := H.up hb
  clear hb
  replace H := H.sub (qs := [segX 30 w6.heap.size [(.slice A6_0' R0.length c6_0'), .int .i64 X1, .int .i64 X2, (.slice A6_3' R3.length c6_3'), (.slice A6_4' R4.length c6_4'), (.slice A6_5' R5.length c6_5')], segHT (.slice A6_0' R0.length c6_0') vs6_0 R0, segB 5 (.slice A6_3' R3.length c6_3') R3, segB 5 (.slice A6_4' R4.length c6_4') R4, (row6_5 :: rowsS 5 vs6_5 R5), segX 30 w3.heap.size [(.slice A3_0' R0.length c3_0'), .int .i64 X1, .int .i64 X2, (.slice A3_3' R3.length c3_3'), (.slice A3_4' R4.length c3_4'), (.slice A3_5' R5.length c3_5')]]) (.cons _ (.cons_cons _ (.cons_cons _ (.cons_cons _ (.cons_cons _ (.cons_cons _ (.cons_cons _ .slnil)))))))
  replace H : InvF w3 _ [(row6_5 :: rowsS 5 vs6_5 R5), segX 30 w6.heap.size [(.slice A6_0' R0.length c6_0'), .int .i64 X1, .int .i64 X2, (.slice A6_3' R3.length c6_3'), (.slice A6_4' R4.length c6_4'), (.slice A6_5' R5.length c6_5')], segHT (.slice A6_0' R0.length c6_0') vs6_0 R0, segB 5 (.slice A6_3' R3.length c6_3') R3, segB 5 (.slice A6_4' R4.length c6_4') R4, segX 30 w3.heap.size [(.slice A3_0' R0.length c3_0'), .int .i64 X1, .int .i64 X2, (.slice A3_3' R3.length c3_3'), (.slice A3_4' R4.length c3_4'), (.slice A3_5' R5.length c3_5')]] := H.front 4 rfl
  replace H : InvF w3 _ [segB 5 (.slice A6_4' R4.length c6_4') R4, (row6_5 :: rowsS 5 vs6_5 R5), segX 30 w6.heap.size [(.slice A6_0' R0.length c6_0'), .int .i64 X1, .int .i64 X2, (.slice A6_3' R3.length c6_3'), (.slice A6_4' R4.length c6_4'), (.slice A6_5' R5.length c6_5')], segHT (.slice A6_0' R0.length c6_0') vs6_0 R0, segB 5 (.slice A6_3' R3.length c6_3') R3, segX 30 w3.heap.size [(.slice A3_0' R0.length c3_0'), .int .i64 X1, .int .i64 X2, (.slice A3_3' R3.length c3_3'), (.slice A3_4' R4.length c3_4'), (.slice A3_5' R5.length c3_5')]] := H.front 4 rfl
  replace H : InvF w3 _ [segB 5 (.slice A6_3' R3.length c6_3') R3, segB 5 (.slice A6_4' R4.length c6_4') R4, (row6_5 :: rowsS 5 vs6_5 R5), segX 30 w6.heap.size [(.slice A6_0' R0.length c6_0'), .int .i64 X1, .int .i64 X2, (.slice A6_3' R3.length c6_3'), (.slice A6_4' R4.length c6_4'), (.slice A6_5' R5.length c6_5')], segHT (.slice A6_0' R0.length c6_0') vs6_0 R0, segX 30 w3.heap.size [(.slice A3_0' R0.length c3_0'), .int .i64 X1, .int .i64 X2, (.slice A3_3' R3.length c3_3'), (.slice A3_4' R4.length c3_4'), (.slice A3_5' R5.length c3_5')]] := H.front 4 rfl
  replace H : InvF w3 _ [segHT (.slice A6_0' R0.length c6_0') vs6_0 R0, segB 5 (.slice A6_3' R3.length c6_3') R3, segB 5 (.slice A6_4' R4.length c6_4') R4, (row6_5 :: rowsS 5 vs6_5 R5), segX 30 w6.heap.size [(.slice A6_0' R0.length c6_0'), .int .i64 X1, .int .i64 X2, (.slice A6_3' R3.length c6_3'), (.slice A6_4' R4.length c6_4'), (.slice A6_5' R5.length c6_5')], segX 30 w3.heap.size [(.slice A3_0' R0.length c3_0'), .int .i64 X1, .int .i64 X2, (.slice A3_3' R3.length c3_3'), (.slice A3_4' R4.length c3_4'), (.slice A3_5' R5.length c3_5')]] := H.front 4 rfl
  clear b22_0 b22_1 b22_2 b22_3 b22_4 b23_0 b23_1 b23_2 b23_3 b23_4 b23_5 b24_0 b24_1 b24_2 b24_3 b24_4 b24_5
  obtain ⟨b25_0, b25_1, b25_2, b25_3, b25_4⟩ := HARG1.out _ H.bel
  obtain ⟨b26_0, b26_1, b26_2, b26_3, b26_4, b26_5⟩ := H.c6 (.tail _ (.tail _ (.tail _ (.tail _ (.head _)))))
  obtain ⟨b27_0, b27_1, b27_2, b27_3, b27_4, b27_5⟩ := H.c6 (.tail _ (.tail _ (.tail _ (.tail _ (.tail _ (.head _))))))
  go_wp2_with fail
  refine (markProofT_z X1 X2 w3 _ _ _ _ _ _ _ _ R0 R3 R4 R5 _ (1) _ HV6_0.out HV6_5.out HR6_5.out H rfl (by omega) (by omega) (by omega) (by omega) (by omega)).mono ?_
  rintro e w12 ⟨rfl, K⟩
  replace H := K
  clear K
  have HV6_0m12 : Hid (OkHT (marksH (1) R0) vs6_0) := Lib.hid (HV6_0.out.marks _)
  have HV6_5m12 : Hid (vs6_5.length = (marksS (1 + mkH R0 + R3.length + R4.length) R5).length) := Lib.hid (by rw [marksS_length]; exact HV6_5.out)
  replace H : InvF w3 w12 [segHT (.slice A6_0' R0.length c6_0') vs6_0 (marksH (1) R0), segB 5 (.slice A6_3' R3.length c6_3') (marks (1 + mkH R0) R3.length), segB 5 (.slice A6_4' R4.length c6_4') (marks (1 + mkH R0 + R3.length) R4.length), (row6_5 :: rowsS 5 vs6_5 (marksS (1 + mkH R0 + R3.length + R4.length) R5)), segX 30 w6.heap.size [(.slice A6_0' R0.length c6_0'), .int .i64 X1, .int .i64 X2, (.slice A6_3' R3.length c6_3'), (.slice A6_4' R4.length c6_4'), (.slice A6_5' R5.length c6_5')], segX 30 w3.heap.size [(.slice A3_0' R0.length c3_0'), .int .i64 X1, .int .i64 X2, (.slice A3_3' R3.length c3_3'), (.slice A3_4' R4.length c3_4'), (.slice A3_5' R5.length c3_5')]] := H
  clear b25_0 b25_1 b25_2 b25_3 b25_4 b26_0 b26_1 b26_2 b26_3 b26_4 b26_5 b27_0 b27_1 b27_2 b27_3 b27_4 b27_5
  obtain ⟨b28_0, b28_1, b28_2, b28_3, b28_4⟩ := HARG1.out _ H.bel
  obtain ⟨b29_0, b29_1, b29_2, b29_3, b29_4, b29_5⟩ := H.c6 (.tail _ (.tail _ (.tail _ (.tail _ (.head _)))))
  obtain ⟨b30_0, b30_1, b30_2, b30_3, b30_4, b30_5⟩ := H.c6 (.tail _ (.tail _ (.tail _ (.tail _ (.tail _ (.head _))))))
  go_wp2_with fail
  refine (heldProof_z X1 X2 _ _ _ _ 1 R0 R3.length R4.length R5 _ _ (H.slHT HV6_0m12.out (.head _)) (H.slB 5 (.tail _ (.head _))) (H.slB 5 (.tail _ (.tail _ (.head _)))) (H.slT (E := 5) HV6_5m12.out HR6_5.out (.tail _ (.tail _ (.tail _ (.head _))))) rfl (by omega) (by omega) (by omega) (by omega) (by omega)).mono ?_
  rintro e w13 ⟨rfl, hb⟩
  replace H := H.up hb
  clear hb
  have hltL : ¬ ((1 : Int) + (mkH R0 : Int) + (R3.length : Int) + (R4.length : Int) + (sumL R5 : Int) < 0) := by omega
  have hneL : ((1 : Int) + (mkH R0 : Int) + (R3.length : Int) + (R4.length : Int) + (sumL R5 : Int) != 1 + (mkH R0 : Int) + (R3.length : Int) + (R4.length : Int) + (sumL R5 : Int)) = false := by simp
  clear b28_0 b28_1 b28_2 b28_3 b28_4 b29_0 b29_1 b29_2 b29_3 b29_4 b29_5 b30_0 b30_1 b30_2 b30_3 b30_4 b30_5
  obtain ⟨b31_0, b31_1, b31_2, b31_3, b31_4⟩ := HARG1.out _ H.bel
  obtain ⟨b32_0, b32_1, b32_2, b32_3, b32_4, b32_5⟩ := H.c6 (.tail _ (.tail _ (.tail _ (.tail _ (.head _)))))
  obtain ⟨b33_0, b33_1, b33_2, b33_3, b33_4, b33_5⟩ := H.c6 (.tail _ (.tail _ (.tail _ (.tail _ (.tail _ (.head _))))))
  go_wp2_with fail
  refine (toLimits_any x0_0 x0_1 x0_2 x0_3 x0_4   _  ).mono ?_
  rintro e w14 ⟨rfl, hb⟩
  replace H := H.up hb
  clear hb
  clear b31_0 b31_1 b31_2 b31_3 b31_4 b32_0 b32_1 b32_2 b32_3 b32_4 b32_5 b33_0 b33_1 b33_2 b33_3 b33_4 b33_5
  obtain ⟨b34_0, b34_1, b34_2, b34_3, b34_4⟩ := HARG1.out _ H.bel
  obtain ⟨b35_0, b35_1, b35_2, b35_3, b35_4, b35_5⟩ := H.c6 (.tail _ (.tail _ (.tail _ (.tail _ (.head _)))))
  obtain ⟨b36_0, b36_1, b36_2, b36_3, b36_4, b36_5⟩ := H.c6 (.tail _ (.tail _ (.tail _ (.tail _ (.tail _ (.head _))))))
  go_wp2_with fail
  refine (toByteS_any _ l1 _ (hs1.up H.bel) (by omega)).mono ?_
  rintro e w15 ⟨u15, rfl, ho, hb⟩
  replace H := H.moreB ho hb
  clear ho hb
  clear b34_0 b34_1 b34_2 b34_3 b34_4 b35_0 b35_1 b35_2 b35_3 b35_4 b35_5 b36_0 b36_1 b36_2 b36_3 b36_4 b36_5
  obtain ⟨b37_0, b37_1, b37_2, b37_3, b37_4⟩ := HARG1.out _ H.bel
  obtain ⟨b38_0, b38_1, b38_2, b38_3, b38_4, b38_5⟩ := H.c6 (.tail _ (.tail _ (.tail _ (.tail _ (.tail _ (.head _))))))
  obtain ⟨b39_0, b39_1, b39_2, b39_3, b39_4, b39_5⟩ := H.c6 (.tail _ (.tail _ (.tail _ (.tail _ (.tail _ (.tail _ (.head _)))))))
  go_wp2_with fail
  refine (implGetProofL_any x0_0 x0_1 x0_2 x0_3 x0_4 n2 _ l1 _  (H.ownB 5 (.head _)).sp (by omega) hw2 (hg.up H.bel)).mono ?_
  rw [← HR0.out, ← HR1.out, ← HR2.out, ← HR3.out, ← HR4.out, ← HR5.out, ← HB0.out, ← HB1.out]
  rintro e w16 ⟨u16_0, u16_3, u16_4, u16_5, vs16_0, row16_5, vs16_5, rfl, hv16_0, hv16_5, hr16_5, K⟩
  have HV16_0 := Lib.hid hv16_0
  have HV16_5 := Lib.hid hv16_5
  have HR16_5 := Lib.hid hr16_5
  obtain ⟨A16_0', c16_0', rfl⟩ := K.openHT hv16_0 (.head _)
  clear hv16_0
  obtain ⟨A16_3', c16_3', rfl⟩ := K.openB' (.tail _ (.head _))
  obtain ⟨A16_4', c16_4', rfl⟩ := K.openB' (.tail _ (.tail _ (.head _)))
  obtain ⟨A16_5', c16_5', rfl⟩ := K.openT hv16_5 hr16_5 
  clear hv16_5 hr16_5
  have HT := H.moreF K
  clear K
  replace H : InvF w3 w16 [segHT (.slice A16_0' R0.length c16_0') vs16_0 R0, segB 5 (.slice A16_3' R3.length c16_3') R3, segB 5 (.slice A16_4' R4.length c16_4') R4, (row16_5 :: rowsS 5 vs16_5 R5), segB 5 u15 l1, segHT (.slice A6_0' R0.length c6_0') vs6_0 (marksH (1) R0), segB 5 (.slice A6_3' R3.length c6_3') (marks (1 + mkH R0) R3.length), segB 5 (.slice A6_4' R4.length c6_4') (marks (1 + mkH R0 + R3.length) R4.length), (row6_5 :: rowsS 5 vs6_5 (marksS (1 + mkH R0 + R3.length + R4.length) R5)), segX 30 w6.heap.size [(.slice A6_0' R0.length c6_0'), .int .i64 X1, .int .i64 X2, (.slice A6_3' R3.length c6_3'), (.slice A6_4' R4.length c6_4'), (.slice A6_5' R5.length c6_5')], segX 30 w3.heap.size [(.slice A3_0' R0.length c3_0'), .int .i64 X1, .int .i64 X2, (.slice A3_3' R3.length c3_3'), (.slice A3_4' R4.length c3_4'), (.slice A3_5' R5.length c3_5')]] := HT
  clear HT
  replace H := H.newX 30 #[(.slice A16_0' R0.length c16_0'), .int .i64 X1, .int .i64 X2, (.slice A16_3' R3.length c16_3'), (.slice A16_4' R4.length c16_4'), (.slice A16_5' R5.length c16_5')]
  replace H : InvF w3 _ [segX 30 w16.heap.size [(.slice A16_0' R0.length c16_0'), .int .i64 X1, .int .i64 X2, (.slice A16_3' R3.length c16_3'), (.slice A16_4' R4.length c16_4'), (.slice A16_5' R5.length c16_5')], segHT (.slice A16_0' R0.length c16_0') vs16_0 R0, segB 5 (.slice A16_3' R3.length c16_3') R3, segB 5 (.slice A16_4' R4.length c16_4') R4, (row16_5 :: rowsS 5 vs16_5 R5), segB 5 u15 l1, segHT (.slice A6_0' R0.length c6_0') vs6_0 (marksH (1) R0), segB 5 (.slice A6_3' R3.length c6_3') (marks (1 + mkH R0) R3.length), segB 5 (.slice A6_4' R4.length c6_4') (marks (1 + mkH R0 + R3.length) R4.length), (row6_5 :: rowsS 5 vs6_5 (marksS (1 + mkH R0 + R3.length + R4.length) R5)), segX 30 w6.heap.size [(.slice A6_0' R0.length c6_0'), .int .i64 X1, .int .i64 X2, (.slice A6_3' R3.length c6_3'), (.slice A6_4' R4.length c6_4'), (.slice A6_5' R5.length c6_5')], segX 30 w3.heap.size [(.slice A3_0' R0.length c3_0'), .int .i64 X1, .int .i64 X2, (.slice A3_3' R3.length c3_3'), (.slice A3_4' R4.length c3_4'), (.slice A3_5' R5.length c3_5')]] := H
  clear b37_0 b37_1 b37_2 b37_3 b37_4 b38_0 b38_1 b38_2 b38_3 b38_4 b38_5 b39_0 b39_1 b39_2 b39_3 b39_4 b39_5
  obtain ⟨b40_0, b40_1, b40_2, b40_3, b40_4⟩ := HARG1.out _ H.bel
  obtain ⟨b41_0, b41_1, b41_2, b41_3, b41_4, b41_5⟩ := H.c6 (.head _)
  obtain ⟨b42_0, b42_1, b42_2, b42_3, b42_4, b42_5⟩ := H.c6 (.tail _ (.tail _ (.tail _ (.tail _ (.tail _ (.tail _ (.tail _ (.tail _ (.tail _ (.tail _ (.head _)))))))))))
  obtain ⟨b43_0, b43_1, b43_2, b43_3, b43_4, b43_5⟩ := H.c6 (.tail _ (.tail _ (.tail _ (.tail _ (.tail _ (.tail _ (.tail _ (.tail _ (.tail _ (.tail _ (.tail _ (.head _))))))))))))
  go_wp2_with fail
  refine (eqProof_any X1 X2 _ _ _ _ _ _ _ _ R0 R3 R4 R5 _ (H.slHT HV16_0.out (.tail _ (.head _))) (H.slB 5 (.tail _ (.tail _ (.head _)))) (H.slB 5 (.tail _ (.tail _ (.tail _ (.head _))))) (H.slT (E := 5) HV16_5.out HR16_5.out (.tail _ (.tail _ (.tail _ (.tail _ (.head _)))))) (HSR3_0.out.up H.bel) (HSR3_3.out.up H.bel) (HSR3_4.out.up H.bel) (HSR3_5.out.up H.bel)).mono ?_
  rintro e w17 ⟨rfl, hb⟩
  replace H := H.up hb
  clear hb
  clear b40_0 b40_1 b40_2 b40_3 b40_4 b41_0 b41_1 b41_2 b41_3 b41_4 b41_5 b42_0 b42_1 b42_2 b42_3 b42_4 b42_5 b43_0 b43_1 b43_2 b43_3 b43_4 b43_5
  obtain ⟨b44_0, b44_1, b44_2, b44_3, b44_4⟩ := HARG1.out _ H.bel
  obtain ⟨b45_0, b45_1, b45_2, b45_3, b45_4, b45_5⟩ := H.c6 (.head _)
  obtain ⟨b46_0, b46_1, b46_2, b46_3, b46_4, b46_5⟩ := H.c6 (.tail _ (.tail _ (.tail _ (.tail _ (.tail _ (.tail _ (.tail _ (.tail _ (.tail _ (.tail _ (.head _)))))))))))
  obtain ⟨b47_0, b47_1, b47_2, b47_3, b47_4, b47_5⟩ := H.c6 (.tail _ (.tail _ (.tail _ (.tail _ (.tail _ (.tail _ (.tail _ (.tail _ (.tail _ (.tail _ (.tail _ (.head _))))))))))))
  go_wp2_with fail
  refine (heldProof_z X1 X2 _ _ _ _ 1 R0 R3.length R4.length R5 _ _ (H.slHT HV6_0m12.out (.tail _ (.tail _ (.tail _ (.tail _ (.tail _ (.tail _ (.head _)))))))) (H.slB 5 (.tail _ (.tail _ (.tail _ (.tail _ (.tail _ (.tail _ (.tail _ (.head _))))))))) (H.slB 5 (.tail _ (.tail _ (.tail _ (.tail _ (.tail _ (.tail _ (.tail _ (.tail _ (.head _)))))))))) (H.slT (E := 5) HV6_5m12.out HR6_5.out (.tail _ (.tail _ (.tail _ (.tail _ (.tail _ (.tail _ (.tail _ (.tail _ (.tail _ (.head _))))))))))) rfl (by omega) (by omega) (by omega) (by omega) (by omega)).mono ?_
  rintro e w18 ⟨rfl, hb⟩
  replace H := H.up hb
  clear hb
  clear b44_0 b44_1 b44_2 b44_3 b44_4 b45_0 b45_1 b45_2 b45_3 b45_4 b45_5 b46_0 b46_1 b46_2 b46_3 b46_4 b46_5 b47_0 b47_1 b47_2 b47_3 b47_4 b47_5
  obtain ⟨b48_0, b48_1, b48_2, b48_3, b48_4⟩ := HARG1.out _ H.bel
  obtain ⟨b49_0, b49_1, b49_2, b49_3, b49_4, b49_5⟩ := H.c6 (.head _)
  obtain ⟨b50_0, b50_1, b50_2, b50_3, b50_4, b50_5⟩ := H.c6 (.tail _ (.tail _ (.tail _ (.tail _ (.tail _ (.tail _ (.tail _ (.tail _ (.tail _ (.tail _ (.head _)))))))))))
  obtain ⟨b51_0, b51_1, b51_2, b51_3, b51_4, b51_5⟩ := H.c6 (.tail _ (.tail _ (.tail _ (.tail _ (.tail _ (.tail _ (.tail _ (.tail _ (.tail _ (.tail _ (.tail _ (.head _))))))))))))
  go_wp2_with fail
  go_ret
  exact ⟨rfl, by have hfin := HBASE.out.trans (H.bel.mono HBASE.out.size); simpa using hfin⟩
end Go.Proofs.YtopbalemfljphaaDoor
