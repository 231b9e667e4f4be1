/- PutBlock, of the program and of its model. -/
import Derived.Test.YtdoaikanaodefaaGreatDoorBlockOk
import Derived.Test.YtdoaikanaodefaaGreatDoorPutHead
import Derived.Test.YtdoaikanaodefaaGreatDoorText
namespace Go.Proofs.YtdoaikanaodefaaGreatDoor
open Go.ChangeShapes Go.WideShapes Go.ChangeAt Go.RowKit

/-- Byte strings, one behind the other. -/
def textsL (l : List UInt8) (T : List (List UInt8)) : List UInt8 := T.foldl putTextL l
theorem textsL_take (l : List UInt8) (T : List (List UInt8)) (j : Nat) (h : j < T.length) : textsL l (T.take (j + 1)) = putTextL (textsL l (T.take j)) (T.getD j []) := by
  unfold textsL
  rw [take_getD T j [] h, List.foldl_append]
  rfl
theorem textsL_len : ∀ (T : List (List UInt8)) (l : List UInt8), (∀ r ∈ T, r.length ≤ 40) → (textsL l T).length ≤ l.length + 49 * T.length
  | [], l, _ => by simp [textsL]
  | r :: T, l, h => by
    have h1 := textsL_len T (putTextL l r) (fun q hq => h q (.tail _ hq))
    have h2 := h r (.head _)
    have h3 := putTextL_len l r (by omega)
    unfold textsL at h1 ⊢
    simp only [List.foldl_cons, List.length_cons]
    omega
/-- What PutBlock writes of a valid block behind l. -/
def blockL (l : List UInt8) (x y z qx qy : Int) (m k ql qk : List UInt8) (L T : List (List UInt8)) : List UInt8 := textsL (putVarL (headL l x y z qx qy m k ql qk L) T.length) T
def putBlockL (a b c d e : Int) (l : List UInt8) (x y z qx qy : Int) (m k ql qk : List UInt8) (L T : List (List UInt8)) : List UInt8 := if blockB a b c d e x y z qx qy m k ql qk L T = true then blockL l x y z qx qy m k ql qk L T else []
theorem blockB_parts {a b c d e x y z qx qy : Int} {m k ql qk : List UInt8} {L T : List (List UInt8)} (h : blockB a b c d e x y z qx qy m k ql qk L T = true) : headB a b c d e x y z qx qy m k ql qk L = true ∧ T.length ≤ 8 ∧ ∀ r ∈ T, r.length ≤ 40 := by
  unfold blockB at h
  simp only [Bool.and_eq_true] at h
  obtain ⟨hh, ht, _⟩ := h
  have hq := (headB_tag hh).2.2
  unfold qcB at hq
  rw [Bool.and_eq_true] at hq
  have hl := limB_yes hq.1
  obtain ⟨_, hb, hc, _⟩ := hl
  obtain ⟨h1, h2⟩ := txsB_yes ht
  exact ⟨hh, by omega, fun r hr => by have := h2 r hr; omega⟩
theorem headL_len {a b c d e x y z qx qy : Int} {m k ql qk : List UInt8} {L : List (List UInt8)} (l : List UInt8) (h : headB a b c d e x y z qx qy m k ql qk L = true) : (headL l x y z qx qy m k ql qk L).length ≤ l.length + ql.length + qk.length + sumL L + 109 := by
  obtain ⟨hm, hk, _⟩ := headB_tag h
  have h1 := qcL_len (putVarL (putVarL (putVarL l x) y) z ++ m ++ k) qx qy ql qk L
  have h2 := num3_len l x y z
  rw [List.length_append, List.length_append] at h1
  unfold headL
  omega
theorem putBlockL_len (a b c d e : Int) (l : List UInt8) (x y z qx qy : Int) (m k ql qk : List UInt8) (L T : List (List UInt8)) : (putBlockL a b c d e l x y z qx qy m k ql qk L T).length ≤ l.length + ql.length + qk.length + sumL L + 600 := by
  unfold putBlockL
  split
  · rename_i h
    obtain ⟨h1, h2, h3⟩ := blockB_parts h
    have h4 := headL_len l h1
    have h5 := putVarL_len (headL l x y z qx qy m k ql qk L) T.length
    have h6 := textsL_len T (putVarL (headL l x y z qx qy m k ql qk L) T.length) h3
    unfold blockL
    omega
  · simp

set_option maxRecDepth 100000 in
set_option maxHeartbeats 8000000 in
theorem implPutBlock_any (a b c d e x y z qx qy : Int) (t u v qu qv qs tx : Value) (l m k ql qk : List UInt8) (L T : List (List UInt8)) (w : World) (ht : Sl w w.heap.size t l) (hu : Sl w w.heap.size u m) (hv : Sl w w.heap.size v k) (hqu : Sl w w.heap.size qu ql) (hqv : Sl w w.heap.size qv qk) (hqs : SlS w w.heap.size qs L) (htx : SlS w w.heap.size tx T) (hl : l.length ≤ 536870912) (hq3 : ql.length + qk.length + sumL L ≤ 67108864) (hs : sumL T ≤ 1073741000) (hTl : T.length ≤ 1073741824) (hI : Glob w 0 initW) (hG : Glob w 1 kk) :
    Calls Tryz.prog 12 #[.agg #[.int .i64 a, .int .i64 b, .int .i64 c, .int .i64 d, .int .i64 e], t, .agg #[.int .i64 x, .int .i64 y, .int .i64 z, u, v, .int .i64 qx, .int .i64 qy, qu, qv, qs, tx]] w (Fresh2 w (putBlockL a b c d e l x y z qx qy m k ql qk L T) (.bool (blockB a b c d e x y z qx qy m k ql qk L T))) := by
  have HT0 := Lib.hid ht
  have HU := Lib.hid hu
  have HV := Lib.hid hv
  have HQU := Lib.hid hqu
  have HQV := Lib.hid hqv
  have HQS := Lib.hid hqs
  have HTX := Lib.hid htx
  have HI := Lib.hid hI
  have HG := Lib.hid hG
  clear hI hG
  obtain ⟨A0, tc, rfl, p1, p2, p0, p3⟩ := ht
  clear p1 p2 p0 p3
  obtain ⟨A, ac, rfl, p1, p2, p0, p3⟩ := hu
  clear p1 p2 p0 p3
  obtain ⟨B, bc, rfl, p1, p2, p0, p3⟩ := hv
  clear p1 p2 p0 p3
  obtain ⟨C, cc, rfl, p1, p2, p0, p3⟩ := hqu
  clear p1 p2 p0 p3
  obtain ⟨D, dc, rfl, p1, p2, p0, p3⟩ := hqv
  clear p1 p2 p0 p3
  obtain ⟨E, ec, rfl, p1, p2, p0, p3⟩ := hqs
  clear p1 p2 p0 p3
  obtain ⟨F, fc, rfl, h1, h2, h0, h3⟩ := htx
  unfold maxLen at h2
  clear h0
  have c0 := fun W g1 g2 g3 g4 g5 g6 g7 g8 => implBlockOk_any a b c d e x y z qx qy (.slice A m.length ac) (.slice B k.length bc) (.slice C ql.length cc) (.slice D qk.length dc) (.slice E L.length ec) (.slice F T.length fc) m k ql qk L T W g1 g2 g3 g4 g5 g6 (by omega) hs hTl g7 g8
  have hP : blockB a b c d e x y z qx qy m k ql qk L T = true → (headB a b c d e x y z qx qy m k ql qk L = true ∧ T.length ≤ 8 ∧ ∀ r ∈ T, r.length ≤ 40) ∧ putBlockL a b c d e l x y z qx qy m k ql qk L T = textsL (putVarL (headL l x y z qx qy m k ql qk L) T.length) T := fun h => ⟨blockB_parts h, if_pos h⟩
  have hN : blockB a b c d e x y z qx qy m k ql qk L T = false → putBlockL a b c d e l x y z qx qy m k ql qk L T = [] := fun h => if_neg (by simp [h])
  obtain ⟨R, hR⟩ : ∃ R, R = putBlockL a b c d e l x y z qx qy m k ql qk L T := ⟨_, rfl⟩
  obtain ⟨x0, g0⟩ : ∃ x0, x0 = blockB a b c d e x y z qx qy m k ql qk L T := ⟨_, rfl⟩
  rw [← hR] at hP hN ⊢
  rw [← g0] at hP hN ⊢
  simp only [← g0] at c0
  have C0 := Lib.hid c0
  have HP := Lib.hid hP
  have HN := Lib.hid hN
  clear c0 hP hN hR g0
  have c1 := fun W g1 g2 g3 g4 g5 g6 => implPutHead_any a b c d e x y z qx qy (.slice A0 l.length tc) (.slice A m.length ac) (.slice B k.length bc) (.slice C ql.length cc) (.slice D qk.length dc) (.slice E L.length ec) l m k ql qk L W g1 g2 g3 g4 g5 g6 (by omega) (by omega)
  unfold putHeadL at c1
  have C1 := Lib.hid c1
  clear c1
  have H0 : InvF w _ [segX 42 (w.heap.size + 1) [.int .i64 x, .int .i64 y, .int .i64 z, (.slice A m.length ac), (.slice B k.length bc), .int .i64 qx, .int .i64 qy, (.slice C ql.length cc), (.slice D qk.length dc), (.slice E L.length ec), (.slice F T.length fc)], segX 35 w.heap.size [.int .i64 a, .int .i64 b, .int .i64 c, .int .i64 d, .int .i64 e]] := ((InvF.start w).newG 35 #[.int .i64 a, .int .i64 b, .int .i64 c, .int .i64 d, .int .i64 e] w.heap.size).newG 42 #[.int .i64 x, .int .i64 y, .int .i64 z, .slice A m.length ac, .slice B k.length bc, .int .i64 qx, .int .i64 qy, .slice C ql.length cc, .slice D qk.length dc, .slice E L.length ec, .slice F T.length fc] (w.heap.size + 1)
  go_enter Tryz.func12, Tryz.ntmps12
  go_wp2_with fail
  refine (C0.out _ (HU.out.up H0.bel) (HV.out.up H0.bel) (HQU.out.up H0.bel) (HQV.out.up H0.bel) (HQS.out.up H0.bel) (HTX.out.up H0.bel) (HI.out.up H0.bel) (HG.out.up H0.bel)).mono ?_
  rintro ev w1 ⟨rfl, hb1⟩
  have H := H0.up hb1
  clear H0 hb1 C0
  rcases x0 with _ | _
  · go_wp2
    go_ret2
    exact ⟨_, rfl, by rw [HN.out (by first | trivial | rfl)]; exact World.ownsRow_nil _ _ _ _, H.bel⟩
  obtain ⟨⟨hh, hT8, hT40⟩, hRe⟩ := HP.out rfl
  have C2 := Lib.hid (fun W g1 g2 g3 g4 g5 g6 => by have h := C1.out W g1 g2 g3 g4 g5 g6; rw [if_pos hh, hh] at h; exact h)
  have HRE := Lib.hid hRe
  have hhl := headL_len l hh
  have hbd : Hid (∀ j, (textsL (putVarL (headL l x y z qx qy m k ql qk L) T.length) (T.take j)).length ≤ 1073741824) := Lib.hid (fun j => by
    have k1 := putVarL_len (headL l x y z qx qy m k ql qk L) T.length
    have k2 := textsL_len (T.take j) (putVarL (headL l x y z qx qy m k ql qk L) T.length) (fun r hr => hT40 r (List.mem_of_mem_take hr))
    have k3 : (T.take j).length ≤ 8 := by rw [List.length_take]; omega
    omega)
  have hbh : Hid ((headL l x y z qx qy m k ql qk L).length ≤ 1073741824) := Lib.hid (by omega)
  have hbr : Hid (∀ j, j < T.length → (T.getD j []).length ≤ 1073741824) := Lib.hid (fun j hj => by have := sumL_one T j hj; omega)
  have hst := Lib.hid (fun j hj => textsL_take (putVarL (headL l x y z qx qy m k ql qk L) T.length) T j hj)
  obtain ⟨hd, hhd⟩ : ∃ q, q = (headL l x y z qx qy m k ql qk L) := ⟨_, rfl⟩
  rw [← hhd] at C2 hbd hbh hst HRE
  clear HP HN C1 hh hT40 hRe hhl hhd
  obtain ⟨o0, o1, o2, o3, o4, o5, o6, o7, o8, o9, o10⟩ := H.c11 (.head _)
  obtain ⟨t0, t1, t2, t3, t4⟩ := H.c5 (.tail _ (.head _))
  go_wp2_with fail
  refine (C2.out _ (HT0.out.up H.bel) (HU.out.up H.bel) (HV.out.up H.bel) (HQU.out.up H.bel) (HQV.out.up H.bel) (HQS.out.up H.bel)).mono ?_
  rintro ev w2 ⟨v2, rfl, ho2, hb2⟩
  have H2 : InvF w w2 [segB 5 v2 hd, segX 42 (w.heap.size + 1) [.int .i64 x, .int .i64 y, .int .i64 z, (.slice A m.length ac), (.slice B k.length bc), .int .i64 qx, .int .i64 qy, (.slice C ql.length cc), (.slice D qk.length dc), (.slice E L.length ec), (.slice F T.length fc)], segX 35 w.heap.size [.int .i64 a, .int .i64 b, .int .i64 c, .int .i64 d, .int .i64 e]] := H.moreB ho2 hb2
  clear H ho2 hb2 C2 o0 o1 o2 o3 o4 o5 o6 o7 o8 o9 o10 t0 t1 t2 t3 t4
  obtain ⟨o0, o1, o2, o3, o4, o5, o6, o7, o8, o9, o10⟩ := H2.c11 (.tail _ (.head _))
  go_wp2_with fail
  have hI2 := Lib.hid (show OwnI 3 (w2.alloc (.cells #[.int .i64 (T.length : Int)] 3)) w2.heap.size (.slice (some ⟨w2.heap.size, 0, none⟩) 1 1) [(T.length : Int)] from World.ownsRow_lit w2 #[.int .i64 (T.length : Int)] 1 (Nat.le_refl _) (by simp [maxLen]) rfl).sl
  have H3 := H2.up ((Below.refl _ _).alloc (Nat.le_refl _) (.cells #[.int .i64 (T.length : Int)] 3))
  refine (putNumbers_any _ _ hd [(T.length : Int)] _ (H3.slB 5 (.head _)) hI2.out (by simp) (by simp) (by have := hbh.out; omega)).mono ?_
  rintro ev w3 ⟨v3, rfl, ho3, hb3⟩
  have H4 : InvF w w3 [segB 5 v3 (putVarL hd T.length), segB 5 v2 hd, segX 42 (w.heap.size + 1) [.int .i64 x, .int .i64 y, .int .i64 z, (.slice A m.length ac), (.slice B k.length bc), .int .i64 qx, .int .i64 qy, (.slice C ql.length cc), (.slice D qk.length dc), (.slice E L.length ec), (.slice F T.length fc)], segX 35 w.heap.size [.int .i64 a, .int .i64 b, .int .i64 c, .int .i64 d, .int .i64 e]] := H3.moreB ho3 hb3
  have H5 := H4.sub (qs := [segB 5 v3 (textsL (putVarL hd T.length) (T.take 0)), segX 42 (w.heap.size + 1) [.int .i64 x, .int .i64 y, .int .i64 z, (.slice A m.length ac), (.slice B k.length bc), .int .i64 qx, .int .i64 qy, (.slice C ql.length cc), (.slice D qk.length dc), (.slice E L.length ec), (.slice F T.length fc)], segX 35 w.heap.size [.int .i64 a, .int .i64 b, .int .i64 c, .int .i64 d, .int .i64 e]]) (.cons_cons _ (.cons _ (.cons_cons _ (.cons_cons _ .slnil))))
  clear H2 H3 H4 ho3 hb3 o0 o1 o2 o3 o4 o5 o6 o7 o8 o9 o10 hI2
  generalize putVarL hd (T.length : Int) = h9 at *
  obtain ⟨o0, o1, o2, o3, o4, o5, o6, o7, o8, o9, o10⟩ := H5.c11 (.tail _ (.head _))
  have H5h := Lib.hid H5
  clear H5
  go_wp2
  go_loopw [1, 31] (fun bv i wr => ∃ (j : Nat) (ov : Value), ov = bv ∧ j ≤ T.length ∧ i = .int .i64 (j : Int) ∧ Hid (InvF w wr [segB 5 ov (textsL h9 (T.take j)), segX 42 (w.heap.size + 1) [.int .i64 x, .int .i64 y, .int .i64 z, (.slice A m.length ac), (.slice B k.length bc), .int .i64 qx, .int .i64 qy, (.slice C ql.length cc), (.slice D qk.length dc), (.slice E L.length ec), (.slice F T.length fc)], segX 35 w.heap.size [.int .i64 a, .int .i64 b, .int .i64 c, .int .i64 d, .int .i64 e]]))
    (fun _ i _ => T.length - (intOf i).toNat)
  case atStart => exact ⟨0, _, rfl, Nat.zero_le _, rfl, H5h⟩
  case round =>
    clear H5h o0 o1 o2 o3 o4 o5 o6 o7 o8 o9 o10
    obtain ⟨j, ov, rfl, hj, rfl, Hj⟩ := hrel
    by_cases hlt : j < T.length
    · obtain ⟨b0, off, rfl, hbb, hcell⟩ := h3 (by omega)
      obtain ⟨uu, hu0, hsl⟩ := hcell j hlt
      have hjl : (j : Int) < (T.length : Int) := by omega
      have hu1 := (Hj.out.bel.cell (p := ⟨b0, off + j, none⟩) hbb).trans hu0
      have hsl2 := Lib.hid (hsl.up Hj.out.bel)
      have HLB := Lib.hid (hbr.out j hlt)
      have HST := Lib.hid (hst.out j hlt)
      have HBD := Lib.hid (hbd.out j)
      clear hcell hu0 hsl hbr
      generalize T.getD j [] = r at hsl2 HLB HST
      go_wp2_with fail
      refine (implPutText_any _ uu (textsL h9 (T.take j)) r _ (Hj.out.slB 5 (.head _)) hsl2.out HBD.out HLB.out).mono ?_
      rw [← HST.out]
      rintro ev w4 ⟨v4, rfl, ho4, hb4⟩
      have HF := Lib.hid ((Hj.out.moreB ho4 hb4).sub (qs := [segB 5 v4 (textsL h9 (T.take (j + 1))), segX 42 (w.heap.size + 1) [.int .i64 x, .int .i64 y, .int .i64 z, (.slice A m.length ac), (.slice B k.length bc), .int .i64 qx, .int .i64 qy, (.slice C ql.length cc), (.slice D qk.length dc), (.slice E L.length ec), (.slice (some ⟨b0, off, none⟩) T.length fc)], segX 35 w.heap.size [.int .i64 a, .int .i64 b, .int .i64 c, .int .i64 d, .int .i64 e]]) (.cons_cons _ (.cons _ (.cons_cons _ (.cons_cons _ .slnil)))))
      clear ho4 hb4 hu1 hsl2
      go_wp2
      go_roundw
      case rel => exact ⟨j + 1, v4, rfl, by omega, by go_num, HF⟩
      case measure => simp [intOf]; omega
    · obtain rfl : j = T.length := by omega
      have hfull : T.take T.length = T := List.take_length
      rw [hfull] at Hj
      clear hfull
      go_wp2
      go_ret2
      exact ⟨_, rfl, by rw [HRE.out]; exact Hj.out.ownB 5 (.head _), Hj.out.bel⟩

set_option maxRecDepth 100000 in
set_option maxHeartbeats 8000000 in
theorem specPutBlock_any (a b c d e x y z qx qy : Int) (t u v qu qv qs tx : Value) (l m k ql qk : List UInt8) (L T : List (List UInt8)) (w : World) (ht : Sl w w.heap.size t l) (hu : Sl w w.heap.size u m) (hv : Sl w w.heap.size v k) (hqu : Sl w w.heap.size qu ql) (hqv : Sl w w.heap.size qv qk) (hqs : SlS w w.heap.size qs L) (htx : SlS w w.heap.size tx T) (hl : l.length ≤ 536870912) (hq3 : ql.length + qk.length + sumL L ≤ 67108864) (hs : sumL T ≤ 1073741000) (hTl : T.length ≤ 1073741824) :
    Calls Tryz.prog 8 #[.agg #[.int .i64 a, .int .i64 b, .int .i64 c, .int .i64 d, .int .i64 e], t, .agg #[.int .i64 x, .int .i64 y, .int .i64 z, u, v, .int .i64 qx, .int .i64 qy, qu, qv, qs, tx]] w (Fresh2 w (putBlockL a b c d e l x y z qx qy m k ql qk L T) (.bool (blockB a b c d e x y z qx qy m k ql qk L T))) := by
  have HT0 := Lib.hid ht
  have HU := Lib.hid hu
  have HV := Lib.hid hv
  have HQU := Lib.hid hqu
  have HQV := Lib.hid hqv
  have HQS := Lib.hid hqs
  have HTX := Lib.hid htx
  obtain ⟨A0, tc, rfl, p1, p2, p0, p3⟩ := ht
  clear p1 p2 p0 p3
  obtain ⟨A, ac, rfl, p1, p2, p0, p3⟩ := hu
  clear p1 p2 p0 p3
  obtain ⟨B, bc, rfl, p1, p2, p0, p3⟩ := hv
  clear p1 p2 p0 p3
  obtain ⟨C, cc, rfl, p1, p2, p0, p3⟩ := hqu
  clear p1 p2 p0 p3
  obtain ⟨D, dc, rfl, p1, p2, p0, p3⟩ := hqv
  clear p1 p2 p0 p3
  obtain ⟨E, ec, rfl, p1, p2, p0, p3⟩ := hqs
  clear p1 p2 p0 p3
  obtain ⟨F, fc, rfl, h1, h2, h0, h3⟩ := htx
  unfold maxLen at h2
  clear h0
  have c0 := fun W g1 g2 g3 g4 g5 g6 => specBlockOk_any a b c d e x y z qx qy (.slice A m.length ac) (.slice B k.length bc) (.slice C ql.length cc) (.slice D qk.length dc) (.slice E L.length ec) (.slice F T.length fc) m k ql qk L T W g1 g2 g3 g4 g5 g6 (by omega) hs hTl
  have hP : blockB a b c d e x y z qx qy m k ql qk L T = true → (headB a b c d e x y z qx qy m k ql qk L = true ∧ T.length ≤ 8 ∧ ∀ r ∈ T, r.length ≤ 40) ∧ putBlockL a b c d e l x y z qx qy m k ql qk L T = textsL (putVarL (headL l x y z qx qy m k ql qk L) T.length) T := fun h => ⟨blockB_parts h, if_pos h⟩
  have hN : blockB a b c d e x y z qx qy m k ql qk L T = false → putBlockL a b c d e l x y z qx qy m k ql qk L T = [] := fun h => if_neg (by simp [h])
  obtain ⟨R, hR⟩ : ∃ R, R = putBlockL a b c d e l x y z qx qy m k ql qk L T := ⟨_, rfl⟩
  obtain ⟨x0, g0⟩ : ∃ x0, x0 = blockB a b c d e x y z qx qy m k ql qk L T := ⟨_, rfl⟩
  rw [← hR] at hP hN ⊢
  rw [← g0] at hP hN ⊢
  simp only [← g0] at c0
  have C0 := Lib.hid c0
  have HP := Lib.hid hP
  have HN := Lib.hid hN
  clear c0 hP hN hR g0
  have c1 := fun W g1 g2 g3 g4 g5 g6 => specPutHead_any a b c d e x y z qx qy (.slice A0 l.length tc) (.slice A m.length ac) (.slice B k.length bc) (.slice C ql.length cc) (.slice D qk.length dc) (.slice E L.length ec) l m k ql qk L W g1 g2 g3 g4 g5 g6 (by omega) (by omega)
  unfold putHeadL at c1
  have C1 := Lib.hid c1
  clear c1
  have H0 : InvF w _ [segX 42 (w.heap.size + 1) [.int .i64 x, .int .i64 y, .int .i64 z, (.slice A m.length ac), (.slice B k.length bc), .int .i64 qx, .int .i64 qy, (.slice C ql.length cc), (.slice D qk.length dc), (.slice E L.length ec), (.slice F T.length fc)], segX 35 w.heap.size [.int .i64 a, .int .i64 b, .int .i64 c, .int .i64 d, .int .i64 e]] := ((InvF.start w).newG 35 #[.int .i64 a, .int .i64 b, .int .i64 c, .int .i64 d, .int .i64 e] w.heap.size).newG 42 #[.int .i64 x, .int .i64 y, .int .i64 z, .slice A m.length ac, .slice B k.length bc, .int .i64 qx, .int .i64 qy, .slice C ql.length cc, .slice D qk.length dc, .slice E L.length ec, .slice F T.length fc] (w.heap.size + 1)
  go_enter Tryz.func8, Tryz.ntmps8
  go_wp2_with fail
  refine (C0.out _ (HU.out.up H0.bel) (HV.out.up H0.bel) (HQU.out.up H0.bel) (HQV.out.up H0.bel) (HQS.out.up H0.bel) (HTX.out.up H0.bel)).mono ?_
  rintro ev w1 ⟨rfl, hb1⟩
  have H := H0.up hb1
  clear H0 hb1 C0
  rcases x0 with _ | _
  · go_wp2
    go_ret2
    exact ⟨_, rfl, by rw [HN.out (by first | trivial | rfl)]; exact World.ownsRow_nil _ _ _ _, H.bel⟩
  obtain ⟨⟨hh, hT8, hT40⟩, hRe⟩ := HP.out rfl
  have C2 := Lib.hid (fun W g1 g2 g3 g4 g5 g6 => by have h := C1.out W g1 g2 g3 g4 g5 g6; rw [if_pos hh, hh] at h; exact h)
  have HRE := Lib.hid hRe
  have hhl := headL_len l hh
  have hbd : Hid (∀ j, (textsL (putVarL (headL l x y z qx qy m k ql qk L) T.length) (T.take j)).length ≤ 1073741824) := Lib.hid (fun j => by
    have k1 := putVarL_len (headL l x y z qx qy m k ql qk L) T.length
    have k2 := textsL_len (T.take j) (putVarL (headL l x y z qx qy m k ql qk L) T.length) (fun r hr => hT40 r (List.mem_of_mem_take hr))
    have k3 : (T.take j).length ≤ 8 := by rw [List.length_take]; omega
    omega)
  have hbh : Hid ((headL l x y z qx qy m k ql qk L).length ≤ 1073741824) := Lib.hid (by omega)
  have hbr : Hid (∀ j, j < T.length → (T.getD j []).length ≤ 1073741824) := Lib.hid (fun j hj => by have := sumL_one T j hj; omega)
  have hst := Lib.hid (fun j hj => textsL_take (putVarL (headL l x y z qx qy m k ql qk L) T.length) T j hj)
  obtain ⟨hd, hhd⟩ : ∃ q, q = (headL l x y z qx qy m k ql qk L) := ⟨_, rfl⟩
  rw [← hhd] at C2 hbd hbh hst HRE
  clear HP HN C1 hh hT40 hRe hhl hhd
  obtain ⟨o0, o1, o2, o3, o4, o5, o6, o7, o8, o9, o10⟩ := H.c11 (.head _)
  obtain ⟨t0, t1, t2, t3, t4⟩ := H.c5 (.tail _ (.head _))
  go_wp2_with fail
  refine (C2.out _ (HT0.out.up H.bel) (HU.out.up H.bel) (HV.out.up H.bel) (HQU.out.up H.bel) (HQV.out.up H.bel) (HQS.out.up H.bel)).mono ?_
  rintro ev w2 ⟨v2, rfl, ho2, hb2⟩
  have H2 : InvF w w2 [segB 5 v2 hd, segX 42 (w.heap.size + 1) [.int .i64 x, .int .i64 y, .int .i64 z, (.slice A m.length ac), (.slice B k.length bc), .int .i64 qx, .int .i64 qy, (.slice C ql.length cc), (.slice D qk.length dc), (.slice E L.length ec), (.slice F T.length fc)], segX 35 w.heap.size [.int .i64 a, .int .i64 b, .int .i64 c, .int .i64 d, .int .i64 e]] := H.moreB ho2 hb2
  clear H ho2 hb2 C2 o0 o1 o2 o3 o4 o5 o6 o7 o8 o9 o10 t0 t1 t2 t3 t4
  obtain ⟨o0, o1, o2, o3, o4, o5, o6, o7, o8, o9, o10⟩ := H2.c11 (.tail _ (.head _))
  go_wp2_with fail
  have H3 := H2
  refine (l11Num_any _ hd (T.length : Int) _ (H3.slB 5 (.head _)) (by have := hbh.out; omega)).mono ?_
  rintro ev w3 ⟨v3, rfl, ho3, hb3⟩
  have H4 : InvF w w3 [segB 5 v3 (putVarL hd T.length), segB 5 v2 hd, segX 42 (w.heap.size + 1) [.int .i64 x, .int .i64 y, .int .i64 z, (.slice A m.length ac), (.slice B k.length bc), .int .i64 qx, .int .i64 qy, (.slice C ql.length cc), (.slice D qk.length dc), (.slice E L.length ec), (.slice F T.length fc)], segX 35 w.heap.size [.int .i64 a, .int .i64 b, .int .i64 c, .int .i64 d, .int .i64 e]] := H3.moreB ho3 hb3
  have H5 := H4.sub (qs := [segB 5 v3 (textsL (putVarL hd T.length) (T.take 0)), segX 42 (w.heap.size + 1) [.int .i64 x, .int .i64 y, .int .i64 z, (.slice A m.length ac), (.slice B k.length bc), .int .i64 qx, .int .i64 qy, (.slice C ql.length cc), (.slice D qk.length dc), (.slice E L.length ec), (.slice F T.length fc)], segX 35 w.heap.size [.int .i64 a, .int .i64 b, .int .i64 c, .int .i64 d, .int .i64 e]]) (.cons_cons _ (.cons _ (.cons_cons _ (.cons_cons _ .slnil))))
  clear H2 H3 H4 ho3 hb3 o0 o1 o2 o3 o4 o5 o6 o7 o8 o9 o10
  generalize putVarL hd (T.length : Int) = h9 at *
  obtain ⟨o0, o1, o2, o3, o4, o5, o6, o7, o8, o9, o10⟩ := H5.c11 (.tail _ (.head _))
  have H5h := Lib.hid H5
  clear H5
  go_wp2
  go_loopw [8, 32] (fun bv i wr => ∃ (j : Nat) (ov : Value), ov = bv ∧ j ≤ T.length ∧ i = .int .i64 (j : Int) ∧ Hid (InvF w wr [segB 5 ov (textsL h9 (T.take j)), segX 42 (w.heap.size + 1) [.int .i64 x, .int .i64 y, .int .i64 z, (.slice A m.length ac), (.slice B k.length bc), .int .i64 qx, .int .i64 qy, (.slice C ql.length cc), (.slice D qk.length dc), (.slice E L.length ec), (.slice F T.length fc)], segX 35 w.heap.size [.int .i64 a, .int .i64 b, .int .i64 c, .int .i64 d, .int .i64 e]]))
    (fun _ i _ => T.length - (intOf i).toNat)
  case atStart => exact ⟨0, _, rfl, Nat.zero_le _, rfl, H5h⟩
  case round =>
    clear H5h o0 o1 o2 o3 o4 o5 o6 o7 o8 o9 o10
    obtain ⟨j, ov, rfl, hj, rfl, Hj⟩ := hrel
    by_cases hlt : j < T.length
    · obtain ⟨b0, off, rfl, hbb, hcell⟩ := h3 (by omega)
      obtain ⟨uu, hu0, hsl⟩ := hcell j hlt
      have hjl : (j : Int) < (T.length : Int) := by omega
      have hu1 := (Hj.out.bel.cell (p := ⟨b0, off + j, none⟩) hbb).trans hu0
      have hsl2 := Lib.hid (hsl.up Hj.out.bel)
      have HLB := Lib.hid (hbr.out j hlt)
      have HST := Lib.hid (hst.out j hlt)
      have HBD := Lib.hid (hbd.out j)
      clear hcell hu0 hsl hbr
      generalize T.getD j [] = r at hsl2 HLB HST
      go_wp2_with fail
      refine (specPutText_any _ uu (textsL h9 (T.take j)) r _ (Hj.out.slB 5 (.head _)) hsl2.out HBD.out HLB.out).mono ?_
      rw [← HST.out]
      rintro ev w4 ⟨v4, rfl, ho4, hb4⟩
      have HF := Lib.hid ((Hj.out.moreB ho4 hb4).sub (qs := [segB 5 v4 (textsL h9 (T.take (j + 1))), segX 42 (w.heap.size + 1) [.int .i64 x, .int .i64 y, .int .i64 z, (.slice A m.length ac), (.slice B k.length bc), .int .i64 qx, .int .i64 qy, (.slice C ql.length cc), (.slice D qk.length dc), (.slice E L.length ec), (.slice (some ⟨b0, off, none⟩) T.length fc)], segX 35 w.heap.size [.int .i64 a, .int .i64 b, .int .i64 c, .int .i64 d, .int .i64 e]]) (.cons_cons _ (.cons _ (.cons_cons _ (.cons_cons _ .slnil)))))
      clear ho4 hb4 hu1 hsl2
      go_wp2
      go_roundw
      case rel => exact ⟨j + 1, v4, rfl, by omega, by go_num, HF⟩
      case measure => simp [intOf]; omega
    · obtain rfl : j = T.length := by omega
      have hfull : T.take T.length = T := List.take_length
      rw [hfull] at Hj
      clear hfull
      go_wp2
      go_ret2
      exact ⟨_, rfl, by rw [HRE.out]; exact Hj.out.ownB 5 (.head _), Hj.out.bel⟩

end Go.Proofs.YtdoaikanaodefaaGreatDoor
