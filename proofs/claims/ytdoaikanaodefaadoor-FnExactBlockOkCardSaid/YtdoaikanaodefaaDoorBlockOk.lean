/- hasRoot of the program; BlockOk of the program and of its model. -/
import Derived.Test.YtdoaikanaodefaaDoorTxs
import Derived.Test.YtdoaikanaodefaaDoorHeadOk
import Derived.Test.YtdoaikanaodefaaDoorBox11
import Derived.Test.YtdoaikanaodefaaDoorTree
import Derived.Deep.RegionHeld3
namespace Go.Proofs.YtdoaikanaodefaaDoor
open Go.ChangeShapes Go.WideShapes Go.ChangeAt Go.RowKit

set_option maxRecDepth 100000 in
set_option maxHeartbeats 8000000 in
theorem hasRoot_any (x y z qx qy : Int) (u v qu qv qs t : Value) (l k ql qk : List UInt8) (L T : List (List UInt8)) (w : World) (hu : Sl w w.heap.size u l) (hv : Sl w w.heap.size v k) (hqu : Sl w w.heap.size qu ql) (hqv : Sl w w.heap.size qv qk) (hqs : SlS w w.heap.size qs L) (ht : SlS w w.heap.size t T) (hs : sumL T ≤ 1073741000) (hTl : T.length ≤ 1073741824) (hI : Glob w 0 initW) (hG : Glob w 1 kk) :
    Calls Tryd.prog 71 #[.agg #[.int .i64 x, .int .i64 y, .int .i64 z, u, v, .int .i64 qx, .int .i64 qy, qu, qv, qs, t]] w (fun ev w' => ev = .returned (.bool (k == treeL T)) ∧ Below w.heap.size w w') := by
  obtain ⟨A, ac, rfl, p1, p2, p0, p3⟩ := id hu
  clear p1 p2 p0 p3
  obtain ⟨B, bc, rfl, p1, p2, p0, p3⟩ := id hv
  clear p1 p2 p0 p3
  obtain ⟨C, cc, rfl, p1, p2, p0, p3⟩ := id hqu
  clear p1 p2 p0 p3
  obtain ⟨D, dc, rfl, p1, p2, p0, p3⟩ := id hqv
  clear p1 p2 p0 p3
  obtain ⟨E, ec, rfl, p1, p2, p0, p3⟩ := id hqs
  clear p1 p2 p0 p3
  obtain ⟨F, fc, rfl, p1, p2, p0, p3⟩ := id ht
  clear p1 p2 p0 p3
  obtain ⟨r, hr⟩ : ∃ r, r = treeL T := ⟨_, rfl⟩
  have C0 := Lib.hid (fun W h1 h2 h3 => implTreeRoot_any (.slice F T.length fc) T W h1 hs hTl h2 h3)
  rw [← hr] at C0 ⊢
  have H := (InvF.start w).newG 65 #[.int .i64 x, .int .i64 y, .int .i64 z, .slice A l.length ac, .slice B k.length bc, .int .i64 qx, .int .i64 qy, .slice C ql.length cc, .slice D qk.length dc, .slice E L.length ec, .slice F T.length fc] w.heap.size
  have HV := Lib.hid hv
  have HT := Lib.hid ht
  have HI := Lib.hid hI
  have HG := Lib.hid hG
  have HE := Lib.hid H.drew1
  have L0 := Lib.hid (And.intro (HE.out.atX (.head _) 4 rfl) (HE.out.atX (.head _) 10 rfl))
  clear hv ht hI hG hr
  go_enter Tryd.func71, Tryd.ntmps71
  go_wp2_with fail
  clear H
  go_region_held3 (fun w' => w'.cell? ⟨w.heap.size, 4, none⟩ = some (.slice B k.length bc) ∧ w'.cell? ⟨w.heap.size, 10, none⟩ = some (.slice F T.length fc))
    (first
      | with_reducible exact L0.out
      | with_reducible exact L1.out)
    (first
      | (go_at_call 15; refine (C0.out _ (HT.out.up HE.out.bel) (HI.out.up HE.out.bel) (HG.out.up HE.out.bel)).mono ?_; rintro ev w2 ⟨u2, rfl, ho2, hb2⟩; have H2 := Lib.hid (HE.out.moreB ho2 hb2); have L1 := Lib.hid (And.intro (H2.out.atX (.tail _ (.head _)) 4 rfl) (H2.out.atX (.tail _ (.head _)) 10 rfl)); clear ho2 hb2)
      | (go_at_call 13; refine (implSameBytes_any _ _ k r _ (HV.out.up H2.out.bel) (H2.out.slB 5 (.head _))).mono ?_; rintro ev w' ⟨rfl, rfl⟩))
  go_wp2
  go_ret
  exact ⟨rfl, H2.out.bel⟩

/-- Whether a block is valid under limits. -/
def blockB (a b c d e x y z qx qy : Int) (l k ql qk : List UInt8) (L T : List (List UInt8)) : Bool := headB a b c d e x y z qx qy l k ql qk L && (txsB b c T && (k == treeL T))
set_option maxRecDepth 100000 in
set_option maxHeartbeats 8000000 in
theorem implBlockOk_any (a b c d e : Int) (x y z qx qy : Int) (u v qu qv qs t : Value) (l k ql qk : List UInt8) (L T : List (List UInt8)) (w : World) (hu : Sl w w.heap.size u l) (hv : Sl w w.heap.size v k) (hqu : Sl w w.heap.size qu ql) (hqv : Sl w w.heap.size qv qk) (hqs : SlS w w.heap.size qs L) (ht : SlS w w.heap.size t T) (hqk : qk.length ≤ 4294967296) (hs : sumL T ≤ 1073741000) (hTl : T.length ≤ 1073741824) (hI : Glob w 0 initW) (hG : Glob w 1 kk) :
    Calls Tryd.prog 34 #[.agg #[.int .i64 a, .int .i64 b, .int .i64 c, .int .i64 d, .int .i64 e], .agg #[.int .i64 x, .int .i64 y, .int .i64 z, u, v, .int .i64 qx, .int .i64 qy, qu, qv, qs, t]] w (BoolB w (blockB a b c d e x y z qx qy l k ql qk L T)) := by
  obtain ⟨A, ac, rfl, p1, p2, p0, p3⟩ := id hu
  clear p1 p2 p0 p3
  obtain ⟨B, bc, rfl, p1, p2, p0, p3⟩ := id hv
  clear p1 p2 p0 p3
  obtain ⟨C, cc, rfl, p1, p2, p0, p3⟩ := id hqu
  clear p1 p2 p0 p3
  obtain ⟨D, dc, rfl, p1, p2, p0, p3⟩ := id hqv
  clear p1 p2 p0 p3
  obtain ⟨E, ec, rfl, p1, p2, p0, p3⟩ := id hqs
  clear p1 p2 p0 p3
  obtain ⟨F, fc, rfl, p1, p2, p0, p3⟩ := id ht
  clear p1 p2 p0 p3
  unfold blockB
  have H0 : InvF w _ [segX 65 (w.heap.size + 1) [.int .i64 x, .int .i64 y, .int .i64 z, (.slice A l.length ac), (.slice B k.length bc), .int .i64 qx, .int .i64 qy, (.slice C ql.length cc), (.slice D qk.length dc), (.slice E L.length ec), (.slice F T.length fc)], segX 59 w.heap.size [.int .i64 a, .int .i64 b, .int .i64 c, .int .i64 d, .int .i64 e]] := ((InvF.start w).newG 59 #[.int .i64 a, .int .i64 b, .int .i64 c, .int .i64 d, .int .i64 e] w.heap.size).newG 65 #[.int .i64 x, .int .i64 y, .int .i64 z, .slice A l.length ac, .slice B k.length bc, .int .i64 qx, .int .i64 qy, .slice C ql.length cc, .slice D qk.length dc, .slice E L.length ec, .slice F T.length fc] (w.heap.size + 1)
  have HU := Lib.hid hu
  have HV := Lib.hid hv
  have HQU := Lib.hid hqu
  have HQV := Lib.hid hqv
  have HQS := Lib.hid hqs
  have HT := Lib.hid ht
  have c0 := fun W h1 h2 h3 h4 h5 => implHeadOk_any a b c d e x y z qx qy (.slice A l.length ac) (.slice B k.length bc) (.slice C ql.length cc) (.slice D qk.length dc) (.slice E L.length ec) l k ql qk L W h1 h2 h3 h4 h5 hqk
  obtain ⟨x0, g0⟩ : ∃ r : Bool, r = headB a b c d e x y z qx qy l k ql qk L := ⟨_, rfl⟩
  rw [← g0]
  simp only [← g0] at c0
  have C0 := Lib.hid c0
  clear c0 g0
  have HI := Lib.hid hI
  have HG := Lib.hid hG
  have c1 := fun W h => areTxs_any a b c d e (.slice F T.length fc) T W h
  have c2 := fun W h1 h2 h3 h4 h5 h6 h7 h8 => hasRoot_any x y z qx qy (.slice A l.length ac) (.slice B k.length bc) (.slice C ql.length cc) (.slice D qk.length dc) (.slice E L.length ec) (.slice F T.length fc) l k ql qk L T W h1 h2 h3 h4 h5 h6 hs hTl h7 h8
  obtain ⟨x1, g1⟩ : ∃ r : Bool, r = txsB b c T := ⟨_, rfl⟩
  obtain ⟨x2, g2⟩ : ∃ r : Bool, r = (k == treeL T) := ⟨_, rfl⟩
  rw [← g1, ← g2]
  simp only [← g1] at c1
  simp only [← g2] at c2
  have C1 := Lib.hid c1
  have C2 := Lib.hid c2
  clear c1 c2 g1 g2 hu hv hqu hqv hqs ht hI hG
  go_enter Tryd.func34, Tryd.ntmps34
  go_wp2_with fail
  refine (C0.out _ (HU.out.up H0.bel) (HV.out.up H0.bel) (HQU.out.up H0.bel) (HQV.out.up H0.bel) (HQS.out.up H0.bel)).mono ?_
  rintro ev w1 ⟨rfl, hb1⟩
  have H := H0.up hb1
  clear H0 hb1
  rcases x0 with _ | _
  · go_wp2
    go_ret
    exact ⟨rfl, H.bel⟩
  obtain ⟨o0, o1, o2, o3, o4, o5, o6, o7, o8, o9, o10⟩ := H.c11 (.head _)
  obtain ⟨t0, t1, t2, t3, t4⟩ := H.c5 (.tail _ (.head _))
  go_wp2_with fail
  refine (C1.out _ (HT.out.up H.bel)).mono ?_
  rintro ev w2 ⟨rfl, hb2⟩
  replace H := H.up hb2
  clear hb2 o0 o1 o2 o3 o4 o5 o6 o7 o8 o9 o10 t0 t1 t2 t3 t4
  rcases x1 with _ | _
  · go_wp2
    go_ret
    exact ⟨rfl, H.bel⟩
  obtain ⟨o0, o1, o2, o3, o4, o5, o6, o7, o8, o9, o10⟩ := H.c11 (.head _)
  obtain ⟨t0, t1, t2, t3, t4⟩ := H.c5 (.tail _ (.head _))
  go_wp2_with fail
  refine (C2.out _ (HU.out.up H.bel) (HV.out.up H.bel) (HQU.out.up H.bel) (HQV.out.up H.bel) (HQS.out.up H.bel) (HT.out.up H.bel) (HI.out.up H.bel) (HG.out.up H.bel)).mono ?_
  rintro ev w3 ⟨rfl, hb3⟩
  replace H := H.up hb3
  clear hb3 o0 o1 o2 o3 o4 o5 o6 o7 o8 o9 o10 t0 t1 t2 t3 t4
  rcases x2 with _ | _
  · go_wp2
    go_ret
    exact ⟨rfl, H.bel⟩
  · go_wp2
    go_ret
    exact ⟨rfl, H.bel⟩

set_option maxRecDepth 100000 in
set_option maxHeartbeats 8000000 in
theorem specBlockOk_any (a b c d e : Int) (x y z qx qy : Int) (u v qu qv qs t : Value) (l k ql qk : List UInt8) (L T : List (List UInt8)) (w : World) (hu : Sl w w.heap.size u l) (hv : Sl w w.heap.size v k) (hqu : Sl w w.heap.size qu ql) (hqv : Sl w w.heap.size qv qk) (hqs : SlS w w.heap.size qs L) (ht : SlS w w.heap.size t T) (hqk : qk.length ≤ 4294967296) (hs : sumL T ≤ 1073741000) (hTl : T.length ≤ 1073741824) :
    Calls Tryd.prog 31 #[.agg #[.int .i64 a, .int .i64 b, .int .i64 c, .int .i64 d, .int .i64 e], .agg #[.int .i64 x, .int .i64 y, .int .i64 z, u, v, .int .i64 qx, .int .i64 qy, qu, qv, qs, t]] w (BoolB w (blockB a b c d e x y z qx qy l k ql qk L T)) := by
  obtain ⟨A, ac, rfl, p1, p2, p0, p3⟩ := id hu
  clear p1 p2 p0 p3
  obtain ⟨B, bc, rfl, p1, p2, p0, p3⟩ := id hv
  clear p1 p2 p0 p3
  obtain ⟨C, cc, rfl, p1, p2, p0, p3⟩ := id hqu
  clear p1 p2 p0 p3
  obtain ⟨D, dc, rfl, p1, p2, p0, p3⟩ := id hqv
  clear p1 p2 p0 p3
  obtain ⟨E, ec, rfl, p1, p2, p0, p3⟩ := id hqs
  clear p1 p2 p0 p3
  obtain ⟨F, fc, rfl, p1, p2, p0, p3⟩ := id ht
  clear p1 p2 p0 p3
  unfold blockB
  have H0 : InvF w _ [segX 65 (w.heap.size + 1) [.int .i64 x, .int .i64 y, .int .i64 z, (.slice A l.length ac), (.slice B k.length bc), .int .i64 qx, .int .i64 qy, (.slice C ql.length cc), (.slice D qk.length dc), (.slice E L.length ec), (.slice F T.length fc)], segX 59 w.heap.size [.int .i64 a, .int .i64 b, .int .i64 c, .int .i64 d, .int .i64 e]] := ((InvF.start w).newG 59 #[.int .i64 a, .int .i64 b, .int .i64 c, .int .i64 d, .int .i64 e] w.heap.size).newG 65 #[.int .i64 x, .int .i64 y, .int .i64 z, .slice A l.length ac, .slice B k.length bc, .int .i64 qx, .int .i64 qy, .slice C ql.length cc, .slice D qk.length dc, .slice E L.length ec, .slice F T.length fc] (w.heap.size + 1)
  have HU := Lib.hid hu
  have HV := Lib.hid hv
  have HQU := Lib.hid hqu
  have HQV := Lib.hid hqv
  have HQS := Lib.hid hqs
  have HT := Lib.hid ht
  have c0 := fun W h1 h2 h3 h4 h5 => specHeadOk_any a b c d e x y z qx qy (.slice A l.length ac) (.slice B k.length bc) (.slice C ql.length cc) (.slice D qk.length dc) (.slice E L.length ec) l k ql qk L W h1 h2 h3 h4 h5 hqk
  obtain ⟨x0, g0⟩ : ∃ r : Bool, r = headB a b c d e x y z qx qy l k ql qk L := ⟨_, rfl⟩
  rw [← g0]
  simp only [← g0] at c0
  have C0 := Lib.hid c0
  clear c0 g0
  have C1 := Lib.hid (fun W h => specTreeRoot_any (.slice F T.length fc) T W h hs hTl)
  obtain ⟨r, hr⟩ : ∃ r, r = treeL T := ⟨_, rfl⟩
  rw [← hr] at C1 ⊢
  obtain ⟨Y, hY⟩ : ∃ Y : Bool, Y = (txsB b c T && (k == r)) := ⟨_, rfl⟩
  rw [← hY]
  have HY0 : Hid (c < (T.length : Int) → Y = false) := Lib.hid (fun h => by rw [hY, txsB_many h]; rfl)
  have HYb : Hid (¬ c < (T.length : Int) → ∀ i, i < T.length → b < ((T.getD i []).length : Int) → Y = false) := Lib.hid (fun h i hi e => by rw [hY, txsB_few h, allMost_no hi e]; rfl)
  have HYg : Hid (¬ c < (T.length : Int) → (∀ i, i < T.length → ((T.getD i []).length : Int) ≤ b) → Y = (k == r)) := Lib.hid (fun h e => by rw [hY, txsB_few h, allMost_yes e]; rfl)
  clear hY hr hu hv hqu hqv hqs
  obtain ⟨_, _, e1, h1, h2, _, h3⟩ := ht
  cases e1
  unfold maxLen at h2
  go_enter Tryd.func31, Tryd.ntmps31
  go_wp2_with fail
  refine (C0.out _ (HU.out.up H0.bel) (HV.out.up H0.bel) (HQU.out.up H0.bel) (HQV.out.up H0.bel) (HQS.out.up H0.bel)).mono ?_
  rintro ev w1 ⟨rfl, hb1⟩
  have H := H0.up hb1
  clear H0 hb1
  rcases x0 with _ | _
  · go_wp2
    go_ret
    exact ⟨rfl, H.bel⟩
  obtain ⟨o0, o1, o2, o3, o4, o5, o6, o7, o8, o9, o10⟩ := H.c11 (.head _)
  obtain ⟨t0, t1, t2, t3, t4⟩ := H.c5 (.tail _ (.head _))
  by_cases hm : c < (T.length : Int)
  · obtain rfl := HY0.out hm
    clear h3
    go_wp2
    go_ret
    exact ⟨rfl, H.bel⟩
  have HB := Lib.hid H.bel
  have HK := Lib.hid H
  clear H
  go_wp2
  go_loopw [23] (fun j wr => ∃ k : Nat, k ≤ T.length ∧ j = .int .i64 k ∧ Hid (∀ j, j < k → ((T.getD j []).length : Int) ≤ b) ∧ w1 = wr)
    (fun i _ => T.length - (intOf i).toNat)
  case atStart => exact ⟨0, Nat.zero_le _, rfl, Lib.hid (fun j hj => by omega), rfl⟩
  case round =>
    obtain ⟨k, hk, rfl, hok, rfl⟩ := hrel
    by_cases hlt : k < T.length
    · obtain ⟨b0, off, rfl, hbb, hcell⟩ := h3 (by omega)
      obtain ⟨u, hu, hsl⟩ := hcell k hlt
      have hklt : (k : Int) < (T.length : Int) := by omega
      replace hu := (HB.out.cell (p := ⟨b0, off + k, none⟩) hbb).trans hu
      have HBad : Hid (b < ((T.getD k []).length : Int) → Y = false) := Lib.hid fun e => HYb.out hm _ hlt e
      have HGood : Hid (¬ b < ((T.getD k []).length : Int) → ∀ j, j < k + 1 → ((T.getD j []).length : Int) ≤ b) := Lib.hid fun e j hj => by
        rcases Nat.lt_or_ge j k with h | h
        · exact hok.out j h
        · obtain rfl : j = k := by omega
          omega
      generalize T.getD k [] = l at hsl HBad HGood
      obtain ⟨Au, cu, rfl, _⟩ := id hsl
      clear hcell hok
      by_cases hlh : b < (l.length : Int)
      case pos =>
        obtain rfl := HBad.out hlh
        go_wp2
        go_ret
        exact ⟨rfl, HB.out⟩
      case neg =>
        have HG := Lib.hid (HGood.out hlh)
        go_wp2
        go_roundw
        case rel => exact ⟨k + 1, by omega, by go_num, HG, trivial⟩
        case measure => simp [intOf]; omega
    · obtain rfl : k = T.length := by omega
      obtain rfl := HYg.out hm hok.out
      have HE := Lib.hid HK.out.drew1
      have L0 := Lib.hid (And.intro (HE.out.atX (.head _) 4 rfl) (HE.out.atX (.head _) 10 rfl))
      go_wp2_with fail
      go_region_held3 (fun w' => w'.cell? ⟨w.heap.size + 1, 4, none⟩ = some (.slice B k.length bc) ∧ w'.cell? ⟨w.heap.size + 1, 10, none⟩ = some (.slice F T.length fc))
        (first
        | with_reducible exact L0.out
        | with_reducible exact L1.out)
        (first
          | (go_at_call 67; refine (C1.out _ (HT.out.up HE.out.bel)).mono ?_; rintro ev w2 ⟨u2, rfl, ho2, hb2⟩; have H2 := Lib.hid (HE.out.moreB ho2 hb2); have L1 := Lib.hid (And.intro (H2.out.atX (.tail _ (.head _)) 4 rfl) (H2.out.atX (.tail _ (.head _)) 10 rfl)); clear ho2 hb2)
          | (go_at_call 66; refine (specSameBytes_any _ _ k r _ (HV.out.up H2.out.bel) (H2.out.slB 5 (.head _))).mono ?_; rintro ev w' ⟨rfl, rfl⟩))
      go_wp2
      go_ret
      exact ⟨rfl, H2.out.bel⟩

end Go.Proofs.YtdoaikanaodefaaDoor
