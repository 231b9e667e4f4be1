/- HeadHash, of the program and of its model. -/
import Derived.Test.YtgblkopdchpciaaDoorPutHead
import Derived.Test.YtgblkopdchpciaaDoorShaBoth
namespace Go.Proofs.YtgblkopdchpciaaDoor
open Go.ChangeShapes Go.WideShapes Go.ChangeAt Go.RowKit

/-- The hash of a header, if it is valid. -/
def hashHL (a b c d e x y z qx qy : Int) (m k ql qk : List UInt8) (L : List (List UInt8)) : List UInt8 := if headB a b c d e x y z qx qy m k ql qk L = true then shaL (putHeadL a b c d e [72] x y z qx qy m k ql qk L) else []
theorem hashHL_len (a b c d e x y z qx qy : Int) (m k ql qk : List UInt8) (L : List (List UInt8)) : (hashHL a b c d e x y z qx qy m k ql qk L).length ≤ 32 := by
  unfold hashHL
  split
  · rw [shaL_length]; omega
  · simp
set_option maxRecDepth 100000 in
set_option maxHeartbeats 8000000 in
theorem specHeadHash_any (a b c d e x y z qx qy : Int) (u v qu qv qs : Value) (m k ql qk : List UInt8) (L : List (List UInt8)) (w : World) (hu : Sl w w.heap.size u m) (hv : Sl w w.heap.size v k) (hqu : Sl w w.heap.size qu ql) (hqv : Sl w w.heap.size qv qk) (hqs : SlS w w.heap.size qs L) (hsz : m.length + k.length + ql.length + qk.length + sumL L ≤ 1073741000) :
    Calls Tryd.prog 16 #[.agg #[.int .i64 a, .int .i64 b, .int .i64 c, .int .i64 d, .int .i64 e], .agg #[.int .i64 x, .int .i64 y, .int .i64 z, u, v, .int .i64 qx, .int .i64 qy, qu, qv, qs]] w (Fresh w (hashHL a b c d e x y z qx qy m k ql qk L)) := by
  have HU0 := Lib.hid hu
  have HV0 := Lib.hid hv
  have HQU := Lib.hid hqu
  have HQV := Lib.hid hqv
  have HQS := Lib.hid hqs
  obtain ⟨A, ac, rfl, p1, p2, p0, p3⟩ := hu
  clear p1 p2 p0 p3
  obtain ⟨B, bc, rfl, p1, p2, p0, p3⟩ := hv
  clear p1 p2 p0 p3
  obtain ⟨C, cc, rfl, p1, p2, p0, p3⟩ := hqu
  clear p1 p2 p0 p3
  obtain ⟨D, dc, rfl, p1, p2, p0, p3⟩ := hqv
  clear p1 p2 p0 p3
  obtain ⟨E, ec, rfl, p1, p2, p0, p3⟩ := hqs
  clear p1 p2 p0 p3
  have c0 := fun W t h0 h1 h2 h3 h4 h5 => specPutHead_any a b c d e x y z qx qy t (.slice A m.length ac) (.slice B k.length bc) (.slice C ql.length cc) (.slice D qk.length dc) (.slice E L.length ec) [72] m k ql qk L W h0 h1 h2 h3 h4 h5 (by simp) (by omega)
  have hP : headB a b c d e x y z qx qy m k ql qk L = true → hashHL a b c d e x y z qx qy m k ql qk L = shaL (putHeadL a b c d e [72] x y z qx qy m k ql qk L) := fun h => if_pos h
  have hN : headB a b c d e x y z qx qy m k ql qk L = false → hashHL a b c d e x y z qx qy m k ql qk L = [] := fun h => if_neg (by simp [h])
  have hlen := putHeadL_len a b c d e [72] x y z qx qy m k ql qk L
  obtain ⟨R, hR⟩ : ∃ R, R = hashHL a b c d e x y z qx qy m k ql qk L := ⟨_, rfl⟩
  obtain ⟨x0, g0⟩ : ∃ x0, x0 = headB a b c d e x y z qx qy m k ql qk L := ⟨_, rfl⟩
  obtain ⟨P, g1⟩ : ∃ P, P = putHeadL a b c d e [72] x y z qx qy m k ql qk L := ⟨_, rfl⟩
  rw [← hR] at hP hN ⊢
  rw [← g0] at hP hN
  rw [← g1] at hP hlen
  simp only [← g0, ← g1] at c0
  have hPl : P.length ≤ 1073741800 := by simp only [List.length_cons, List.length_nil] at hlen; omega
  have C0 := Lib.hid c0
  have HP := Lib.hid hP
  have HN := Lib.hid hN
  have HL := Lib.hid hPl
  clear c0 hP hN hR g0 g1 hlen hPl hsz
  have H0 := (((InvF.start w).newG 32 #[.int .i64 a, .int .i64 b, .int .i64 c, .int .i64 d, .int .i64 e] w.heap.size).newG 29 #[.int .i64 x, .int .i64 y, .int .i64 z, .slice A m.length ac, .slice B k.length bc, .int .i64 qx, .int .i64 qy, .slice C ql.length cc, .slice D qk.length dc, .slice E L.length ec] (w.heap.size + 1)).newG 5 #[.int .u8 72] (w.heap.size + 1 + 1)
  have hs : Sl _ _ (.slice (some ⟨w.heap.size + 1 + 1, 0, none⟩) 1 1) [72] := H0.slB 5 (.head _)
  have HS := Lib.hid hs
  clear hs
  go_enter Tryd.func16, Tryd.ntmps16
  go_wp2_with fail
  refine (C0.out _ _ HS.out (HU0.out.up H0.bel) (HV0.out.up H0.bel) (HQU.out.up H0.bel) (HQV.out.up H0.bel) (HQS.out.up H0.bel)).mono ?_
  rintro ev w1 ⟨v1, rfl, ho1, hb1⟩
  have H := H0.moreB ho1 hb1
  clear H0 ho1 hb1 HS
  rcases x0 with _ | _
  · go_wp2
    go_ret
    exact ⟨_, rfl, by rw [HN.out (by first | trivial | rfl)]; exact World.ownsRow_nil _ _ _ _, H.bel⟩
  have hRe := HP.out (by first | trivial | rfl)
  have HRE := Lib.hid hRe
  clear HP HN hRe
  go_wp2_with fail
  refine (specSha_any v1 P _ (H.slB 5 (.head _)) (by have := HL.out; omega)).mono ?_
  rintro ev w2 ⟨v2, rfl, ho2, hb2⟩
  have H2 := Lib.hid (H.moreB ho2 hb2)
  clear H ho2 hb2
  go_wp2
  go_ret
  exact ⟨_, rfl, by rw [HRE.out]; exact H2.out.ownB 5 (.head _), H2.out.bel⟩

set_option maxRecDepth 100000 in
set_option maxHeartbeats 8000000 in
theorem implHeadHash_any (a b c d e x y z qx qy : Int) (u v qu qv qs : Value) (m k ql qk : List UInt8) (L : List (List UInt8)) (w : World) (hu : Sl w w.heap.size u m) (hv : Sl w w.heap.size v k) (hqu : Sl w w.heap.size qu ql) (hqv : Sl w w.heap.size qv qk) (hqs : SlS w w.heap.size qs L) (hsz : m.length + k.length + ql.length + qk.length + sumL L ≤ 1073741000) (hgI : Glob w 0 initW) (hg : Glob w 2 kk) :
    Calls Tryd.prog 18 #[.agg #[.int .i64 a, .int .i64 b, .int .i64 c, .int .i64 d, .int .i64 e], .agg #[.int .i64 x, .int .i64 y, .int .i64 z, u, v, .int .i64 qx, .int .i64 qy, qu, qv, qs]] w (Fresh w (hashHL a b c d e x y z qx qy m k ql qk L)) := by
  have HU0 := Lib.hid hu
  have HV0 := Lib.hid hv
  have HQU := Lib.hid hqu
  have HQV := Lib.hid hqv
  have HQS := Lib.hid hqs
  obtain ⟨A, ac, rfl, p1, p2, p0, p3⟩ := hu
  clear p1 p2 p0 p3
  obtain ⟨B, bc, rfl, p1, p2, p0, p3⟩ := hv
  clear p1 p2 p0 p3
  obtain ⟨C, cc, rfl, p1, p2, p0, p3⟩ := hqu
  clear p1 p2 p0 p3
  obtain ⟨D, dc, rfl, p1, p2, p0, p3⟩ := hqv
  clear p1 p2 p0 p3
  obtain ⟨E, ec, rfl, p1, p2, p0, p3⟩ := hqs
  clear p1 p2 p0 p3
  have c0 := fun W t h0 h1 h2 h3 h4 h5 => implPutHead_any a b c d e x y z qx qy t (.slice A m.length ac) (.slice B k.length bc) (.slice C ql.length cc) (.slice D qk.length dc) (.slice E L.length ec) [72] m k ql qk L W h0 h1 h2 h3 h4 h5 (by simp) (by omega)
  have hP : headB a b c d e x y z qx qy m k ql qk L = true → hashHL a b c d e x y z qx qy m k ql qk L = shaL (putHeadL a b c d e [72] x y z qx qy m k ql qk L) := fun h => if_pos h
  have hN : headB a b c d e x y z qx qy m k ql qk L = false → hashHL a b c d e x y z qx qy m k ql qk L = [] := fun h => if_neg (by simp [h])
  have hlen := putHeadL_len a b c d e [72] x y z qx qy m k ql qk L
  obtain ⟨R, hR⟩ : ∃ R, R = hashHL a b c d e x y z qx qy m k ql qk L := ⟨_, rfl⟩
  obtain ⟨x0, g0⟩ : ∃ x0, x0 = headB a b c d e x y z qx qy m k ql qk L := ⟨_, rfl⟩
  obtain ⟨P, g1⟩ : ∃ P, P = putHeadL a b c d e [72] x y z qx qy m k ql qk L := ⟨_, rfl⟩
  rw [← hR] at hP hN ⊢
  rw [← g0] at hP hN
  rw [← g1] at hP hlen
  simp only [← g0, ← g1] at c0
  have hPl : P.length ≤ 1073741800 := by simp only [List.length_cons, List.length_nil] at hlen; omega
  have C0 := Lib.hid c0
  have HP := Lib.hid hP
  have HN := Lib.hid hN
  have HL := Lib.hid hPl
  clear c0 hP hN hR g0 g1 hlen hPl hsz
  have HG := Lib.hid (And.intro hgI hg)
  clear hgI hg
  have H0 := (((InvF.start w).newG 32 #[.int .i64 a, .int .i64 b, .int .i64 c, .int .i64 d, .int .i64 e] w.heap.size).newG 29 #[.int .i64 x, .int .i64 y, .int .i64 z, .slice A m.length ac, .slice B k.length bc, .int .i64 qx, .int .i64 qy, .slice C ql.length cc, .slice D qk.length dc, .slice E L.length ec] (w.heap.size + 1)).newG 5 #[.int .u8 72] (w.heap.size + 1 + 1)
  have hs : Sl _ _ (.slice (some ⟨w.heap.size + 1 + 1, 0, none⟩) 1 1) [72] := H0.slB 5 (.head _)
  have HS := Lib.hid hs
  clear hs
  go_enter Tryd.func18, Tryd.ntmps18
  go_wp2_with fail
  refine (C0.out _ _ HS.out (HU0.out.up H0.bel) (HV0.out.up H0.bel) (HQU.out.up H0.bel) (HQV.out.up H0.bel) (HQS.out.up H0.bel)).mono ?_
  rintro ev w1 ⟨v1, rfl, ho1, hb1⟩
  have H := H0.moreB ho1 hb1
  clear H0 ho1 hb1 HS
  rcases x0 with _ | _
  · go_wp2
    go_ret
    exact ⟨_, rfl, by rw [HN.out (by first | trivial | rfl)]; exact World.ownsRow_nil _ _ _ _, H.bel⟩
  have hRe := HP.out (by first | trivial | rfl)
  have HRE := Lib.hid hRe
  clear HP HN hRe
  go_wp2_with fail
  refine (implSha_any v1 P _ (H.slB 5 (.head _)) (by have := HL.out; omega) (HG.out.1.up H.bel) (HG.out.2.up H.bel)).mono ?_
  rintro ev w2 ⟨v2, rfl, ho2, hb2⟩
  have H2 := Lib.hid (H.moreB ho2 hb2)
  clear H ho2 hb2
  go_wp2
  go_ret
  exact ⟨_, rfl, by rw [HRE.out]; exact H2.out.ownB 5 (.head _), H2.out.bel⟩

end Go.Proofs.YtgblkopdchpciaaDoor
