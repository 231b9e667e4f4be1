/- The contracts of PathOk, as the program has it and as its model has it. -/
import Derived.Test.YtlchadbbldkkfaaDoorPathRoot
import Derived.Test.YtlchadbbldkkfaaDoorPut
namespace Go.Proofs.YtlchadbbldkkfaaDoor
open Go.ChangeShapes Go.WideShapes Go.ChangeAt Go.RowKit

/-- Does the path lead from the leaf to the root? -/
def leadsB (x : List UInt8) (i n : Int) (P : List (List UInt8)) (r : List UInt8) : Bool := rootB (leafL x) i n P && (rootP (leafL x) i n P == r)

set_option maxHeartbeats 2000000 in
theorem specPathOk_any (u v z : Value) (x : List UInt8) (i n : Int) (P : List (List UInt8)) (r : List UInt8) (w : World) (hu : Sl w w.heap.size u x) (hv : SlS w w.heap.size v P) (hz : Sl w w.heap.size z r) (hx : x.length ≤ 1073741000) :
    Calls Tryd.prog 31 #[u, .int .i64 i, .int .i64 n, v, z] w (fun e w' => e = .returned (.bool (leadsB x i n P r)) ∧ Below w.heap.size w w') := by
  obtain ⟨A, c, rfl, p1, p2, p0, p3⟩ := id hv
  unfold maxLen at p2
  clear p0 p3
  have HV := Lib.hid hv
  have HZ := Lib.hid hz
  have HU := Lib.hid hu
  unfold leadsB
  have HL := Lib.hid (specLeafHash_any u x w hu hx)
  have HR := Lib.hid (fun u' w' h1 h2 => specPathRoot_any u' (.slice A P.length c) (leafL x) i n P w' h1 h2)
  generalize leafL x = L at HL HR ⊢
  generalize rootP L i n P = R at HR ⊢
  generalize rootB L i n P = b at HR ⊢
  clear hv hz hu
  cases b with
  | false =>
    go_enter Tryd.func31, Tryd.ntmps31
    go_wp2_with fail
    refine HL.out.mono ?_
    rintro e w1 ⟨v1, rfl, ho1, hb1⟩
    go_wp2_with fail
    refine (HR.out v1 w1 ho1.sl (HV.out.up hb1)).mono ?_
    rintro e w2 ⟨v2, rfl, ho2, hb2⟩
    go_wp2_with fail
    go_ret
    exact ⟨rfl, hb1.trans (hb2.mono hb1.size)⟩
  | true =>
    have HS := Lib.hid (fun v w' h1 h2 => specSameBytes_any v z R r w' h1 h2)
    generalize (R == r) = t at HS ⊢
    go_enter Tryd.func31, Tryd.ntmps31
    go_wp2_with fail
    refine HL.out.mono ?_
    rintro e w1 ⟨v1, rfl, ho1, hb1⟩
    go_wp2_with fail
    refine (HR.out v1 w1 ho1.sl (HV.out.up hb1)).mono ?_
    rintro e w2 ⟨v2, rfl, ho2, hb2⟩
    have HB := Lib.hid (hb1.trans (hb2.mono hb1.size))
    go_wp2_with fail
    refine (HS.out v2 w2 ho2.sl (HZ.out.up HB.out)).mono ?_
    rintro e w3 ⟨rfl, rfl⟩
    go_wp2
    go_ret
    exact ⟨by simp, HB.out⟩

set_option maxHeartbeats 2000000 in
theorem implPathOk_any (u v z : Value) (x : List UInt8) (i n : Int) (P : List (List UInt8)) (r : List UInt8) (w : World) (hu : Sl w w.heap.size u x) (hv : SlS w w.heap.size v P) (hz : Sl w w.heap.size z r) (hx : x.length ≤ 1073741000)
    (hI : Glob w 0 initW) (hG : Glob w 1 kk) :
    Calls Tryd.prog 17 #[u, .int .i64 i, .int .i64 n, v, z] w (fun e w' => e = .returned (.bool (leadsB x i n P r)) ∧ Below w.heap.size w w') := by
  obtain ⟨A, c, rfl, p1, p2, p0, p3⟩ := id hv
  unfold maxLen at p2
  clear p0 p3
  have HV := Lib.hid hv
  have HZ := Lib.hid hz
  have HU := Lib.hid hu
  unfold leadsB
  have HL := Lib.hid (implLeafHash_any u x w hu hx hI hG)
  have HR := Lib.hid (fun u' w' h1 h2 h3 h4 => implPathRoot_any u' (.slice A P.length c) (leafL x) i n P w' h1 h2 h3 h4)
  generalize leafL x = L at HL HR ⊢
  generalize rootP L i n P = R at HR ⊢
  generalize rootB L i n P = b at HR ⊢
  clear hv hz hu
  cases b with
  | false =>
    go_enter Tryd.func17, Tryd.ntmps17
    go_wp2_with fail
    refine HL.out.mono ?_
    rintro e w1 ⟨v1, rfl, ho1, hb1⟩
    go_wp2_with fail
    refine (HR.out v1 w1 ho1.sl (HV.out.up hb1) (hI.below hI.lt hb1) (hG.below hG.lt hb1)).mono ?_
    rintro e w2 ⟨v2, rfl, ho2, hb2⟩
    go_wp2_with fail
    go_ret
    exact ⟨rfl, hb1.trans (hb2.mono hb1.size)⟩
  | true =>
    have HS := Lib.hid (fun v w' h1 h2 => implSameBytes_any v z R r w' h1 h2)
    generalize (R == r) = t at HS ⊢
    go_enter Tryd.func17, Tryd.ntmps17
    go_wp2_with fail
    refine HL.out.mono ?_
    rintro e w1 ⟨v1, rfl, ho1, hb1⟩
    go_wp2_with fail
    refine (HR.out v1 w1 ho1.sl (HV.out.up hb1) (hI.below hI.lt hb1) (hG.below hG.lt hb1)).mono ?_
    rintro e w2 ⟨v2, rfl, ho2, hb2⟩
    have HB := Lib.hid (hb1.trans (hb2.mono hb1.size))
    go_wp2_with fail
    refine (HS.out v2 w2 ho2.sl (HZ.out.up HB.out)).mono ?_
    rintro e w3 ⟨rfl, rfl⟩
    go_wp2
    go_ret
    exact ⟨by simp, HB.out⟩
end Go.Proofs.YtlchadbbldkkfaaDoor
