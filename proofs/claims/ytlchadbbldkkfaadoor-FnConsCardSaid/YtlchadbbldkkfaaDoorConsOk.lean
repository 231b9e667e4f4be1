/- The contracts of ConsOk, as the program has it and as its model has it. -/
import Derived.Test.YtlchadbbldkkfaaDoorConsRoots
import Derived.Test.YtlchadbbldkkfaaDoorPut
namespace Go.Proofs.YtlchadbbldkkfaaDoor
open Go.ChangeShapes Go.WideShapes Go.ChangeAt Go.RowKit

/-- Does the proof lead to the old root and to the new one? -/
def consOkB (m n : Int) (h r : List UInt8) (P : List (List UInt8)) : Bool := rootsB m n h P && (rootsO m n h P == h) && (rootsN m n h P == r)

set_option maxHeartbeats 2000000 in
theorem specConsOk_any (u z v : Value) (m n : Int) (h r : List UInt8) (P : List (List UInt8)) (w : World) (hu : Sl w w.heap.size u h) (hz : Sl w w.heap.size z r) (hv : SlS w w.heap.size v P) :
    Calls Tryd.prog 35 #[.int .i64 m, .int .i64 n, u, z, v] w (fun e w' => e = .returned (.bool (consOkB m n h r P)) ∧ Below w.heap.size w w') := by
  obtain ⟨A, c, rfl, p1, p2, p0, p3⟩ := id hv
  unfold maxLen at p2
  clear p0 p3
  have HV := Lib.hid hv
  have HZ := Lib.hid hz
  have HU := Lib.hid hu
  unfold consOkB
  have HR := Lib.hid (fun w' h1 h2 => specConsRoots_any u (.slice A P.length c) m n h P w' h1 h2)
  have HS := Lib.hid (fun v w' h1 h2 => specSameBytes_any v u (rootsO m n h P) h w' h1 h2)
  have HT := Lib.hid (fun v w' h1 h2 => specSameBytes_any v z (rootsN m n h P) r w' h1 h2)
  generalize rootsO m n h P = R1 at HR HS ⊢
  generalize rootsN m n h P = R2 at HR HT ⊢
  generalize rootsB m n h P = b at HR ⊢
  clear hv hz hu
  cases b with
  | false =>
    go_enter Tryd.func35, Tryd.ntmps35
    go_wp2_with fail
    refine (HR.out w HU.out HV.out).mono ?_
    rintro e w2 ⟨x, y, rfl, K⟩
    have HB := Lib.hid K.bel
    clear K
    go_wp2_with fail
    go_ret
    exact ⟨rfl, HB.out⟩
  | true =>
    generalize hq : (R1 == h) = q at HS ⊢
    clear hq
    cases q with
    | false =>
      go_enter Tryd.func35, Tryd.ntmps35
      go_wp2_with fail
      refine (HR.out w HU.out HV.out).mono ?_
      rintro e w2 ⟨x, y, rfl, K⟩
      have HK := Lib.hid K
      clear K
      go_wp2_with fail
      refine (HS.out x w2 (GOwn.b.1 (HK.out.2.1 _ (.head _))).sl (HU.out.up HK.out.bel)).mono ?_
      rintro e w3 ⟨rfl, rfl⟩
      go_wp2
      go_ret
      exact ⟨rfl, HK.out.bel⟩
    | true =>
      generalize (R2 == r) = q2 at HT ⊢
      go_enter Tryd.func35, Tryd.ntmps35
      go_wp2_with fail
      refine (HR.out w HU.out HV.out).mono ?_
      rintro e w2 ⟨x, y, rfl, K⟩
      have HK := Lib.hid K
      clear K
      go_wp2_with fail
      refine (HS.out x w2 (GOwn.b.1 (HK.out.2.1 _ (.head _))).sl (HU.out.up HK.out.bel)).mono ?_
      rintro e w3 ⟨rfl, hw⟩
      obtain rfl : w2 = w3 := hw
      clear HS
      go_wp2_with fail
      refine (HT.out y w2 (GOwn.b.1 (HK.out.2.1 _ (.tail _ (.head _)))).sl (HZ.out.up HK.out.bel)).mono ?_
      rintro e w4 ⟨rfl, rfl⟩
      go_wp2
      go_ret
      exact ⟨by simp, HK.out.bel⟩

set_option maxHeartbeats 2000000 in
theorem implConsOk_any (u z v : Value) (m n : Int) (h r : List UInt8) (P : List (List UInt8)) (w : World) (hu : Sl w w.heap.size u h) (hz : Sl w w.heap.size z r) (hv : SlS w w.heap.size v P)
    (hI : Glob w 0 initW) (hG : Glob w 1 kk) :
    Calls Tryd.prog 21 #[.int .i64 m, .int .i64 n, u, z, v] w (fun e w' => e = .returned (.bool (consOkB m n h r P)) ∧ Below w.heap.size w w') := by
  obtain ⟨A, c, rfl, p1, p2, p0, p3⟩ := id hv
  unfold maxLen at p2
  clear p0 p3
  have HV := Lib.hid hv
  have HZ := Lib.hid hz
  have HU := Lib.hid hu
  unfold consOkB
  have HR := Lib.hid (fun w' h1 h2 h3 h4 => implConsRoots_any u (.slice A P.length c) m n h P w' h1 h2 h3 h4)
  have HS := Lib.hid (fun v w' h1 h2 => implSameBytes_any v u (rootsO m n h P) h w' h1 h2)
  have HT := Lib.hid (fun v w' h1 h2 => implSameBytes_any v z (rootsN m n h P) r w' h1 h2)
  generalize rootsO m n h P = R1 at HR HS ⊢
  generalize rootsN m n h P = R2 at HR HT ⊢
  generalize rootsB m n h P = b at HR ⊢
  clear hv hz hu
  cases b with
  | false =>
    go_enter Tryd.func21, Tryd.ntmps21
    go_wp2_with fail
    refine (HR.out w HU.out HV.out hI hG).mono ?_
    rintro e w2 ⟨x, y, rfl, K⟩
    have HB := Lib.hid K.bel
    clear K
    go_wp2_with fail
    go_ret
    exact ⟨rfl, HB.out⟩
  | true =>
    generalize hq : (R1 == h) = q at HS ⊢
    clear hq
    cases q with
    | false =>
      go_enter Tryd.func21, Tryd.ntmps21
      go_wp2_with fail
      refine (HR.out w HU.out HV.out hI hG).mono ?_
      rintro e w2 ⟨x, y, rfl, K⟩
      have HK := Lib.hid K
      clear K
      go_wp2_with fail
      refine (HS.out x w2 (GOwn.b.1 (HK.out.2.1 _ (.head _))).sl (HU.out.up HK.out.bel)).mono ?_
      rintro e w3 ⟨rfl, rfl⟩
      go_wp2
      go_ret
      exact ⟨rfl, HK.out.bel⟩
    | true =>
      generalize (R2 == r) = q2 at HT ⊢
      go_enter Tryd.func21, Tryd.ntmps21
      go_wp2_with fail
      refine (HR.out w HU.out HV.out hI hG).mono ?_
      rintro e w2 ⟨x, y, rfl, K⟩
      have HK := Lib.hid K
      clear K
      go_wp2_with fail
      refine (HS.out x w2 (GOwn.b.1 (HK.out.2.1 _ (.head _))).sl (HU.out.up HK.out.bel)).mono ?_
      rintro e w3 ⟨rfl, hw⟩
      obtain rfl : w2 = w3 := hw
      clear HS
      go_wp2_with fail
      refine (HT.out y w2 (GOwn.b.1 (HK.out.2.1 _ (.tail _ (.head _)))).sl (HZ.out.up HK.out.bel)).mono ?_
      rintro e w4 ⟨rfl, rfl⟩
      go_wp2
      go_ret
      exact ⟨by simp, HK.out.bel⟩
end Go.Proofs.YtlchadbbldkkfaaDoor
