/- The walk of the exact law of QcVotes: for every argument the law answers true and leaves all memory that was there as it was. -/
import Derived.Test.YtmiciabkpnldcaaQcVotes
import Derived.Test.YtmiciabkpnldcaaVotesC
import Derived.Test.YtmiciabkpnldcaaMarkF
import Derived.Test.YtmiciabkpnldcaaQc
import Derived.Deep.RegionHeld3
namespace Go.Proofs.Ytmiciabkpnldcaa
open Go.ChangeShapes Go.WideShapes Go.ChangeAt Go.RowKit

theorem sumL_row {L : List (List UInt8)} {r : List UInt8} (h : r ∈ L) : r.length ≤ sumL L := by
  induction L with
  | nil => cases h
  | cons l L ih =>
    unfold sumL
    rcases List.mem_cons.1 h with rfl | h
    · omega
    · have := ih h
      omega
theorem half_prod {a b : Nat} (h : a + b ≤ 1048576) : a * b ≤ 549755813888 := by
  rcases Nat.le_total a 524288 with h1 | h1
  · calc a * b ≤ 524288 * 1048576 := Nat.mul_le_mul h1 (by omega)
      _ = 549755813888 := by decide
  · calc a * b ≤ 1048576 * 524288 := Nat.mul_le_mul (by omega) (by omega)
      _ = 549755813888 := by decide
theorem volV_votes (x y : Int) (m : List UInt8) : ∀ (zs : List Int) (L : List (List UInt8)), volV (List.zipWith (fun z r => (⟨x, y, m, z, r⟩ : Vt)) zs L) ≤ L.length * m.length + sumL L
  | [], L => by simp [volV]
  | z :: zs, [] => by simp [volV]
  | z :: zs, r :: L => by
    have h := volV_votes x y m zs L
    simp only [List.zipWith_cons_cons, volV, sumL, List.length_cons, Nat.add_mul, Nat.one_mul]
    omega
theorem qcV_small {x y : Int} {m k : List UInt8} {L : List (List UInt8)} (h : m.length + k.length + L.length + sumL L ≤ 1048576) :
    mkV (qcV x y m k L) ≤ 1000000000000 ∧ ∀ t ∈ qcV x y m k L, t.l.length ≤ 4194304 ∧ t.k.length ≤ 4194304 := by
  unfold qcV votesOf
  split
  next hz =>
    have h1 := volV_votes x y m (listI k) L
    have h2 := half_prod (a := L.length) (b := m.length) (by omega)
    refine ⟨?_, fun t ht => ?_⟩
    · unfold mkV
      rw [List.length_zipWith, hz, Nat.min_self]
      omega
    · obtain ⟨i, hi⟩ := List.mem_iff_getElem?.1 ht
      rw [List.getElem?_zipWith] at hi
      rcases h3 : (listI k)[i]? with _ | z
      · rw [h3] at hi
        cases hi
      · rcases h4 : L[i]? with _ | r
        · rw [h3, h4] at hi
          cases hi
        · rw [h3, h4] at hi
          cases hi
          have h5 := sumL_row (List.mem_of_getElem? h4)
          exact ⟨by show m.length ≤ _; omega, by show r.length ≤ _; omega⟩
  next => exact ⟨by simp [mkV, volV], fun t ht => by cases ht⟩

/-- The five cells of a block that has not turned. -/
theorem five_below {n g : Nat} {w w' : World} {a b c d e : Value} (hb : Below n w w') (hl : g < n)
    (h : w.cell? ⟨g, 0, none⟩ = some a ∧ w.cell? ⟨g, 1, none⟩ = some b ∧ w.cell? ⟨g, 2, none⟩ = some c ∧ w.cell? ⟨g, 3, none⟩ = some d ∧ w.cell? ⟨g, 4, none⟩ = some e) :
    w'.cell? ⟨g, 0, none⟩ = some a ∧ w'.cell? ⟨g, 1, none⟩ = some b ∧ w'.cell? ⟨g, 2, none⟩ = some c ∧ w'.cell? ⟨g, 3, none⟩ = some d ∧ w'.cell? ⟨g, 4, none⟩ = some e :=
  ⟨(hb.cell (p := ⟨g, 0, none⟩) hl).trans h.1, (hb.cell (p := ⟨g, 1, none⟩) hl).trans h.2.1, (hb.cell (p := ⟨g, 2, none⟩) hl).trans h.2.2.1, (hb.cell (p := ⟨g, 3, none⟩) hl).trans h.2.2.2.1, (hb.cell (p := ⟨g, 4, none⟩) hl).trans h.2.2.2.2⟩
theorem markVoteS_1 (S : Nat → Prop) (v : Value) (L : List Vt) (ps : List (Value × Value)) (w : World) (H : OwnV S w v L ps) (hm : mkV L ≤ 1000000000000) (hs : ∀ t ∈ L, t.l.length ≤ 4194304 ∧ t.k.length ≤ 4194304) :
    Calls Try.prog 26 #[v, .int .i64 1] w (fun e w' => e = .returned (.int .i64 (1 + (mkV L : Int))) ∧ OwnV S w' v (marksV 1 L) ps ∧ Frm S w w') :=
  markVoteS_any S v L ps 1 w H (by omega) hm hs
theorem heldVoteS_1 (v : Value) (L : List Vt) (w : World) (h : SlV w w.heap.size v (marksV 1 L)) (hm : mkV L ≤ 1000000000000) (hs : ∀ t ∈ L, t.l.length ≤ 4194304 ∧ t.k.length ≤ 4194304) :
    Calls Try.prog 27 #[v, .int .i64 1] w (Quiet (.int .i64 (1 + (mkV L : Int))) w) :=
  heldVoteS_any v L 1 w h (by omega) hm hs

set_option maxRecDepth 100000 in
set_option maxHeartbeats 8000000 in
theorem QcVotes_walk (x y : Int) (a b s : Value) (l k : List UInt8) (L : List (List UInt8)) (W : World) (ha : Sl W W.heap.size a l) (hb : Sl W W.heap.size b k) (hs : SlS W W.heap.size s L) :
    Calls Try.prog 6 #[.agg #[.int .i64 x, .int .i64 y, a, b, s]] W (Yes W) := by
  have HA := Lib.hid ha
  have HB := Lib.hid hb
  have HS := Lib.hid hs
  obtain ⟨A, c, rfl, p1, p2, p0, p3⟩ := ha
  obtain ⟨B, d, rfl, q1, q2, q0, q3⟩ := hb
  obtain ⟨C, f, rfl, r1, r2, r0, r3⟩ := hs
  clear p1 p2 p0 p3 q1 q2 q0 q3 r1 r2 r0 r3
  by_cases hbig : (1048576 : Int) < (l.length : Int) + (k.length : Int) + (L.length : Int) + (sumL L : Int)
  · have HZ0 : Hid (szQZ l k L (1048576 : Int) = -1) := Lib.hid (by exact szQZ_big hbig)
    clear hbig
    have H := (InvF.start W).newG 27 #[.int .i64 x, .int .i64 y, .slice A l.length c, .slice B k.length d, .slice C L.length f] W.heap.size
    go_enter Try.func6, Try.ntmps6
    obtain ⟨b0, b1, b2, b3, b4⟩ := H.c5 (.head _)
    go_wp2_with fail
    refine (szQc_any x y _ _ _ l k L 1048576 _ (HA.out.up H.bel) (HB.out.up H.bel) (HS.out.up H.bel) (by omega) (by omega)).mono ?_
    rw [HZ0.out]
    rintro e w' ⟨rfl, hb⟩
    replace H := H.up hb
    clear hb b0 b1 b2 b3 b4
    go_wp2
    go_ret
    exact ⟨rfl, H.bel⟩
  obtain ⟨zz0, hz⟩ : ∃ z, z = (1048576 : Int) - ((l.length : Int) + (k.length : Int) + (L.length : Int) + (sumL L : Int)) := ⟨_, rfl⟩
  have HZ0 : Hid (szQZ l k L (1048576 : Int) = zz0) := Lib.hid (by rw [hz]; exact szQZ_ok hbig)
  have hzn0 : ¬ (zz0 < 0) := by omega
  have hL1 : l.length ≤ 1048576 := by omega
  have hL2 : k.length ≤ 1048576 := by omega
  have hL3 : L.length ≤ 1048576 := by omega
  have hN : sumL L ≤ 1048576 := by omega
  have hrow : Hid (∀ r ∈ L, r.length ≤ 4294967296) := Lib.hid (fun r hr => by have := sumL_row hr; omega)
  have hsm := qcV_small (x := x) (y := y) (m := l) (k := k) (L := L) (by omega)
  have HMK := Lib.hid hsm.1
  have HVS := Lib.hid hsm.2
  obtain ⟨V, hV⟩ : ∃ V, V = qcV x y l k L := ⟨_, rfl⟩
  rw [← hV] at HMK HVS
  have HVE := Lib.hid hV
  have hmlo : (mkV V : Int) ≤ 1000000000000 := by have := HMK.out; omega
  have hmpos : ¬ ((1 : Int) + (mkV V : Int) < 0) := by omega
  have hmeq : ((1 : Int) + (mkV V : Int) != 1 + (mkV V : Int)) = false := by simp
  have hkpos : ¬ ((1 : Int) + (l.length : Int) + (k.length : Int) + (sumL L : Int) < 0) := by omega
  clear hbig hz hsm hV
  have H := (InvF.start W).newG 27 #[.int .i64 x, .int .i64 y, .slice A l.length c, .slice B k.length d, .slice C L.length f] W.heap.size
  go_enter Try.func6, Try.ntmps6
  obtain ⟨b0, b1, b2, b3, b4⟩ := H.c5 (.head _)
  go_wp2_with fail
  refine (szQc_any x y _ _ _ l k L 1048576 _ (HA.out.up H.bel) (HB.out.up H.bel) (HS.out.up H.bel) (by omega) (by omega)).mono ?_
  rw [HZ0.out]
  rintro e w1 ⟨rfl, hb⟩
  replace H := H.up hb
  clear hb b0 b1 b2 b3 b4
  obtain ⟨b0, b1, b2, b3, b4⟩ := H.c5 (.head _)
  go_wp2_with fail
  refine (toQc_any x y _ _ _ l k L _ (HA.out.up H.bel) (HB.out.up H.bel) (HS.out.up H.bel) hL1 hL2 hL3 hN).mono ?_
  rintro e w2 ⟨u0, u1, u2, us', rfl, hv2, K⟩
  obtain ⟨A2, c2, rfl⟩ := K.openB' (.head _)
  obtain ⟨B2, d2, rfl⟩ := K.openB' (.tail _ (.head _))
  obtain ⟨C2, f2, rfl⟩ := K.openS hv2 (.tail _ (.tail _ (.head _)))
  replace H := H.up K.bel
  clear b0 b1 b2 b3 b4
  have HV2 := Lib.hid hv2
  have KK := Lib.hid K
  clear hv2 K
  go_wp2_with fail
  refine (specQcVotes_any x y _ _ _ l k L _ (KK.out.slB 5 (.head _)) (KK.out.slB 5 (.tail _ (.head _))) (KK.out.slS 24 5 HV2.out (.tail _ (.tail _ (.head _)))) (by omega) (by omega) (by omega) hrow.out).mono ?_
  rw [← HVE.out]
  rintro e w3 ⟨v0, ps0, rfl, hb3, ho0⟩
  replace H := H.up hb3
  have hsl0 := ho0.sl
  obtain ⟨A0, c0, rfl, _⟩ := id hsl0
  have SL0 := Lib.hid hsl0
  clear hb3 ho0 hsl0 KK HV2
  have P5 := Lib.hid (H.c5 (.head _))
  have HLT := Lib.hid (H.ltX (.head _))
  have HW3 := Lib.hid H.bel
  have SL := SL0
  clear H SL0
  obtain ⟨b0, b1, b2, b3, b4⟩ := P5.out
  go_wp2_with fail
  refine (toQc_any x y _ _ _ l k L _ (HA.out.up HW3.out) (HB.out.up HW3.out) (HS.out.up HW3.out) hL1 hL2 hL3 hN).mono ?_
  rintro e w4 ⟨u0, u1, u2, us', rfl, hv4, K⟩
  obtain ⟨A4, c4, rfl⟩ := K.openB' (.head _)
  obtain ⟨B4, d4, rfl⟩ := K.openB' (.tail _ (.head _))
  obtain ⟨C4, f4, rfl⟩ := K.openS hv4 (.tail _ (.tail _ (.head _)))
  have HV4 := Lib.hid hv4
  have SA : Hid (∀ g, (Value.slice A4 l.length c4).ownBlock = some g → g < w4.heap.size) := Lib.hid (fun g hg => ((K.ownB 5 (.head _)).lt g hg).2)
  have SB : Hid (∀ g, (Value.slice B4 k.length d4).ownBlock = some g → g < w4.heap.size) := Lib.hid (fun g hg => ((K.ownB 5 (.tail _ (.head _))).lt g hg).2)
  have SV : Hid (∀ z ∈ us', ∀ g, z.ownBlock = some g → g < w4.heap.size) := Lib.hid (fun z hz g hg => by
    obtain ⟨j, hj⟩ := List.mem_iff_getElem?.1 hz
    obtain ⟨r, hr⟩ := rowsS_val (E := 5) hv4 hj
    have h := K.2.1 _ (InvF.mem (s := segS 24 5 (.slice C4 L.length f4) us' L) (.tail _ (.tail _ (.head _))) (.tail _ hr))
    exact (h.lt g hg).2)
  have HLE := Lib.hid K.le
  have K4 := K.newG 32 #[.int .i64 x, .int .i64 y, .slice A4 l.length c4, .slice B4 k.length d4, .slice C4 L.length f4] w4.heap.size
  clear K hv4 b0 b1 b2 b3 b4
  obtain ⟨n4, hn4⟩ : ∃ n, n = w4.heap.size := ⟨_, rfl⟩
  have HN4 := Lib.hid hn4
  obtain ⟨b0, b1, b2, b3, b4⟩ := K4.c5 (.head _)
  have KK := Lib.hid K4
  clear K4 hn4
  go_wp2_with fail
  refine (implQcVotes_any x y _ _ _ l k L _ (KK.out.slB 5 (.tail _ (.head _))) (KK.out.slB 5 (.tail _ (.tail _ (.head _)))) (KK.out.slS 24 5 HV4.out (.tail _ (.tail _ (.tail _ (.head _))))) (by omega) (by omega) (by omega) hrow.out).mono ?_
  rw [← HVE.out]
  rintro e w5 ⟨v5, ps5, rfl, hb5, ho5⟩
  have O5 : Hid (OwnV (fun b => n4 < b) w5 v5 V ps5) := Lib.hid (ho5.mono (fun b _ hb => by have hb' : (w4.alloc (.cells #[.int .i64 x, .int .i64 y, .slice A4 l.length c4, .slice B4 k.length d4, .slice C4 L.length f4] 32)).heap.size ≤ b := hb; have := HN4.out; simp at hb'; omega))
  have K5 := Lib.hid (KK.out.up hb5)
  obtain ⟨A5, c5, rfl, _⟩ := id ho5.sl
  clear hb5 ho5 KK b0 b1 b2 b3 b4
  go_wp2_with fail
  refine (eqVoteS_any _ _ V _ O5.out.sl (SL.out.up K5.out.bel)).mono ?_
  rintro e w6 ⟨rfl, hb6⟩
  have O6 := Lib.hid (O5.out.up hb6)
  have K6 := Lib.hid (K5.out.up hb6)
  clear O5 K5 hb6
  obtain ⟨b0, b1, b2, b3, b4⟩ := K6.out.c5 (.head _)
  have HE0 := Lib.hid (K6.out.drewN 1)
  have HK0 := Lib.hid (ten (HE0.out.c5 (.head _)) (five_below HE0.out.bel HLT.out P5.out))
  go_wp2_with fail
  go_region_held3 (fun w' => w'.cell? ⟨w4.heap.size, 0, none⟩ = some (.int .i64 x) ∧ w'.cell? ⟨w4.heap.size, 1, none⟩ = some (.int .i64 y) ∧ w'.cell? ⟨w4.heap.size, 2, none⟩ = some (.slice A4 l.length c4) ∧ w'.cell? ⟨w4.heap.size, 3, none⟩ = some (.slice B4 k.length d4) ∧ w'.cell? ⟨w4.heap.size, 4, none⟩ = some (.slice C4 L.length f4) ∧ w'.cell? ⟨W.heap.size, 0, none⟩ = some (.int .i64 x) ∧ w'.cell? ⟨W.heap.size, 1, none⟩ = some (.int .i64 y) ∧ w'.cell? ⟨W.heap.size, 2, none⟩ = some (.slice A l.length c) ∧ w'.cell? ⟨W.heap.size, 3, none⟩ = some (.slice B k.length d) ∧ w'.cell? ⟨W.heap.size, 4, none⟩ = some (.slice C L.length f))
    (first
      | exact HK0.out
      | exact HK1.out
      | exact HK2.out)
    (first
      | (go_at_call_of 11 (Value.int IntKind.i64 x); refine (toQc_any x y _ _ _ l k L _ (HA.out.up (HW3.out.trans (HE0.out.bel.mono HW3.out.size))) (HB.out.up (HW3.out.trans (HE0.out.bel.mono HW3.out.size))) (HS.out.up (HW3.out.trans (HE0.out.bel.mono HW3.out.size))) hL1 hL2 hL3 hN).mono ?_; rintro e w7 ⟨u0, u1, u2, us7, rfl, hv7, K⟩; have HV7 := Lib.hid hv7; obtain ⟨A7, c7, rfl⟩ := K.openB' (.head _); obtain ⟨B7, d7, rfl⟩ := K.openB' (.tail _ (.head _)); obtain ⟨C7, f7, rfl⟩ := K.openS hv7 (.tail _ (.tail _ (.head _))); clear hv7; have B7 := Lib.hid K.bel; have HX := HE0.out.moreF K; clear K; have HE1 := Lib.hid HX; clear HX; have HK1 := Lib.hid (ten (HE1.out.c5 (.tail _ (.tail _ (.tail _ (.head _))))) (five_below HE1.out.bel HLT.out P5.out)))
      | (go_at_call 13; refine (eqQc_any x y _ _ _ _ _ _ l k L _ (HE1.out.slB 5 (.tail _ (.tail _ (.tail _ (.tail _ (.head _)))))) (HE1.out.slB 5 (.tail _ (.tail _ (.tail _ (.tail _ (.tail _ (.head _))))))) (HE1.out.slS 24 5 HV4.out (.tail _ (.tail _ (.tail _ (.tail _ (.tail _ (.tail _ (.head _)))))))) (HE1.out.slB 5 (.head _)) (HE1.out.slB 5 (.tail _ (.head _))) (HE1.out.slS 24 5 HV7.out (.tail _ (.tail _ (.head _))))).mono ?_; rintro e w8 ⟨rfl, hb⟩; have B8 := Lib.hid hb; have HX := HE1.out.up hb; clear hb; have HE2 := Lib.hid HX; clear HX; have HK2 := Lib.hid (ten (HE2.out.c5 (.tail _ (.tail _ (.tail _ (.head _))))) (five_below HE2.out.bel HLT.out P5.out))))
  have O8 := Lib.hid (((O6.out.drewN 1).up B7.out).up B8.out)
  have K8 := Lib.hid (HE2.out.sub (qs := [segB 5 (.slice A4 l.length c4) l, segB 5 (.slice B4 k.length d4) k, segS 24 5 (.slice C4 L.length f4) us' L]) (.cons _ (.cons _ (.cons _ (.cons _ (.cons_cons _ (.cons_cons _ (.cons_cons _ .slnil))))))))
  clear b0 b1 b2 b3 b4
  obtain ⟨b0, b1, b2, b3, b4⟩ := HE2.out.c5 (.tail _ (.tail _ (.tail _ (.head _))))
  clear HE0 HE1 HE2 HK0 HK1 HK2 O6 K6 B7 B8 HV7
  go_wp2_with fail
  refine (markQc_F (fun b => b < w4.heap.size) x y w3 _ _ _ _ us' l k L [] 1 1 HV4.out K8.out rfl (by omega) (by omega) (by omega) (by omega) SA.out SB.out SV.out).mono ?_
  rintro e w9 ⟨rfl, K9, hF9⟩
  have O9 := Lib.hid (O8.out.kept (w' := w9) (fun b hb hlt => hF9.block b hlt (by have := HN4.out; omega)))
  have D9 := Lib.hid K9.bel
  clear K9 hF9 O8 K8 b0 b1 b2 b3 b4
  go_wp2_with fail
  refine (eqVoteS_any _ _ V _ O9.out.sl (SL.out.up D9.out)).mono ?_
  rintro e w10 ⟨rfl, hb10⟩
  have O10 := Lib.hid (O9.out.up hb10)
  have D10 := Lib.hid (D9.out.trans (hb10.mono D9.out.size))
  clear hb10 O9 D9
  go_wp2_with fail
  refine (markVoteS_1 (fun b => n4 < b) _ V ps5 _ O10.out HMK.out HVS.out).mono ?_
  rintro e w11 ⟨rfl, ho11, hF11⟩
  have D11 := Lib.hid (D10.out.trans (hF11.below (B := w3.heap.size) (fun b hb => by have := HN4.out; have := HLE.out; omega) D10.out.size))
  have O11 := Lib.hid ho11
  clear ho11 hF11 O10 D10
  go_wp2_with fail
  refine (heldVoteS_1 _ V _ O11.out.sl HMK.out HVS.out).mono ?_
  rintro e _ ⟨rfl, i12, rfl⟩
  have O12 := Lib.hid (O11.out.drewN i12)
  have D12 := Lib.hid (below_drewN D11.out i12)
  obtain ⟨b0, b1, b2, b3, b4⟩ := five_below D12.out HLT.out P5.out
  have W12 := Lib.hid (HW3.out.trans (D12.out.mono HW3.out.size))
  clear O11 D11
  go_wp2_with fail
  refine (toQc_any x y _ _ _ l k L _ (HA.out.up W12.out) (HB.out.up W12.out) (HS.out.up W12.out) hL1 hL2 hL3 hN).mono ?_
  rintro e w13 ⟨u0, u1, u2, us13, rfl, hv13, K⟩
  obtain ⟨A13, c13, rfl⟩ := K.openB' (.head _)
  obtain ⟨B13, d13, rfl⟩ := K.openB' (.tail _ (.head _))
  obtain ⟨C13, f13, rfl⟩ := K.openS hv13 (.tail _ (.tail _ (.head _)))
  have HV13 := Lib.hid hv13
  have K13 := Lib.hid K
  have O13 := Lib.hid (O12.out.up K.bel)
  have D13 := Lib.hid (D12.out.trans (K.bel.mono D12.out.size))
  clear K hv13 b0 b1 b2 b3 b4 O12 D12 W12
  go_wp2_with fail
  refine (implQcVotes_any x y _ _ _ l k L _ (K13.out.slB 5 (.head _)) (K13.out.slB 5 (.tail _ (.head _))) (K13.out.slS 24 5 HV13.out (.tail _ (.tail _ (.head _)))) (by omega) (by omega) (by omega) hrow.out).mono ?_
  rw [← HVE.out]
  rintro e w14 ⟨v14, ps14, rfl, hb14, ho14⟩
  have O14 := Lib.hid (O13.out.up hb14)
  have D14 := Lib.hid (D13.out.trans (hb14.mono D13.out.size))
  have S14 := Lib.hid ho14.sl
  obtain ⟨A14, c14, rfl, _⟩ := id ho14.sl
  clear hb14 ho14 K13 O13 D13 HV13
  go_wp2_with fail
  refine (eqVoteS_any _ _ V _ S14.out (SL.out.up D14.out)).mono ?_
  rintro e w15 ⟨rfl, hb15⟩
  have O15 := Lib.hid (O14.out.up hb15)
  have D15 := Lib.hid (D14.out.trans (hb15.mono D14.out.size))
  clear hb15 O14 D14 S14
  go_wp2_with fail
  refine (heldVoteS_1 _ V _ O15.out.sl HMK.out HVS.out).mono ?_
  rintro e _ ⟨rfl, i16, rfl⟩
  have D16 := Lib.hid (below_drewN D15.out i16)
  clear O15 D15
  go_wp2
  go_ret
  exact ⟨rfl, HW3.out.trans (D16.out.mono HW3.out.size)⟩
end Go.Proofs.Ytmiciabkpnldcaa
