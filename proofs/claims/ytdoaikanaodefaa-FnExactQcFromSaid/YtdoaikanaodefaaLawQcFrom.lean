/- The walk of the exact law of QcFrom: for every argument the law answers true and leaves all memory that was there as it was. -/
import Derived.Test.YtdoaikanaodefaaFromS
import Derived.Test.YtdoaikanaodefaaFromI
import Derived.Test.YtdoaikanaodefaaVotesC
import Derived.Test.YtdoaikanaodefaaLimits
namespace Go.Proofs.Ytdoaikanaodefaa
open Go.ChangeShapes Go.WideShapes Go.ChangeAt Go.RowKit

/-- The five cells of a block that has not turned. -/
theorem five_bel {n g : Nat} {w w' : World} {a b c d e : Value} (hb : Below n w w') (hl : g < n)
    (h : w.cell? ⟨g, 0, none⟩ = some a ∧ w.cell? ⟨g, 1, none⟩ = some b ∧ w.cell? ⟨g, 2, none⟩ = some c ∧ w.cell? ⟨g, 3, none⟩ = some d ∧ w.cell? ⟨g, 4, none⟩ = some e) :
    w'.cell? ⟨g, 0, none⟩ = some a ∧ w'.cell? ⟨g, 1, none⟩ = some b ∧ w'.cell? ⟨g, 2, none⟩ = some c ∧ w'.cell? ⟨g, 3, none⟩ = some d ∧ w'.cell? ⟨g, 4, none⟩ = some e :=
  ⟨(hb.cell (p := ⟨g, 0, none⟩) hl).trans h.1, (hb.cell (p := ⟨g, 1, none⟩) hl).trans h.2.1, (hb.cell (p := ⟨g, 2, none⟩) hl).trans h.2.2.1, (hb.cell (p := ⟨g, 3, none⟩) hl).trans h.2.2.2.1, (hb.cell (p := ⟨g, 4, none⟩) hl).trans h.2.2.2.2⟩
theorem markVoteS_one (S : Nat → Prop) (v : Value) (L : List Vt) (ps : List (Value × Value)) (w : World) (H : OwnV S w v L ps) (hm : mkV L ≤ 1000000000000) (hs : ∀ t ∈ L, t.l.length ≤ 4194304 ∧ t.k.length ≤ 4194304) :
    Calls Try.prog 12 #[v, .int .i64 1] w (fun e w' => e = .returned (.int .i64 (1 + (mkV L : Int))) ∧ OwnV S w' v (marksV 1 L) ps ∧ Frm S w w') :=
  markVoteS_any S v L ps 1 w H (by omega) hm hs
/-- What a later call has made stands where blocks between have turned; the base goes back. -/
theorem InvF.frm {W0 W w w' : World} {ss : List (List Row)} {S : Nat → Prop} (H : InvF W w ss) (h0 : Below W0.heap.size W0 W) (hF : Frm S w w') (hS : ∀ b, S b → W0.heap.size ≤ b ∧ b < W.heap.size) : InvF W0 w' ss := by
  refine ⟨(h0.trans (H.bel.mono h0.size)).trans (hF.below (fun b hb => (hS b hb).1) (Nat.le_trans h0.size H.le)), fun p hp => ?_, H.2.2⟩
  have h1 := H.2.1 p hp
  refine GOwn.mono ?_ h0.size
  refine row_same h1 (fun g hg => hF.block g (h1.lt g hg).2 (fun hs => ?_))
  have h2 := (h1.lt g hg).1
  have h3 := (hS g hs).2
  omega
/-- What QcFrom returns, by its parts. -/
def Got5 (w : World) (B : Bool) (x y : Int) (m k : List UInt8) (L : List (List UInt8)) (e : Ending) (w' : World) : Prop :=
  ∃ u v s vs, e = .returned (.tuple #[.agg #[.int .i64 x, .int .i64 y, u, v, s], .bool B]) ∧ vs.length = L.length ∧ InvF w w' [segB 5 u m, segB 5 v k, segS 26 5 s vs L]
theorem fL_len {α : Type} (B : Bool) (l : List α) : (fL B l).length ≤ l.length := by
  cases B
  · exact Nat.zero_le _
  · exact Nat.le_refl _
theorem fL_sum (B : Bool) (L : List (List UInt8)) : sumL (fL B L) ≤ sumL L := by
  cases B
  · exact Nat.zero_le _
  · exact Nat.le_refl _
theorem hdV_len (V : List Vt) : (hdV V).l.length ≤ volV V := by
  rcases V with _ | ⟨t, V⟩
  · simp [hdV, volV]
    rfl
  · unfold hdV volV
    simp
    omega

set_option maxRecDepth 100000 in
set_option maxHeartbeats 8000000 in
theorem QcFrom_walk (a b c d e : Int) (v : Value) (V : List Vt) (W : World) (hv : SlV W W.heap.size v V) :
    Calls Try.prog 3 #[.agg #[.int .i64 a, .int .i64 b, .int .i64 c, .int .i64 d, .int .i64 e], v] W (Yes W) := by
  have HV := Lib.hid hv
  obtain ⟨A, n, rfl, h1, h2, h0, h3⟩ := hv
  unfold maxLen at h2
  clear h0 h3
  by_cases hbig : (1048576 : Int) < (V.length : Int) + (volV V : Int)
  · have HZ0 : Hid (szVSZ V (1048576 : Int) = -1) := Lib.hid (szVSZ_big hbig)
    clear hbig
    have H := (InvF.start W).newG 23 #[.int .i64 a, .int .i64 b, .int .i64 c, .int .i64 d, .int .i64 e] W.heap.size
    go_enter Try.func3, Try.ntmps3
    go_wp2_with fail
    refine (szVoteS_any _ V 1048576 _ (HV.out.up H.bel) (by omega) (by omega)).mono ?_
    rw [HZ0.out]
    rintro ev w' ⟨rfl, hb⟩
    replace H := H.up hb
    clear hb
    go_wp2
    go_ret
    exact ⟨rfl, H.bel⟩
  obtain ⟨zz0, hz⟩ : ∃ z, z = (1048576 : Int) - ((V.length : Int) + (volV V : Int)) := ⟨_, rfl⟩
  have HZ0 : Hid (szVSZ V (1048576 : Int) = zz0) := Lib.hid (by rw [hz]; exact szVSZ_ok hbig)
  have hzn0 : ¬ (zz0 < 0) := by omega
  have hvol : volV V + V.length ≤ 1048576 := by omega
  have hvl : V.length ≤ 1048576 := by omega
  have HTS : Hid (∀ t ∈ V, t.l.length ≤ 1048576 ∧ t.k.length ≤ 1048576) := Lib.hid (fun t ht => by have := volV_mem ht; omega)
  have HTS4 : Hid (∀ t ∈ V, t.l.length ≤ 4194304 ∧ t.k.length ≤ 4194304) := Lib.hid (fun t ht => by have := volV_mem ht; omega)
  have hmk : mkV V ≤ 1000000000000 := by unfold mkV; omega
  have hkpos : ¬ ((1 : Int) + (mkV V : Int) < 0) := by omega
  obtain ⟨B, hB⟩ : ∃ r, r = fromB a b c d e V := ⟨_, rfl⟩
  have HS1 := Lib.hid (fun (v : Value) (w : World) (h : SlV w w.heap.size v V) => specQcFrom_any a b c d e v V w h hvol)
  have HI1 := Lib.hid (fun (v : Value) (w : World) (h : SlV w w.heap.size v V) => implQcFrom_any a b c d e v V w h hvol)
  rw [← hB] at HS1 HI1
  obtain ⟨rx, hrx⟩ : ∃ r, r = fI B (hdV V).x := ⟨_, rfl⟩
  obtain ⟨ry, hry⟩ : ∃ r, r = fI B (hdV V).y := ⟨_, rfl⟩
  obtain ⟨rm, hrm⟩ : ∃ r, r = fL B (hdV V).l := ⟨_, rfl⟩
  obtain ⟨rk, hrk⟩ : ∃ r, r = fL B (bitsV V a) := ⟨_, rfl⟩
  obtain ⟨rL, hrL⟩ : ∃ r, r = fL B (ksV V) := ⟨_, rfl⟩
  have hrml : rm.length ≤ 1048576 := by rw [hrm]; have := fL_len B (hdV V).l; have := hdV_len V; omega
  have hrkl : rk.length ≤ 2 := by rw [hrk]; have := fL_len B (bitsV V a); have : (bitsV V a).length ≤ 2 := ofL_len _ _; omega
  have hrLl : sumL rL ≤ 1048576 := by rw [hrL]; have := fL_sum B (ksV V); have := ksV_sum V; omega
  have hmpos : ¬ ((1 : Int) + (rm.length : Int) + (rk.length : Int) + (sumL rL : Int) < 0) := by omega
  have hmeq : ((1 : Int) + (rm.length : Int) + (rk.length : Int) + (sumL rL : Int) != 1 + (rm.length : Int) + (rk.length : Int) + (sumL rL : Int)) = false := by simp
  have hBB : (B != B) = false := by simp
  have HS : Hid (∀ (v : Value) (w : World), SlV w w.heap.size v V → Calls Try.prog 6 #[.agg #[.int .i64 a, .int .i64 b, .int .i64 c, .int .i64 d, .int .i64 e], v] w (Got5 w B rx ry rm rk rL)) := Lib.hid (by rw [hrx, hry, hrm, hrk, hrL]; exact HS1.out)
  have HI : Hid (∀ (v : Value) (w : World), SlV w w.heap.size v V → Calls Try.prog 9 #[.agg #[.int .i64 a, .int .i64 b, .int .i64 c, .int .i64 d, .int .i64 e], v] w (Got5 w B rx ry rm rk rL)) := Lib.hid (by rw [hrx, hry, hrm, hrk, hrL]; exact HI1.out)
  clear hbig hz HS1 HI1 hB hrx hry hrm hrk hrL
  have H := (InvF.start W).newG 23 #[.int .i64 a, .int .i64 b, .int .i64 c, .int .i64 d, .int .i64 e] W.heap.size
  go_enter Try.func3, Try.ntmps3
  go_wp2_with fail
  refine (szVoteS_any _ V 1048576 _ (HV.out.up H.bel) (by omega) (by omega)).mono ?_
  rw [HZ0.out]
  rintro ev w1 ⟨rfl, hb⟩
  replace H := H.up hb
  clear hb
  obtain ⟨b0, b1, b2, b3, b4⟩ := H.c5 (.head _)
  go_wp2_with fail
  refine (toLimits_any a b c d e _).mono ?_
  rintro ev w2 ⟨rfl, hb⟩
  replace H := H.up hb
  clear hb b0 b1 b2 b3 b4
  go_wp2_with fail
  refine (toVoteS_any _ V _ (HV.out.up H.bel) hvl HTS.out).mono ?_
  rintro ev w3 ⟨v3, ps3, rfl, hb3, ho3⟩
  replace H := H.up hb3
  have S3 := Lib.hid ho3.sl
  obtain ⟨A3, c3, rfl, _⟩ := id ho3.sl
  clear hb3 ho3
  go_wp2_with fail
  refine (HS.out _ _ S3.out).mono ?_
  rintro ev w4 ⟨u0, u1, u2, us4, rfl, hv4, K⟩
  obtain ⟨A4, c4, rfl⟩ := K.openB' (.head _)
  obtain ⟨B4, d4, rfl⟩ := K.openB' (.tail _ (.head _))
  obtain ⟨C4, f4, rfl⟩ := K.openS hv4 (.tail _ (.tail _ (.head _)))
  have K4 := K.newG 29 #[.int .i64 rx, .int .i64 ry, .slice A4 rm.length c4, .slice B4 rk.length d4, .slice C4 rL.length f4] w4.heap.size
  have H4 := (H.up K.bel).newG 29 #[.int .i64 rx, .int .i64 ry, .slice A4 rm.length c4, .slice B4 rk.length d4, .slice C4 rL.length f4] w4.heap.size
  obtain ⟨wb, hwb⟩ : ∃ wb, wb = w4.alloc (.cells #[.int .i64 rx, .int .i64 ry, .slice A4 rm.length c4, .slice B4 rk.length d4, .slice C4 rL.length f4] 29) := ⟨_, rfl⟩
  have HWB := Lib.hid hwb
  have P5 : Hid (wb.cell? ⟨W.heap.size, 0, none⟩ = some (.int .i64 a) ∧ wb.cell? ⟨W.heap.size, 1, none⟩ = some (.int .i64 b) ∧ wb.cell? ⟨W.heap.size, 2, none⟩ = some (.int .i64 c) ∧ wb.cell? ⟨W.heap.size, 3, none⟩ = some (.int .i64 d) ∧ wb.cell? ⟨W.heap.size, 4, none⟩ = some (.int .i64 e)) := Lib.hid (by rw [hwb]; exact H4.c5 (.tail _ (.head _)))
  have C5 : Hid (wb.cell? ⟨w4.heap.size, 0, none⟩ = some (.int .i64 rx) ∧ wb.cell? ⟨w4.heap.size, 1, none⟩ = some (.int .i64 ry) ∧ wb.cell? ⟨w4.heap.size, 2, none⟩ = some (.slice A4 rm.length c4) ∧ wb.cell? ⟨w4.heap.size, 3, none⟩ = some (.slice B4 rk.length d4) ∧ wb.cell? ⟨w4.heap.size, 4, none⟩ = some (.slice C4 rL.length f4)) := Lib.hid (by rw [hwb]; exact H4.c5 (.head _))
  have LP : Hid (W.heap.size < wb.heap.size) := Lib.hid (by rw [hwb]; exact H4.ltX (.tail _ (.head _)))
  have LC4 : Hid (w4.heap.size < wb.heap.size) := Lib.hid (by rw [hwb]; exact H4.ltX (.head _))
  have SA : Hid (Sl wb wb.heap.size (.slice A4 rm.length c4) rm) := Lib.hid (by rw [hwb]; exact K4.slB 5 (.tail _ (.head _)))
  have SB : Hid (Sl wb wb.heap.size (.slice B4 rk.length d4) rk) := Lib.hid (by rw [hwb]; exact K4.slB 5 (.tail _ (.tail _ (.head _))))
  have SC : Hid (SlS wb wb.heap.size (.slice C4 rL.length f4) rL) := Lib.hid (by rw [hwb]; exact K4.slS 26 5 hv4 (.tail _ (.tail _ (.tail _ (.head _)))))
  have HBW : Hid (Below W.heap.size W wb) := Lib.hid (by rw [hwb]; exact H4.bel)
  clear K K4 H4 H S3 hv4 hwb
  go_wp2_with fail
  rw [← HWB.out]
  refine (toVoteS_any _ V _ (HV.out.up HBW.out) hvl HTS.out).mono ?_
  rintro ev w5 ⟨v5, ps5, rfl, hb5, ho5⟩
  have O5 := Lib.hid ho5
  have D5 := Lib.hid hb5
  obtain ⟨A5, c5, rfl, _⟩ := id ho5.sl
  clear hb5 ho5
  obtain ⟨b0, b1, b2, b3, b4⟩ := five_bel D5.out LP.out P5.out
  go_wp2_with fail
  refine (toLimits_any a b c d e _).mono ?_
  rintro ev w6 ⟨rfl, hb⟩
  have O6 := Lib.hid (O5.out.up hb)
  have D6 := Lib.hid (D5.out.trans (hb.mono D5.out.size))
  clear hb O5 D5 b0 b1 b2 b3 b4
  go_wp2_with fail
  refine (HI.out _ _ O6.out.sl).mono ?_
  rintro ev w7 ⟨u0, u1, u2, us7, rfl, hv7, K⟩
  obtain ⟨A7, c7, rfl⟩ := K.openB' (.head _)
  obtain ⟨B7, d7, rfl⟩ := K.openB' (.tail _ (.head _))
  obtain ⟨C7, f7, rfl⟩ := K.openS hv7 (.tail _ (.tail _ (.head _)))
  have HV7 := Lib.hid hv7
  have K7 := Lib.hid (K.newG 29 #[.int .i64 rx, .int .i64 ry, .slice A7 rm.length c7, .slice B7 rk.length d7, .slice C7 rL.length f7] w7.heap.size)
  have O7 : Hid (OwnV (fun b => wb.heap.size ≤ b ∧ b < w6.heap.size) _ _ V ps5) := Lib.hid ((O6.out.mono (fun b hlt hs => ⟨hs, hlt⟩)).up K7.out.bel)
  have D7 := Lib.hid (D6.out.trans (K7.out.bel.mono D6.out.size))
  clear K hv7 O6
  obtain ⟨b0, b1, b2, b3, b4⟩ := K7.out.c5 (.head _)
  obtain ⟨e0, e1, e2, e3, e4⟩ := five_bel D7.out LC4.out C5.out
  go_wp2_with fail
  refine (eqQc_any rx ry _ _ _ _ _ _ rm rk rL _ (K7.out.slB 5 (.tail _ (.head _))) (K7.out.slB 5 (.tail _ (.tail _ (.head _)))) (K7.out.slS 26 5 HV7.out (.tail _ (.tail _ (.tail _ (.head _))))) (SA.out.up D7.out) (SB.out.up D7.out) (SC.out.up D7.out)).mono ?_
  rintro ev w8 ⟨rfl, hb⟩
  have K8 := Lib.hid (K7.out.up hb)
  have O8 := Lib.hid (O7.out.up hb)
  have D8 := Lib.hid (D7.out.trans (hb.mono D7.out.size))
  clear hb K7 O7 D7 b0 b1 b2 b3 b4 e0 e1 e2 e3 e4
  go_wp2_with fail
  refine (toVoteS_any _ V _ (HV.out.up (HBW.out.trans (D8.out.mono HBW.out.size))) hvl HTS.out).mono ?_
  rintro ev w9 ⟨v9, ps9, rfl, hb, ho9⟩
  have K9 := Lib.hid (K8.out.up hb)
  have O9 := Lib.hid (O8.out.up hb)
  have S9 := Lib.hid ho9.sl
  obtain ⟨A9, c9, rfl, _⟩ := id ho9.sl
  clear hb K8 O8 D8 ho9
  go_wp2_with fail
  refine (eqVoteS_any _ _ V _ O9.out.sl S9.out).mono ?_
  rintro ev w10 ⟨rfl, hb⟩
  have K10 := Lib.hid (K9.out.up hb)
  have O10 := Lib.hid (O9.out.up hb)
  clear hb K9 O9 S9
  go_wp2_with fail
  refine (markVoteS_one (fun b => wb.heap.size ≤ b ∧ b < w6.heap.size) _ V ps5 _ O10.out hmk HTS4.out).mono ?_
  rintro ev w11 ⟨rfl, ho11, hF11⟩
  have K11 := Lib.hid (K10.out.frm D6.out hF11 (fun b hb => hb))
  clear ho11 hF11 K10 O10
  obtain ⟨b0, b1, b2, b3, b4⟩ := K11.out.c5 (.head _)
  obtain ⟨e0, e1, e2, e3, e4⟩ := five_bel K11.out.bel LC4.out C5.out
  go_wp2_with fail
  refine (eqQc_any rx ry _ _ _ _ _ _ rm rk rL _ (K11.out.slB 5 (.tail _ (.head _))) (K11.out.slB 5 (.tail _ (.tail _ (.head _)))) (K11.out.slS 26 5 HV7.out (.tail _ (.tail _ (.tail _ (.head _))))) (SA.out.up K11.out.bel) (SB.out.up K11.out.bel) (SC.out.up K11.out.bel)).mono ?_
  rintro ev w12 ⟨rfl, hb⟩
  have K12 := Lib.hid ((((K11.out.up hb).front 3 rfl).front 3 rfl).front 3 rfl)
  clear hb K11 b0 b1 b2 b3 b4 e0 e1 e2 e3 e4
  obtain ⟨b0, b1, b2, b3, b4⟩ := K12.out.c5 (.tail _ (.tail _ (.tail _ (.head _))))
  go_wp2_with fail
  refine (markQc_z rx ry wb _ _ _ _ us7 rm rk rL _ 1 1 HV7.out K12.out rfl (by omega) (by omega) (by omega) (by omega)).mono ?_
  rintro ev w13 ⟨rfl, K⟩
  have K13 := Lib.hid K
  have HV13 : Hid (us7.length = (marksS (1 + rm.length + rk.length) rL).length) := Lib.hid (by rw [marksS_length]; exact HV7.out)
  clear K K12 b0 b1 b2 b3 b4
  obtain ⟨b0, b1, b2, b3, b4⟩ := K13.out.c5 (.tail _ (.tail _ (.tail _ (.head _))))
  go_wp2_with fail
  refine (heldQc_z rx ry _ _ _ 1 rm.length rk.length rL 1 _ (K13.out.slB 5 (.head _)) (K13.out.slB 5 (.tail _ (.head _))) (K13.out.slS 26 5 HV13.out (.tail _ (.tail _ (.head _)))) rfl (by omega) (by omega) (by omega) (by omega)).mono ?_
  rintro ev w14 ⟨rfl, hb⟩
  have K14 := Lib.hid (K13.out.up hb)
  clear hb K13 b0 b1 b2 b3 b4
  obtain ⟨b0, b1, b2, b3, b4⟩ := five_bel K14.out.bel LP.out P5.out
  go_wp2_with fail
  refine (toLimits_any a b c d e _).mono ?_
  rintro ev w15 ⟨rfl, hb⟩
  have K15 := Lib.hid (K14.out.up hb)
  clear hb K14 b0 b1 b2 b3 b4
  go_wp2_with fail
  refine (toVoteS_any _ V _ (HV.out.up (HBW.out.trans (K15.out.bel.mono HBW.out.size))) hvl HTS.out).mono ?_
  rintro ev w16 ⟨v16, ps16, rfl, hb, ho16⟩
  have K16 := Lib.hid (K15.out.up hb)
  have S16 := Lib.hid ho16.sl
  obtain ⟨A16, c16, rfl, _⟩ := id ho16.sl
  clear hb K15 ho16
  go_wp2_with fail
  refine (HI.out _ _ S16.out).mono ?_
  rintro ev w17 ⟨u0, u1, u2, us17, rfl, hv17, K⟩
  obtain ⟨A17, c17, rfl⟩ := K.openB' (.head _)
  obtain ⟨B17, d17, rfl⟩ := K.openB' (.tail _ (.head _))
  obtain ⟨C17, f17, rfl⟩ := K.openS hv17 (.tail _ (.tail _ (.head _)))
  have HV17 := Lib.hid hv17
  have J17 := Lib.hid (K.newG 29 #[.int .i64 rx, .int .i64 ry, .slice A17 rm.length c17, .slice B17 rk.length d17, .slice C17 rL.length f17] w17.heap.size)
  have K17 := Lib.hid (K16.out.up J17.out.bel)
  clear K hv17 K16 S16
  obtain ⟨b0, b1, b2, b3, b4⟩ := J17.out.c5 (.head _)
  obtain ⟨e0, e1, e2, e3, e4⟩ := five_bel K17.out.bel LC4.out C5.out
  go_wp2_with fail
  refine (eqQc_any rx ry _ _ _ _ _ _ rm rk rL _ (J17.out.slB 5 (.tail _ (.head _))) (J17.out.slB 5 (.tail _ (.tail _ (.head _)))) (J17.out.slS 26 5 HV17.out (.tail _ (.tail _ (.tail _ (.head _))))) (SA.out.up K17.out.bel) (SB.out.up K17.out.bel) (SC.out.up K17.out.bel)).mono ?_
  rintro ev w18 ⟨rfl, hb⟩
  have K18 := Lib.hid (K17.out.up hb)
  clear hb K17 J17 b0 b1 b2 b3 b4 e0 e1 e2 e3 e4
  obtain ⟨b0, b1, b2, b3, b4⟩ := K18.out.c5 (.tail _ (.tail _ (.tail _ (.head _))))
  go_wp2_with fail
  refine (heldQc_z rx ry _ _ _ 1 rm.length rk.length rL 1 _ (K18.out.slB 5 (.head _)) (K18.out.slB 5 (.tail _ (.head _))) (K18.out.slS 26 5 HV13.out (.tail _ (.tail _ (.head _)))) rfl (by omega) (by omega) (by omega) (by omega)).mono ?_
  rintro ev w19 ⟨rfl, hb⟩
  have K19 := Lib.hid (K18.out.up hb)
  clear hb K18 b0 b1 b2 b3 b4
  go_wp2
  go_ret
  exact ⟨rfl, HBW.out.trans (K19.out.bel.mono HBW.out.size)⟩
end Go.Proofs.Ytdoaikanaodefaa
