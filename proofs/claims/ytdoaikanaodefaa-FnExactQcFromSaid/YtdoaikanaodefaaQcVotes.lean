/- QcVotes, of the program and of its model. -/
import Derived.Test.YtdoaikanaodefaaVotesC
import Derived.Test.YtdoaikanaodefaaQc
import Derived.Deep.RegionHeld3
namespace Go.Proofs.Ytdoaikanaodefaa
open Go.ChangeShapes Go.WideShapes Go.ChangeAt Go.RowKit

/-- The votes of a certificate. -/
def votesOf (x y : Int) (m : List UInt8) (zs : List Int) (L : List (List UInt8)) : List Vt := if zs.length = L.length then List.zipWith (fun z r => ⟨x, y, m, z, r⟩) zs L else []
def qcV (x y : Int) (m k : List UInt8) (L : List (List UInt8)) : List Vt := votesOf x y m (listI k) L
theorem votesOf_len {x y : Int} {m : List UInt8} {zs : List Int} {L : List (List UInt8)} (h : zs.length = L.length) : (votesOf x y m zs L).length = zs.length := by
  unfold votesOf
  rw [if_pos h]
  simp [h]
theorem votesOf_get {x y : Int} {m : List UInt8} {zs : List Int} {L : List (List UInt8)} (h : zs.length = L.length) {j : Nat} (hj : j < zs.length) : (votesOf x y m zs L)[j]? = some ⟨x, y, m, it zs j, L.getD j []⟩ := by
  unfold votesOf
  rw [if_pos h, List.getElem?_zipWith, List.getElem?_eq_getElem hj, List.getElem?_eq_getElem (show j < L.length by omega)]
  simp [it, List.getD_eq_getElem?_getD, List.getElem?_eq_getElem hj, List.getElem?_eq_getElem (show j < L.length by omega)]
theorem votesOf_no {x y : Int} {m : List UInt8} {zs : List Int} {L : List (List UInt8)} (h : ¬ zs.length = L.length) : votesOf x y m zs L = [] := if_neg h
theorem Frm.cell {S : Nat → Prop} {w w' : World} {b o : Nat} (h : Frm S w w') (hb : b < w.heap.size) (hn : ¬ S b) : w'.cell? ⟨b, o, none⟩ = w.cell? ⟨b, o, none⟩ := World.cell?_of_block (a := ⟨b, o, none⟩) (h.block b hb hn)
/-- What the loop reads stands in every world behind. -/
theorem five_up {w w' : World} {b b' o : Nat} {x0 x1 x2 x4 x5 : Value} (hb : Below w.heap.size w w') (h1 : b < w.heap.size) (h2 : b' < w.heap.size)
    (h : w.cell? ⟨b, 0, none⟩ = some x0 ∧ w.cell? ⟨b, 1, none⟩ = some x1 ∧ w.cell? ⟨b, 2, none⟩ = some x2 ∧ w.cell? ⟨b, 4, none⟩ = some x4 ∧ w.cell? ⟨b', o, none⟩ = some x5) :
    w'.cell? ⟨b, 0, none⟩ = some x0 ∧ w'.cell? ⟨b, 1, none⟩ = some x1 ∧ w'.cell? ⟨b, 2, none⟩ = some x2 ∧ w'.cell? ⟨b, 4, none⟩ = some x4 ∧ w'.cell? ⟨b', o, none⟩ = some x5 :=
  ⟨(hb.cell (p := ⟨b, 0, none⟩) h1).trans h.1, (hb.cell (p := ⟨b, 1, none⟩) h1).trans h.2.1, (hb.cell (p := ⟨b, 2, none⟩) h1).trans h.2.2.1, (hb.cell (p := ⟨b, 4, none⟩) h1).trans h.2.2.2.1, (hb.cell (p := ⟨b', o, none⟩) h2).trans h.2.2.2.2⟩
theorem five_frm {S : Nat → Prop} {w w' : World} {b b' o : Nat} {x0 x1 x2 x4 x5 : Value} (hb : Frm S w w') (h1 : b < w.heap.size) (h2 : b' < w.heap.size) (n1 : ¬ S b) (n2 : ¬ S b')
    (h : w.cell? ⟨b, 0, none⟩ = some x0 ∧ w.cell? ⟨b, 1, none⟩ = some x1 ∧ w.cell? ⟨b, 2, none⟩ = some x2 ∧ w.cell? ⟨b, 4, none⟩ = some x4 ∧ w.cell? ⟨b', o, none⟩ = some x5) :
    w'.cell? ⟨b, 0, none⟩ = some x0 ∧ w'.cell? ⟨b, 1, none⟩ = some x1 ∧ w'.cell? ⟨b, 2, none⟩ = some x2 ∧ w'.cell? ⟨b, 4, none⟩ = some x4 ∧ w'.cell? ⟨b', o, none⟩ = some x5 :=
  ⟨(hb.cell h1 n1).trans h.1, (hb.cell h1 n1).trans h.2.1, (hb.cell h1 n1).trans h.2.2.1, (hb.cell h1 n1).trans h.2.2.2.1, (hb.cell h2 n2).trans h.2.2.2.2⟩
/-- A vote more. -/
theorem OwnV.snoc {S : Nat → Prop} {w : World} {v : Value} {L : List Vt} {ps : List (Value × Value)} {t : Vt} {p : Value × Value} (hl : ps.length = L.length) (H : OwnE S 59 5 w v (eltsV L ps ++ [eltV t p])) : OwnV S w v (L ++ [t]) (ps ++ [p]) :=
  ⟨by simp [hl], by rw [eltsV_snoc hl]; exact H⟩

set_option maxRecDepth 100000 in
set_option maxHeartbeats 8000000 in
theorem implQcVotes_any (x y : Int) (u v s : Value) (m k : List UInt8) (L : List (List UInt8)) (w : World) (hu : Sl w w.heap.size u m) (hv : Sl w w.heap.size v k) (hs : SlS w w.heap.size s L) (hm : m.length ≤ 4294967296) (hk : k.length ≤ 4294967296) (hL : L.length ≤ 1073741824) (hr : ∀ r ∈ L, r.length ≤ 4294967296) :
    Calls Try.prog 31 #[.agg #[.int .i64 x, .int .i64 y, u, v, s]] w (FreshVS w (qcV x y m k L)) := by
  obtain ⟨i0, hi, hz0, hz1, hz2⟩ := info_parts vinfo
  have HU0 := Lib.hid hu
  have HV0 := Lib.hid hv
  have HS0 := Lib.hid hs
  obtain ⟨A, n, rfl, p1, p2, p0, p3⟩ := hu
  obtain ⟨B, n', rfl, q1, q2, q0, q3⟩ := hv
  obtain ⟨C, f, rfl, t1, t2, t0, t3⟩ := hs
  have t2' := t2
  unfold maxLen at t2'
  clear p1 p2 p0 p3 q1 q2 q0 q3 t2 t0
  unfold qcV
  obtain ⟨zs, hzs⟩ : ∃ zs, zs = listI k := ⟨_, rfl⟩
  rw [← hzs]
  have hce : cntB k = (zs.length : Int) := by rw [hzs]; simp [cntB, listI]
  have hzl : zs.length ≤ 34359738368 := by have := listI_len k; rw [← hzs] at this; omega
  have HZS := Lib.hid hzs
  have HR := Lib.hid hr
  clear hzs hr
  obtain ⟨ss, hss⟩ : ∃ ss, ss = [segX 29 w.heap.size [.int .i64 x, .int .i64 y, .slice A m.length n, .slice B k.length n', .slice C L.length f]] := ⟨_, rfl⟩
  have H0 := (InvF.start w).newG 29 #[.int .i64 x, .int .i64 y, .slice A m.length n, .slice B k.length n', .slice C L.length f] w.heap.size
  have H1 : InvF w (w.alloc (.cells #[.int .i64 x, .int .i64 y, .slice A m.length n, .slice B k.length n', .slice C L.length f] 29)) ss := by rw [hss]; exact H0
  have o3 := fun z : WF w ss => z.h.atX (T := 29) (g := w.heap.size) (xs := [.int .i64 x, .int .i64 y, .slice A m.length n, .slice B k.length n', .slice C L.length f]) (by rw [hss]; exact .head _) 3 rfl
  have o4 := fun z : WF w ss => z.h.atX (T := 29) (g := w.heap.size) (xs := [.int .i64 x, .int .i64 y, .slice A m.length n, .slice B k.length n', .slice C L.length f]) (by rw [hss]; exact .head _) 4 rfl
  have c5 := fun z : WF w ss => z.below (implBitsCount_any (.slice B k.length n') k z.w (HV0.out.up z.h.bel) hk)
  rw [hce] at c5
  have C5 := Lib.hid c5
  have HH := Lib.hid H1
  have hne : Nonempty (WF w ss) := ⟨⟨_, H1⟩⟩
  have HSS := Lib.hid hss
  clear c5 hss H0 H1 hce
  by_cases hlen : zs.length = L.length
  case neg =>
    rw [votesOf_no hlen]
    have hcmp : ((zs.length : Int) != (L.length : Int)) = true := by rw [bne_iff_ne]; omega
    clear hlen t3
    go_enter Try.func31, Try.ntmps31
    go_wp2_with fail
    refine wp_region_wf (by kernel_rfl) (by kernel_rfl) HH.out ?_
    repeat (go_big_quiet_step ((go_at_call 69; exact C5.out _)))
    refine wpQuiet_nil ?_
    rintro _ ⟨z, rfl⟩
    have hb := z.h.bel
    go_wp2
    go_ret
    exact ⟨_, [], rfl, hb, rfl, OwnE.nil_ _ _ _ _⟩
  case pos =>
    have hcmp : ((zs.length : Int) != (L.length : Int)) = false := by rw [bne_eq_false_iff_eq]; omega
    have HL := Lib.hid hlen
    have HVL := Lib.hid (votesOf_len (x := x) (y := y) (m := m) hlen)
    have HVG := Lib.hid (fun j (hj : j < zs.length) => votesOf_get (x := x) (y := y) (m := m) hlen hj)
    clear hlen
    generalize votesOf x y m zs L = V at *
    go_enter Try.func31, Try.ntmps31
    go_wp2_with fail
    refine wp_region_wf (by kernel_rfl) (by kernel_rfl) HH.out ?_
    repeat (go_big_quiet_step ((go_at_call 69; exact C5.out _)))
    refine wpQuiet_nil ?_
    rintro _ ⟨⟨w2, H2⟩, rfl⟩
    rw [HSS.out] at H2
    clear o3 o4 hne C5 HH HSS hcmp
    obtain ⟨o0, o1, o2, o3, o4⟩ := H2.c5 (.head _)
    go_wp2_with fail
    refine (implBitsList_any (.slice B k.length n') k _ (HV0.out.up H2.bel) hk).mono ?_
    rw [← HZS.out]
    rintro ev w3 ⟨v3, rfl, ho3, hb3⟩
    have H3 := H2.moreI ho3 hb3
    have hbl3 : Hid (∀ g, v3.ownBlock = some g → w.heap.size < g ∧ g < w3.heap.size) := Lib.hid (fun g hg => ⟨Nat.lt_of_lt_of_le (H2.ltX (.head _)) (ho3.lt g hg).1, (ho3.lt g hg).2⟩)
    obtain ⟨A3, c3, rfl, m1, m2, m0, m3⟩ := ho3.sl
    unfold maxLen at m2
    have hx0 := H3.c5 (.tail _ (.head _))
    have hbB := H3.ltX (.tail _ (.head _))
    have hbel3 := H3.bel
    clear H2 H3 ho3 hb3 o0 o1 o2 o3 o4 m0
    obtain ⟨n0, hn0⟩ : ∃ n0, n0 = w3.heap.size := ⟨_, rfl⟩
    have HN0 := Lib.hid hn0
    rw [← hn0] at hbB
    have hwn : w.heap.size ≤ n0 := by rw [hn0]; exact hbel3.size
    have HB3 := Lib.hid hbel3
    have HX0 := Lib.hid hx0
    obtain ⟨S, hS⟩ : ∃ S : Nat → Prop, S = fun b => n0 ≤ b := ⟨_, rfl⟩
    have hS1 : Hid (∀ b, n0 ≤ b → S b) := Lib.hid (fun b hb => by rw [hS]; exact hb)
    have hS2 : Hid (∀ b, S b → w.heap.size < b) := Lib.hid (fun b hb => by rw [hS] at hb; have : n0 ≤ b := hb; omega)
    have hS3 : Hid (∀ b, (Value.slice A3 zs.length c3).ownBlock = some b → ¬ S b) := Lib.hid (fun b hb hs => by rw [hS] at hs; have h1 : n0 ≤ b := hs; have h2 := hbl3.out b hb; omega)
    have H4 : Hid (OwnV S w3 (.slice none 0 0) (V.take 0) []) := Lib.hid ⟨by simp, OwnE.nil_ _ _ _ _⟩
    clear hn0 hbel3 hx0 hS hbl3
    go_wp2

    go_loopw [3, 17] (fun o i wr => ∃ (j : Nat) (ps : List (Value × Value)) (ov : Value), ov = o ∧ j ≤ zs.length ∧ i = .int .i64 j ∧ Hid (OwnV S wr ov (V.take j) ps) ∧ Hid (Frm S w3 wr))
      (fun _ i _ => zs.length - (intOf i).toNat)
    case atStart => exact ⟨0, [], _, rfl, Nat.zero_le _, rfl, H4, Lib.hid (Frm.refl _ _)⟩
    case round =>
      clear H4
      obtain ⟨j, ps, o, rfl, hj, rfl, HO, HB⟩ := hrel
      have hnB : ¬ S w.heap.size := fun h => Nat.lt_irrefl _ (hS2.out _ h)
      have HNB := Lib.hid hnB
      have hbw : Below w.heap.size w wr := HB3.out.trans (HB.out.below (fun b hb => Nat.le_of_lt (hS2.out b hb)) HB3.out.size)
      have HBW := Lib.hid hbw
      clear hnB hbw
      by_cases hlt : j < zs.length
      · obtain ⟨b3, off3, rfl, hbb3, hc3⟩ := m3 (by omega)
        obtain ⟨bt, offt, rfl, hbt, hct⟩ := t3 (by have := HL.out; omega)
        obtain ⟨tv, htv, hts⟩ := hct j (by have := HL.out; omega)
        have hjL : (j : Int) < (L.length : Int) := by have := HL.out; omega
        have hjL' : j < L.length := by have := HL.out; omega
        have i3 := (HB.out.cell (o := off3 + j) hbb3 (hS3.out b3 rfl)).trans (hc3 j hlt)
        have cB := fun o => HB.out.cell (o := o) (by rw [← HN0.out]; exact hbB) HNB.out
        have h5 : wr.cell? ⟨w.heap.size, 0, none⟩ = some (.int .i64 x) ∧ wr.cell? ⟨w.heap.size, 1, none⟩ = some (.int .i64 y) ∧ wr.cell? ⟨w.heap.size, 2, none⟩ = some (.slice A m.length n) ∧ wr.cell? ⟨w.heap.size, 4, none⟩ = some (.slice (some ⟨bt, offt, none⟩) L.length f) ∧ wr.cell? ⟨bt, offt + j, none⟩ = some tv :=
          ⟨(cB 0).trans HX0.out.1, (cB 1).trans HX0.out.2.1, (cB 2).trans HX0.out.2.2.1, (cB 4).trans HX0.out.2.2.2.2, (HBW.out.cell (p := ⟨bt, offt + j, none⟩) hbt).trans htv⟩
        have hb1 : w.heap.size < wr.heap.size := by have := HB.out.size; have := HN0.out; omega
        have hb2 : bt < wr.heap.size := by omega
        have hnt : Hid (¬ S bt) := Lib.hid (fun h => by have := hS2.out bt h; omega)
        have hvj := HVG.out j hlt
        have hrl : (L.getD j []).length ≤ 4294967296 := HR.out _ (by simp [List.getD_eq_getElem?_getD, List.getElem?_eq_getElem hjL'])
        have hts2 := hts.up HBW.out
        generalize it zs j = zj at *
        generalize L.getD j [] = r at *
        have htk : Hid (V.take (j + 1) = V.take j ++ [⟨x, y, m, zj, r⟩]) := Lib.hid (by rw [List.take_add_one, hvj]; rfl)
        obtain ⟨At, ct, rfl, _⟩ := id hts
        have HTS := Lib.hid hts2
        have HM := Lib.hid (HU0.out.up HBW.out)
        have HD : Hid (OwnP S 59 5 wr.drew o (eltsV (V.take j) ps) []) := Lib.hid (HO.out.2.pend.drew)
        have L0 := Lib.hid (show wr.drew.cell? ⟨w.heap.size, 0, none⟩ = some (.int .i64 x) ∧ wr.drew.cell? ⟨w.heap.size, 1, none⟩ = some (.int .i64 y) ∧ wr.drew.cell? ⟨w.heap.size, 2, none⟩ = some (.slice A m.length n) ∧ wr.drew.cell? ⟨w.heap.size, 4, none⟩ = some (.slice (some ⟨bt, offt, none⟩) L.length f) ∧ wr.drew.cell? ⟨bt, offt + j, none⟩ = some (.slice At r.length ct) from h5)
        have hpl : Hid (ps.length = (V.take j).length) := Lib.hid HO.out.1
        have hel : Hid ((eltsV (V.take j) ps).length ≤ 1073741824) := Lib.hid (by rw [eltsV_len HO.out.1, List.length_take]; omega)
        have hn0r : Hid (∀ b, wr.heap.size ≤ b → S b) := Lib.hid (fun b hb => hS1.out b (by have := HB.out.size; have := HN0.out; omega))
        clear hc3 hct htv hts hts2 h5 cB hvj HO hbb3
        go_wp2_with fail
        go_region_held3 (fun w' => w'.cell? ⟨w.heap.size, 0, none⟩ = some (.int .i64 x) ∧ w'.cell? ⟨w.heap.size, 1, none⟩ = some (.int .i64 y) ∧ w'.cell? ⟨w.heap.size, 2, none⟩ = some (.slice A m.length n) ∧ w'.cell? ⟨w.heap.size, 4, none⟩ = some (.slice (some ⟨bt, offt, none⟩) L.length f) ∧ w'.cell? ⟨bt, offt + j, none⟩ = some (.slice At r.length ct))
          (first
            | exact L0.out
            | exact L1.out
            | exact L2.out
            | exact L2a.out
            | exact L3.out)
          (first
            | (go_at_call_of 71 (Value.slice A m.length n); refine (joined_any (.slice none 0 0) (.slice A m.length n) [] m _ Sl.nil_ (HM.out.drewN 1) (by simp) hm).mono ?_; rintro ev w5 ⟨u5, rfl, ho5, hb5⟩; have P5 := Lib.hid (HD.out.moreB (E := 5) ho5 hb5 hn0r.out); have L1 := Lib.hid (five_up hb5 hb1 hb2 L0.out); have B5 := Lib.hid hb5; obtain ⟨A5, c5, rfl, _⟩ := ho5.sl; clear ho5 hb5)
            | (go_at_call_of 71 (Value.slice At r.length ct); refine (joined_any (.slice none 0 0) (.slice At r.length ct) [] r _ Sl.nil_ (Sl.up (w := wr.drew) (HTS.out.drewN 1) B5.out) (by simp) hrl).mono ?_; rintro ev w6 ⟨u6, rfl, ho6, hb6⟩; have hs5 := B5.out.size; have P6 := Lib.hid (P5.out.moreB (E := 5) ho6 hb6 (fun b hb => hn0r.out b (Nat.le_trans hs5 hb))); have L2 := Lib.hid (five_up hb6 (Nat.lt_of_lt_of_le hb1 hs5) (Nat.lt_of_lt_of_le hb2 hs5) L1.out); have B6 := Lib.hid (B5.out.trans (hb6.mono hs5)); obtain ⟨A6, c6, rfl, _⟩ := ho6.sl; have hs6 := B6.out.size; have L2a := Lib.hid (five_up ((Below.refl _ _).alloc (Nat.le_refl _) (.cells #[.int .i64 x, .int .i64 y, .slice A5 m.length c5, .int .i64 zj, .slice A6 r.length c6] 59)) (Nat.lt_of_lt_of_le hb1 hs6) (Nat.lt_of_lt_of_le hb2 hs6) L2.out); clear ho6 hb6)
            | (refine step_appE (S := S) (w := w6) (s := 5) (L := eltsV (V.take j) ps) (by rfl) (.tmp 22) (.tmp 38) 34 rfl i0 _ 72 Try.underlying34 hi hz0 (by rfl) hz1 hz2 (by decide) (by decide) [.int .i64 x, .int .i64 y, .slice A5 m.length c5, .int .i64 zj, .slice A6 r.length c6] rfl (by intro u hu; simp only [List.mem_cons, List.not_mem_nil, or_false] at hu; rcases hu with rfl | rfl | rfl | rfl | rfl <;> rfl) (by rfl) (by rfl) P6.out (fun b hb => hn0r.out b (Nat.le_trans hs6 hb)) hel.out ?_; intro v8 w8 hO8 hF8; have O8 := Lib.hid hO8; have F8 := Lib.hid hF8; have L3 := Lib.hid (five_frm hF8 (Nat.lt_of_lt_of_le hb1 hs6) (Nat.lt_of_lt_of_le hb2 hs6) HNB.out hnt.out L2.out); clear hO8 hF8))
        have HO8 : Hid (OwnV S w8 v8 (V.take (j + 1)) (ps ++ [(.slice A5 m.length c5, .slice A6 r.length c6)])) := Lib.hid (by rw [htk.out]; exact OwnV.snoc (t := ⟨x, y, m, zj, r⟩) (p := (.slice A5 m.length c5, .slice A6 r.length c6)) hpl.out O8.out)
        have HF8 : Hid (Frm S w3 w8) := Lib.hid (((HB.out.drewN 1).trans (Frm.of_below B6.out)).trans F8.out)
        clear L0 L1 L2 L2a L3 P5 P6 B5 B6 O8 F8 HD hs5 hs6
        go_wp2
        go_roundw
        case rel => exact ⟨j + 1, _, _, rfl, by omega, by go_num, HO8, HF8⟩
        case measure => simp [intOf]; omega
      · obtain rfl : j = zs.length := by omega
        have hfull : V.take zs.length = V := List.take_of_length_le (by rw [HVL.out]; exact Nat.le_refl _)
        rw [hfull] at HO
        have HFULL := Lib.hid hfull
        clear hfull
        go_wp2
        go_ret
        exact ⟨o, ps, rfl, HBW.out, HO.out.mono (fun b _ hb => Nat.le_of_lt (hS2.out b hb))⟩


set_option maxRecDepth 100000 in
set_option maxHeartbeats 8000000 in
theorem specQcVotes_any (x y : Int) (u v s : Value) (m k : List UInt8) (L : List (List UInt8)) (w : World) (hu : Sl w w.heap.size u m) (hv : Sl w w.heap.size v k) (hs : SlS w w.heap.size s L) (hm : m.length ≤ 4294967296) (hk : k.length ≤ 4294967296) (hL : L.length ≤ 1073741824) (hr : ∀ r ∈ L, r.length ≤ 4294967296) :
    Calls Try.prog 24 #[.agg #[.int .i64 x, .int .i64 y, u, v, s]] w (FreshVS w (qcV x y m k L)) := by
  obtain ⟨i0, hi, hz0, hz1, hz2⟩ := info_parts vinfo
  have HU0 := Lib.hid hu
  have HV0 := Lib.hid hv
  have HS0 := Lib.hid hs
  obtain ⟨A, n, rfl, p1, p2, p0, p3⟩ := hu
  obtain ⟨B, n', rfl, q1, q2, q0, q3⟩ := hv
  obtain ⟨C, f, rfl, t1, t2, t0, t3⟩ := hs
  have t2' := t2
  unfold maxLen at t2'
  clear p1 p2 p0 p3 q1 q2 q0 q3 t2 t0
  unfold qcV
  obtain ⟨zs, hzs⟩ : ∃ zs, zs = listI k := ⟨_, rfl⟩
  rw [← hzs]
  have hce : cntB k = (zs.length : Int) := by rw [hzs]; simp [cntB, listI]
  have hzl : zs.length ≤ 34359738368 := by have := listI_len k; rw [← hzs] at this; omega
  have HZS := Lib.hid hzs
  have HR := Lib.hid hr
  clear hzs hr
  have H0 := ((InvF.start w).newG 29 #[.int .i64 x, .int .i64 y, .slice A m.length n, .slice B k.length n', .slice C L.length f] w.heap.size).newG 59 #[] (w.heap.size + 1)
  have hg0 : Hid (((w.alloc (.cells #[.int .i64 x, .int .i64 y, .slice A m.length n, .slice B k.length n', .slice C L.length f] 29)).alloc (.cells #[] 59)).heap[w.heap.size + 1]? = some (.cells #[] 59)) := Lib.hid (by
    have h := heap_alloc_new (w.alloc (.cells #[.int .i64 x, .int .i64 y, .slice A m.length n, .slice B k.length n', .slice C L.length f] 29)) (.cells #[] 59)
    rw [show (w.alloc (.cells #[.int .i64 x, .int .i64 y, .slice A m.length n, .slice B k.length n', .slice C L.length f] 29)).heap.size = w.heap.size + 1 by simp] at h
    exact h)
  obtain ⟨o0, o1, o2, o3, o4⟩ := H0.c5 (.tail _ (.head _))
  have HCE := Lib.hid hce
  clear hce
  go_enter Try.func24, Try.ntmps24
  go_wp2_with fail
  refine (specBitsList_any (.slice B k.length n') k _ (HV0.out.up H0.bel) hk).mono ?_
  rw [← HZS.out]
  rintro ev w3 ⟨v3, rfl, ho3, hb3⟩
  have H3 := H0.moreI ho3 hb3
  have hbl3 : Hid (∀ g, v3.ownBlock = some g → w.heap.size + 1 < g ∧ g < w3.heap.size) := Lib.hid (fun g hg => by have h1 := ho3.lt g hg; have h2 := h1.1; simp at h2; exact ⟨by omega, h1.2⟩)
  have hg3 : Hid (w3.heap[w.heap.size + 1]? = some (.cells #[] 59)) := Lib.hid ((hb3.block _ (by simp)).trans hg0.out)
  obtain ⟨A3, c3, rfl, m1, m2, m0, m3⟩ := ho3.sl
  unfold maxLen at m2
  have hx0 := H3.c5 (.tail _ (.tail _ (.head _)))
  have hbB := H3.ltX (.tail _ (.tail _ (.head _)))
  have hbel3 := H3.bel
  clear H0 H3 ho3 hb3 o0 o1 o2 o3 o4 m0 hg0
  obtain ⟨n0, hn0⟩ : ∃ n0, n0 = w3.heap.size := ⟨_, rfl⟩
  have HN0 := Lib.hid hn0
  rw [← hn0] at hbB
  have hwn : w.heap.size ≤ n0 := by rw [hn0]; exact hbel3.size
  have hwn1 : w.heap.size + 1 < n0 := by rw [hn0]; exact (Array.getElem?_eq_some_iff.1 hg3.out).1
  have HB3 := Lib.hid hbel3
  have HX0 := Lib.hid hx0
  obtain ⟨S, hS⟩ : ∃ S : Nat → Prop, S = fun b => b = w.heap.size + 1 ∨ n0 ≤ b := ⟨_, rfl⟩
  have hS1 : Hid (∀ b, n0 ≤ b → S b) := Lib.hid (fun b hb => by rw [hS]; exact .inr hb)
  have hS2 : Hid (∀ b, S b → w.heap.size < b) := Lib.hid (fun b hb => by rw [hS] at hb; have : b = w.heap.size + 1 ∨ n0 ≤ b := hb; omega)
  have hS3 : Hid (∀ b, (Value.slice A3 zs.length c3).ownBlock = some b → ¬ S b) := Lib.hid (fun b hb hs => by rw [hS] at hs; have h1 : b = w.heap.size + 1 ∨ n0 ≤ b := hs; have h2 := hbl3.out b hb; omega)
  have hE4 : Hid (OwnE S 59 5 w3 (.slice (some ⟨w.heap.size + 1, 0, none⟩) 0 0) []) := Lib.hid ⟨(fun e he => by cases he), ⟨rfl, .inr ⟨w.heap.size + 1, 0, #[], rfl, Nat.zero_le _, hg3.out, Nat.le_refl _, by simp [maxLen], rfl, rfl⟩⟩, (fun g hg => by simp [Value.ownBlock] at hg; rw [hS]; exact .inl hg.symm), (fun p hp => by cases hp), List.pairwise_singleton _ _⟩
  clear hn0 hbel3 hS hbl3
  obtain ⟨o0, o1, o2, o3, o4⟩ := hx0
  by_cases hlen : zs.length = L.length
  case neg =>
    have hcmp : ((zs.length : Int) != (L.length : Int)) = true := by rw [bne_iff_ne]; omega
    have HLN := Lib.hid hlen
    clear hlen t3 m3
    go_wp2
    go_ret
    refine ⟨_, [], rfl, HB3.out, ?_⟩
    rw [votesOf_no HLN.out]
    exact ⟨rfl, hE4.out.mono (fun b _ hb => Nat.le_of_lt (hS2.out b hb))⟩
  case pos =>
    have hcmp : ((zs.length : Int) != (L.length : Int)) = false := by rw [bne_eq_false_iff_eq]; omega
    have HL := Lib.hid hlen
    have HVL := Lib.hid (votesOf_len (x := x) (y := y) (m := m) hlen)
    have HVG := Lib.hid (fun j (hj : j < zs.length) => votesOf_get (x := x) (y := y) (m := m) hlen hj)
    have H4 : Hid (OwnV S w3 (.slice (some ⟨w.heap.size + 1, 0, none⟩) 0 0) ((votesOf x y m zs L).take 0) []) := Lib.hid ⟨by simp, hE4.out⟩
    have HVE : Hid (votesOf x y m zs L = votesOf x y m zs L) := Lib.hid rfl
    clear hlen hE4
    generalize hVV : votesOf x y m zs L = V at HVL HVG H4
    have HVV := Lib.hid hVV
    clear hVV HVE
    go_wp2
    clear o0 o1 o2 o3 o4 hcmp

    go_loopw [3, 20] (fun o i wr => ∃ (j : Nat) (ps : List (Value × Value)) (ov : Value), ov = o ∧ j ≤ zs.length ∧ i = .int .i64 j ∧ Hid (OwnV S wr ov (V.take j) ps) ∧ Hid (Frm S w3 wr))
      (fun _ i _ => zs.length - (intOf i).toNat)
    case atStart => exact ⟨0, [], _, rfl, Nat.zero_le _, rfl, H4, Lib.hid (Frm.refl _ _)⟩
    case round =>
      clear H4
      obtain ⟨j, ps, o, rfl, hj, rfl, HO, HB⟩ := hrel
      have hnB : ¬ S w.heap.size := fun h => Nat.lt_irrefl _ (hS2.out _ h)
      have HNB := Lib.hid hnB
      have hbw : Below w.heap.size w wr := HB3.out.trans (HB.out.below (fun b hb => Nat.le_of_lt (hS2.out b hb)) HB3.out.size)
      have HBW := Lib.hid hbw
      clear hnB hbw
      by_cases hlt : j < zs.length
      · obtain ⟨b3, off3, rfl, hbb3, hc3⟩ := m3 (by omega)
        obtain ⟨bt, offt, rfl, hbt, hct⟩ := t3 (by have := HL.out; omega)
        obtain ⟨tv, htv, hts⟩ := hct j (by have := HL.out; omega)
        have hjL : (j : Int) < (L.length : Int) := by have := HL.out; omega
        have hjL' : j < L.length := by have := HL.out; omega
        have i3 := (HB.out.cell (o := off3 + j) hbb3 (hS3.out b3 rfl)).trans (hc3 j hlt)
        have cB := fun o => HB.out.cell (o := o) (by rw [← HN0.out]; exact hbB) HNB.out
        have h5 : wr.cell? ⟨w.heap.size, 0, none⟩ = some (.int .i64 x) ∧ wr.cell? ⟨w.heap.size, 1, none⟩ = some (.int .i64 y) ∧ wr.cell? ⟨w.heap.size, 2, none⟩ = some (.slice A m.length n) ∧ wr.cell? ⟨w.heap.size, 4, none⟩ = some (.slice (some ⟨bt, offt, none⟩) L.length f) ∧ wr.cell? ⟨bt, offt + j, none⟩ = some tv :=
          ⟨(cB 0).trans HX0.out.1, (cB 1).trans HX0.out.2.1, (cB 2).trans HX0.out.2.2.1, (cB 4).trans HX0.out.2.2.2.2, (HBW.out.cell (p := ⟨bt, offt + j, none⟩) hbt).trans htv⟩
        have hb1 : w.heap.size < wr.heap.size := by have := HB.out.size; have := HN0.out; omega
        have hb2 : bt < wr.heap.size := by omega
        have hnt : Hid (¬ S bt) := Lib.hid (fun h => by have := hS2.out bt h; omega)
        have hvj := HVG.out j hlt
        have hrl : (L.getD j []).length ≤ 4294967296 := HR.out _ (by simp [List.getD_eq_getElem?_getD, List.getElem?_eq_getElem hjL'])
        have hts2 := hts.up HBW.out
        generalize it zs j = zj at *
        generalize L.getD j [] = r at *
        have htk : Hid (V.take (j + 1) = V.take j ++ [⟨x, y, m, zj, r⟩]) := Lib.hid (by rw [List.take_add_one, hvj]; rfl)
        obtain ⟨At, ct, rfl, _⟩ := id hts
        have HTS := Lib.hid hts2
        have HM := Lib.hid (HU0.out.up HBW.out)
        have HD : Hid (OwnP S 59 5 wr.drew o (eltsV (V.take j) ps) []) := Lib.hid (HO.out.2.pend.drew)
        have L0 := Lib.hid (show wr.drew.cell? ⟨w.heap.size, 0, none⟩ = some (.int .i64 x) ∧ wr.drew.cell? ⟨w.heap.size, 1, none⟩ = some (.int .i64 y) ∧ wr.drew.cell? ⟨w.heap.size, 2, none⟩ = some (.slice A m.length n) ∧ wr.drew.cell? ⟨w.heap.size, 4, none⟩ = some (.slice (some ⟨bt, offt, none⟩) L.length f) ∧ wr.drew.cell? ⟨bt, offt + j, none⟩ = some (.slice At r.length ct) from h5)
        have hpl : Hid (ps.length = (V.take j).length) := Lib.hid HO.out.1
        have hel : Hid ((eltsV (V.take j) ps).length ≤ 1073741824) := Lib.hid (by rw [eltsV_len HO.out.1, List.length_take]; omega)
        have hn0r : Hid (∀ b, wr.heap.size ≤ b → S b) := Lib.hid (fun b hb => hS1.out b (by have := HB.out.size; have := HN0.out; omega))
        clear hc3 hct htv hts hts2 h5 cB hvj HO hbb3
        go_wp2_with fail
        go_region_held3 (fun w' => w'.cell? ⟨w.heap.size, 0, none⟩ = some (.int .i64 x) ∧ w'.cell? ⟨w.heap.size, 1, none⟩ = some (.int .i64 y) ∧ w'.cell? ⟨w.heap.size, 2, none⟩ = some (.slice A m.length n) ∧ w'.cell? ⟨w.heap.size, 4, none⟩ = some (.slice (some ⟨bt, offt, none⟩) L.length f) ∧ w'.cell? ⟨bt, offt + j, none⟩ = some (.slice At r.length ct))
          (first
            | exact L0.out
            | exact L1.out
            | exact L2.out
            | exact L2a.out
            | exact L3.out)
          (first
            | (go_at_call_of 22 (Value.slice A m.length n); refine (l01Copy_any (.slice A m.length n) m _ (HM.out.drewN 1) hm).mono ?_; rintro ev w5 ⟨u5, rfl, ho5, hb5⟩; have P5 := Lib.hid (HD.out.moreB (E := 5) ho5 hb5 hn0r.out); have L1 := Lib.hid (five_up hb5 hb1 hb2 L0.out); have B5 := Lib.hid hb5; obtain ⟨A5, c5, rfl, _⟩ := ho5.sl; clear ho5 hb5)
            | (go_at_call_of 22 (Value.slice At r.length ct); refine (l01Copy_any (.slice At r.length ct) r _ (Sl.up (w := wr.drew) (HTS.out.drewN 1) B5.out) hrl).mono ?_; rintro ev w6 ⟨u6, rfl, ho6, hb6⟩; have hs5 := B5.out.size; have P6 := Lib.hid (P5.out.moreB (E := 5) ho6 hb6 (fun b hb => hn0r.out b (Nat.le_trans hs5 hb))); have L2 := Lib.hid (five_up hb6 (Nat.lt_of_lt_of_le hb1 hs5) (Nat.lt_of_lt_of_le hb2 hs5) L1.out); have B6 := Lib.hid (B5.out.trans (hb6.mono hs5)); obtain ⟨A6, c6, rfl, _⟩ := ho6.sl; have hs6 := B6.out.size; have L2a := Lib.hid (five_up ((Below.refl _ _).alloc (Nat.le_refl _) (.cells #[.int .i64 x, .int .i64 y, .slice A5 m.length c5, .int .i64 zj, .slice A6 r.length c6] 59)) (Nat.lt_of_lt_of_le hb1 hs6) (Nat.lt_of_lt_of_le hb2 hs6) L2.out); clear ho6 hb6)
            | (refine step_appE (S := S) (w := w6) (s := 5) (L := eltsV (V.take j) ps) (by rfl) (.tmp 25) (.tmp 41) 34 rfl i0 _ 72 Try.underlying34 hi hz0 (by rfl) hz1 hz2 (by decide) (by decide) [.int .i64 x, .int .i64 y, .slice A5 m.length c5, .int .i64 zj, .slice A6 r.length c6] rfl (by intro u hu; simp only [List.mem_cons, List.not_mem_nil, or_false] at hu; rcases hu with rfl | rfl | rfl | rfl | rfl <;> rfl) (by rfl) (by rfl) P6.out (fun b hb => hn0r.out b (Nat.le_trans hs6 hb)) hel.out ?_; intro v8 w8 hO8 hF8; have O8 := Lib.hid hO8; have F8 := Lib.hid hF8; have L3 := Lib.hid (five_frm hF8 (Nat.lt_of_lt_of_le hb1 hs6) (Nat.lt_of_lt_of_le hb2 hs6) HNB.out hnt.out L2.out); clear hO8 hF8))
        have HO8 : Hid (OwnV S w8 v8 (V.take (j + 1)) (ps ++ [(.slice A5 m.length c5, .slice A6 r.length c6)])) := Lib.hid (by rw [htk.out]; exact OwnV.snoc (t := ⟨x, y, m, zj, r⟩) (p := (.slice A5 m.length c5, .slice A6 r.length c6)) hpl.out O8.out)
        have HF8 : Hid (Frm S w3 w8) := Lib.hid (((HB.out.drewN 1).trans (Frm.of_below B6.out)).trans F8.out)
        clear L0 L1 L2 L2a L3 P5 P6 B5 B6 O8 F8 HD hs5 hs6
        go_wp2
        go_roundw
        case rel => exact ⟨j + 1, _, _, rfl, by omega, by go_num, HO8, HF8⟩
        case measure => simp [intOf]; omega
      · obtain rfl : j = zs.length := by omega
        have hfull : V.take zs.length = V := List.take_of_length_le (by rw [HVL.out]; exact Nat.le_refl _)
        rw [hfull] at HO
        have HFULL := Lib.hid hfull
        clear hfull
        go_wp2
        go_ret
        exact ⟨o, ps, rfl, HBW.out, by rw [HVV.out]; exact HO.out.mono (fun b _ hb => Nat.le_of_lt (hS2.out b hb))⟩

end Go.Proofs.Ytdoaikanaodefaa
