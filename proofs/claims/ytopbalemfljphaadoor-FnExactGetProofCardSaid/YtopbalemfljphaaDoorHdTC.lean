/- Marks over slices of headers and commit proofs whose tags lie over any row of a call's own. -/
import Derived.Test.YtopbalemfljphaaDoorHdT
import Derived.Test.YtopbalemfljphaaDoorHdSC
import Derived.Test.YtopbalemfljphaaDoorProof
import Derived.Test.YtopbalemfljphaaDoorQcT
namespace Go.Proofs.YtopbalemfljphaaDoor
open Go.ChangeShapes Go.WideShapes Go.ChangeAt Go.RowKit

theorem markByteSST_z (W w : World) (u : Value) (row : Row) (vs : List Value) (L : List (List UInt8)) (ss : List (List Row)) (k : Nat) (kz : Int) (hv : vs.length = L.length) (hr : Reads0 u row vs) (H : InvF W w ((row :: rowsS 5 vs L) :: ss)) (hz : kz = (k : Int)) (hk : k ≤ 1073741824) (hs : sumL L ≤ 1073741824) :
    Calls Tryd.prog 33 #[u, .int .i64 kz] w (fun e w' => e = .returned (.int .i64 (kz + (sumL L : Int))) ∧ InvF W w' ((row :: rowsS 5 vs (marksS k L)) :: ss)) := by
  subst hz
  exact markByteSST_any W w u row vs L ss.flatten k hv hr H hk hs

set_option maxRecDepth 100000 in
set_option maxHeartbeats 8000000 in
theorem markHeadST_z (W w : World) (v : Value) (ps : List HPT) (M : List Ht) (ss : List (List Row)) (k : Nat) (kz : Int) (hp : OkHT M ps) (H : InvF W w (segHT v ps M :: ss)) (hz : kz = (k : Int)) (hk : k ≤ 134217728) (hm : mkH M ≤ 8388608) :
    Calls Tryd.prog 26 #[v, .int .i64 kz] w (fun e w' => e = .returned (.int .i64 (kz + (mkH M : Int))) ∧ InvF W w' (segHT v ps (marksH k M) :: ss)) := by
  subst hz
  obtain ⟨A, c, rfl, h1, h2, h0, h3⟩ := H.formHT hp (.head _)
  unfold maxLen at h2
  clear h0
  have HP0 := Lib.hid hp
  have HM0 := Lib.hid hm
  have hA : 0 < M.length → ∃ b, A = some ⟨b, 0, none⟩ := fun hq => by
    obtain ⟨g, e, _⟩ := h3 hq
    exact ⟨g, e⟩
  clear h3 hp hm
  go_enter Tryd.func26, Tryd.ntmps26
  go_wp2
  go_loopw [1, 5] (fun q i wr => ∃ j : Nat, j ≤ M.length ∧ i = .int .i64 j ∧ q = .int .i64 ((k : Int) + (mkH (M.take j) : Int)) ∧ Hid (OkHT (MHd M k j) ps) ∧ Hid (InvF W wr (segHT (.slice A M.length c) ps (MHd M k j) :: ss)))
    (fun _ i _ => M.length - (intOf i).toNat)
  case atStart => exact ⟨0, Nat.zero_le _, rfl, by simp [mkH], by rw [MHd_zero]; exact HP0, Lib.hid (by rw [MHd_zero]; exact H)⟩
  case round =>
    clear H
    obtain ⟨j, hj, rfl, rfl, HOK, H⟩ := hrel
    have hml := MHd_length M k j hj
    by_cases hlt : j < M.length
    · obtain ⟨b, rfl⟩ := hA (by omega)
      obtain ⟨t, ht⟩ := getH hlt
      have htm := MHd_at M k j t ht
      obtain ⟨p, hp⟩ : ∃ p, ps[j]? = some p := ⟨ps[j]'(by have := HP0.out.1; omega), List.getElem?_eq_getElem (by have := HP0.out.1; omega)⟩
      have hvs : Hid (p.vs.length = t.L.length ∧ Reads0 p.qs p.row p.vs) := Lib.hid (HP0.out.2 j t p ht hp)
      have hnext := mkH_take M j t ht
      have hle := mkH_le M (j + 1)
      have hm := HM0.out
      obtain ⟨q, hq⟩ : ∃ q, q = k + mkH (M.take j) := ⟨_, rfl⟩
      obtain ⟨z0, hz0⟩ : ∃ z0 : Int, z0 = (k : Int) + (mkH (M.take j) : Int) := ⟨_, rfl⟩
      have hzq : z0 = (q : Int) := by omega
      have hzlo : 0 ≤ z0 := by omega
      have hzhi : z0 ≤ 268435456 := by omega
      have hqb : q ≤ 268435456 := by omega
      have hmt : mkT t ≤ 8388608 := by omega
      have hsz : Hid (t.l.length ≤ 8388608 ∧ t.k.length ≤ 8388608 ∧ t.ql.length ≤ 8388608 ∧ t.qk.length ≤ 8388608 ∧ sumL t.L ≤ 8388608) := Lib.hid (by unfold mkT at hmt; omega)
      have hszl : t.l.length ≤ 8388608 := hsz.out.1
      have hszk : t.k.length ≤ 8388608 := hsz.out.2.1
      have hszql : t.ql.length ≤ 8388608 := hsz.out.2.2.1
      have hszqk : t.qk.length ≤ 8388608 := hsz.out.2.2.2.1
      have hmte : mkT t = t.l.length + t.k.length + t.ql.length + t.qk.length + sumL t.L + 5 := rfl
      rw [← hz0]
      have HZ := Lib.hid hzq
      have HN : Hid (∀ z : Int, z = z0 + 1 + 1 + 1 + (t.l.length : Int) + (t.k.length : Int) + 1 + 1 + (t.ql.length : Int) + (t.qk.length : Int) + (sumL t.L : Int) → z = (k : Int) + (mkH (M.take (j + 1)) : Int)) := Lib.hid (fun z hz => by omega)
      have HT : Hid ((MHd M k j).set j ⟨z0, z0 + 1, z0 + 1 + 1, (marks (q + 3) t.l.length), (marks (q + 3 + t.l.length) t.k.length), (z0 + 1 + 1 + 1 + (t.l.length : Int) + (t.k.length : Int)), (z0 + 1 + 1 + 1 + (t.l.length : Int) + (t.k.length : Int) + 1), (marks (q + 5 + t.l.length + t.k.length) t.ql.length), (marks (q + 5 + t.l.length + t.k.length + t.ql.length) t.qk.length), (marksS (q + 5 + t.l.length + t.k.length + t.ql.length + t.qk.length) t.L)⟩ = MHd M k (j + 1)) := Lib.hid (by
        rw [← MHd_set M k j t ht, ← hq]
        unfold markHT
        congr 2 <;> omega)
      clear hz0 hzq hq hnext hle hm hmt hmte ht
      obtain ⟨es, hes⟩ : ∃ es, es = eltsHT (MHd M k j) ps := ⟨_, rfl⟩
      obtain ⟨e, hee⟩ : ∃ e, e = eltHT t p := ⟨_, rfl⟩
      have he : es[j]? = some e := by rw [hes, hee]; exact eltsH_getT htm hp
      have hten : Hid (∀ e ∈ es, e.1.length = 10) := Lib.hid (by rw [hes]; exact eltsH_tenT)
      have hel : Hid (es.length = M.length) := Lib.hid (by rw [hes, eltsH_lenT HOK.out.1, hml])
      have HES := Lib.hid hes
      have HEE := Lib.hid hee
      obtain ⟨X, Y, hXY, K0⟩ := InvF.openY (gs := rowsHT t p) (show InvF W wr (segY 78 10 (.slice (some ⟨b, 0, none⟩) M.length c) es :: ss) by rw [hes]; exact H.out) he (by rw [hee]; rfl)
      have HXY := Lib.hid hXY
      have hE0 : es.set j ([.int .i64 t.x, .int .i64 t.y, .int .i64 t.z, p.a, p.b, .int .i64 t.qx, .int .i64 t.qy, p.qa, p.qb, p.qs], e.2) = es := by
        have h5 : ([.int .i64 t.x, .int .i64 t.y, .int .i64 t.z, p.a, p.b, .int .i64 t.qx, .int .i64 t.qy, p.qa, p.qb, p.qs], e.2) = e := by rw [hee]; rfl
        rw [h5]
        apply List.ext_getElem?
        intro i
        rw [List.getElem?_set]
        by_cases hi : j = i
        · subst hi
          rw [if_pos rfl, if_pos (List.getElem?_eq_some_iff.1 he).1, he]
        · rw [if_neg hi]
      have K1 : Hid (InvF W wr ([(78, scN 10 (.slice (some ⟨b, 0, none⟩) M.length c), cellsE (es.set j ([.int .i64 t.x, .int .i64 t.y, .int .i64 t.z, p.a, p.b, .int .i64 t.qx, .int .i64 t.qy, p.qa, p.qb, p.qs], e.2)))] :: segB 5 p.a t.l :: segB 5 p.b t.k :: segB 5 p.qa t.ql :: segB 5 p.qb t.qk :: (p.row :: rowsS 5 p.vs t.L) :: (X ++ Y) :: ss)) := Lib.hid (by rw [hE0]; exact K0)
      have hij : Hid (j < es.length) := Lib.hid (List.getElem?_eq_some_iff.1 he).1
      have HPJ := Lib.hid hp
      have HMJ : Hid (j < (MHd M k j).length) := Lib.hid (by rw [hml]; exact hlt)
      clear hE0 K0 hXY htm hp hml hes hee he H
      have hv : Hid (∀ cs : List Value, Value.slice (some ⟨b, 0, none⟩) M.length c = .slice (some ⟨b, 0, none⟩) (es.set j (cs, e.2)).length c) := Lib.hid (fun cs => by rw [List.length_set, hel.out])
      have hL : Hid (∀ cs : List Value, cs.length = 10 → ∀ x ∈ es.set j (cs, e.2), x.1.length = 10) := Lib.hid (fun cs h => set_lens hten.out h)
      have hG : Hid (∀ cs : List Value, (es.set j (cs, e.2))[j]? = some (cs, e.2)) := Lib.hid (fun cs => by rw [List.getElem?_set, if_pos rfl, if_pos hij.out])
      have hcc := fun n (hn : n < 10) => K1.out.cellY (hL.out _ rfl) (.head _) (hv.out [.int .i64 t.x, .int .i64 t.y, .int .i64 t.z, p.a, p.b, .int .i64 t.qx, .int .i64 t.qy, p.qa, p.qb, p.qs]) (hG.out _) hn
      have g0 := hcc 0 (by decide)
      have g1 := hcc 1 (by decide)
      have g2 := hcc 2 (by decide)
      have g3 := hcc 3 (by decide)
      clear hcc
      have f0 := K1.out.frY (hL.out _ rfl) (.head _) (hv.out [.int .i64 t.x, .int .i64 t.y, .int .i64 t.z, p.a, p.b, .int .i64 t.qx, .int .i64 t.qy, p.qa, p.qb, p.qs]) (j * 10 + 0)
      have f1 := K1.out.frY (hL.out _ rfl) (.head _) (hv.out [.int .i64 t.x, .int .i64 t.y, .int .i64 t.z, p.a, p.b, .int .i64 t.qx, .int .i64 t.qy, p.qa, p.qb, p.qs]) (j * 10 + 1)
      have f2 := K1.out.frY (hL.out _ rfl) (.head _) (hv.out [.int .i64 t.x, .int .i64 t.y, .int .i64 t.z, p.a, p.b, .int .i64 t.qx, .int .i64 t.qy, p.qa, p.qb, p.qs]) (j * 10 + 2)
      simp only [Nat.add_zero] at g0 f0
      obtain ⟨A1, e1, hpa, _⟩ := K1.out.slB 5 (.tail _ (.head _))
      obtain ⟨A2, e2, hpb, _⟩ := K1.out.slB 5 (.tail _ (.tail _ (.head _)))
      obtain ⟨A3, e3, hpqa, _⟩ := K1.out.slB 5 (.tail _ (.tail _ (.tail _ (.head _))))
      obtain ⟨A4, e4, hpqb, _⟩ := K1.out.slB 5 (.tail _ (.tail _ (.tail _ (.tail _ (.head _)))))
      obtain ⟨A5, e5, hpqs, _⟩ := K1.out.slT hvs.out.1 hvs.out.2 (.tail _ (.tail _ (.tail _ (.tail _ (.tail _ (.head _))))))
      obtain ⟨pa, pb, pqa, pqb, pqs, prow, pvs⟩ := p
      dsimp only at *
      subst hpa hpb hpqa hpqb hpqs
      go_wp2_with fail
      have K2a := InvF.storeY (i := j) (j := 0) (hL.out [.int .i64 t.x, .int .i64 t.y, .int .i64 t.z, (.slice A1 t.l.length e1), (.slice A2 t.k.length e2), .int .i64 t.qx, .int .i64 t.qy, (.slice A3 t.ql.length e3), (.slice A4 t.qk.length e4), (.slice A5 t.L.length e5)] rfl) K1.out (hv.out _) (hG.out _) (by decide) (.int .i64 z0)
      rw [List.set_set] at K2a
      have K2b := InvF.storeY (i := j) (j := 1) (hL.out _ rfl) K2a (hv.out _) (hG.out _) (by decide) (.int .i64 (z0 + 1))
      rw [List.set_set] at K2b
      have K2c := InvF.storeY (i := j) (j := 2) (hL.out _ rfl) K2b (hv.out _) (hG.out _) (by decide) (.int .i64 (z0 + 1 + 1))
      rw [List.set_set] at K2c
      have K2 : Hid (InvF W (((wr.setCell ⟨b, j * 10, none⟩ (.int .i64 z0)).setCell ⟨b, j * 10 + 1, none⟩ (.int .i64 (z0 + 1))).setCell ⟨b, j * 10 + 2, none⟩ (.int .i64 (z0 + 1 + 1))) (segB 5 (.slice A1 t.l.length e1) t.l :: [(78, scN 10 (.slice (some ⟨b, 0, none⟩) M.length c), cellsE (es.set j ([.int .i64 z0, .int .i64 (z0 + 1), .int .i64 (z0 + 1 + 1), (.slice A1 t.l.length e1), (.slice A2 t.k.length e2), .int .i64 t.qx, .int .i64 t.qy, (.slice A3 t.ql.length e3), (.slice A4 t.qk.length e4), (.slice A5 t.L.length e5)], e.2)))] :: segB 5 (.slice A2 t.k.length e2) t.k :: segB 5 (.slice A3 t.ql.length e3) t.ql :: segB 5 (.slice A4 t.qk.length e4) t.qk :: (prow :: rowsS 5 pvs t.L) :: (X ++ Y) :: ss)) := Lib.hid (K2c.front 1 rfl)
      clear K1 K2a K2b K2c g0 g1 g2 g3 f0 f1 f2
      refine (markByteS_z _ t.l (q + 3) _ _ _ (K2.out.ownB 5 (.head _)) (by have := HZ.out; omega) (by omega) (by omega)).mono ?_
      rintro ev w3 ⟨rfl, ho3, hg3⟩
      have K3 : InvF W w3 (segB 5 (.slice A1 t.l.length e1) (marks (q + 3) t.l.length) :: [(78, scN 10 (.slice (some ⟨b, 0, none⟩) M.length c), cellsE (es.set j ([.int .i64 z0, .int .i64 (z0 + 1), .int .i64 (z0 + 1 + 1), (.slice A1 t.l.length e1), (.slice A2 t.k.length e2), .int .i64 t.qx, .int .i64 t.qy, (.slice A3 t.ql.length e3), (.slice A4 t.qk.length e4), (.slice A5 t.L.length e5)], e.2)))] :: segB 5 (.slice A2 t.k.length e2) t.k :: segB 5 (.slice A3 t.ql.length e3) t.ql :: segB 5 (.slice A4 t.qk.length e4) t.qk :: (prow :: rowsS 5 pvs t.L) :: (X ++ Y) :: ss) := K2.out.wroteB ho3 hg3
      clear K2 ho3 hg3
      have hcc := fun n (hn : n < 10) => K3.cellY (hL.out [.int .i64 z0, .int .i64 (z0 + 1), .int .i64 (z0 + 1 + 1), (.slice A1 t.l.length e1), (.slice A2 t.k.length e2), .int .i64 t.qx, .int .i64 t.qy, (.slice A3 t.ql.length e3), (.slice A4 t.qk.length e4), (.slice A5 t.L.length e5)] rfl) (.tail _ (.head _)) (hv.out [.int .i64 z0, .int .i64 (z0 + 1), .int .i64 (z0 + 1 + 1), (.slice A1 t.l.length e1), (.slice A2 t.k.length e2), .int .i64 t.qx, .int .i64 t.qy, (.slice A3 t.ql.length e3), (.slice A4 t.qk.length e4), (.slice A5 t.L.length e5)]) (hG.out _) hn
      have g4 := hcc 4 (by decide)
      clear hcc
      have K4 : Hid (InvF W w3 (segB 5 (.slice A2 t.k.length e2) t.k :: segB 5 (.slice A1 t.l.length e1) (marks (q + 3) t.l.length) :: [(78, scN 10 (.slice (some ⟨b, 0, none⟩) M.length c), cellsE (es.set j ([.int .i64 z0, .int .i64 (z0 + 1), .int .i64 (z0 + 1 + 1), (.slice A1 t.l.length e1), (.slice A2 t.k.length e2), .int .i64 t.qx, .int .i64 t.qy, (.slice A3 t.ql.length e3), (.slice A4 t.qk.length e4), (.slice A5 t.L.length e5)], e.2)))] :: segB 5 (.slice A3 t.ql.length e3) t.ql :: segB 5 (.slice A4 t.qk.length e4) t.qk :: (prow :: rowsS 5 pvs t.L) :: (X ++ Y) :: ss)) := Lib.hid (K3.front 2 rfl)
      clear K3
      go_wp2_with fail
      clear g4
      refine (markByteS_z _ t.k (q + 3 + t.l.length) _ _ _ (K4.out.ownB 5 (.head _)) (by have := HZ.out; omega) (by omega) (by omega)).mono ?_
      rintro ev w5 ⟨rfl, ho5, hg5⟩
      have K5 : InvF W w5 (segB 5 (.slice A2 t.k.length e2) (marks (q + 3 + t.l.length) t.k.length) :: segB 5 (.slice A1 t.l.length e1) (marks (q + 3) t.l.length) :: [(78, scN 10 (.slice (some ⟨b, 0, none⟩) M.length c), cellsE (es.set j ([.int .i64 z0, .int .i64 (z0 + 1), .int .i64 (z0 + 1 + 1), (.slice A1 t.l.length e1), (.slice A2 t.k.length e2), .int .i64 t.qx, .int .i64 t.qy, (.slice A3 t.ql.length e3), (.slice A4 t.qk.length e4), (.slice A5 t.L.length e5)], e.2)))] :: segB 5 (.slice A3 t.ql.length e3) t.ql :: segB 5 (.slice A4 t.qk.length e4) t.qk :: (prow :: rowsS 5 pvs t.L) :: (X ++ Y) :: ss) := K4.out.wroteB ho5 hg5
      clear K4 ho5 hg5
      have K6 : InvF W w5 ([(78, scN 10 (.slice (some ⟨b, 0, none⟩) M.length c), cellsE (es.set j ([.int .i64 z0, .int .i64 (z0 + 1), .int .i64 (z0 + 1 + 1), (.slice A1 t.l.length e1), (.slice A2 t.k.length e2), .int .i64 t.qx, .int .i64 t.qy, (.slice A3 t.ql.length e3), (.slice A4 t.qk.length e4), (.slice A5 t.L.length e5)], e.2)))] :: segB 5 (.slice A2 t.k.length e2) (marks (q + 3 + t.l.length) t.k.length) :: segB 5 (.slice A1 t.l.length e1) (marks (q + 3) t.l.length) :: segB 5 (.slice A3 t.ql.length e3) t.ql :: segB 5 (.slice A4 t.qk.length e4) t.qk :: (prow :: rowsS 5 pvs t.L) :: (X ++ Y) :: ss) := K5.front 2 rfl
      have hcc := fun n (hn : n < 10) => K6.cellY (hL.out [.int .i64 z0, .int .i64 (z0 + 1), .int .i64 (z0 + 1 + 1), (.slice A1 t.l.length e1), (.slice A2 t.k.length e2), .int .i64 t.qx, .int .i64 t.qy, (.slice A3 t.ql.length e3), (.slice A4 t.qk.length e4), (.slice A5 t.L.length e5)] rfl) (.head _) (hv.out [.int .i64 z0, .int .i64 (z0 + 1), .int .i64 (z0 + 1 + 1), (.slice A1 t.l.length e1), (.slice A2 t.k.length e2), .int .i64 t.qx, .int .i64 t.qy, (.slice A3 t.ql.length e3), (.slice A4 t.qk.length e4), (.slice A5 t.L.length e5)]) (hG.out _) hn
      have g5 := hcc 5 (by decide)
      have g6 := hcc 6 (by decide)
      have g7 := hcc 7 (by decide)
      clear hcc
      have f5 := K6.frY (hL.out [.int .i64 z0, .int .i64 (z0 + 1), .int .i64 (z0 + 1 + 1), (.slice A1 t.l.length e1), (.slice A2 t.k.length e2), .int .i64 t.qx, .int .i64 t.qy, (.slice A3 t.ql.length e3), (.slice A4 t.qk.length e4), (.slice A5 t.L.length e5)] rfl) (.head _) (hv.out _) (j * 10 + 5)
      have f6 := K6.frY (hL.out [.int .i64 z0, .int .i64 (z0 + 1), .int .i64 (z0 + 1 + 1), (.slice A1 t.l.length e1), (.slice A2 t.k.length e2), .int .i64 t.qx, .int .i64 t.qy, (.slice A3 t.ql.length e3), (.slice A4 t.qk.length e4), (.slice A5 t.L.length e5)] rfl) (.head _) (hv.out _) (j * 10 + 6)
      have HK6 := Lib.hid K6
      clear K5 K6
      go_wp2_with fail
      clear g5 g6 g7 f5 f6
      have K7a := InvF.storeY (i := j) (j := 5) (hL.out [.int .i64 z0, .int .i64 (z0 + 1), .int .i64 (z0 + 1 + 1), (.slice A1 t.l.length e1), (.slice A2 t.k.length e2), .int .i64 t.qx, .int .i64 t.qy, (.slice A3 t.ql.length e3), (.slice A4 t.qk.length e4), (.slice A5 t.L.length e5)] rfl) HK6.out (hv.out _) (hG.out _) (by decide) (.int .i64 (z0 + 1 + 1 + 1 + (t.l.length : Int) + (t.k.length : Int)))
      rw [List.set_set] at K7a
      have K7b := InvF.storeY (i := j) (j := 6) (hL.out _ rfl) K7a (hv.out _) (hG.out _) (by decide) (.int .i64 (z0 + 1 + 1 + 1 + (t.l.length : Int) + (t.k.length : Int) + 1))
      rw [List.set_set] at K7b
      have K7 : Hid (InvF W ((w5.setCell ⟨b, j * 10 + 5, none⟩ (.int .i64 (z0 + 1 + 1 + 1 + (t.l.length : Int) + (t.k.length : Int)))).setCell ⟨b, j * 10 + 6, none⟩ (.int .i64 (z0 + 1 + 1 + 1 + (t.l.length : Int) + (t.k.length : Int) + 1))) (segB 5 (.slice A3 t.ql.length e3) t.ql :: [(78, scN 10 (.slice (some ⟨b, 0, none⟩) M.length c), cellsE (es.set j ([.int .i64 z0, .int .i64 (z0 + 1), .int .i64 (z0 + 1 + 1), (.slice A1 t.l.length e1), (.slice A2 t.k.length e2), .int .i64 (z0 + 1 + 1 + 1 + (t.l.length : Int) + (t.k.length : Int)), .int .i64 (z0 + 1 + 1 + 1 + (t.l.length : Int) + (t.k.length : Int) + 1), (.slice A3 t.ql.length e3), (.slice A4 t.qk.length e4), (.slice A5 t.L.length e5)], e.2)))] :: segB 5 (.slice A2 t.k.length e2) (marks (q + 3 + t.l.length) t.k.length) :: segB 5 (.slice A1 t.l.length e1) (marks (q + 3) t.l.length) :: segB 5 (.slice A4 t.qk.length e4) t.qk :: (prow :: rowsS 5 pvs t.L) :: (X ++ Y) :: ss)) := Lib.hid (K7b.front 3 rfl)
      clear HK6 K7a K7b
      refine (markByteS_z _ t.ql (q + 5 + t.l.length + t.k.length) _ _ _ (K7.out.ownB 5 (.head _)) (by have := HZ.out; omega) (by omega) (by omega)).mono ?_
      rintro ev w8 ⟨rfl, ho8, hg8⟩
      have K8 : InvF W w8 (segB 5 (.slice A3 t.ql.length e3) (marks (q + 5 + t.l.length + t.k.length) t.ql.length) :: [(78, scN 10 (.slice (some ⟨b, 0, none⟩) M.length c), cellsE (es.set j ([.int .i64 z0, .int .i64 (z0 + 1), .int .i64 (z0 + 1 + 1), (.slice A1 t.l.length e1), (.slice A2 t.k.length e2), .int .i64 (z0 + 1 + 1 + 1 + (t.l.length : Int) + (t.k.length : Int)), .int .i64 (z0 + 1 + 1 + 1 + (t.l.length : Int) + (t.k.length : Int) + 1), (.slice A3 t.ql.length e3), (.slice A4 t.qk.length e4), (.slice A5 t.L.length e5)], e.2)))] :: segB 5 (.slice A2 t.k.length e2) (marks (q + 3 + t.l.length) t.k.length) :: segB 5 (.slice A1 t.l.length e1) (marks (q + 3) t.l.length) :: segB 5 (.slice A4 t.qk.length e4) t.qk :: (prow :: rowsS 5 pvs t.L) :: (X ++ Y) :: ss) := K7.out.wroteB ho8 hg8
      clear K7 ho8 hg8
      have hcc := fun n (hn : n < 10) => K8.cellY (hL.out [.int .i64 z0, .int .i64 (z0 + 1), .int .i64 (z0 + 1 + 1), (.slice A1 t.l.length e1), (.slice A2 t.k.length e2), .int .i64 (z0 + 1 + 1 + 1 + (t.l.length : Int) + (t.k.length : Int)), .int .i64 (z0 + 1 + 1 + 1 + (t.l.length : Int) + (t.k.length : Int) + 1), (.slice A3 t.ql.length e3), (.slice A4 t.qk.length e4), (.slice A5 t.L.length e5)] rfl) (.tail _ (.head _)) (hv.out [.int .i64 z0, .int .i64 (z0 + 1), .int .i64 (z0 + 1 + 1), (.slice A1 t.l.length e1), (.slice A2 t.k.length e2), .int .i64 (z0 + 1 + 1 + 1 + (t.l.length : Int) + (t.k.length : Int)), .int .i64 (z0 + 1 + 1 + 1 + (t.l.length : Int) + (t.k.length : Int) + 1), (.slice A3 t.ql.length e3), (.slice A4 t.qk.length e4), (.slice A5 t.L.length e5)]) (hG.out _) hn
      have g8 := hcc 8 (by decide)
      clear hcc
      have K9 : Hid (InvF W w8 (segB 5 (.slice A4 t.qk.length e4) t.qk :: segB 5 (.slice A3 t.ql.length e3) (marks (q + 5 + t.l.length + t.k.length) t.ql.length) :: [(78, scN 10 (.slice (some ⟨b, 0, none⟩) M.length c), cellsE (es.set j ([.int .i64 z0, .int .i64 (z0 + 1), .int .i64 (z0 + 1 + 1), (.slice A1 t.l.length e1), (.slice A2 t.k.length e2), .int .i64 (z0 + 1 + 1 + 1 + (t.l.length : Int) + (t.k.length : Int)), .int .i64 (z0 + 1 + 1 + 1 + (t.l.length : Int) + (t.k.length : Int) + 1), (.slice A3 t.ql.length e3), (.slice A4 t.qk.length e4), (.slice A5 t.L.length e5)], e.2)))] :: segB 5 (.slice A2 t.k.length e2) (marks (q + 3 + t.l.length) t.k.length) :: segB 5 (.slice A1 t.l.length e1) (marks (q + 3) t.l.length) :: (prow :: rowsS 5 pvs t.L) :: (X ++ Y) :: ss)) := Lib.hid (K8.front 4 rfl)
      clear K8
      go_wp2_with fail
      clear g8
      refine (markByteS_z _ t.qk (q + 5 + t.l.length + t.k.length + t.ql.length) _ _ _ (K9.out.ownB 5 (.head _)) (by have := HZ.out; omega) (by omega) (by omega)).mono ?_
      rintro ev w10 ⟨rfl, ho10, hg10⟩
      have K10 : InvF W w10 (segB 5 (.slice A4 t.qk.length e4) (marks (q + 5 + t.l.length + t.k.length + t.ql.length) t.qk.length) :: segB 5 (.slice A3 t.ql.length e3) (marks (q + 5 + t.l.length + t.k.length) t.ql.length) :: [(78, scN 10 (.slice (some ⟨b, 0, none⟩) M.length c), cellsE (es.set j ([.int .i64 z0, .int .i64 (z0 + 1), .int .i64 (z0 + 1 + 1), (.slice A1 t.l.length e1), (.slice A2 t.k.length e2), .int .i64 (z0 + 1 + 1 + 1 + (t.l.length : Int) + (t.k.length : Int)), .int .i64 (z0 + 1 + 1 + 1 + (t.l.length : Int) + (t.k.length : Int) + 1), (.slice A3 t.ql.length e3), (.slice A4 t.qk.length e4), (.slice A5 t.L.length e5)], e.2)))] :: segB 5 (.slice A2 t.k.length e2) (marks (q + 3 + t.l.length) t.k.length) :: segB 5 (.slice A1 t.l.length e1) (marks (q + 3) t.l.length) :: (prow :: rowsS 5 pvs t.L) :: (X ++ Y) :: ss) := K9.out.wroteB ho10 hg10
      clear K9 ho10 hg10
      have hcc := fun n (hn : n < 10) => K10.cellY (hL.out [.int .i64 z0, .int .i64 (z0 + 1), .int .i64 (z0 + 1 + 1), (.slice A1 t.l.length e1), (.slice A2 t.k.length e2), .int .i64 (z0 + 1 + 1 + 1 + (t.l.length : Int) + (t.k.length : Int)), .int .i64 (z0 + 1 + 1 + 1 + (t.l.length : Int) + (t.k.length : Int) + 1), (.slice A3 t.ql.length e3), (.slice A4 t.qk.length e4), (.slice A5 t.L.length e5)] rfl) (.tail _ (.tail _ (.head _))) (hv.out [.int .i64 z0, .int .i64 (z0 + 1), .int .i64 (z0 + 1 + 1), (.slice A1 t.l.length e1), (.slice A2 t.k.length e2), .int .i64 (z0 + 1 + 1 + 1 + (t.l.length : Int) + (t.k.length : Int)), .int .i64 (z0 + 1 + 1 + 1 + (t.l.length : Int) + (t.k.length : Int) + 1), (.slice A3 t.ql.length e3), (.slice A4 t.qk.length e4), (.slice A5 t.L.length e5)]) (hG.out _) hn
      have g9 := hcc 9 (by decide)
      clear hcc
      have K11 : Hid (InvF W w10 ((prow :: rowsS 5 pvs t.L) :: segB 5 (.slice A4 t.qk.length e4) (marks (q + 5 + t.l.length + t.k.length + t.ql.length) t.qk.length) :: segB 5 (.slice A3 t.ql.length e3) (marks (q + 5 + t.l.length + t.k.length) t.ql.length) :: [(78, scN 10 (.slice (some ⟨b, 0, none⟩) M.length c), cellsE (es.set j ([.int .i64 z0, .int .i64 (z0 + 1), .int .i64 (z0 + 1 + 1), (.slice A1 t.l.length e1), (.slice A2 t.k.length e2), .int .i64 (z0 + 1 + 1 + 1 + (t.l.length : Int) + (t.k.length : Int)), .int .i64 (z0 + 1 + 1 + 1 + (t.l.length : Int) + (t.k.length : Int) + 1), (.slice A3 t.ql.length e3), (.slice A4 t.qk.length e4), (.slice A5 t.L.length e5)], e.2)))] :: segB 5 (.slice A2 t.k.length e2) (marks (q + 3 + t.l.length) t.k.length) :: segB 5 (.slice A1 t.l.length e1) (marks (q + 3) t.l.length) :: (X ++ Y) :: ss)) := Lib.hid (K10.front 5 rfl)
      clear K10
      go_wp2_with fail
      clear g9
      refine (markByteSST_z W _ _ prow pvs t.L _ (q + 5 + t.l.length + t.k.length + t.ql.length + t.qk.length) _ hvs.out.1 hvs.out.2 K11.out (by have := HZ.out; omega) (by omega) (by have := hsz.out.2.2.2.2; omega)).mono ?_
      rintro ev w12 ⟨rfl, K12⟩
      have K13 : InvF W w12 ([(78, scN 10 (.slice (some ⟨b, 0, none⟩) M.length c), cellsE (es.set j ([.int .i64 z0, .int .i64 (z0 + 1), .int .i64 (z0 + 1 + 1), (.slice A1 t.l.length e1), (.slice A2 t.k.length e2), .int .i64 (z0 + 1 + 1 + 1 + (t.l.length : Int) + (t.k.length : Int)), .int .i64 (z0 + 1 + 1 + 1 + (t.l.length : Int) + (t.k.length : Int) + 1), (.slice A3 t.ql.length e3), (.slice A4 t.qk.length e4), (.slice A5 t.L.length e5)], e.2)))] :: segB 5 (.slice A1 t.l.length e1) (marks (q + 3) t.l.length) :: segB 5 (.slice A2 t.k.length e2) (marks (q + 3 + t.l.length) t.k.length) :: segB 5 (.slice A3 t.ql.length e3) (marks (q + 5 + t.l.length + t.k.length) t.ql.length) :: segB 5 (.slice A4 t.qk.length e4) (marks (q + 5 + t.l.length + t.k.length + t.ql.length) t.qk.length) :: (prow :: rowsS 5 pvs (marksS (q + 5 + t.l.length + t.k.length + t.ql.length + t.qk.length) t.L)) :: (X ++ Y) :: ss) := ((((K12.front 1 rfl).front 2 rfl).front 4 rfl).front 5 rfl).front 5 rfl
      clear K11 K12
      obtain ⟨t', ht'⟩ : ∃ t' : Ht, t' = ⟨z0, z0 + 1, z0 + 1 + 1, (marks (q + 3) t.l.length), (marks (q + 3 + t.l.length) t.k.length), (z0 + 1 + 1 + 1 + (t.l.length : Int) + (t.k.length : Int)), (z0 + 1 + 1 + 1 + (t.l.length : Int) + (t.k.length : Int) + 1), (marks (q + 5 + t.l.length + t.k.length) t.ql.length), (marks (q + 5 + t.l.length + t.k.length + t.ql.length) t.qk.length), (marksS (q + 5 + t.l.length + t.k.length + t.ql.length + t.qk.length) t.L)⟩ := ⟨_, rfl⟩
      obtain ⟨p, hpp⟩ : ∃ p : HPT, p = ⟨.slice A1 t.l.length e1, .slice A2 t.k.length e2, .slice A3 t.ql.length e3, .slice A4 t.qk.length e4, .slice A5 t.L.length e5, prow, pvs⟩ := ⟨_, rfl⟩
      have hce : cellsE (es.set j ([.int .i64 z0, .int .i64 (z0 + 1), .int .i64 (z0 + 1 + 1), (.slice A1 t.l.length e1), (.slice A2 t.k.length e2), .int .i64 (z0 + 1 + 1 + 1 + (t.l.length : Int) + (t.k.length : Int)), .int .i64 (z0 + 1 + 1 + 1 + (t.l.length : Int) + (t.k.length : Int) + 1), (.slice A3 t.ql.length e3), (.slice A4 t.qk.length e4), (.slice A5 t.L.length e5)], e.2)) = cellsE (es.set j (eltHT t' p)) := by
        rw [ht', hpp]
        exact cellsE_fst hij.out
      rw [hce] at K13
      have K14 := InvF.closeY (es := es) (i := j) (e' := eltHT t' p) (gs := rowsHT t' p) HXY.out rfl (by rw [ht', hpp]; rw [ht', hpp] at K13; exact K13)
      have HES2 : Hid (es.set j (eltHT t' p) = eltsHT (MHd M k (j + 1)) ps ∧ OkHT (MHd M k (j + 1)) ps) := Lib.hid (by
        have hps : ps.set j p = ps := by
          apply List.ext_getElem?
          intro i
          rw [List.getElem?_set]
          by_cases hi : j = i
          · subst hi
            rw [if_pos rfl, if_pos (List.getElem?_eq_some_iff.1 HPJ.out).1, HPJ.out, hpp]
          · rw [if_neg hi]
        have hmm : (MHd M k j).set j t' = MHd M k (j + 1) := by rw [ht', HT.out]
        refine ⟨by rw [HES.out, eltsH_setT HMJ.out HOK.out.1, hmm, hps], ?_⟩
        have h9 := HOK.out.set (t := t') (p := p) HMJ.out (by rw [ht', hpp]; simp only [marksS_length]; exact hvs.out)
        rw [hmm, hps] at h9
        exact h9)
      rw [HES2.out.1] at K14
      have HK14 := Lib.hid K14
      clear K13 K14 hce ht' hpp HES HEE
      go_wp2
      go_roundw
      case rel => exact ⟨j + 1, by omega, by go_num, by refine congrArg _ (HN.out _ ?_); omega, Lib.hid HES2.out.2, HK14⟩
      case measure => simp [intOf]; omega
    · obtain rfl : j = M.length := by omega
      rw [MHd_full] at H
      rw [List.take_length]
      go_wp2
      go_ret
      exact ⟨rfl, H.out⟩

set_option maxHeartbeats 4000000 in
theorem markProofT_z (qx qy : Int) (W w : World) (hs qa qb qs : Value) (ps : List HPT) (row : Row) (vs : List Value) (M : List Ht) (ql qk : List UInt8) (L : List (List UInt8)) (ss : List (List Row)) (m : Nat) (mz : Int) (hp : OkHT M ps) (hv : vs.length = L.length) (hr : Reads0 qs row vs) (K : InvF W w (segHT hs ps M :: segB 5 qa ql :: segB 5 qb qk :: (row :: rowsS 5 vs L) :: ss)) (hz : mz = (m : Int)) (hm : m ≤ 134217728) (hM : mkH M ≤ 8388608) (hql : ql.length ≤ 4194304) (hqk : qk.length ≤ 4194304) (hN : sumL L ≤ 4194304) :
    Calls Tryd.prog 12 #[.agg #[hs, .int .i64 qx, .int .i64 qy, qa, qb, qs], .int .i64 mz] w (fun e w' => e = .returned (.int .i64 (mz + (mkH M : Int) + (ql.length : Int) + (qk.length : Int) + (sumL L : Int))) ∧
      InvF W w' (segHT hs ps (marksH m M) :: segB 5 qa (marks (m + mkH M) ql.length) :: segB 5 qb (marks (m + mkH M + ql.length) qk.length) :: (row :: rowsS 5 vs (marksS (m + mkH M + ql.length + qk.length) L)) :: ss)) := by
  obtain ⟨A, c, rfl⟩ := K.openHT hp (.head _)
  obtain ⟨C, cc, rfl⟩ := K.openB' (.tail _ (.head _))
  obtain ⟨D, dc, rfl⟩ := K.openB' (.tail _ (.tail _ (.head _)))
  obtain ⟨E, ec, rfl⟩ := K.openT hv hr
  have HPT := Lib.hid hp
  have HV := Lib.hid hv
  have HR := Lib.hid hr
  clear hr
  have K1 := K.newG 30 #[.slice A M.length c, .int .i64 qx, .int .i64 qy, .slice C ql.length cc, .slice D qk.length dc, .slice E L.length ec] w.heap.size
  replace K1 := Lib.hid (K1.front 1 rfl)
  have HZ := Lib.hid hz
  have HM := Lib.hid hM
  have HQ := Lib.hid (And.intro hql (And.intro hqk hN))
  have hz2 : Hid (mz + (mkH M : Int) = ((m + mkH M : Nat) : Int)) := Lib.hid (by omega)
  have hb0 : 0 ≤ mz := by omega
  have hb1 : mz ≤ 134217728 := by omega
  clear K hz hp hv hM hql hqk hN
  go_enter Tryd.func12, Tryd.ntmps12
  go_wp2_with fail
  refine (markHeadST_z W _ _ ps M _ m _ HPT.out K1.out HZ.out (by omega) HM.out).mono ?_
  rintro e w4 ⟨rfl, K4⟩
  obtain ⟨o0, o1, o2, o3, o4, o5⟩ := K4.c6 (.tail _ (.head _))
  have K5 := Lib.hid (((K4.front 2 rfl).front 3 rfl).front 4 rfl)
  go_wp2_with fail
  have K6 : InvF W w4 (segB 5 (.slice C ql.length cc) ql :: segB 5 (.slice D qk.length dc) qk :: (row :: rowsS 5 vs L) :: segHT (.slice A M.length c) ps (marksH m M) :: ss) := by
    have h := K4
    refine (h.perm (qs := segX 30 w.heap.size [.slice A M.length c, .int .i64 qx, .int .i64 qy, .slice C ql.length cc, .slice D qk.length dc, .slice E L.length ec] :: segB 5 (.slice C ql.length cc) ql :: segB 5 (.slice D qk.length dc) qk :: (row :: rowsS 5 vs L) :: segHT (.slice A M.length c) ps (marksH m M) :: ss) ?_).sub (.cons _ (List.Sublist.refl _))
    exact (List.perm_append_comm (l₁ := [segHT (.slice A M.length c) ps (marksH m M)]) (l₂ := [segX 30 w.heap.size [.slice A M.length c, .int .i64 qx, .int .i64 qy, .slice C ql.length cc, .slice D qk.length dc, .slice E L.length ec], segB 5 (.slice C ql.length cc) ql, segB 5 (.slice D qk.length dc) qk, (row :: rowsS 5 vs L)])).append_right ss
  refine (markQcT_z qx qy W _ _ _ _ row vs ql qk L _ (m + mkH M) _ HV.out HR.out K6 hz2.out (by have := HM.out; omega) HQ.out.1 HQ.out.2.1 HQ.out.2.2).mono ?_
  rintro e w5 ⟨rfl, K7⟩
  have K8 := Lib.hid (K7.front 3 rfl)
  clear K7 K6 K5 K4 o0 o1 o2 o3 o4 o5
  go_wp2
  go_ret
  exact ⟨rfl, K8.out⟩

end Go.Proofs.YtopbalemfljphaaDoor
