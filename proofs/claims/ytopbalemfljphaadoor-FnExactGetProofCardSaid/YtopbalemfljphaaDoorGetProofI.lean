import Derived.Test.YtopbalemfljphaaDoorHdT
import Derived.Test.YtopbalemfljphaaDoorHdSC
import Derived.Test.YtopbalemfljphaaDoorDecI
import Derived.Test.YtopbalemfljphaaDoorPfDecMath
import Derived.Test.YtopbalemfljphaaDoorGetHeadI
import Derived.Test.YtopbalemfljphaaDoorFitsP
import Derived.Test.YtopbalemfljphaaDoorAs
import Derived.Deep.RegionHeld3
/- What partList.get has made after some headers. -/
namespace Go.Proofs.YtopbalemfljphaaDoor
open Go.RowKit Go.ChangeShapes Go.WideShapes Go.ChangeAt

/-- What get has made after some headers. -/
def esHT (M : List Ht) (ps : List HPT) (n : Nat) : List Elt := eltsHT M ps ++ List.replicate (n - M.length) (zeroHc, [])
theorem esH_lenT {M : List Ht} {ps : List HPT} {n : Nat} (hl : ps.length = M.length) (h : M.length ≤ n) : (esHT M ps n).length = n := by
  unfold esHT
  rw [List.length_append, eltsH_lenT hl, List.length_replicate]
  omega
theorem esH_tenT {M : List Ht} {ps : List HPT} {n : Nat} : ∀ e ∈ esHT M ps n, e.1.length = 10 := fun e he => by
  rcases List.mem_append.1 he with h | h
  · exact eltsH_tenT e h
  · rw [List.eq_of_mem_replicate h]
    rfl
theorem esH_atT {M : List Ht} {ps : List HPT} {n : Nat} (hl : ps.length = M.length) (h : M.length < n) : (esHT M ps n)[M.length]? = some (zeroHc, []) := by
  unfold esHT
  rw [List.getElem?_append_right (by rw [eltsH_lenT hl]; exact Nat.le_refl _), eltsH_lenT hl, Nat.sub_self]
  exact List.getElem?_replicate_of_lt (by omega)
theorem esH_setT {M : List Ht} {ps : List HPT} {n : Nat} (hl : ps.length = M.length) (h : M.length < n) (t : Ht) (p : HPT) : (esHT M ps n).set M.length (eltHT t p) = esHT (M ++ [t]) (ps ++ [p]) n := by
  unfold esHT
  rw [List.set_append_right _ _ (by rw [eltsH_lenT hl]; exact Nat.le_refl _), eltsH_lenT hl, Nat.sub_self, eltsH_snocT hl, List.length_append, List.length_singleton, show n - M.length = (n - (M.length + 1)) + 1 by omega, List.replicate_succ, List.set_cons_zero, List.append_assoc]
  rfl
theorem esH_fullT {M : List Ht} {ps : List HPT} : esHT M ps M.length = eltsHT M ps := by simp [esHT]
end Go.Proofs.YtopbalemfljphaaDoor
/- require of the program's decoder, its decoder cell by cell. -/
namespace Go.Proofs.YtopbalemfljphaaDoor
open Go.ChangeShapes Go.WideShapes Go.ChangeAt Go.RowKit

set_option maxHeartbeats 2000000 in
/-- require, its decoder cell by cell. -/
theorem requireO_any (T : TypeId) (W w : World) (g : Nat) (i0 i1 i2 i3 i4 q e c : Int) (B : Value) (ok : Bool) (hc : c ≠ 0) (ss : List (List Row)) (K0 : InvF W w (segX T g [.int .i64 i0, .int .i64 i1, .int .i64 i2, .int .i64 i3, .int .i64 i4, B, .int .i64 q, errV e] :: ss)) :
    Calls Tryd.prog 47 #[.pointer (some ⟨g, 0, none⟩), .bool ok, .int .i64 c] w (fun ev w' => ev = .returned (.tuple #[]) ∧ InvF W w' (segX T g [.int .i64 i0, .int .i64 i1, .int .i64 i2, .int .i64 i3, .int .i64 i4, B, .int .i64 q, errV (fE e ok c)] :: ss)) := by
  have HK := Lib.hid K0
  have HN := Lib.hid (errV_no hc)
  by_cases he : e = 0
  · subst he
    rw [fE_yes]
    have r7 := K0.frX (.head _) 7
    rw [errV_zero] at K0
    have q7 := K0.atX (.head _) 7 rfl
    clear K0 hc
    rcases ok with _ | _
    · go_enter Tryd.func47, Tryd.ntmps47
      go_wp2
      go_end0
      exact ⟨rfl, by rw [HN.out]; exact HK.out.setX 7 (.iface 83 (.agg #[.int .i64 c]))⟩
    · go_enter Tryd.func47, Tryd.ntmps47
      go_wp2
      go_end0
      exact ⟨rfl, HK.out⟩
  · rw [fE_no he]
    rw [errV_no he] at K0
    have q7 := K0.atX (.head _) 7 rfl
    clear K0 he hc
    go_enter Tryd.func47, Tryd.ntmps47
    go_wp2
    go_end0
    exact ⟨rfl, HK.out⟩
end Go.Proofs.YtopbalemfljphaaDoor
/- GetProof of the program. -/
namespace Go.Proofs.YtopbalemfljphaaDoor
open Go.ChangeShapes Go.WideShapes Go.ChangeAt Go.RowKit
set_option linter.unusedSimpArgs false

theorem fE_like {e c : Int} {a b : Bool} (h : e = 0 → a = b) : fE e a c = fE e b c := by
  by_cases he : e = 0
  · rw [h he]
  · rw [fE_no he, fE_no he]
set_option maxRecDepth 100000 in
set_option maxHeartbeats 4000000 in
theorem count_any (b c0 d f : Int) (T : TypeId) (W w : World) (g : Nat) (v : Value) (l : List UInt8) (n p e : Int) (ss : List (List Row)) (H : Dec (b, c0, d, f) T W w g v n p e ss) (hv : Sp W W.heap.size v l) (hl : l.length ≤ 4294967296) :
    Calls Tryd.prog 43 #[.pointer (some ⟨g, 0, none⟩)] w (fun ev w' => ev = .returned (.int .i64 (pfN (nV l p e) (pfE l f p e) : Int)) ∧ Dec (b, c0, d, f) T W w' g v n (nP l p e) (pfE l f p e) ss) := by
  have HC := Lib.hid (number_any (b, c0, d, f) T W w g v l n p e ss H hv hl)
  obtain ⟨c, hc⟩ : ∃ z, z = nV l p e := ⟨_, rfl⟩
  obtain ⟨p2, hp2⟩ : ∃ z, z = nP l p e := ⟨_, rfl⟩
  obtain ⟨e2, he2⟩ : ∃ z, z = nE l p e := ⟨_, rfl⟩
  have hpe : pfE l f p e = fE (fE e2 (decide (3 ≤ c)) 5) (decide (c ≤ f)) 3 := by unfold pfE; rw [← hc, ← he2]
  rw [hpe]
  obtain ⟨g1, hg1⟩ : ∃ z, z = fE e2 (decide (3 ≤ c)) 5 := ⟨_, rfl⟩
  rw [← hg1]
  obtain ⟨e3, he3⟩ : ∃ z, z = fE g1 (decide (c ≤ f)) 3 := ⟨_, rfl⟩
  rw [← hc, ← hp2, ← he2] at HC
  rw [← hc, ← hp2, ← he3]
  have hc0 : 0 ≤ c := by rw [hc]; exact nV_lo _ _ _
  have hpn : (pfN c e3 : Int) = if e3 = 0 then c else 0 := by
    unfold pfN
    split
    · omega
    · rfl
  have HPN := Lib.hid hpn
  have S2 := Lib.hid hg1
  have S3 := Lib.hid he3
  clear hc hp2 he2 hg1 he3 H hv hl hpe hpn
  go_enter Tryd.func43, Tryd.ntmps43
  go_wp2_with fail
  refine HC.out.mono ?_
  rintro ev w1 ⟨rfl, D1⟩
  have hcall := requireC_any (b, c0, d, f) T W w1 g v n p2 e2 (decide (3 ≤ c)) 5 (by decide) ss D1
  rw [← S2.out] at hcall
  have HC1 := Lib.hid hcall
  clear hcall D1 HC
  go_wp2_with fail
  refine HC1.out.mono ?_
  rintro ev w2 ⟨rfl, D2⟩
  obtain ⟨i0, i1, i2, i3, i4, bb, qq, K0, hqq⟩ := D2
  have hE2 : fE g1 (decide (c ≤ i4)) 3 = e3 := by
    rw [S3.out]
    refine fE_like (fun h => ?_)
    have := (hqq h).2.2.2
    simp only [Prod.mk.injEq] at this
    rw [this.2.2.2]
  have HE2 := Lib.hid hE2
  have HQQ : Hid (e3 = 0 → bb = v ∧ qq = p2 ∧ i0 = n ∧ (b, c0, d, f) = (i1, i2, i3, i4)) := Lib.hid (fun h => hqq (in_fE (by decide) (S3.out.symm.trans h)).1)
  clear hE2 hqq HC1
  have q4 := K0.atX (.head _) 4 rfl
  have HD := Lib.hid K0.drew1
  have HK := Lib.hid (HD.out.atX (.head _) 4 rfl)
  clear K0
  go_wp2_with fail
  clear q4
  go_region_held3 (fun w' => w'.cell? ⟨g, 4, none⟩ = some (.int .i64 i4))
    (first
      | exact HK.out
      | exact HK7.out)
    (first
      | (go_at_call 47; refine (requireO_any T W _ g i0 i1 i2 i3 i4 qq g1 3 bb (decide (c ≤ i4)) (by decide) ss HD.out).mono ?_; rintro ev w3 ⟨rfl, K1⟩; have HE1 := Lib.hid K1; have HK7 := Lib.hid (K1.atX (.head _) 4 rfl); clear K1))
  have K2 := HE1.out
  rw [HE2.out] at K2
  have D2 : Dec (b, c0, d, f) T W w3 g v n p2 e3 ss := ⟨i0, i1, i2, i3, i4, bb, qq, K2, HQQ.out⟩
  have DH := Lib.hid D2
  have q7 := K2.atX (.head _) 7 rfl
  clear D2 HE1 HD HK HK7 K2 HE2 HQQ S2 S3
  by_cases he : e3 = 0
  · subst he
    rw [errV_zero] at q7
    rw [if_pos rfl] at HPN
    go_wp2
    go_ret
    exact ⟨by rw [HPN.out]; rfl, DH.out⟩
  · rw [errV_no he] at q7
    have HP0 : Hid ((pfN c e3 : Int) = 0) := Lib.hid (by rw [HPN.out, if_neg he])
    clear he HPN
    go_wp2
    go_ret
    exact ⟨by rw [HP0.out]; rfl, DH.out⟩

theorem hdAt_ht (r : HdAt) : htOf r = ⟨r.x, r.y, r.z, r.m, r.k, r.q.x, r.q.y, r.q.m, r.q.k, r.q.L⟩ := rfl
set_option maxRecDepth 100000 in
set_option maxHeartbeats 8000000 in
theorem getHeads_any (I : Int × Int × Int × Int) (T : TypeId) (W w : World) (g g2 : Nat) (v : Value) (l : List UInt8) (n p e : Int) (N : Nat) (ss : List (List Row)) (H : Dec I T W w g v n p e (segY 78 10 (.slice (some ⟨g2, 0, none⟩) N N) (esHT [] [] N) :: ss)) (hv : Sp W W.heap.size v l) (hl : l.length ≤ 1073741824) (hp : p ≤ 9223372036854775807) (hN : N ≤ 1048576) :
    Calls Tryd.prog 44 #[.slice (some ⟨g2, 0, none⟩) N N, .func (Fn.func 45) #[.pointer (some ⟨g, 0, none⟩)] #[]] w (fun ev w' => ev = .returned (.tuple #[]) ∧ ∃ ps, OkHT (hdsAt l n p e N).1 ps ∧ Dec I T W w' g v n (hdsAt l n p e N).2.1 (hdsAt l n p e N).2.2 (segHT (.slice (some ⟨g2, 0, none⟩) N N) ps (hdsAt l n p e N).1 :: ss)) := by
  have HV := Lib.hid hv
  have HL := Lib.hid hl
  have HP := Lib.hid (fun j => hdsAt_hi (l := l) hp (by omega) n e j)
  have H1 : Hid (Dec I T W w g v n (hdsAt l n p e 0).2.1 (hdsAt l n p e 0).2.2 (segY 78 10 (.slice (some ⟨g2, 0, none⟩) N N) (esHT (hdsAt l n p e 0).1 [] N) :: ss)) := Lib.hid H
  clear H hv hp hl
  go_enter Tryd.func44, Tryd.ntmps44
  go_wp2
  go_loopw [4, 7] (fun _ i wr => ∃ (j : Nat) (ps : List HPT), j ≤ N ∧ i = .int .i64 (j : Int) ∧ Hid (OkHT (hdsAt l n p e j).1 ps) ∧ Hid (Dec I T W wr g v n (hdsAt l n p e j).2.1 (hdsAt l n p e j).2.2 (segY 78 10 (.slice (some ⟨g2, 0, none⟩) N N) (esHT (hdsAt l n p e j).1 ps N) :: ss)))
    (fun _ i _ => N - (intOf i).toNat)
  case atStart => exact ⟨0, [], Nat.zero_le _, rfl, Lib.hid OkHT.nil_, H1⟩
  case round =>
    clear H1
    obtain ⟨j, ps, hj, rfl, HP0, Hj⟩ := hrel
    have HLEN := Lib.hid (hdsAt_len l n p e j)
    have HPJ := Lib.hid (HP.out j)
    by_cases hlt : j < N
    · have HSTEP : Hid (hdsAt l n p e (j + 1) = ((hdsAt l n p e j).1 ++ [htOf (hdAt l n (hdsAt l n p e j).2.1 (hdsAt l n p e j).2.2)], (hdAt l n (hdsAt l n p e j).2.1 (hdsAt l n p e j).2.2).q.p, (hdAt l n (hdsAt l n p e j).2.1 (hdsAt l n p e j).2.2).e)) := Lib.hid rfl
      generalize hdsAt l n p e j = sj at *
      obtain ⟨M, pj, ej⟩ := sj
      dsimp only at HP0 Hj HLEN HPJ HSTEP
      have hcall := head_any I T W wr g v l n pj ej _ Hj.out HV.out HL.out HPJ.out
      obtain ⟨h, hh⟩ : ∃ h, h = hdAt l n pj ej := ⟨_, rfl⟩
      rw [← hh] at hcall HSTEP
      clear hh
      obtain ⟨hx, hy, hz, hm, hk, ⟨qx, qy, qm, qk, qL, qp, qe⟩, he⟩ := h
      have HC := Lib.hid hcall
      have HNX : Hid (hdsAt l n p e (j + 1) = (M ++ [(⟨hx, hy, hz, hm, hk, qx, qy, qm, qk, qL⟩ : Ht)], qp, he)) := Lib.hid HSTEP.out
      have hjl : (j : Int) < (N : Int) := by omega
      clear hcall HSTEP
      go_wp2_with fail
      refine HC.out.mono ?_
      rintro ev w2 ⟨u1, u2, u3, u4, u5, row, vs, rfl, hvs, hrd, D2⟩
      dsimp only at hvs D2 ⊢
      obtain ⟨A1, c1, rfl⟩ := D2.rest.openB' (.tail _ (.tail _ (.tail _ (.tail _ (.head _)))))
      obtain ⟨A2, c2, rfl⟩ := D2.rest.openB' (.tail _ (.tail _ (.tail _ (.head _))))
      obtain ⟨A3, c3, rfl⟩ := D2.rest.openB' (.tail _ (.tail _ (.head _)))
      obtain ⟨A4, c4, rfl⟩ := D2.rest.openB' (.tail _ (.head _))
      obtain ⟨A5, c5, rfl⟩ := D2.rest.openT hvs hrd
      obtain ⟨t, htt⟩ : ∃ t : Ht, t = ⟨hx, hy, hz, hm, hk, qx, qy, qm, qk, qL⟩ := ⟨_, rfl⟩
      obtain ⟨q, hq⟩ : ∃ q : HPT, q = ⟨.slice A1 hm.length c1, .slice A2 hk.length c2, .slice A3 qm.length c3, .slice A4 qk.length c4, .slice A5 qL.length c5, row, vs⟩ := ⟨_, rfl⟩
      have hlen : (esHT M ps N).length = N := esH_lenT HP0.out.1 (by rw [HLEN.out]; omega)
      have hat0 : (esHT M ps N)[j]? = some (zeroHc, []) := by
        have := esH_atT (M := M) (ps := ps) (n := N) HP0.out.1 (by rw [HLEN.out]; exact hlt)
        rw [HLEN.out] at this
        exact this
      have hv : Value.slice (some ⟨g2, 0, none⟩) N N = .slice (some ⟨g2, 0, none⟩) (esHT M ps N).length N := by rw [hlen]
      have hset : (esHT M ps N).set j (eltHT t q) = esHT (M ++ [t]) (ps ++ [q]) N := by
        have := esH_setT (M := M) (ps := ps) (n := N) HP0.out.1 (by rw [HLEN.out]; exact hlt) t q
        rw [HLEN.out] at this
        exact this
      have hcs : ([.int .i64 hx, .int .i64 hy, .int .i64 hz, .slice A1 hm.length c1, .slice A2 hk.length c2, .int .i64 qx, .int .i64 qy, .slice A3 qm.length c3, .slice A4 qk.length c4, .slice A5 qL.length c5], (rowsHT t q).flatten) = eltHT t q := by rw [htt, hq]; rfl
      have HTH : Hid (w2.there g2 (j * 10) 10) := Lib.hid (fun k hk => by
        refine ⟨?_, D2.rest.frY esH_tenT (.tail _ (.tail _ (.tail _ (.tail _ (.tail _ (.head _)))))) hv (j * 10 + k)⟩
        rw [D2.rest.cellY esH_tenT (.tail _ (.tail _ (.tail _ (.tail _ (.tail _ (.head _)))))) hv hat0 hk, List.getElem?_eq_getElem (show k < zeroHc.length from hk)]
        rfl)
      have D3 : Hid (Dec I T W (w2.setCells g2 (j * 10) [.int .i64 hx, .int .i64 hy, .int .i64 hz, .slice A1 hm.length c1, .slice A2 hk.length c2, .int .i64 qx, .int .i64 qy, .slice A3 qm.length c3, .slice A4 qk.length c4, .slice A5 qL.length c5]) g v n qp he (segY 78 10 (.slice (some ⟨g2, 0, none⟩) N N) (esHT (M ++ [t]) (ps ++ [q]) N) :: ss)) := Lib.hid (D2.beside (fun dd K => by
        have K3 : InvF W w2 (segY 78 10 (.slice (some ⟨g2, 0, none⟩) N N) (esHT M ps N) :: (rowsHT t q ++ (dd :: ss))) := by
          rw [htt, hq]
          exact K.perm ((List.reverse_perm [_, _, _, _, _, _, _]).symm.append_right ss)
        have hput := InvF.tenY esH_tenT K3 hv hat0 (.int .i64 hx) (.int .i64 hy) (.int .i64 hz) (.slice A1 hm.length c1) (.slice A2 hk.length c2) (.int .i64 qx) (.int .i64 qy) (.slice A3 qm.length c3) (.slice A4 qk.length c4) (.slice A5 qL.length c5)
        have hput2 := InvF.putY (es := esHT M ps N) (gs := rowsHT t q) (ss := dd :: ss) hat0 hput
        rw [hcs, hset] at hput2
        exact hput2.front 1 rfl))
      have HP2 : Hid (OkHT (M ++ [t]) (ps ++ [q])) := Lib.hid (HP0.out.snoc (by rw [htt, hq]; exact ⟨hvs, hrd⟩))
      rw [← htt] at HNX
      clear hset hcs hat0 hlen hv D2 HC hvs hrd hq htt
      go_simp
      go_step
      go_step
      go_step
      go_step
      refine wpList_store_mid rfl 78 (.tmp 14) (.tmp 13) rfl g2 (j * 10) #[.int .i64 hx, .int .i64 hy, .int .i64 hz, .slice A1 hm.length c1, .slice A2 hk.length c2, .int .i64 qx, .int .i64 qy, .slice A3 qm.length c3, .slice A4 qk.length c4, .slice A5 qL.length c5] rfl rfl HTH.out (by kernel_rfl) (by simp [Value.oneCell']) ?_
      go_wp2_with fail
      go_roundw
      case rel => exact ⟨j + 1, _, by omega, by go_num, by rw [HNX.out]; exact HP2, by rw [HNX.out]; exact D3⟩
      case measure => simp [intOf]; omega
    · obtain rfl : j = N := by omega
      have h5 := Hj.out
      have h6 : esHT (hdsAt l n p e j).1 ps j = eltsHT (hdsAt l n p e j).1 ps := by
        have := esH_fullT (M := (hdsAt l n p e j).1) (ps := ps)
        rw [HLEN.out] at this
        exact this
      rw [h6] at h5
      have HF := Lib.hid h5
      clear h5 h6
      go_wp2
      go_end0
      exact ⟨rfl, ps, HP0.out, HF.out⟩

/-- A commit proof has been decoded: its rows and the decoder behind it. -/
def DecPfI (I : Int × Int × Int × Int) (T : TypeId) (W : World) (g : Nat) (v : Value) (n : Int) (r : PfAt) (ss : List (List Row)) (ev : Ending) (w' : World) : Prop :=
  ∃ hs qa qb qs row vs ps, ev = .returned (.agg #[hs, .int .i64 r.q.x, .int .i64 r.q.y, qa, qb, qs]) ∧ OkHT r.M ps ∧ vs.length = r.q.L.length ∧ Reads0 qs row vs ∧
    Dec I T W w' g v n r.q.p r.e ((row :: rowsS 5 vs r.q.L) :: segB 5 qb r.q.k :: segB 5 qa r.q.m :: segHT hs ps r.M :: ss)

set_option maxRecDepth 100000 in
set_option maxHeartbeats 8000000 in
theorem proof_any (b c0 d f : Int) (T : TypeId) (W w : World) (g : Nat) (v : Value) (l : List UInt8) (n p e0 : Int) (ss : List (List Row)) (H : Dec (b, c0, d, f) T W w g v n p e0 ss) (hv : Sp W W.heap.size v l) (hl : l.length ≤ 1073741824) (hp : p ≤ 9223372036854775807) (hf : e0 = 0 → f ≤ 5) :
    Calls Tryd.prog 22 #[.pointer (some ⟨g, 0, none⟩)] w (DecPfI (b, c0, d, f) T W g v n (pfAt l n f p e0) ss) := by
  have hmf : ∀ (fn : Fn) (first cap : Array Value) (w : World), (Instr.makeFunc fn first cap).run Tryd.prog w = .ok (.func fn first cap) w := fun _ _ _ _ => rfl
  obtain ⟨i9, hi, hz0, hz1, hz2⟩ := info_parts hinfo
  have HV := Lib.hid hv
  have HL := Lib.hid hl
  have hl' := Lib.hid (show l.length ≤ 4294967296 by omega)
  obtain ⟨p1, hp1⟩ : ∃ x, x = nP l p e0 := ⟨_, rfl⟩
  obtain ⟨e2, he2⟩ : ∃ x, x = pfE l f p e0 := ⟨_, rfl⟩
  obtain ⟨N, hN⟩ : ∃ N, N = pfN (nV l p e0) e2 := ⟨_, rfl⟩
  have hr : pfAt l n f p e0 = pfRest l n (hdsAt l n p1 e2 N) := by unfold pfAt; rw [← hp1, ← he2, ← hN]
  have B1 : Hid (p1 ≤ 9223372036854775807) := Lib.hid (by rw [hp1]; exact nP_hi hp (by omega) _)
  have hN5 : N ≤ 5 ∧ (e2 = 0 → 3 ≤ N) := by
    rw [hN]
    unfold pfN
    by_cases he : e2 = 0
    · rw [if_pos he]
      rw [he2] at he
      unfold pfE at he
      have h1 := in_fE (by decide) he
      have h2 := in_fE (by decide) h1.1
      have h0 := hf (in_nE h2.1)
      have h3 := of_decide_eq_true h1.2
      have h4 := of_decide_eq_true h2.2
      omega
    · rw [if_neg he]
      exact ⟨by omega, fun h => absurd h he⟩
  have HN5 := Lib.hid hN5
  have hN5' : N ≤ 5 := hN5.1
  have HCNT := Lib.hid (fun W' (h : Dec (b, c0, d, f) T W W' g v n p e0 (segX 30 w.heap.size [.slice none 0 0, .int .i64 0, .int .i64 0, .slice none 0 0, .slice none 0 0, .slice none 0 0] :: ss)) => count_any b c0 d f T W W' g v l n p e0 _ h hv (by omega))
  rw [← he2, ← hN, ← hp1] at HCNT
  obtain ⟨R, hR⟩ : ∃ R, R = pfAt l n f p e0 := ⟨_, rfl⟩
  rw [← hR]
  rw [hr] at hR
  have HR := Lib.hid hR
  have hby : i9.bytes * N ≤ 281474976710656 := by rw [hz2]; omega
  have hml : N ≤ maxLen := by unfold maxLen; omega
  clear hr hR hp1 he2 hN hN5 hv hl hp hf
  have H1 : Dec (b, c0, d, f) T W _ g v n p e0 (segX 30 w.heap.size [.slice none 0 0, .int .i64 0, .int .i64 0, .slice none 0 0, .slice none 0 0, .slice none 0 0] :: ss) := H.beside (fun d K => (K.newG 30 #[.slice none 0 0, .int .i64 0, .int .i64 0, .slice none 0 0, .slice none 0 0, .slice none 0 0] w.heap.size rfl).front 1 rfl)
  clear H
  go_enter Tryd.func22, Tryd.ntmps22
  go_wp2_with fail
  refine (HCNT.out _ H1).mono ?_
  clear H1 HCNT
  rintro ev w1 ⟨rfl, D1⟩
  have DH1 := Lib.hid D1
  clear D1
  go_wp2_with (at_make; refine wpList_make_full _ rfl _ _ _ rfl w1.heap.size 78 i9 (.agg #[.int .i64 0, .int .i64 0, .int .i64 0, .slice none 0 0, .slice none 0 0, .int .i64 0, .int .i64 0, .slice none 0 0, .slice none 0 0, .slice none 0 0]) 10 Tryd.underlying85 hi hz0 hz1 .i64 .i64 _ _ N rfl rfl rfl rfl hby hml (Nat.le_refl _) ?_; intro w2 hown2 hg2)
  have D2 : Dec (b, c0, d, f) T W w2 g v n p1 e2 (segY 78 10 (.slice (some ⟨w1.heap.size, 0, none⟩) N N) (esHT [] [] N) :: segX 30 w.heap.size [.slice none 0 0, .int .i64 0, .int .i64 0, .slice none 0 0, .slice none 0 0, .slice none 0 0] :: ss) := DH1.out.beside (fun d K => by
    have hb2 : Below w1.heap.size w1 w2 := (Below.refl _ _).grown hg2 (Nat.le_refl _) (by simp)
    have e0 : esHT [] [] N = List.replicate N (zeroHc, []) := by simp [esHT, eltsHT]
    rw [e0]
    exact (K.madeY (by rfl) (by unfold maxLen; omega) (zeroY _ 10 N (by rfl) (by decide)) hown2 hb2).front 1 rfl)
  clear DH1 hown2 hg2
  refine (getHeads_any (b, c0, d, f) T W _ g w1.heap.size v l n p1 e2 N _ D2 HV.out HL.out B1.out (by omega)).mono ?_
  clear D2
  rintro ev w3 ⟨rfl, ps, hok, D3⟩
  have hlen := hdsAt_len l n p1 e2 N
  have hhi := hdsAt_hi (l := l) B1.out hl'.out n e2 N
  have hze := fun h => hdsAt_zero (l := l) (n := n) (p := p1) (e := e2) (j := N) h
  generalize hdsAt l n p1 e2 N = sj at *
  obtain ⟨M, pj, ej⟩ := sj
  dsimp only at hok D3 hlen hhi hze
  have HOK := Lib.hid hok
  have HLEN := Lib.hid hlen
  have HZE := Lib.hid hze
  have hcall := qc_any (b, c0, d, f) T W _ g v l n pj ej _ D3 HV.out HL.out hhi
  obtain ⟨q, hq⟩ : ∃ q, q = qcAt l n pj ej := ⟨_, rfl⟩
  rw [← hq] at hcall
  have HQE : Hid (q.e = 0 → ej = 0) := Lib.hid (fun h => by
    by_cases he : ej = 0
    · exact he
    · rw [hq, qcAt_err he] at h
      exact absurd h he)
  have HRq : Hid (R = ⟨M, q, fE q.e (lastB M q.x q.y) 6⟩) := Lib.hid (by rw [HR.out, hq]; rfl)
  have HC := Lib.hid hcall
  clear hok hlen hhi hze hq hcall HR D3
  obtain ⟨qx, qy, qm, qk, qL, qp, qe⟩ := q
  dsimp only at HQE
  go_wp2_with fail
  refine HC.out.mono ?_
  clear HC
  rintro ev w5 ⟨u1, u2, u3, row, vs, rfl, hvs, hrd, D5⟩
  dsimp only at hvs hrd D5 ⊢
  obtain ⟨BB, d1, rfl⟩ := D5.rest.openB' (.tail _ (.tail _ (.head _)))
  obtain ⟨B2, d2, rfl⟩ := D5.rest.openB' (.tail _ (.head _))
  obtain ⟨B3, d3, rfl⟩ := D5.rest.openT hvs hrd
  have HVS := Lib.hid hvs
  have HRD := Lib.hid hrd
  clear hvs hrd
  rename_i _
  have D6 : Dec (b, c0, d, f) T W _ g v n qp qe (segX 30 w5.heap.size [.slice (some ⟨w1.heap.size, 0, none⟩) N N, .int .i64 qx, .int .i64 qy, .slice BB qm.length d1, .slice B2 qk.length d2, .slice B3 qL.length d3] :: (row :: rowsS 5 vs qL) :: segB 5 (.slice B2 qk.length d2) qk :: segB 5 (.slice BB qm.length d1) qm :: segHT (.slice (some ⟨w1.heap.size, 0, none⟩) N N) ps M :: segX 30 w.heap.size [.slice none 0 0, .int .i64 0, .int .i64 0, .slice none 0 0, .slice none 0 0, .slice none 0 0] :: ss) := D5.beside (fun d K => (K.newX 30 #[.slice (some ⟨w1.heap.size, 0, none⟩) N N, .int .i64 qx, .int .i64 qy, .slice BB qm.length d1, .slice B2 qk.length d2, .slice B3 qL.length d3]).front 1 rfl)
  clear D5
  obtain ⟨j0, j1, j2, j3, j4, bb, qq, K0, hqq⟩ := D6
  have HQQ := Lib.hid hqq
  have KK := Lib.hid K0
  clear hqq
  obtain ⟨o0, o1, o2, o3, o4, o5⟩ := K0.c6 (.tail _ (.head _))
  obtain ⟨r0, r1, r2, r3, r4, r5⟩ := K0.c6 (.tail _ (.tail _ (.tail _ (.tail _ (.tail _ (.tail _ (.head _)))))))
  obtain ⟨s0, s1, s2, s3, s4, s5⟩ := K0.f6 (.tail _ (.tail _ (.tail _ (.tail _ (.tail _ (.tail _ (.head _)))))))
  have h6 := K0.ltX (.tail _ (.head _))
  have h7 := K0.ltX (.tail _ (.tail _ (.tail _ (.tail _ (.tail _ (.tail _ (.head _)))))))
  by_cases he : qe = 0
  · subst he
    rw [errV_zero] at K0
    have q7 := K0.atX (.head _) 7 rfl
    have hpos : Hid (0 < M.length) := Lib.hid (by have := HN5.out.2 (HZE.out (HQE.out (by first | trivial | rfl))); have := HLEN.out; omega)
    obtain ⟨fb, hfb⟩ : ∃ fb, fb = lastB M qx qy := ⟨_, rfl⟩
    have HFB := Lib.hid hfb
    have HD := Lib.hid KK.out.drew1
    have L0 := Lib.hid (HD.out.c6 (.tail _ (.head _)))
    clear K0 hfb
    go_wp2_with fail
    clear q7 o0 o1 o2 o3 o4 o5 r0 r1 r2 r3 r4 r5 s0 s1 s2 s3 s4 s5 h6 h7
    go_region_held3 (fun w' => w'.cell? ⟨w5.heap.size, 0, none⟩ = some (.slice (some ⟨w1.heap.size, 0, none⟩) N N) ∧ w'.cell? ⟨w5.heap.size, 1, none⟩ = some (.int .i64 qx) ∧ w'.cell? ⟨w5.heap.size, 2, none⟩ = some (.int .i64 qy) ∧ w'.cell? ⟨w5.heap.size, 3, none⟩ = some (.slice BB qm.length d1) ∧ w'.cell? ⟨w5.heap.size, 4, none⟩ = some (.slice B2 qk.length d2) ∧ w'.cell? ⟨w5.heap.size, 5, none⟩ = some (.slice B3 qL.length d3))
      (first
        | with_reducible exact L0.out
        | with_reducible exact L1.out
        | with_reducible exact L2.out)
      (first
        | (go_at_call 48; refine (certifiesLast_any qx qy _ _ _ _ M qm qk qL _ (HD.out.slHT HOK.out (.tail _ (.tail _ (.tail _ (.tail _ (.tail _ (.head _))))))) (HD.out.slB 5 (.tail _ (.tail _ (.tail _ (.tail _ (.head _)))))) (HD.out.slB 5 (.tail _ (.tail _ (.tail _ (.head _))))) (HD.out.slT (E := 5) HVS.out HRD.out (.tail _ (.tail _ (.head _)))) hpos.out).mono ?_; rw [← HFB.out]; rintro ev w6 ⟨rfl, hb6⟩; have HE1 := Lib.hid (HD.out.up hb6); have L1 := Lib.hid (HE1.out.c6 (.tail _ (.head _))); clear hb6)
        | (go_at_call 47; refine (requireO_any T W _ g j0 j1 j2 j3 j4 qq 0 6 bb fb (by decide) _ HE1.out).mono ?_; rintro ev w7 ⟨rfl, K7⟩; have HE2 := Lib.hid K7; have L2 := Lib.hid (K7.c6 (.tail _ (.head _))); clear K7))
    obtain ⟨o0, o1, o2, o3, o4, o5⟩ := HE2.out.c6 (.tail _ (.head _))
    obtain ⟨r0, r1, r2, r3, r4, r5⟩ := HE2.out.c6 (.tail _ (.tail _ (.tail _ (.tail _ (.tail _ (.tail _ (.head _)))))))
    obtain ⟨s0, s1, s2, s3, s4, s5⟩ := HE2.out.f6 (.tail _ (.tail _ (.tail _ (.tail _ (.tail _ (.tail _ (.head _)))))))
    have h6 := HE2.out.ltX (.tail _ (.head _))
    have h7 := HE2.out.ltX (.tail _ (.tail _ (.tail _ (.tail _ (.tail _ (.tail _ (.head _)))))))
    clear HE1 HD L0 L1 L2 KK
    go_wp2
    refine bodyPost_ret (v := .agg #[.slice (some ⟨w1.heap.size, 0, none⟩) N N, .int .i64 qx, .int .i64 qy, .slice BB qm.length d1, .slice B2 qk.length d2, .slice B3 qL.length d3]) (by simp [results, Tryd.results22, go_sem, r0, r1, r2, r3, r4, r5]) rfl ?_
    obtain rfl := HRq.out
    refine ⟨_, _, _, _, row, vs, ps, rfl, HOK.out, HVS.out, HRD.out, j0, j1, j2, j3, j4, bb, qq, ?_, fun _ => HQQ.out (by first | trivial | rfl)⟩
    rw [← HFB.out]
    exact ((HE2.out.front 6 rfl).over6 (.slice (some ⟨w1.heap.size, 0, none⟩) N N) (.int .i64 qx) (.int .i64 qy) (.slice BB qm.length d1) (.slice B2 qk.length d2) (.slice B3 qL.length d3)).sub (.cons _ (.cons_cons _ (.cons _ (List.Sublist.refl _))))
  · have HNE := Lib.hid he
    rw [errV_no he] at K0
    have q7 := K0.atX (.head _) 7 rfl
    clear K0 he
    go_wp2
    refine bodyPost_ret (v := .agg #[.slice (some ⟨w1.heap.size, 0, none⟩) N N, .int .i64 qx, .int .i64 qy, .slice BB qm.length d1, .slice B2 qk.length d2, .slice B3 qL.length d3]) (by simp [results, Tryd.results22, go_sem, r0, r1, r2, r3, r4, r5]) rfl ?_
    obtain rfl := HRq.out
    refine ⟨_, _, _, _, row, vs, ps, rfl, HOK.out, HVS.out, HRD.out, j0, j1, j2, j3, j4, bb, qq, ?_, fun h => absurd (h : fE qe (lastB M qx qy) 6 = 0) (by rw [fE_no HNE.out]; exact HNE.out)⟩
    rw [fE_no HNE.out]
    exact ((KK.out.front 6 rfl).over6 (.slice (some ⟨w1.heap.size, 0, none⟩) N N) (.int .i64 qx) (.int .i64 qy) (.slice BB qm.length d1) (.slice B2 qk.length d2) (.slice B3 qL.length d3)).sub (.cons _ (.cons_cons _ (.cons _ (List.Sublist.refl _))))

/-- What GetProof of the program returns: a commit proof of new rows, the place, the error. -/
def GotPfI (w : World) (r : PfAt) (e : Ending) (w' : World) : Prop :=
  ∃ hs qa qb qs ps row vs, e = .returned (.tuple #[.agg #[hs, .int .i64 (gpX r), .int .i64 (gpY r), qa, qb, qs], .int .i64 (gpP r), .int .i64 r.e]) ∧ OkHT (gpM r) ps ∧ vs.length = (gpL r).length ∧ Reads0 qs row vs ∧
    InvF w w' [segHT hs ps (gpM r), segB 5 qa (gpA r), segB 5 qb (gpB r), row :: rowsS 5 vs (gpL r)]
theorem gotpi_yes {w : World} {r : PfAt} {e : Ending} {w' : World} (h : r.e = 0) (k : ∃ hs qa qb qs ps row vs, e = .returned (.tuple #[.agg #[hs, .int .i64 r.q.x, .int .i64 r.q.y, qa, qb, qs], .int .i64 r.q.p, .int .i64 0]) ∧ OkHT r.M ps ∧ vs.length = r.q.L.length ∧ Reads0 qs row vs ∧
    InvF w w' [segHT hs ps r.M, segB 5 qa r.q.m, segB 5 qb r.q.k, row :: rowsS 5 vs r.q.L]) : GotPfI w r e w' := by
  obtain ⟨h1, h2, h3, h4, h5, h6, h7⟩ := gp_all h
  unfold GotPfI
  rw [h1, h2, h3, h4, h5, h6, h7, h]
  exact k
theorem gotpi_no {w : World} {r : PfAt} {e : Ending} {w' : World} (h : r.e ≠ 0) (k : e = .returned (.tuple #[.agg #[.slice none 0 0, .int .i64 0, .int .i64 0, .slice none 0 0, .slice none 0 0, .slice none 0 0], .int .i64 0, .int .i64 r.e])) (hb : Below w.heap.size w w') : GotPfI w r e w' := by
  obtain ⟨h1, h2, h3, h4, h5, h6, h7⟩ := gp_none h
  unfold GotPfI
  rw [h1, h2, h3, h4, h5, h6, h7]
  have K1 : InvF w w' [segS 24 5 (.slice none 0 0) [] []] := (InvG.start w).moreG (p := (24, .slice none 0 0, [])) (World.ownsRow_nil _ _ _ _) hb
  have K2 := K1.moreB (E := 5) (v := .slice none 0 0) (l := []) (World.ownsRow_nil _ _ _ _) (Below.refl _ _)
  have K3 := K2.moreB (E := 5) (v := .slice none 0 0) (l := []) (World.ownsRow_nil _ _ _ _) (Below.refl _ _)
  have K4 : InvF w w' (segHT (.slice none 0 0) [] [] :: _) := K3.more (s := segHT (.slice none 0 0) [] []) ((InvG.start w').moreG (p := (78, .slice none 0 0, [])) (World.ownsRow_nil _ _ _ _) (Below.refl _ _))
  exact ⟨_, _, _, _, [], _, [], k, OkHT.nil_, rfl, reads0_row (K1.2.1 _ (InvF.mem (.head _) (.head _))), K4⟩

set_option maxRecDepth 100000 in
set_option maxHeartbeats 4000000 in
theorem implGetProof_any (a b c d e p : Int) (v : Value) (l : List UInt8) (w : World) (hv : Sp w w.heap.size v l) (hl : l.length ≤ 1073741824) (hp : p ≤ 9223372036854775807) (hg : ErrT w) :
    Calls Tryd.prog 8 #[.agg #[.int .i64 a, .int .i64 b, .int .i64 c, .int .i64 d, .int .i64 e], v, .int .i64 p] w (GotPfI w (pfAt l a e p (limE a b c d e))) := by
  have HV := Lib.hid hv
  have HG := Lib.hid hg
  have HP := Lib.hid hp
  have HL := Lib.hid hl
  obtain ⟨A, n, rfl, k1⟩ := hv.sl
  clear k1 hv hg hp
  have c0 := fun W h => decoderAt_any a b c d e p (.slice A l.length n) W l h
  obtain ⟨e0, he0⟩ : ∃ e0, e0 = limE a b c d e := ⟨_, rfl⟩
  have hN : e0 = 0 → e ≤ 5 := fun h => by
    rw [he0] at h
    unfold limE at h
    split at h
    · rename_i hb
      exact (limB_yes hb).2.2.2.2.2
    · cases h
  rw [← he0] at c0 ⊢
  have C0 := Lib.hid c0
  have HN5 := Lib.hid hN
  clear c0 he0 hN
  obtain ⟨r, hr⟩ : ∃ r, r = pfAt l a e p e0 := ⟨_, rfl⟩
  rw [← hr]
  have HR := Lib.hid hr
  clear hr
  obtain ⟨M, ⟨qx, qy, qm, qk, qL, qp, qe⟩, e6⟩ := r
  have H0 := ((InvF.start w).newG 33 #[.int .i64 a, .int .i64 b, .int .i64 c, .int .i64 d, .int .i64 e] w.heap.size).newG 30 #[.slice none 0 0, .int .i64 0, .int .i64 0, .slice none 0 0, .slice none 0 0, .slice none 0 0] (w.heap.size + 1)
  go_enter Tryd.func8, Tryd.ntmps8
  go_wp2_with fail
  refine (C0.out _ (HV.out.up H0.bel).sl).mono ?_
  rintro ev w1 ⟨i0, i1, i2, i3, i4, B, n1, m1, q, rfl, hq, hb1⟩
  have H1 := H0.up hb1
  clear H0 hb1 C0
  have HQ := Lib.hid hq
  clear hq
  have hst := fun (W : World) (a : Addr) (m : Mode) => run_store Tryd.prog W a (errV e0) m (errV_cell e0)
  have hst2 : ∀ (W : World) (a : Addr) (m : Mode), (store a (errV e0) m).run Tryd.prog W = stored Tryd.prog W a (errV e0) m := hst
  clear hst
  go_wp2_with fail
  have H2 := H1.newX 62 #[.int .i64 i0, .int .i64 i1, .int .i64 i2, .int .i64 i3, .int .i64 i4, .slice B n1 m1, .int .i64 q, errV e0]
  clear H1
  have D2 : Dec (b, c, d, e) 62 w _ w1.heap.size (.slice A l.length n) a p e0 [segX 30 (w.heap.size + 1) [.slice none 0 0, .int .i64 0, .int .i64 0, .slice none 0 0, .slice none 0 0, .slice none 0 0], segX 33 w.heap.size [.int .i64 a, .int .i64 b, .int .i64 c, .int .i64 d, .int .i64 e]] := ⟨_, _, _, _, _, _, _, H2, HQ.out⟩
  clear H2 HQ
  refine (proof_any b c d e 62 w _ w1.heap.size _ l a p e0 _ D2 HV.out HL.out HP.out HN5.out).mono ?_
  rw [← HR.out]
  clear D2
  rintro ev w3 ⟨hs, qa, qb, qs, row, vs, ps, rfl, hok, hvs, hrd, D3⟩
  dsimp only at hok hvs D3 ⊢
  obtain ⟨A1, c1, rfl⟩ := D3.rest.openHT hok (.tail _ (.tail _ (.tail _ (.head _))))
  obtain ⟨A2, c2, rfl⟩ := D3.rest.openB' (.tail _ (.tail _ (.head _)))
  obtain ⟨A3, c3, rfl⟩ := D3.rest.openB' (.tail _ (.head _))
  obtain ⟨A4, c4, rfl⟩ := D3.rest.openT hvs hrd
  have HOK := Lib.hid hok
  have HVS := Lib.hid hvs
  have HRD := Lib.hid hrd
  clear hok hvs hrd
  obtain ⟨j0, j1, j2, j3, j4, bb, qq, K3, hqq⟩ := D3
  have K4 := K3.newX 30 #[.slice A1 M.length c1, .int .i64 qx, .int .i64 qy, .slice A2 qm.length c2, .slice A3 qk.length c3, .slice A4 qL.length c4]
  have q7 := K4.atX (.tail _ (.head _)) 7 rfl
  have q6 := K4.atX (.tail _ (.head _)) 6 rfl
  clear K3
  by_cases he : e6 = 0
  · subst he
    have HY := Lib.hid (fun ev w' => gotpi_yes (w := w) (r := ⟨M, ⟨qx, qy, qm, qk, qL, qp, qe⟩, 0⟩) (e := ev) (w' := w') rfl)
    obtain rfl := (hqq rfl).2.1
    rw [errV_zero] at q7
    clear hqq
    go_wp2_with fail
    clear q7 q6
    generalize w3.alloc (.cells #[.slice A1 M.length c1, .int .i64 qx, .int .i64 qy, .slice A2 qm.length c2, .slice A3 qk.length c3, .slice A4 qL.length c4] 30) = w4 at *
    have K14 := Lib.hid (((K4.front 6 rfl).over6 (.slice A1 M.length c1) (.int .i64 qx) (.int .i64 qy) (.slice A2 qm.length c2) (.slice A3 qk.length c3) (.slice A4 qL.length c4)).drew1)
    have L13 := Lib.hid (And.intro (K4.drew1.atX (.tail _ (.head _)) 6 rfl) (K4.drew1.c6 (.head _)))
    have L14 := Lib.hid (And.intro (K14.out.atX (.tail _ (.tail _ (.head _))) 6 rfl) (K14.out.c6 (.tail _ (.head _))))
    obtain ⟨r0, r1, r2, r3, r4, r5⟩ := K4.c6 (.tail _ (.tail _ (.tail _ (.tail _ (.tail _ (.tail _ (.head _)))))))
    obtain ⟨f0, f1, f2, f3, f4, f5⟩ := K4.f6 (.tail _ (.tail _ (.tail _ (.tail _ (.tail _ (.tail _ (.head _)))))))
    obtain ⟨k0, k1, k2, k3, k4, k5⟩ := K14.out.c6 (.head _)
    clear K4 hst2 HV HG HP HR
    go_region_held3 (fun w' => w'.cell? ⟨w1.heap.size, 6, none⟩ = some (.int .i64 qq) ∧ w'.cell? ⟨w3.heap.size, 0, none⟩ = some (.slice A1 M.length c1) ∧ w'.cell? ⟨w3.heap.size, 1, none⟩ = some (.int .i64 qx) ∧ w'.cell? ⟨w3.heap.size, 2, none⟩ = some (.int .i64 qy) ∧ w'.cell? ⟨w3.heap.size, 3, none⟩ = some (.slice A2 qm.length c2) ∧ w'.cell? ⟨w3.heap.size, 4, none⟩ = some (.slice A3 qk.length c3) ∧ w'.cell? ⟨w3.heap.size, 5, none⟩ = some (.slice A4 qL.length c4))
      (first
        | with_reducible exact L13.out
        | with_reducible exact L14.out)
      (fail)
    go_wp2_with fail
    refine bodyPost_ret (v := .tuple #[.agg #[.slice A1 M.length c1, .int .i64 qx, .int .i64 qy, .slice A2 qm.length c2, .slice A3 qk.length c3, .slice A4 qL.length c4], .int .i64 qq, .int .i64 0]) (by simp [results, Tryd.results8, go_sem, k0, k1, k2, k3, k4, k5]) rfl (HY.out _ _ ⟨_, _, _, _, ps, row, vs, rfl, HOK.out, HVS.out, HRD.out, ?_⟩)
    exact (K14.out.sub (qs := [row :: rowsS 5 vs qL, segB 5 (.slice A3 qk.length c3) qk, segB 5 (.slice A2 qm.length c2) qm, segHT (.slice A1 M.length c1) ps M]) (.cons _ (.cons _ (.cons _ (.cons_cons _ (.cons_cons _ (.cons_cons _ (.cons_cons _ (.cons _ .slnil))))))))).perm (List.reverse_perm [_, _, _, _]).symm
  · have HN := Lib.hid (fun ev w' => gotpi_no (w := w) (r := ⟨M, ⟨qx, qy, qm, qk, qL, qp, qe⟩, e6⟩) (e := ev) (w' := w') he)
    have HB := Lib.hid (fun W h => codeOf_err e6 W h)
    rw [errV_no he] at q7
    clear he hqq
    go_wp2_with fail
    refine (HB.out _ (HG.out.up K4.bel)).mono ?_
    rintro ev w5 ⟨rfl, hb5⟩
    have K5 := K4.up hb5
    clear K4 q7 q6 hb5 HB
    obtain ⟨r0, r1, r2, r3, r4, r5⟩ := K5.c6 (.tail _ (.tail _ (.tail _ (.tail _ (.tail _ (.tail _ (.head _)))))))
    obtain ⟨f0, f1, f2, f3, f4, f5⟩ := K5.f6 (.tail _ (.tail _ (.tail _ (.tail _ (.tail _ (.tail _ (.head _)))))))
    have K6 := Lib.hid ((K5.front 6 rfl).over6 (.slice none 0 0) (.int .i64 0) (.int .i64 0) (.slice none 0 0) (.slice none 0 0) (.slice none 0 0))
    clear K5
    go_wp2_with fail
    refine bodyPost_ret (v := .tuple #[.agg #[.slice none 0 0, .int .i64 0, .int .i64 0, .slice none 0 0, .slice none 0 0, .slice none 0 0], .int .i64 0, .int .i64 e6]) (by simp [results, Tryd.results8, go_sem, r0, r1, r2, r3, r4, r5]) rfl (HN.out _ _ rfl K6.out.bel)

end Go.Proofs.YtopbalemfljphaaDoor
