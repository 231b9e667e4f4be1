/- The contracts of the helpers of exact laws on slices of headers: szHeadS, toHeadS, eqHeadS, markHeadS, heldHeadS. -/
import Derived.Test.YtopbalemfljphaaHdS
import Derived.Test.YtopbalemfljphaaMid
import Derived.Test.YtopbalemfljphaaWat
namespace Go.Proofs.Ytopbalemfljphaa
open Go.ChangeShapes Go.WideShapes Go.ChangeAt Go.RowKit

/-- What szHeadS leaves of m. -/
def szHSZ (M : List Ht) (m : Int) : Int := if m < (M.length : Int) + (volH M : Int) then -1 else m - ((M.length : Int) + (volH M : Int))
theorem szHSZ_big {M : List Ht} {m : Int} (h : m < (M.length : Int) + (volH M : Int)) : szHSZ M m = -1 := if_pos h
theorem szHSZ_ok {M : List Ht} {m : Int} (h : ¬ m < (M.length : Int) + (volH M : Int)) : szHSZ M m = m - ((M.length : Int) + (volH M : Int)) := if_neg h
theorem szHZ_vol (t : Ht) (m : Int) : szHZ t.l t.k t.ql t.qk t.L m = if m < (volT t : Int) then -1 else m - (volT t : Int) := by
  have e : (volT t : Int) = (t.l.length : Int) + (t.k.length : Int) + (t.ql.length : Int) + (t.qk.length : Int) + (t.L.length : Int) + (sumL t.L : Int) := by unfold volT; omega
  rw [e]
  rfl
theorem HAtP.range {w : World} {B g o : Nat} {t : Ht} {a b qa qb qs : Value} (h : HAtP w B g o t a b qa qb qs) : w.rangeAt g o [.int .i64 t.x, .int .i64 t.y, .int .i64 t.z, a, b, .int .i64 t.qx, .int .i64 t.qy, qa, qb, qs] := fun j v hv => by
  obtain ⟨⟨c0, c1, c2, c3, c4, c5, c6, c7, c8, c9⟩, _⟩ := h
  have hj := (List.getElem?_eq_some_iff.1 hv).1
  simp only [List.length_cons, List.length_nil] at hj
  have h10 : j = 0 ∨ j = 1 ∨ j = 2 ∨ j = 3 ∨ j = 4 ∨ j = 5 ∨ j = 6 ∨ j = 7 ∨ j = 8 ∨ j = 9 := by omega
  rcases h10 with rfl | rfl | rfl | rfl | rfl | rfl | rfl | rfl | rfl | rfl <;> simp at hv <;> subst hv <;> assumption
set_option maxRecDepth 100000 in
set_option maxHeartbeats 4000000 in
theorem szHeadS_any (v : Value) (M : List Ht) (m : Int) (w : World) (h : SlH w w.heap.size v M) (h0 : 0 ≤ m) (hm : m ≤ 1073741824) :
    Calls Try.prog 34 #[v, .int .i64 m] w (fun e w' => e = .returned (.int .i64 (szHSZ M m)) ∧ Below w.heap.size w w') := by
  obtain ⟨A, c, rfl, h1, h2, k0, h3⟩ := h
  unfold maxLen at h2
  clear k0
  obtain ⟨R, hR⟩ : ∃ R, R = szHSZ M m := ⟨_, rfl⟩
  rw [← hR]
  unfold szHSZ at hR
  have HR := Lib.hid hR
  clear hR
  by_cases hlt : m < (M.length : Int)
  · obtain rfl : R = -1 := by rw [HR.out, if_pos (by omega)]
    have hn : m - (M.length : Int) < 0 := by omega
    go_enter Try.func34, Try.ntmps34
    go_wp2
    go_ret
    exact ⟨rfl, Below.refl _ _⟩
  · have hn : ¬ m - (M.length : Int) < 0 := by omega
    go_enter Try.func34, Try.ntmps34
    go_wp2
    go_loopw [1, 5] (fun q i wr => ∃ j : Nat, j ≤ M.length ∧ i = .int .i64 j ∧ q = .int .i64 (m - (M.length : Int) - (volH (M.take j) : Int)) ∧ 0 ≤ m - (M.length : Int) - (volH (M.take j) : Int) ∧ Hid (Below w.heap.size w wr))
      (fun _ i _ => M.length - (intOf i).toNat)
    case atStart => exact ⟨0, Nat.zero_le _, rfl, by simp [volH], by simp [volH]; omega, Lib.hid (Below.refl _ _)⟩
    case round =>
      obtain ⟨j, hj, rfl, rfl, hq0, HB⟩ := hrel
      by_cases hlj : j < M.length
      · obtain ⟨b, off, rfl, hbb, hcell⟩ := h3 (by omega)
        obtain ⟨t, ht⟩ := getH hlj
        obtain ⟨ua, ub, uqa, uqb, uqs, hat⟩ := (hcell j t ht).below HB.out hbb
        have hsum := volH_take M j t ht
        have hle := volH_le M (j + 1)
        clear hcell
        generalize volH (M.take j) = q at hsum hq0 ⊢
        have HSM := Lib.hid hsum
        obtain ⟨z, hz⟩ : ∃ z : Int, z = m - (M.length : Int) - (q : Int) := ⟨_, rfl⟩
        rw [← hz] at hq0 ⊢
        have HZ := Lib.hid hz
        have hzm : z ≤ 1073741824 := by omega
        have hR := Lib.hid hat.range
        have ht2 := hat.2
        have HC := Lib.hid (szHead_any t.x t.y t.z t.qx t.qy ua ub uqa uqb uqs t.l t.k t.ql t.qk t.L z wr (ht2.1.mono HB.out.size) (ht2.2.1.mono HB.out.size) (ht2.2.2.1.mono HB.out.size) (ht2.2.2.2.1.mono HB.out.size) (ht2.2.2.2.2.mono HB.out.size) hq0 hzm)
        rw [szHZ_vol] at HC
        by_cases hz1 : z < (volT t : Int)
        · have hall : m < (M.length : Int) + (volH M : Int) := by omega
          obtain rfl : R = -1 := by rw [HR.out, if_pos hall]
          rw [if_pos hz1] at HC
          clear hsum hz hall hle ht hat ht2 hz1
          go_wp2_with (first | (refine wpList_load_mid rfl 101 (.tmp 20) rfl b (off + j * 10) rfl [.int .i64 t.x, .int .i64 t.y, .int .i64 t.z, ua, ub, .int .i64 t.qx, .int .i64 t.qy, uqa, uqb, uqs] _ hR.out Try.underlying101 rfl (by kernel_rfl) ?_))
          refine HC.out.mono ?_
          rintro ev w2 ⟨rfl, hb2⟩
          have HB2 := Lib.hid (HB.out.trans (hb2.mono HB.out.size))
          go_wp2
          go_ret
          exact ⟨rfl, HB2.out⟩
        · have hge : ¬ z - (volT t : Int) < 0 := by omega
          rw [if_neg hz1] at HC
          clear hsum hz hle ht hat ht2 hz1
          go_wp2_with (first | (refine wpList_load_mid rfl 101 (.tmp 20) rfl b (off + j * 10) rfl [.int .i64 t.x, .int .i64 t.y, .int .i64 t.z, ua, ub, .int .i64 t.qx, .int .i64 t.qy, uqa, uqb, uqs] _ hR.out Try.underlying101 rfl (by kernel_rfl) ?_))
          refine HC.out.mono ?_
          rintro ev w2 ⟨rfl, hb2⟩
          have HB2 := Lib.hid (HB.out.trans (hb2.mono HB.out.size))
          go_wp2
          go_roundw
          case rel => exact ⟨j + 1, by omega, by go_num, by have := HZ.out; have := HSM.out; refine congrArg _ ?_; omega, by have := HZ.out; have := HSM.out; omega, HB2⟩
          case measure => simp [intOf]; omega
      · obtain rfl : j = M.length := by omega
        rw [List.take_length] at hq0 ⊢
        have hR := HR.out
        rw [if_neg (by omega)] at hR
        have HRE : Hid (m - (M.length : Int) - (volH M : Int) = R) := Lib.hid (by omega)
        rw [HRE.out]
        clear hR
        go_wp2
        go_ret
        exact ⟨rfl, HB.out⟩

theorem hinfo : (Try.prog.info? 67).map (fun i => (i.zero, i.size, i.bytes)) = some (some (.agg #[.int .i64 0, .int .i64 0, .int .i64 0, .slice none 0 0, .slice none 0 0, .int .i64 0, .int .i64 0, .slice none 0 0, .slice none 0 0, .slice none 0 0]), 10, 160) := by kernel_rfl
/-- A header that is all zero. -/
def zeroHc : List Value := [.int .i64 0, .int .i64 0, .int .i64 0, .slice none 0 0, .slice none 0 0, .int .i64 0, .int .i64 0, .slice none 0 0, .slice none 0 0, .slice none 0 0]
/-- What toHeadS has made after j headers. -/
def esH (M : List Ht) (ps : List HP) (n : Nat) : List Elt := eltsH M ps ++ List.replicate (n - M.length) (zeroHc, [])
theorem esH_len {M : List Ht} {ps : List HP} {n : Nat} (hl : ps.length = M.length) (h : M.length ≤ n) : (esH M ps n).length = n := by
  unfold esH
  rw [List.length_append, eltsH_len hl, List.length_replicate]
  omega
theorem esH_ten {M : List Ht} {ps : List HP} {n : Nat} : ∀ e ∈ esH M ps n, e.1.length = 10 := fun e he => by
  rcases List.mem_append.1 he with h | h
  · exact eltsH_ten e h
  · rw [List.eq_of_mem_replicate h]
    rfl
theorem esH_at {M : List Ht} {ps : List HP} {n : Nat} (hl : ps.length = M.length) (h : M.length < n) : (esH M ps n)[M.length]? = some (zeroHc, []) := by
  unfold esH
  rw [List.getElem?_append_right (by rw [eltsH_len hl]; exact Nat.le_refl _), eltsH_len hl, Nat.sub_self]
  exact List.getElem?_replicate_of_lt (by omega)
theorem esH_set {M : List Ht} {ps : List HP} {n : Nat} (hl : ps.length = M.length) (h : M.length < n) (t : Ht) (p : HP) : (esH M ps n).set M.length (eltH t p) = esH (M ++ [t]) (ps ++ [p]) n := by
  unfold esH
  rw [List.set_append_right _ _ (by rw [eltsH_len hl]; exact Nat.le_refl _), eltsH_len hl, Nat.sub_self, eltsH_snoc hl, List.length_append, List.length_singleton, show n - M.length = (n - (M.length + 1)) + 1 by omega, List.replicate_succ, List.set_cons_zero, List.append_assoc]
  rfl
theorem esH_full {M : List Ht} {ps : List HP} : esH M ps M.length = eltsH M ps := by simp [esH]
/-- The call returns a slice of headers of its own; nothing that was there has turned. -/
def FreshHd (w : World) (M : List Ht) (e : Ending) (w' : World) : Prop := ∃ v ps, e = .returned v ∧ OkH M ps ∧ InvF w w' [segH v ps M]
theorem cellsE_fst {es : List Elt} {i : Nat} {cs : List Value} {r r' : List Row} (hi : i < es.length) : cellsE (es.set i (cs, r)) = cellsE (es.set i (cs, r')) := by
  have e2 : ∀ r : List Row, es.set i (cs, r) = es.take i ++ (cs, r) :: es.drop (i + 1) := fun r => List.set_eq_take_append_cons_drop.trans (if_pos hi)
  rw [e2, e2, cellsE_app, cellsE_app, cellsE_cons, cellsE_cons]
/-- Ten cells of an element are written over, one by one. -/
theorem InvF.tenY {W w : World} {ss : List (List Row)} {T : TypeId} {g c i : Nat} {v : Value} {es : List Elt} {e : Elt} {q : List Row} (hl : ∀ e ∈ es, e.1.length = 10) (H : InvF W w (((T, scN 10 v, cellsE es) :: q) :: ss)) (hv : v = .slice (some ⟨g, 0, none⟩) es.length c) (he : es[i]? = some e) (u0 u1 u2 u3 u4 u5 u6 u7 u8 u9 : Value) :
    InvF W (w.setCells g (i * 10) [u0, u1, u2, u3, u4, u5, u6, u7, u8, u9]) (((T, scN 10 v, cellsE (es.set i ([u0, u1, u2, u3, u4, u5, u6, u7, u8, u9], e.2))) :: q) :: ss) := by
  have hi := (List.getElem?_eq_some_iff.1 he).1
  have key : ∀ (us : List Value) (o : Nat) (w : World) (cs : List Value), cs.length = 10 → o + us.length ≤ 10 → InvF W w (((T, scN 10 v, cellsE (es.set i (cs, e.2))) :: q) :: ss) → InvF W (w.setCells g (i * 10 + o) us) (((T, scN 10 v, cellsE (es.set i (wroteL cs o us, e.2))) :: q) :: ss) := by
    intro us
    induction us with
    | nil => intro o w cs _ _ h; exact h
    | cons u us ih =>
      intro o w cs hcs ho h
      simp only [List.length_cons] at ho
      have h1 := InvF.storeY (es := es.set i (cs, e.2)) (set_lens hl hcs) h (by rw [List.length_set]; exact hv) (i := i) (e := (cs, e.2)) (by rw [List.getElem?_set, if_pos rfl, if_pos hi]) (j := o) (by omega) u
      rw [List.set_set] at h1
      exact ih (o + 1) _ (cs.set o u) (by rw [List.length_set]; exact hcs) (by omega) h1
  have hee : es = es.set i (e.1, e.2) := by
    apply List.ext_getElem?
    intro j
    rw [List.getElem?_set]
    by_cases hj : i = j
    · subst hj
      rw [if_pos rfl, if_pos hi, he]
    · rw [if_neg hj]
  have h0 := H
  rw [hee] at h0
  have he1 := hl e (List.mem_of_getElem? he)
  have h2 := key [u0, u1, u2, u3, u4, u5, u6, u7, u8, u9] 0 w e.1 he1 (by simp) h0
  have h3 : wroteL e.1 0 [u0, u1, u2, u3, u4, u5, u6, u7, u8, u9] = [u0, u1, u2, u3, u4, u5, u6, u7, u8, u9] := by
    match e.1, he1 with
    | [_, _, _, _, _, _, _, _, _, _], _ => rfl
  rw [h3] at h2
  exact h2
set_option maxRecDepth 100000 in
set_option maxHeartbeats 4000000 in
theorem toHeadS_any (v : Value) (M : List Ht) (w : World) (h : SlH w w.heap.size v M) (hl : M.length ≤ 1048576) (hs : volH M ≤ 1048576) :
    Calls Try.prog 41 #[v] w (FreshHd w M) := by
  obtain ⟨A, c, rfl, h1, h2, h0, h3⟩ := h
  obtain ⟨i0, hi, hz0, hz1, hz2⟩ := info_parts hinfo
  have hby : i0.bytes * M.length ≤ 281474976710656 := by rw [hz2]; omega
  have hml : M.length ≤ maxLen := by unfold maxLen; omega
  unfold maxLen at h2
  have HS := Lib.hid hs
  clear h0 hs
  go_enter Try.func41, Try.ntmps41
  go_wp2_with (at_make; refine wpList_make_full _ rfl _ _ _ rfl w.heap.size 67 i0 (.agg #[.int .i64 0, .int .i64 0, .int .i64 0, .slice none 0 0, .slice none 0 0, .int .i64 0, .int .i64 0, .slice none 0 0, .slice none 0 0, .slice none 0 0]) 10 Try.underlying35 hi hz0 hz1 .i64 .i64 _ _ M.length rfl rfl rfl rfl hby hml (Nat.le_refl _) ?_; intro w1 hown1 hg1)
  have hb1 : Below w.heap.size w w1 := (Below.refl _ _).grown hg1 (Nat.le_refl _) (by simp)
  have H1 : Hid (InvF w w1 [segY 67 10 (.slice (some ⟨w.heap.size, 0, none⟩) M.length M.length) (esH (M.take 0) [] M.length)]) := by
    refine Lib.hid ?_
    have e0 : esH (M.take 0) [] M.length = List.replicate M.length (zeroHc, []) := by simp [esH, eltsH]
    rw [e0]
    exact (InvF.start w).madeY (by rfl) (by unfold maxLen; omega) (zeroY _ 10 M.length (by rfl) (by decide)) hown1 hb1
  clear hown1 hg1 hb1
  go_wp2
  go_loopw [4] (fun i wr => ∃ (j : Nat) (ps : List HP), j ≤ M.length ∧ i = .int .i64 j ∧ Hid (OkH (M.take j) ps) ∧ Hid (InvF w wr [segY 67 10 (.slice (some ⟨w.heap.size, 0, none⟩) M.length M.length) (esH (M.take j) ps M.length)]))
    (fun i _ => M.length - (intOf i).toNat)
  case atStart => exact ⟨0, _, Nat.zero_le _, rfl, Lib.hid OkH.nil_, H1⟩
  case round =>
    clear H1
    obtain ⟨j, ps, hj, rfl, HP0, H⟩ := hrel
    by_cases hlt : j < M.length
    · obtain ⟨b, off, rfl, hbb, hcell⟩ := h3 (by omega)
      obtain ⟨t, ht⟩ := getH hlt
      have hv1 := volH_mem ht
      have hsz : t.l.length ≤ 1048576 ∧ t.k.length ≤ 1048576 ∧ t.ql.length ≤ 1048576 ∧ t.qk.length ≤ 1048576 ∧ t.L.length ≤ 1048576 ∧ sumL t.L ≤ 1048576 := by have := HS.out; unfold volT at hv1; omega
      obtain ⟨ua, ub, uqa, uqb, uqs, hat⟩ := (hcell j t ht).below H.out.bel hbb
      have hR := Lib.hid hat.range
      have ht2 := hat.2
      have hle := H.out.bel.size
      have HC := Lib.hid (toHead_any t.x t.y t.z t.qx t.qy ua ub uqa uqb uqs t.l t.k t.ql t.qk t.L wr (ht2.1.mono hle) (ht2.2.1.mono hle) (ht2.2.2.1.mono hle) (ht2.2.2.2.1.mono hle) (ht2.2.2.2.2.mono hle) hsz.1 hsz.2.1 hsz.2.2.1 hsz.2.2.2.1 hsz.2.2.2.2.1 hsz.2.2.2.2.2)
      have HTK : Hid (M.take (j + 1) = M.take j ++ [t] ∧ (M.take j).length = j) := Lib.hid ⟨by rw [List.take_add_one, ht]; rfl, by rw [List.length_take]; omega⟩
      clear hcell ht hat ht2 hsz hv1 hle
      go_wp2_with (first | (refine wpList_load_mid rfl 101 (.tmp 18) rfl b (off + j * 10) rfl [.int .i64 t.x, .int .i64 t.y, .int .i64 t.z, ua, ub, .int .i64 t.qx, .int .i64 t.qy, uqa, uqb, uqs] _ hR.out Try.underlying101 rfl (by kernel_rfl) ?_))
      refine HC.out.mono ?_
      rintro ev w2 ⟨a, b', qa, qb, qs, vs, rfl, hvs, K⟩
      obtain ⟨A1, c1, rfl⟩ := K.openB' (.head _)
      obtain ⟨A2, c2, rfl⟩ := K.openB' (.tail _ (.head _))
      obtain ⟨A3, c3, rfl⟩ := K.openB' (.tail _ (.tail _ (.head _)))
      obtain ⟨A4, c4, rfl⟩ := K.openB' (.tail _ (.tail _ (.tail _ (.head _))))
      obtain ⟨A5, c5, rfl⟩ := K.openS hvs (.tail _ (.tail _ (.tail _ (.tail _ (.head _)))))
      obtain ⟨p, hp⟩ : ∃ p : HP, p = ⟨.slice A1 t.l.length c1, .slice A2 t.k.length c2, .slice A3 t.ql.length c3, .slice A4 t.qk.length c4, .slice A5 t.L.length c5, vs⟩ := ⟨_, rfl⟩
      have K2 : InvF w w2 (rowsH t p ++ [segY 67 10 (.slice (some ⟨w.heap.size, 0, none⟩) M.length M.length) (esH (M.take j) ps M.length)]) := by rw [hp]; exact H.out.moreF K
      have hlen : (esH (M.take j) ps M.length).length = M.length := esH_len HP0.out.1 (by rw [HTK.out.2]; omega)
      have hat0 : (esH (M.take j) ps M.length)[j]? = some (zeroHc, []) := by
        have := esH_at (M := M.take j) (ps := ps) (n := M.length) HP0.out.1 (by rw [HTK.out.2]; exact hlt)
        rw [HTK.out.2] at this
        exact this
      have hv : Value.slice (some ⟨w.heap.size, 0, none⟩) M.length M.length = .slice (some ⟨w.heap.size, 0, none⟩) (esH (M.take j) ps M.length).length M.length := by rw [hlen]
      have K3 : InvF w w2 (segY 67 10 (.slice (some ⟨w.heap.size, 0, none⟩) M.length M.length) (esH (M.take j) ps M.length) :: rowsH t p) := K2.perm List.perm_append_comm
      have hcl : ∀ k, k < 10 → w2.cell? ⟨w.heap.size, j * 10 + k, none⟩ = zeroHc[k]? := fun k hk => K3.cellY esH_ten (.head _) hv hat0 hk
      have HTH : Hid (w2.there w.heap.size (j * 10) 10) := Lib.hid (fun k hk => by
        refine ⟨?_, K3.frY esH_ten (.head _) hv (j * 10 + k)⟩
        rw [hcl k hk, List.getElem?_eq_getElem (show k < zeroHc.length from hk)]
        rfl)
      have hput := InvF.tenY esH_ten K3 hv hat0 (.int .i64 t.x) (.int .i64 t.y) (.int .i64 t.z) (.slice A1 t.l.length c1) (.slice A2 t.k.length c2) (.int .i64 t.qx) (.int .i64 t.qy) (.slice A3 t.ql.length c3) (.slice A4 t.qk.length c4) (.slice A5 t.L.length c5)
      have hput2 := InvF.putY (es := esH (M.take j) ps M.length) (gs := rowsH t p) (ss := []) hat0 (by rw [List.append_nil]; exact hput)
      have hset : (esH (M.take j) ps M.length).set j (eltH t p) = esH (M.take (j + 1)) (ps ++ [p]) M.length := by
        have := esH_set (M := M.take j) (ps := ps) (n := M.length) HP0.out.1 (by rw [HTK.out.2]; exact hlt) t p
        rw [HTK.out.2] at this
        rw [this, HTK.out.1]
      have hcs : ([.int .i64 t.x, .int .i64 t.y, .int .i64 t.z, .slice A1 t.l.length c1, .slice A2 t.k.length c2, .int .i64 t.qx, .int .i64 t.qy, .slice A3 t.ql.length c3, .slice A4 t.qk.length c4, .slice A5 t.L.length c5], (rowsH t p).flatten) = eltH t p := by rw [hp]; rfl
      rw [hcs, hset] at hput2
      have HO := Lib.hid hput2
      have HP2 : Hid (OkH (M.take (j + 1)) (ps ++ [p])) := Lib.hid (by rw [HTK.out.1]; exact HP0.out.snoc (by rw [hp]; exact hvs))
      clear hput hput2 hset hcs K2 K3 hcl HC K hvs hp hat0 hlen hv
      go_simp
      go_step
      go_step
      go_step
      go_step
      refine wpList_store_mid rfl 67 (.tmp 21) (.tmp 20) rfl w.heap.size (j * 10) #[.int .i64 t.x, .int .i64 t.y, .int .i64 t.z, .slice A1 t.l.length c1, .slice A2 t.k.length c2, .int .i64 t.qx, .int .i64 t.qy, .slice A3 t.ql.length c3, .slice A4 t.qk.length c4, .slice A5 t.L.length c5] rfl rfl HTH.out (by kernel_rfl) (by simp [Value.oneCell']) ?_
      go_wp2_with fail
      go_roundw
      case rel => exact ⟨j + 1, _, by omega, by go_num, HP2, HO⟩
      case measure => simp [intOf]; omega
    · obtain rfl : j = M.length := by omega
      rw [List.take_length] at HP0 H
      go_wp2
      go_ret
      refine ⟨_, ps, rfl, HP0.out, ?_⟩
      have h5 := H.out
      rw [esH_full] at h5
      exact h5

theorem WF.cellOldH {W : World} {ss : List (List Row)} {b o : Nat} {u : Value} (hb : b < W.heap.size) (h : W.cell? ⟨b, o, none⟩ = some u) (z : WF W ss) : z.w.cell? ⟨b, o, none⟩ = some u := (z.h.bel.cell (p := ⟨b, o, none⟩) hb).trans h
set_option maxRecDepth 100000 in
set_option maxHeartbeats 4000000 in
theorem eqHeadS_any (v u : Value) (M : List Ht) (w : World) (h : SlH w w.heap.size v M) (h' : SlH w w.heap.size u M) :
    Calls Try.prog 49 #[v, u] w (Yes w) := by
  obtain ⟨A, c, rfl, h1, h2, h0, h3⟩ := h
  obtain ⟨A', c', rfl, h1', h2', h0', h3'⟩ := h'
  unfold maxLen at h2 h2'
  clear h0 h0'
  have hne : ((M.length : Int) != (M.length : Int)) = false := by simp
  go_enter Try.func49, Try.ntmps49
  go_wp2
  go_loopw [5] (fun i wr => ∃ k : Nat, k ≤ M.length ∧ i = .int .i64 k ∧ Hid (Below w.heap.size w wr))
    (fun i _ => M.length - (intOf i).toNat)
  case atStart => exact ⟨0, Nat.zero_le _, rfl, Lib.hid (Below.refl _ _)⟩
  case round =>
    obtain ⟨k, hk, rfl, HB⟩ := hrel
    by_cases hlt : k < M.length
    · obtain ⟨b, off, rfl, hbb, hcell⟩ := h3 (by omega)
      obtain ⟨b', off', rfl, hbb', hcell'⟩ := h3' (by omega)
      obtain ⟨t, ht⟩ := getH hlt
      obtain ⟨ua, ub, uqa, uqb, uqs, hat⟩ := (hcell k t ht).below HB.out hbb
      obtain ⟨va, vb, vqa, vqb, vqs, hat'⟩ := (hcell' k t ht).below HB.out hbb'
      have hle := HB.out.size
      have R1 := Lib.hid hat.range
      have R2 := Lib.hid hat'.range
      have hb1 : b < wr.heap.size := by omega
      have hb2 : b' < wr.heap.size := by omega
      have p1 := hat.2
      have p2 := hat'.2
      have Q := Lib.hid (fun x : WF wr [] => x.below (eqHead_any t.x t.y t.z t.qx t.qy ua ub uqa uqb uqs va vb vqa vqb vqs t.l t.k t.ql t.qk t.L x.w ((p1.1.mono hle).up x.h.bel) ((p1.2.1.mono hle).up x.h.bel) ((p1.2.2.1.mono hle).up x.h.bel) ((p1.2.2.2.1.mono hle).up x.h.bel) ((p1.2.2.2.2.mono hle).up x.h.bel) ((p2.1.mono hle).up x.h.bel) ((p2.2.1.mono hle).up x.h.bel) ((p2.2.2.1.mono hle).up x.h.bel) ((p2.2.2.2.1.mono hle).up x.h.bel) ((p2.2.2.2.2.mono hle).up x.h.bel)))
      obtain ⟨⟨c0, c1, c2, c3, c4, c5, c6, c7, c8, c9⟩, _⟩ := hat
      obtain ⟨⟨d0, d1, d2, d3, d4, d5, d6, d7, d8, d9⟩, _⟩ := hat'
      replace c0 := WF.cellOldH (ss := []) hb1 c0; replace d0 := WF.cellOldH (ss := []) hb2 d0
      replace c1 := WF.cellOldH (ss := []) hb1 c1; replace d1 := WF.cellOldH (ss := []) hb2 d1
      replace c2 := WF.cellOldH (ss := []) hb1 c2; replace d2 := WF.cellOldH (ss := []) hb2 d2
      replace c3 := WF.cellOldH (ss := []) hb1 c3; replace d3 := WF.cellOldH (ss := []) hb2 d3
      replace c4 := WF.cellOldH (ss := []) hb1 c4; replace d4 := WF.cellOldH (ss := []) hb2 d4
      replace c5 := WF.cellOldH (ss := []) hb1 c5; replace d5 := WF.cellOldH (ss := []) hb2 d5
      replace c6 := WF.cellOldH (ss := []) hb1 c6; replace d6 := WF.cellOldH (ss := []) hb2 d6
      replace c7 := WF.cellOldH (ss := []) hb1 c7; replace d7 := WF.cellOldH (ss := []) hb2 d7
      replace c8 := WF.cellOldH (ss := []) hb1 c8; replace d8 := WF.cellOldH (ss := []) hb2 d8
      replace c9 := WF.cellOldH (ss := []) hb1 c9; replace d9 := WF.cellOldH (ss := []) hb2 d9
      have hne : Nonempty (WF wr []) := ⟨⟨wr, InvF.start wr⟩⟩
      clear hcell hcell' h3 h3' p1 p2 hbb hbb' ht R1 R2
      generalize t.x = tx at *; generalize t.y = ty at *; generalize t.z = tz at *; generalize t.qx = tqx at *; generalize t.qy = tqy at *
      go_wp2_with fail
      refine wp_region_wf (by kernel_rfl) (by kernel_rfl) (InvF.start wr) ?_
      repeat (go_big_quiet_step ((go_at_call 99; exact Q.out _)))
      refine wpQuiet_nil ?_
      rintro _ ⟨z, rfl⟩
      have HZ := Lib.hid (HB.out.trans (z.h.bel.mono hle))
      go_wp2
      go_roundw
      case rel => exact ⟨k + 1, by omega, by go_num, HZ⟩
      case measure => simp [intOf]; omega
    · obtain rfl : k = M.length := by omega
      go_wp2
      go_ret
      exact ⟨rfl, HB.out⟩

set_option maxRecDepth 100000 in
set_option maxHeartbeats 8000000 in
theorem markHeadS_z (W w : World) (v : Value) (ps : List HP) (M : List Ht) (ss : List (List Row)) (k : Nat) (kz : Int) (hp : OkH M ps) (H : InvF W w (segH v ps M :: ss)) (hz : kz = (k : Int)) (hk : k ≤ 134217728) (hm : mkH M ≤ 8388608) :
    Calls Try.prog 64 #[v, .int .i64 kz] w (fun e w' => e = .returned (.int .i64 (kz + (mkH M : Int))) ∧ InvF W w' (segH v ps (marksH k M) :: ss)) := by
  subst hz
  obtain ⟨A, c, rfl, h1, h2, h0, h3⟩ := H.formH hp (.head _)
  unfold maxLen at h2
  clear h0
  have HP0 := Lib.hid hp
  have HM0 := Lib.hid hm
  have hA : 0 < M.length → ∃ b, A = some ⟨b, 0, none⟩ := fun hq => by
    obtain ⟨g, e, _⟩ := h3 hq
    exact ⟨g, e⟩
  clear h3 hp hm
  go_enter Try.func64, Try.ntmps64
  go_wp2
  go_loopw [1, 5] (fun q i wr => ∃ j : Nat, j ≤ M.length ∧ i = .int .i64 j ∧ q = .int .i64 ((k : Int) + (mkH (M.take j) : Int)) ∧ Hid (OkH (MHd M k j) ps) ∧ Hid (InvF W wr (segH (.slice A M.length c) ps (MHd M k j) :: ss)))
    (fun _ i _ => M.length - (intOf i).toNat)
  case atStart => exact ⟨0, Nat.zero_le _, rfl, by simp [mkH], by rw [MHd_zero]; exact HP0, Lib.hid (by rw [MHd_zero]; exact H)⟩
  case round =>
    clear H
    obtain ⟨j, hj, rfl, rfl, HOK, H⟩ := hrel
    have hml := MHd_length M k j hj
    by_cases hlt : j < M.length
    · obtain ⟨b, rfl⟩ := hA (by omega)
      obtain ⟨t, ht⟩ := getH hlt
      have htm := MHd_at M k j t ht
      obtain ⟨p, hp⟩ : ∃ p, ps[j]? = some p := ⟨ps[j]'(by have := HP0.out.1; omega), List.getElem?_eq_getElem (by have := HP0.out.1; omega)⟩
      have hvs : Hid (p.vs.length = t.L.length) := Lib.hid (HP0.out.2 j t p ht hp)
      have hnext := mkH_take M j t ht
      have hle := mkH_le M (j + 1)
      have hm := HM0.out
      obtain ⟨q, hq⟩ : ∃ q, q = k + mkH (M.take j) := ⟨_, rfl⟩
      obtain ⟨z0, hz0⟩ : ∃ z0 : Int, z0 = (k : Int) + (mkH (M.take j) : Int) := ⟨_, rfl⟩
      have hzq : z0 = (q : Int) := by omega
      have hzlo : 0 ≤ z0 := by omega
      have hzhi : z0 ≤ 268435456 := by omega
      have hqb : q ≤ 268435456 := by omega
      have hmt : mkT t ≤ 8388608 := by omega
      have hsz : Hid (t.l.length ≤ 8388608 ∧ t.k.length ≤ 8388608 ∧ t.ql.length ≤ 8388608 ∧ t.qk.length ≤ 8388608 ∧ sumL t.L ≤ 8388608) := Lib.hid (by unfold mkT at hmt; omega)
      have hszl : t.l.length ≤ 8388608 := hsz.out.1
      have hszk : t.k.length ≤ 8388608 := hsz.out.2.1
      have hszql : t.ql.length ≤ 8388608 := hsz.out.2.2.1
      have hszqk : t.qk.length ≤ 8388608 := hsz.out.2.2.2.1
      have hmte : mkT t = t.l.length + t.k.length + t.ql.length + t.qk.length + sumL t.L + 5 := rfl
      rw [← hz0]
      have HZ := Lib.hid hzq
      have HN : Hid (∀ z : Int, z = z0 + 1 + 1 + 1 + (t.l.length : Int) + (t.k.length : Int) + 1 + 1 + (t.ql.length : Int) + (t.qk.length : Int) + (sumL t.L : Int) → z = (k : Int) + (mkH (M.take (j + 1)) : Int)) := Lib.hid (fun z hz => by omega)
      have HT : Hid ((MHd M k j).set j ⟨z0, z0 + 1, z0 + 1 + 1, (marks (q + 3) t.l.length), (marks (q + 3 + t.l.length) t.k.length), (z0 + 1 + 1 + 1 + (t.l.length : Int) + (t.k.length : Int)), (z0 + 1 + 1 + 1 + (t.l.length : Int) + (t.k.length : Int) + 1), (marks (q + 5 + t.l.length + t.k.length) t.ql.length), (marks (q + 5 + t.l.length + t.k.length + t.ql.length) t.qk.length), (marksS (q + 5 + t.l.length + t.k.length + t.ql.length + t.qk.length) t.L)⟩ = MHd M k (j + 1)) := Lib.hid (by
        rw [← MHd_set M k j t ht, ← hq]
        unfold markHT
        congr 2 <;> omega)
      clear hz0 hzq hq hnext hle hm hmt hmte ht
      obtain ⟨es, hes⟩ : ∃ es, es = eltsH (MHd M k j) ps := ⟨_, rfl⟩
      obtain ⟨e, hee⟩ : ∃ e, e = eltH t p := ⟨_, rfl⟩
      have he : es[j]? = some e := by rw [hes, hee]; exact eltsH_get htm hp
      have hten : Hid (∀ e ∈ es, e.1.length = 10) := Lib.hid (by rw [hes]; exact eltsH_ten)
      have hel : Hid (es.length = M.length) := Lib.hid (by rw [hes, eltsH_len HOK.out.1, hml])
      have HES := Lib.hid hes
      have HEE := Lib.hid hee
      obtain ⟨X, Y, hXY, K0⟩ := InvF.openY (gs := rowsH t p) (show InvF W wr (segY 67 10 (.slice (some ⟨b, 0, none⟩) M.length c) es :: ss) by rw [hes]; exact H.out) he (by rw [hee]; rfl)
      have HXY := Lib.hid hXY
      have hE0 : es.set j ([.int .i64 t.x, .int .i64 t.y, .int .i64 t.z, p.a, p.b, .int .i64 t.qx, .int .i64 t.qy, p.qa, p.qb, p.qs], e.2) = es := by
        have h5 : ([.int .i64 t.x, .int .i64 t.y, .int .i64 t.z, p.a, p.b, .int .i64 t.qx, .int .i64 t.qy, p.qa, p.qb, p.qs], e.2) = e := by rw [hee]; rfl
        rw [h5]
        apply List.ext_getElem?
        intro i
        rw [List.getElem?_set]
        by_cases hi : j = i
        · subst hi
          rw [if_pos rfl, if_pos (List.getElem?_eq_some_iff.1 he).1, he]
        · rw [if_neg hi]
      have K1 : Hid (InvF W wr ([(67, scN 10 (.slice (some ⟨b, 0, none⟩) M.length c), cellsE (es.set j ([.int .i64 t.x, .int .i64 t.y, .int .i64 t.z, p.a, p.b, .int .i64 t.qx, .int .i64 t.qy, p.qa, p.qb, p.qs], e.2)))] :: segB 5 p.a t.l :: segB 5 p.b t.k :: segB 5 p.qa t.ql :: segB 5 p.qb t.qk :: segS 25 5 p.qs p.vs t.L :: (X ++ Y) :: ss)) := Lib.hid (by rw [hE0]; exact K0)
      have hij : Hid (j < es.length) := Lib.hid (List.getElem?_eq_some_iff.1 he).1
      have HPJ := Lib.hid hp
      have HMJ : Hid (j < (MHd M k j).length) := Lib.hid (by rw [hml]; exact hlt)
      clear hE0 K0 hXY htm hp hml hes hee he H
      have hv : Hid (∀ cs : List Value, Value.slice (some ⟨b, 0, none⟩) M.length c = .slice (some ⟨b, 0, none⟩) (es.set j (cs, e.2)).length c) := Lib.hid (fun cs => by rw [List.length_set, hel.out])
      have hL : Hid (∀ cs : List Value, cs.length = 10 → ∀ x ∈ es.set j (cs, e.2), x.1.length = 10) := Lib.hid (fun cs h => set_lens hten.out h)
      have hG : Hid (∀ cs : List Value, (es.set j (cs, e.2))[j]? = some (cs, e.2)) := Lib.hid (fun cs => by rw [List.getElem?_set, if_pos rfl, if_pos hij.out])
      have hcc := fun n (hn : n < 10) => K1.out.cellY (hL.out _ rfl) (.head _) (hv.out [.int .i64 t.x, .int .i64 t.y, .int .i64 t.z, p.a, p.b, .int .i64 t.qx, .int .i64 t.qy, p.qa, p.qb, p.qs]) (hG.out _) hn
      have g0 := hcc 0 (by decide)
      have g1 := hcc 1 (by decide)
      have g2 := hcc 2 (by decide)
      have g3 := hcc 3 (by decide)
      clear hcc
      have f0 := K1.out.frY (hL.out _ rfl) (.head _) (hv.out [.int .i64 t.x, .int .i64 t.y, .int .i64 t.z, p.a, p.b, .int .i64 t.qx, .int .i64 t.qy, p.qa, p.qb, p.qs]) (j * 10 + 0)
      have f1 := K1.out.frY (hL.out _ rfl) (.head _) (hv.out [.int .i64 t.x, .int .i64 t.y, .int .i64 t.z, p.a, p.b, .int .i64 t.qx, .int .i64 t.qy, p.qa, p.qb, p.qs]) (j * 10 + 1)
      have f2 := K1.out.frY (hL.out _ rfl) (.head _) (hv.out [.int .i64 t.x, .int .i64 t.y, .int .i64 t.z, p.a, p.b, .int .i64 t.qx, .int .i64 t.qy, p.qa, p.qb, p.qs]) (j * 10 + 2)
      simp only [Nat.add_zero] at g0 f0
      obtain ⟨A1, e1, hpa, _⟩ := K1.out.slB 5 (.tail _ (.head _))
      obtain ⟨A2, e2, hpb, _⟩ := K1.out.slB 5 (.tail _ (.tail _ (.head _)))
      obtain ⟨A3, e3, hpqa, _⟩ := K1.out.slB 5 (.tail _ (.tail _ (.tail _ (.head _))))
      obtain ⟨A4, e4, hpqb, _⟩ := K1.out.slB 5 (.tail _ (.tail _ (.tail _ (.tail _ (.head _)))))
      obtain ⟨A5, e5, hpqs, _⟩ := K1.out.slS 25 5 hvs.out (.tail _ (.tail _ (.tail _ (.tail _ (.tail _ (.head _))))))
      obtain ⟨pa, pb, pqa, pqb, pqs, pvs⟩ := p
      dsimp only at *
      subst hpa hpb hpqa hpqb hpqs
      go_wp2_with fail
      have K2a := InvF.storeY (i := j) (j := 0) (hL.out [.int .i64 t.x, .int .i64 t.y, .int .i64 t.z, (.slice A1 t.l.length e1), (.slice A2 t.k.length e2), .int .i64 t.qx, .int .i64 t.qy, (.slice A3 t.ql.length e3), (.slice A4 t.qk.length e4), (.slice A5 t.L.length e5)] rfl) K1.out (hv.out _) (hG.out _) (by decide) (.int .i64 z0)
      rw [List.set_set] at K2a
      have K2b := InvF.storeY (i := j) (j := 1) (hL.out _ rfl) K2a (hv.out _) (hG.out _) (by decide) (.int .i64 (z0 + 1))
      rw [List.set_set] at K2b
      have K2c := InvF.storeY (i := j) (j := 2) (hL.out _ rfl) K2b (hv.out _) (hG.out _) (by decide) (.int .i64 (z0 + 1 + 1))
      rw [List.set_set] at K2c
      have K2 : Hid (InvF W (((wr.setCell ⟨b, j * 10, none⟩ (.int .i64 z0)).setCell ⟨b, j * 10 + 1, none⟩ (.int .i64 (z0 + 1))).setCell ⟨b, j * 10 + 2, none⟩ (.int .i64 (z0 + 1 + 1))) (segB 5 (.slice A1 t.l.length e1) t.l :: [(67, scN 10 (.slice (some ⟨b, 0, none⟩) M.length c), cellsE (es.set j ([.int .i64 z0, .int .i64 (z0 + 1), .int .i64 (z0 + 1 + 1), (.slice A1 t.l.length e1), (.slice A2 t.k.length e2), .int .i64 t.qx, .int .i64 t.qy, (.slice A3 t.ql.length e3), (.slice A4 t.qk.length e4), (.slice A5 t.L.length e5)], e.2)))] :: segB 5 (.slice A2 t.k.length e2) t.k :: segB 5 (.slice A3 t.ql.length e3) t.ql :: segB 5 (.slice A4 t.qk.length e4) t.qk :: segS 25 5 (.slice A5 t.L.length e5) pvs t.L :: (X ++ Y) :: ss)) := Lib.hid (K2c.front 1 rfl)
      clear K1 K2a K2b K2c g0 g1 g2 g3 f0 f1 f2
      refine (markByteS_z _ t.l (q + 3) _ _ _ (K2.out.ownB 5 (.head _)) (by have := HZ.out; omega) (by omega) (by omega)).mono ?_
      rintro ev w3 ⟨rfl, ho3, hg3⟩
      have K3 : InvF W w3 (segB 5 (.slice A1 t.l.length e1) (marks (q + 3) t.l.length) :: [(67, scN 10 (.slice (some ⟨b, 0, none⟩) M.length c), cellsE (es.set j ([.int .i64 z0, .int .i64 (z0 + 1), .int .i64 (z0 + 1 + 1), (.slice A1 t.l.length e1), (.slice A2 t.k.length e2), .int .i64 t.qx, .int .i64 t.qy, (.slice A3 t.ql.length e3), (.slice A4 t.qk.length e4), (.slice A5 t.L.length e5)], e.2)))] :: segB 5 (.slice A2 t.k.length e2) t.k :: segB 5 (.slice A3 t.ql.length e3) t.ql :: segB 5 (.slice A4 t.qk.length e4) t.qk :: segS 25 5 (.slice A5 t.L.length e5) pvs t.L :: (X ++ Y) :: ss) := K2.out.wroteB ho3 hg3
      clear K2 ho3 hg3
      have hcc := fun n (hn : n < 10) => K3.cellY (hL.out [.int .i64 z0, .int .i64 (z0 + 1), .int .i64 (z0 + 1 + 1), (.slice A1 t.l.length e1), (.slice A2 t.k.length e2), .int .i64 t.qx, .int .i64 t.qy, (.slice A3 t.ql.length e3), (.slice A4 t.qk.length e4), (.slice A5 t.L.length e5)] rfl) (.tail _ (.head _)) (hv.out [.int .i64 z0, .int .i64 (z0 + 1), .int .i64 (z0 + 1 + 1), (.slice A1 t.l.length e1), (.slice A2 t.k.length e2), .int .i64 t.qx, .int .i64 t.qy, (.slice A3 t.ql.length e3), (.slice A4 t.qk.length e4), (.slice A5 t.L.length e5)]) (hG.out _) hn
      have g4 := hcc 4 (by decide)
      clear hcc
      have K4 : Hid (InvF W w3 (segB 5 (.slice A2 t.k.length e2) t.k :: segB 5 (.slice A1 t.l.length e1) (marks (q + 3) t.l.length) :: [(67, scN 10 (.slice (some ⟨b, 0, none⟩) M.length c), cellsE (es.set j ([.int .i64 z0, .int .i64 (z0 + 1), .int .i64 (z0 + 1 + 1), (.slice A1 t.l.length e1), (.slice A2 t.k.length e2), .int .i64 t.qx, .int .i64 t.qy, (.slice A3 t.ql.length e3), (.slice A4 t.qk.length e4), (.slice A5 t.L.length e5)], e.2)))] :: segB 5 (.slice A3 t.ql.length e3) t.ql :: segB 5 (.slice A4 t.qk.length e4) t.qk :: segS 25 5 (.slice A5 t.L.length e5) pvs t.L :: (X ++ Y) :: ss)) := Lib.hid (K3.front 2 rfl)
      clear K3
      go_wp2_with fail
      clear g4
      refine (markByteS_z _ t.k (q + 3 + t.l.length) _ _ _ (K4.out.ownB 5 (.head _)) (by have := HZ.out; omega) (by omega) (by omega)).mono ?_
      rintro ev w5 ⟨rfl, ho5, hg5⟩
      have K5 : InvF W w5 (segB 5 (.slice A2 t.k.length e2) (marks (q + 3 + t.l.length) t.k.length) :: segB 5 (.slice A1 t.l.length e1) (marks (q + 3) t.l.length) :: [(67, scN 10 (.slice (some ⟨b, 0, none⟩) M.length c), cellsE (es.set j ([.int .i64 z0, .int .i64 (z0 + 1), .int .i64 (z0 + 1 + 1), (.slice A1 t.l.length e1), (.slice A2 t.k.length e2), .int .i64 t.qx, .int .i64 t.qy, (.slice A3 t.ql.length e3), (.slice A4 t.qk.length e4), (.slice A5 t.L.length e5)], e.2)))] :: segB 5 (.slice A3 t.ql.length e3) t.ql :: segB 5 (.slice A4 t.qk.length e4) t.qk :: segS 25 5 (.slice A5 t.L.length e5) pvs t.L :: (X ++ Y) :: ss) := K4.out.wroteB ho5 hg5
      clear K4 ho5 hg5
      have K6 : InvF W w5 ([(67, scN 10 (.slice (some ⟨b, 0, none⟩) M.length c), cellsE (es.set j ([.int .i64 z0, .int .i64 (z0 + 1), .int .i64 (z0 + 1 + 1), (.slice A1 t.l.length e1), (.slice A2 t.k.length e2), .int .i64 t.qx, .int .i64 t.qy, (.slice A3 t.ql.length e3), (.slice A4 t.qk.length e4), (.slice A5 t.L.length e5)], e.2)))] :: segB 5 (.slice A2 t.k.length e2) (marks (q + 3 + t.l.length) t.k.length) :: segB 5 (.slice A1 t.l.length e1) (marks (q + 3) t.l.length) :: segB 5 (.slice A3 t.ql.length e3) t.ql :: segB 5 (.slice A4 t.qk.length e4) t.qk :: segS 25 5 (.slice A5 t.L.length e5) pvs t.L :: (X ++ Y) :: ss) := K5.front 2 rfl
      have hcc := fun n (hn : n < 10) => K6.cellY (hL.out [.int .i64 z0, .int .i64 (z0 + 1), .int .i64 (z0 + 1 + 1), (.slice A1 t.l.length e1), (.slice A2 t.k.length e2), .int .i64 t.qx, .int .i64 t.qy, (.slice A3 t.ql.length e3), (.slice A4 t.qk.length e4), (.slice A5 t.L.length e5)] rfl) (.head _) (hv.out [.int .i64 z0, .int .i64 (z0 + 1), .int .i64 (z0 + 1 + 1), (.slice A1 t.l.length e1), (.slice A2 t.k.length e2), .int .i64 t.qx, .int .i64 t.qy, (.slice A3 t.ql.length e3), (.slice A4 t.qk.length e4), (.slice A5 t.L.length e5)]) (hG.out _) hn
      have g5 := hcc 5 (by decide)
      have g6 := hcc 6 (by decide)
      have g7 := hcc 7 (by decide)
      clear hcc
      have f5 := K6.frY (hL.out [.int .i64 z0, .int .i64 (z0 + 1), .int .i64 (z0 + 1 + 1), (.slice A1 t.l.length e1), (.slice A2 t.k.length e2), .int .i64 t.qx, .int .i64 t.qy, (.slice A3 t.ql.length e3), (.slice A4 t.qk.length e4), (.slice A5 t.L.length e5)] rfl) (.head _) (hv.out _) (j * 10 + 5)
      have f6 := K6.frY (hL.out [.int .i64 z0, .int .i64 (z0 + 1), .int .i64 (z0 + 1 + 1), (.slice A1 t.l.length e1), (.slice A2 t.k.length e2), .int .i64 t.qx, .int .i64 t.qy, (.slice A3 t.ql.length e3), (.slice A4 t.qk.length e4), (.slice A5 t.L.length e5)] rfl) (.head _) (hv.out _) (j * 10 + 6)
      have HK6 := Lib.hid K6
      clear K5 K6
      go_wp2_with fail
      clear g5 g6 g7 f5 f6
      have K7a := InvF.storeY (i := j) (j := 5) (hL.out [.int .i64 z0, .int .i64 (z0 + 1), .int .i64 (z0 + 1 + 1), (.slice A1 t.l.length e1), (.slice A2 t.k.length e2), .int .i64 t.qx, .int .i64 t.qy, (.slice A3 t.ql.length e3), (.slice A4 t.qk.length e4), (.slice A5 t.L.length e5)] rfl) HK6.out (hv.out _) (hG.out _) (by decide) (.int .i64 (z0 + 1 + 1 + 1 + (t.l.length : Int) + (t.k.length : Int)))
      rw [List.set_set] at K7a
      have K7b := InvF.storeY (i := j) (j := 6) (hL.out _ rfl) K7a (hv.out _) (hG.out _) (by decide) (.int .i64 (z0 + 1 + 1 + 1 + (t.l.length : Int) + (t.k.length : Int) + 1))
      rw [List.set_set] at K7b
      have K7 : Hid (InvF W ((w5.setCell ⟨b, j * 10 + 5, none⟩ (.int .i64 (z0 + 1 + 1 + 1 + (t.l.length : Int) + (t.k.length : Int)))).setCell ⟨b, j * 10 + 6, none⟩ (.int .i64 (z0 + 1 + 1 + 1 + (t.l.length : Int) + (t.k.length : Int) + 1))) (segB 5 (.slice A3 t.ql.length e3) t.ql :: [(67, scN 10 (.slice (some ⟨b, 0, none⟩) M.length c), cellsE (es.set j ([.int .i64 z0, .int .i64 (z0 + 1), .int .i64 (z0 + 1 + 1), (.slice A1 t.l.length e1), (.slice A2 t.k.length e2), .int .i64 (z0 + 1 + 1 + 1 + (t.l.length : Int) + (t.k.length : Int)), .int .i64 (z0 + 1 + 1 + 1 + (t.l.length : Int) + (t.k.length : Int) + 1), (.slice A3 t.ql.length e3), (.slice A4 t.qk.length e4), (.slice A5 t.L.length e5)], e.2)))] :: segB 5 (.slice A2 t.k.length e2) (marks (q + 3 + t.l.length) t.k.length) :: segB 5 (.slice A1 t.l.length e1) (marks (q + 3) t.l.length) :: segB 5 (.slice A4 t.qk.length e4) t.qk :: segS 25 5 (.slice A5 t.L.length e5) pvs t.L :: (X ++ Y) :: ss)) := Lib.hid (K7b.front 3 rfl)
      clear HK6 K7a K7b
      refine (markByteS_z _ t.ql (q + 5 + t.l.length + t.k.length) _ _ _ (K7.out.ownB 5 (.head _)) (by have := HZ.out; omega) (by omega) (by omega)).mono ?_
      rintro ev w8 ⟨rfl, ho8, hg8⟩
      have K8 : InvF W w8 (segB 5 (.slice A3 t.ql.length e3) (marks (q + 5 + t.l.length + t.k.length) t.ql.length) :: [(67, scN 10 (.slice (some ⟨b, 0, none⟩) M.length c), cellsE (es.set j ([.int .i64 z0, .int .i64 (z0 + 1), .int .i64 (z0 + 1 + 1), (.slice A1 t.l.length e1), (.slice A2 t.k.length e2), .int .i64 (z0 + 1 + 1 + 1 + (t.l.length : Int) + (t.k.length : Int)), .int .i64 (z0 + 1 + 1 + 1 + (t.l.length : Int) + (t.k.length : Int) + 1), (.slice A3 t.ql.length e3), (.slice A4 t.qk.length e4), (.slice A5 t.L.length e5)], e.2)))] :: segB 5 (.slice A2 t.k.length e2) (marks (q + 3 + t.l.length) t.k.length) :: segB 5 (.slice A1 t.l.length e1) (marks (q + 3) t.l.length) :: segB 5 (.slice A4 t.qk.length e4) t.qk :: segS 25 5 (.slice A5 t.L.length e5) pvs t.L :: (X ++ Y) :: ss) := K7.out.wroteB ho8 hg8
      clear K7 ho8 hg8
      have hcc := fun n (hn : n < 10) => K8.cellY (hL.out [.int .i64 z0, .int .i64 (z0 + 1), .int .i64 (z0 + 1 + 1), (.slice A1 t.l.length e1), (.slice A2 t.k.length e2), .int .i64 (z0 + 1 + 1 + 1 + (t.l.length : Int) + (t.k.length : Int)), .int .i64 (z0 + 1 + 1 + 1 + (t.l.length : Int) + (t.k.length : Int) + 1), (.slice A3 t.ql.length e3), (.slice A4 t.qk.length e4), (.slice A5 t.L.length e5)] rfl) (.tail _ (.head _)) (hv.out [.int .i64 z0, .int .i64 (z0 + 1), .int .i64 (z0 + 1 + 1), (.slice A1 t.l.length e1), (.slice A2 t.k.length e2), .int .i64 (z0 + 1 + 1 + 1 + (t.l.length : Int) + (t.k.length : Int)), .int .i64 (z0 + 1 + 1 + 1 + (t.l.length : Int) + (t.k.length : Int) + 1), (.slice A3 t.ql.length e3), (.slice A4 t.qk.length e4), (.slice A5 t.L.length e5)]) (hG.out _) hn
      have g8 := hcc 8 (by decide)
      clear hcc
      have K9 : Hid (InvF W w8 (segB 5 (.slice A4 t.qk.length e4) t.qk :: segB 5 (.slice A3 t.ql.length e3) (marks (q + 5 + t.l.length + t.k.length) t.ql.length) :: [(67, scN 10 (.slice (some ⟨b, 0, none⟩) M.length c), cellsE (es.set j ([.int .i64 z0, .int .i64 (z0 + 1), .int .i64 (z0 + 1 + 1), (.slice A1 t.l.length e1), (.slice A2 t.k.length e2), .int .i64 (z0 + 1 + 1 + 1 + (t.l.length : Int) + (t.k.length : Int)), .int .i64 (z0 + 1 + 1 + 1 + (t.l.length : Int) + (t.k.length : Int) + 1), (.slice A3 t.ql.length e3), (.slice A4 t.qk.length e4), (.slice A5 t.L.length e5)], e.2)))] :: segB 5 (.slice A2 t.k.length e2) (marks (q + 3 + t.l.length) t.k.length) :: segB 5 (.slice A1 t.l.length e1) (marks (q + 3) t.l.length) :: segS 25 5 (.slice A5 t.L.length e5) pvs t.L :: (X ++ Y) :: ss)) := Lib.hid (K8.front 4 rfl)
      clear K8
      go_wp2_with fail
      clear g8
      refine (markByteS_z _ t.qk (q + 5 + t.l.length + t.k.length + t.ql.length) _ _ _ (K9.out.ownB 5 (.head _)) (by have := HZ.out; omega) (by omega) (by omega)).mono ?_
      rintro ev w10 ⟨rfl, ho10, hg10⟩
      have K10 : InvF W w10 (segB 5 (.slice A4 t.qk.length e4) (marks (q + 5 + t.l.length + t.k.length + t.ql.length) t.qk.length) :: segB 5 (.slice A3 t.ql.length e3) (marks (q + 5 + t.l.length + t.k.length) t.ql.length) :: [(67, scN 10 (.slice (some ⟨b, 0, none⟩) M.length c), cellsE (es.set j ([.int .i64 z0, .int .i64 (z0 + 1), .int .i64 (z0 + 1 + 1), (.slice A1 t.l.length e1), (.slice A2 t.k.length e2), .int .i64 (z0 + 1 + 1 + 1 + (t.l.length : Int) + (t.k.length : Int)), .int .i64 (z0 + 1 + 1 + 1 + (t.l.length : Int) + (t.k.length : Int) + 1), (.slice A3 t.ql.length e3), (.slice A4 t.qk.length e4), (.slice A5 t.L.length e5)], e.2)))] :: segB 5 (.slice A2 t.k.length e2) (marks (q + 3 + t.l.length) t.k.length) :: segB 5 (.slice A1 t.l.length e1) (marks (q + 3) t.l.length) :: segS 25 5 (.slice A5 t.L.length e5) pvs t.L :: (X ++ Y) :: ss) := K9.out.wroteB ho10 hg10
      clear K9 ho10 hg10
      have hcc := fun n (hn : n < 10) => K10.cellY (hL.out [.int .i64 z0, .int .i64 (z0 + 1), .int .i64 (z0 + 1 + 1), (.slice A1 t.l.length e1), (.slice A2 t.k.length e2), .int .i64 (z0 + 1 + 1 + 1 + (t.l.length : Int) + (t.k.length : Int)), .int .i64 (z0 + 1 + 1 + 1 + (t.l.length : Int) + (t.k.length : Int) + 1), (.slice A3 t.ql.length e3), (.slice A4 t.qk.length e4), (.slice A5 t.L.length e5)] rfl) (.tail _ (.tail _ (.head _))) (hv.out [.int .i64 z0, .int .i64 (z0 + 1), .int .i64 (z0 + 1 + 1), (.slice A1 t.l.length e1), (.slice A2 t.k.length e2), .int .i64 (z0 + 1 + 1 + 1 + (t.l.length : Int) + (t.k.length : Int)), .int .i64 (z0 + 1 + 1 + 1 + (t.l.length : Int) + (t.k.length : Int) + 1), (.slice A3 t.ql.length e3), (.slice A4 t.qk.length e4), (.slice A5 t.L.length e5)]) (hG.out _) hn
      have g9 := hcc 9 (by decide)
      clear hcc
      have K11 : Hid (InvF W w10 (segS 25 5 (.slice A5 t.L.length e5) pvs t.L :: segB 5 (.slice A4 t.qk.length e4) (marks (q + 5 + t.l.length + t.k.length + t.ql.length) t.qk.length) :: segB 5 (.slice A3 t.ql.length e3) (marks (q + 5 + t.l.length + t.k.length) t.ql.length) :: [(67, scN 10 (.slice (some ⟨b, 0, none⟩) M.length c), cellsE (es.set j ([.int .i64 z0, .int .i64 (z0 + 1), .int .i64 (z0 + 1 + 1), (.slice A1 t.l.length e1), (.slice A2 t.k.length e2), .int .i64 (z0 + 1 + 1 + 1 + (t.l.length : Int) + (t.k.length : Int)), .int .i64 (z0 + 1 + 1 + 1 + (t.l.length : Int) + (t.k.length : Int) + 1), (.slice A3 t.ql.length e3), (.slice A4 t.qk.length e4), (.slice A5 t.L.length e5)], e.2)))] :: segB 5 (.slice A2 t.k.length e2) (marks (q + 3 + t.l.length) t.k.length) :: segB 5 (.slice A1 t.l.length e1) (marks (q + 3) t.l.length) :: (X ++ Y) :: ss)) := Lib.hid (K10.front 5 rfl)
      clear K10
      go_wp2_with fail
      clear g9
      refine (markByteSS_z W _ _ pvs t.L _ (q + 5 + t.l.length + t.k.length + t.ql.length + t.qk.length) _ hvs.out K11.out (by have := HZ.out; omega) (by omega) (by have := hsz.out.2.2.2.2; omega)).mono ?_
      rintro ev w12 ⟨rfl, K12⟩
      have K13 : InvF W w12 ([(67, scN 10 (.slice (some ⟨b, 0, none⟩) M.length c), cellsE (es.set j ([.int .i64 z0, .int .i64 (z0 + 1), .int .i64 (z0 + 1 + 1), (.slice A1 t.l.length e1), (.slice A2 t.k.length e2), .int .i64 (z0 + 1 + 1 + 1 + (t.l.length : Int) + (t.k.length : Int)), .int .i64 (z0 + 1 + 1 + 1 + (t.l.length : Int) + (t.k.length : Int) + 1), (.slice A3 t.ql.length e3), (.slice A4 t.qk.length e4), (.slice A5 t.L.length e5)], e.2)))] :: segB 5 (.slice A1 t.l.length e1) (marks (q + 3) t.l.length) :: segB 5 (.slice A2 t.k.length e2) (marks (q + 3 + t.l.length) t.k.length) :: segB 5 (.slice A3 t.ql.length e3) (marks (q + 5 + t.l.length + t.k.length) t.ql.length) :: segB 5 (.slice A4 t.qk.length e4) (marks (q + 5 + t.l.length + t.k.length + t.ql.length) t.qk.length) :: segS 25 5 (.slice A5 t.L.length e5) pvs (marksS (q + 5 + t.l.length + t.k.length + t.ql.length + t.qk.length) t.L) :: (X ++ Y) :: ss) := ((((K12.front 1 rfl).front 2 rfl).front 4 rfl).front 5 rfl).front 5 rfl
      clear K11 K12
      obtain ⟨t', ht'⟩ : ∃ t' : Ht, t' = ⟨z0, z0 + 1, z0 + 1 + 1, (marks (q + 3) t.l.length), (marks (q + 3 + t.l.length) t.k.length), (z0 + 1 + 1 + 1 + (t.l.length : Int) + (t.k.length : Int)), (z0 + 1 + 1 + 1 + (t.l.length : Int) + (t.k.length : Int) + 1), (marks (q + 5 + t.l.length + t.k.length) t.ql.length), (marks (q + 5 + t.l.length + t.k.length + t.ql.length) t.qk.length), (marksS (q + 5 + t.l.length + t.k.length + t.ql.length + t.qk.length) t.L)⟩ := ⟨_, rfl⟩
      obtain ⟨p, hpp⟩ : ∃ p : HP, p = ⟨.slice A1 t.l.length e1, .slice A2 t.k.length e2, .slice A3 t.ql.length e3, .slice A4 t.qk.length e4, .slice A5 t.L.length e5, pvs⟩ := ⟨_, rfl⟩
      have hce : cellsE (es.set j ([.int .i64 z0, .int .i64 (z0 + 1), .int .i64 (z0 + 1 + 1), (.slice A1 t.l.length e1), (.slice A2 t.k.length e2), .int .i64 (z0 + 1 + 1 + 1 + (t.l.length : Int) + (t.k.length : Int)), .int .i64 (z0 + 1 + 1 + 1 + (t.l.length : Int) + (t.k.length : Int) + 1), (.slice A3 t.ql.length e3), (.slice A4 t.qk.length e4), (.slice A5 t.L.length e5)], e.2)) = cellsE (es.set j (eltH t' p)) := by
        rw [ht', hpp]
        exact cellsE_fst hij.out
      rw [hce] at K13
      have K14 := InvF.closeY (es := es) (i := j) (e' := eltH t' p) (gs := rowsH t' p) HXY.out rfl (by rw [ht', hpp]; rw [ht', hpp] at K13; exact K13)
      have HES2 : Hid (es.set j (eltH t' p) = eltsH (MHd M k (j + 1)) ps ∧ OkH (MHd M k (j + 1)) ps) := Lib.hid (by
        have hps : ps.set j p = ps := by
          apply List.ext_getElem?
          intro i
          rw [List.getElem?_set]
          by_cases hi : j = i
          · subst hi
            rw [if_pos rfl, if_pos (List.getElem?_eq_some_iff.1 HPJ.out).1, HPJ.out, hpp]
          · rw [if_neg hi]
        have hmm : (MHd M k j).set j t' = MHd M k (j + 1) := by rw [ht', HT.out]
        refine ⟨by rw [HES.out, eltsH_set HMJ.out HOK.out.1, hmm, hps], ?_⟩
        have h9 := HOK.out.set (t := t') (p := p) HMJ.out (by rw [ht', hpp]; simp only [marksS_length]; exact hvs.out)
        rw [hmm, hps] at h9
        exact h9)
      rw [HES2.out.1] at K14
      have HK14 := Lib.hid K14
      clear K13 K14 hce ht' hpp HES HEE
      go_wp2
      go_roundw
      case rel => exact ⟨j + 1, by omega, by go_num, by refine congrArg _ (HN.out _ ?_); omega, Lib.hid HES2.out.2, HK14⟩
      case measure => simp [intOf]; omega
    · obtain rfl : j = M.length := by omega
      rw [MHd_full] at H
      rw [List.take_length]
      go_wp2
      go_ret
      exact ⟨rfl, H.out⟩

end Go.Proofs.Ytopbalemfljphaa
