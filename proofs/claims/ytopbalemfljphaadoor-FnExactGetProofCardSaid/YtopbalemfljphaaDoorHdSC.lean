/- The contracts of the helpers of exact laws on slices of headers: szHeadS, toHeadS, eqHeadS, markHeadS, heldHeadS. -/
import Derived.Test.YtopbalemfljphaaDoorHdS
import Derived.Test.YtopbalemfljphaaDoorMid
import Derived.Test.YtopbalemfljphaaDoorWat
namespace Go.Proofs.YtopbalemfljphaaDoor
open Go.ChangeShapes Go.WideShapes Go.ChangeAt Go.RowKit

/-- What szHeadS leaves of m. -/
def szHSZ (M : List Ht) (m : Int) : Int := if m < (M.length : Int) + (volH M : Int) then -1 else m - ((M.length : Int) + (volH M : Int))
theorem szHSZ_big {M : List Ht} {m : Int} (h : m < (M.length : Int) + (volH M : Int)) : szHSZ M m = -1 := if_pos h
theorem szHSZ_ok {M : List Ht} {m : Int} (h : ¬ m < (M.length : Int) + (volH M : Int)) : szHSZ M m = m - ((M.length : Int) + (volH M : Int)) := if_neg h
theorem szHZ_vol (t : Ht) (m : Int) : szHZ t.l t.k t.ql t.qk t.L m = if m < (volT t : Int) then -1 else m - (volT t : Int) := by
  have e : (volT t : Int) = (t.l.length : Int) + (t.k.length : Int) + (t.ql.length : Int) + (t.qk.length : Int) + (t.L.length : Int) + (sumL t.L : Int) := by unfold volT; omega
  rw [e]
  rfl
theorem HAtP.range {w : World} {B g o : Nat} {t : Ht} {a b qa qb qs : Value} (h : HAtP w B g o t a b qa qb qs) : w.rangeAt g o [.int .i64 t.x, .int .i64 t.y, .int .i64 t.z, a, b, .int .i64 t.qx, .int .i64 t.qy, qa, qb, qs] := fun j v hv => by
  obtain ⟨⟨c0, c1, c2, c3, c4, c5, c6, c7, c8, c9⟩, _⟩ := h
  have hj := (List.getElem?_eq_some_iff.1 hv).1
  simp only [List.length_cons, List.length_nil] at hj
  have h10 : j = 0 ∨ j = 1 ∨ j = 2 ∨ j = 3 ∨ j = 4 ∨ j = 5 ∨ j = 6 ∨ j = 7 ∨ j = 8 ∨ j = 9 := by omega
  rcases h10 with rfl | rfl | rfl | rfl | rfl | rfl | rfl | rfl | rfl | rfl <;> simp at hv <;> subst hv <;> assumption
theorem hinfo : (Tryd.prog.info? 78).map (fun i => (i.zero, i.size, i.bytes)) = some (some (.agg #[.int .i64 0, .int .i64 0, .int .i64 0, .slice none 0 0, .slice none 0 0, .int .i64 0, .int .i64 0, .slice none 0 0, .slice none 0 0, .slice none 0 0]), 10, 160) := by kernel_rfl
/-- A header that is all zero. -/
def zeroHc : List Value := [.int .i64 0, .int .i64 0, .int .i64 0, .slice none 0 0, .slice none 0 0, .int .i64 0, .int .i64 0, .slice none 0 0, .slice none 0 0, .slice none 0 0]
/-- What toHeadS has made after j headers. -/
def esH (M : List Ht) (ps : List HP) (n : Nat) : List Elt := eltsH M ps ++ List.replicate (n - M.length) (zeroHc, [])
theorem esH_len {M : List Ht} {ps : List HP} {n : Nat} (hl : ps.length = M.length) (h : M.length ≤ n) : (esH M ps n).length = n := by
  unfold esH
  rw [List.length_append, eltsH_len hl, List.length_replicate]
  omega
theorem esH_ten {M : List Ht} {ps : List HP} {n : Nat} : ∀ e ∈ esH M ps n, e.1.length = 10 := fun e he => by
  rcases List.mem_append.1 he with h | h
  · exact eltsH_ten e h
  · rw [List.eq_of_mem_replicate h]
    rfl
theorem esH_at {M : List Ht} {ps : List HP} {n : Nat} (hl : ps.length = M.length) (h : M.length < n) : (esH M ps n)[M.length]? = some (zeroHc, []) := by
  unfold esH
  rw [List.getElem?_append_right (by rw [eltsH_len hl]; exact Nat.le_refl _), eltsH_len hl, Nat.sub_self]
  exact List.getElem?_replicate_of_lt (by omega)
theorem esH_set {M : List Ht} {ps : List HP} {n : Nat} (hl : ps.length = M.length) (h : M.length < n) (t : Ht) (p : HP) : (esH M ps n).set M.length (eltH t p) = esH (M ++ [t]) (ps ++ [p]) n := by
  unfold esH
  rw [List.set_append_right _ _ (by rw [eltsH_len hl]; exact Nat.le_refl _), eltsH_len hl, Nat.sub_self, eltsH_snoc hl, List.length_append, List.length_singleton, show n - M.length = (n - (M.length + 1)) + 1 by omega, List.replicate_succ, List.set_cons_zero, List.append_assoc]
  rfl
theorem esH_full {M : List Ht} {ps : List HP} : esH M ps M.length = eltsH M ps := by simp [esH]
/-- The call returns a slice of headers of its own; nothing that was there has turned. -/
def FreshHd (w : World) (M : List Ht) (e : Ending) (w' : World) : Prop := ∃ v ps, e = .returned v ∧ OkH M ps ∧ InvF w w' [segH v ps M]
theorem cellsE_fst {es : List Elt} {i : Nat} {cs : List Value} {r r' : List Row} (hi : i < es.length) : cellsE (es.set i (cs, r)) = cellsE (es.set i (cs, r')) := by
  have e2 : ∀ r : List Row, es.set i (cs, r) = es.take i ++ (cs, r) :: es.drop (i + 1) := fun r => List.set_eq_take_append_cons_drop.trans (if_pos hi)
  rw [e2, e2, cellsE_app, cellsE_app, cellsE_cons, cellsE_cons]
/-- Ten cells of an element are written over, one by one. -/
theorem InvF.tenY {W w : World} {ss : List (List Row)} {T : TypeId} {g c i : Nat} {v : Value} {es : List Elt} {e : Elt} {q : List Row} (hl : ∀ e ∈ es, e.1.length = 10) (H : InvF W w (((T, scN 10 v, cellsE es) :: q) :: ss)) (hv : v = .slice (some ⟨g, 0, none⟩) es.length c) (he : es[i]? = some e) (u0 u1 u2 u3 u4 u5 u6 u7 u8 u9 : Value) :
    InvF W (w.setCells g (i * 10) [u0, u1, u2, u3, u4, u5, u6, u7, u8, u9]) (((T, scN 10 v, cellsE (es.set i ([u0, u1, u2, u3, u4, u5, u6, u7, u8, u9], e.2))) :: q) :: ss) := by
  have hi := (List.getElem?_eq_some_iff.1 he).1
  have key : ∀ (us : List Value) (o : Nat) (w : World) (cs : List Value), cs.length = 10 → o + us.length ≤ 10 → InvF W w (((T, scN 10 v, cellsE (es.set i (cs, e.2))) :: q) :: ss) → InvF W (w.setCells g (i * 10 + o) us) (((T, scN 10 v, cellsE (es.set i (wroteL cs o us, e.2))) :: q) :: ss) := by
    intro us
    induction us with
    | nil => intro o w cs _ _ h; exact h
    | cons u us ih =>
      intro o w cs hcs ho h
      simp only [List.length_cons] at ho
      have h1 := InvF.storeY (es := es.set i (cs, e.2)) (set_lens hl hcs) h (by rw [List.length_set]; exact hv) (i := i) (e := (cs, e.2)) (by rw [List.getElem?_set, if_pos rfl, if_pos hi]) (j := o) (by omega) u
      rw [List.set_set] at h1
      exact ih (o + 1) _ (cs.set o u) (by rw [List.length_set]; exact hcs) (by omega) h1
  have hee : es = es.set i (e.1, e.2) := by
    apply List.ext_getElem?
    intro j
    rw [List.getElem?_set]
    by_cases hj : i = j
    · subst hj
      rw [if_pos rfl, if_pos hi, he]
    · rw [if_neg hj]
  have h0 := H
  rw [hee] at h0
  have he1 := hl e (List.mem_of_getElem? he)
  have h2 := key [u0, u1, u2, u3, u4, u5, u6, u7, u8, u9] 0 w e.1 he1 (by simp) h0
  have h3 : wroteL e.1 0 [u0, u1, u2, u3, u4, u5, u6, u7, u8, u9] = [u0, u1, u2, u3, u4, u5, u6, u7, u8, u9] := by
    match e.1, he1 with
    | [_, _, _, _, _, _, _, _, _, _], _ => rfl
  rw [h3] at h2
  exact h2
theorem WF.cellOldH {W : World} {ss : List (List Row)} {b o : Nat} {u : Value} (hb : b < W.heap.size) (h : W.cell? ⟨b, o, none⟩ = some u) (z : WF W ss) : z.w.cell? ⟨b, o, none⟩ = some u := (z.h.bel.cell (p := ⟨b, o, none⟩) hb).trans h
set_option maxRecDepth 100000 in
set_option maxHeartbeats 4000000 in
theorem eqHeadS_any (v u : Value) (M : List Ht) (w : World) (h : SlH w w.heap.size v M) (h' : SlH w w.heap.size u M) :
    Calls Tryd.prog 24 #[v, u] w (Yes w) := by
  obtain ⟨A, c, rfl, h1, h2, h0, h3⟩ := h
  obtain ⟨A', c', rfl, h1', h2', h0', h3'⟩ := h'
  unfold maxLen at h2 h2'
  clear h0 h0'
  have hne : ((M.length : Int) != (M.length : Int)) = false := by simp
  go_enter Tryd.func24, Tryd.ntmps24
  go_wp2
  go_loopw [5] (fun i wr => ∃ k : Nat, k ≤ M.length ∧ i = .int .i64 k ∧ Hid (Below w.heap.size w wr))
    (fun i _ => M.length - (intOf i).toNat)
  case atStart => exact ⟨0, Nat.zero_le _, rfl, Lib.hid (Below.refl _ _)⟩
  case round =>
    obtain ⟨k, hk, rfl, HB⟩ := hrel
    by_cases hlt : k < M.length
    · obtain ⟨b, off, rfl, hbb, hcell⟩ := h3 (by omega)
      obtain ⟨b', off', rfl, hbb', hcell'⟩ := h3' (by omega)
      obtain ⟨t, ht⟩ := getH hlt
      obtain ⟨ua, ub, uqa, uqb, uqs, hat⟩ := (hcell k t ht).below HB.out hbb
      obtain ⟨va, vb, vqa, vqb, vqs, hat'⟩ := (hcell' k t ht).below HB.out hbb'
      have hle := HB.out.size
      have R1 := Lib.hid hat.range
      have R2 := Lib.hid hat'.range
      have hb1 : b < wr.heap.size := by omega
      have hb2 : b' < wr.heap.size := by omega
      have p1 := hat.2
      have p2 := hat'.2
      have Q := Lib.hid (fun x : WF wr [] => x.below (eqHead_any t.x t.y t.z t.qx t.qy ua ub uqa uqb uqs va vb vqa vqb vqs t.l t.k t.ql t.qk t.L x.w ((p1.1.mono hle).up x.h.bel) ((p1.2.1.mono hle).up x.h.bel) ((p1.2.2.1.mono hle).up x.h.bel) ((p1.2.2.2.1.mono hle).up x.h.bel) ((p1.2.2.2.2.mono hle).up x.h.bel) ((p2.1.mono hle).up x.h.bel) ((p2.2.1.mono hle).up x.h.bel) ((p2.2.2.1.mono hle).up x.h.bel) ((p2.2.2.2.1.mono hle).up x.h.bel) ((p2.2.2.2.2.mono hle).up x.h.bel)))
      obtain ⟨⟨c0, c1, c2, c3, c4, c5, c6, c7, c8, c9⟩, _⟩ := hat
      obtain ⟨⟨d0, d1, d2, d3, d4, d5, d6, d7, d8, d9⟩, _⟩ := hat'
      replace c0 := WF.cellOldH (ss := []) hb1 c0; replace d0 := WF.cellOldH (ss := []) hb2 d0
      replace c1 := WF.cellOldH (ss := []) hb1 c1; replace d1 := WF.cellOldH (ss := []) hb2 d1
      replace c2 := WF.cellOldH (ss := []) hb1 c2; replace d2 := WF.cellOldH (ss := []) hb2 d2
      replace c3 := WF.cellOldH (ss := []) hb1 c3; replace d3 := WF.cellOldH (ss := []) hb2 d3
      replace c4 := WF.cellOldH (ss := []) hb1 c4; replace d4 := WF.cellOldH (ss := []) hb2 d4
      replace c5 := WF.cellOldH (ss := []) hb1 c5; replace d5 := WF.cellOldH (ss := []) hb2 d5
      replace c6 := WF.cellOldH (ss := []) hb1 c6; replace d6 := WF.cellOldH (ss := []) hb2 d6
      replace c7 := WF.cellOldH (ss := []) hb1 c7; replace d7 := WF.cellOldH (ss := []) hb2 d7
      replace c8 := WF.cellOldH (ss := []) hb1 c8; replace d8 := WF.cellOldH (ss := []) hb2 d8
      replace c9 := WF.cellOldH (ss := []) hb1 c9; replace d9 := WF.cellOldH (ss := []) hb2 d9
      have hne : Nonempty (WF wr []) := ⟨⟨wr, InvF.start wr⟩⟩
      clear hcell hcell' h3 h3' p1 p2 hbb hbb' ht R1 R2
      generalize t.x = tx at *; generalize t.y = ty at *; generalize t.z = tz at *; generalize t.qx = tqx at *; generalize t.qy = tqy at *
      go_wp2_with fail
      refine wp_region_wf (by kernel_rfl) (by kernel_rfl) (InvF.start wr) ?_
      repeat (go_big_quiet_step ((go_at_call 50; exact Q.out _)))
      refine wpQuiet_nil ?_
      rintro _ ⟨z, rfl⟩
      have HZ := Lib.hid (HB.out.trans (z.h.bel.mono hle))
      go_wp2
      go_roundw
      case rel => exact ⟨k + 1, by omega, by go_num, HZ⟩
      case measure => simp [intOf]; omega
    · obtain rfl : k = M.length := by omega
      go_wp2
      go_ret
      exact ⟨rfl, HB.out⟩

set_option maxRecDepth 100000 in
set_option maxHeartbeats 8000000 in
theorem markHeadS_z (W w : World) (v : Value) (ps : List HP) (M : List Ht) (ss : List (List Row)) (k : Nat) (kz : Int) (hp : OkH M ps) (H : InvF W w (segH v ps M :: ss)) (hz : kz = (k : Int)) (hk : k ≤ 134217728) (hm : mkH M ≤ 8388608) :
    Calls Tryd.prog 26 #[v, .int .i64 kz] w (fun e w' => e = .returned (.int .i64 (kz + (mkH M : Int))) ∧ InvF W w' (segH v ps (marksH k M) :: ss)) := by
  subst hz
  obtain ⟨A, c, rfl, h1, h2, h0, h3⟩ := H.formH hp (.head _)
  unfold maxLen at h2
  clear h0
  have HP0 := Lib.hid hp
  have HM0 := Lib.hid hm
  have hA : 0 < M.length → ∃ b, A = some ⟨b, 0, none⟩ := fun hq => by
    obtain ⟨g, e, _⟩ := h3 hq
    exact ⟨g, e⟩
  clear h3 hp hm
  go_enter Tryd.func26, Tryd.ntmps26
  go_wp2
  go_loopw [1, 5] (fun q i wr => ∃ j : Nat, j ≤ M.length ∧ i = .int .i64 j ∧ q = .int .i64 ((k : Int) + (mkH (M.take j) : Int)) ∧ Hid (OkH (MHd M k j) ps) ∧ Hid (InvF W wr (segH (.slice A M.length c) ps (MHd M k j) :: ss)))
    (fun _ i _ => M.length - (intOf i).toNat)
  case atStart => exact ⟨0, Nat.zero_le _, rfl, by simp [mkH], by rw [MHd_zero]; exact HP0, Lib.hid (by rw [MHd_zero]; exact H)⟩
  case round =>
    clear H
    obtain ⟨j, hj, rfl, rfl, HOK, H⟩ := hrel
    have hml := MHd_length M k j hj
    by_cases hlt : j < M.length
    · obtain ⟨b, rfl⟩ := hA (by omega)
      obtain ⟨t, ht⟩ := getH hlt
      have htm := MHd_at M k j t ht
      obtain ⟨p, hp⟩ : ∃ p, ps[j]? = some p := ⟨ps[j]'(by have := HP0.out.1; omega), List.getElem?_eq_getElem (by have := HP0.out.1; omega)⟩
      have hvs : Hid (p.vs.length = t.L.length) := Lib.hid (HP0.out.2 j t p ht hp)
      have hnext := mkH_take M j t ht
      have hle := mkH_le M (j + 1)
      have hm := HM0.out
      obtain ⟨q, hq⟩ : ∃ q, q = k + mkH (M.take j) := ⟨_, rfl⟩
      obtain ⟨z0, hz0⟩ : ∃ z0 : Int, z0 = (k : Int) + (mkH (M.take j) : Int) := ⟨_, rfl⟩
      have hzq : z0 = (q : Int) := by omega
      have hzlo : 0 ≤ z0 := by omega
      have hzhi : z0 ≤ 268435456 := by omega
      have hqb : q ≤ 268435456 := by omega
      have hmt : mkT t ≤ 8388608 := by omega
      have hsz : Hid (t.l.length ≤ 8388608 ∧ t.k.length ≤ 8388608 ∧ t.ql.length ≤ 8388608 ∧ t.qk.length ≤ 8388608 ∧ sumL t.L ≤ 8388608) := Lib.hid (by unfold mkT at hmt; omega)
      have hszl : t.l.length ≤ 8388608 := hsz.out.1
      have hszk : t.k.length ≤ 8388608 := hsz.out.2.1
      have hszql : t.ql.length ≤ 8388608 := hsz.out.2.2.1
      have hszqk : t.qk.length ≤ 8388608 := hsz.out.2.2.2.1
      have hmte : mkT t = t.l.length + t.k.length + t.ql.length + t.qk.length + sumL t.L + 5 := rfl
      rw [← hz0]
      have HZ := Lib.hid hzq
      have HN : Hid (∀ z : Int, z = z0 + 1 + 1 + 1 + (t.l.length : Int) + (t.k.length : Int) + 1 + 1 + (t.ql.length : Int) + (t.qk.length : Int) + (sumL t.L : Int) → z = (k : Int) + (mkH (M.take (j + 1)) : Int)) := Lib.hid (fun z hz => by omega)
      have HT : Hid ((MHd M k j).set j ⟨z0, z0 + 1, z0 + 1 + 1, (marks (q + 3) t.l.length), (marks (q + 3 + t.l.length) t.k.length), (z0 + 1 + 1 + 1 + (t.l.length : Int) + (t.k.length : Int)), (z0 + 1 + 1 + 1 + (t.l.length : Int) + (t.k.length : Int) + 1), (marks (q + 5 + t.l.length + t.k.length) t.ql.length), (marks (q + 5 + t.l.length + t.k.length + t.ql.length) t.qk.length), (marksS (q + 5 + t.l.length + t.k.length + t.ql.length + t.qk.length) t.L)⟩ = MHd M k (j + 1)) := Lib.hid (by
        rw [← MHd_set M k j t ht, ← hq]
        unfold markHT
        congr 2 <;> omega)
      clear hz0 hzq hq hnext hle hm hmt hmte ht
      obtain ⟨es, hes⟩ : ∃ es, es = eltsH (MHd M k j) ps := ⟨_, rfl⟩
      obtain ⟨e, hee⟩ : ∃ e, e = eltH t p := ⟨_, rfl⟩
      have he : es[j]? = some e := by rw [hes, hee]; exact eltsH_get htm hp
      have hten : Hid (∀ e ∈ es, e.1.length = 10) := Lib.hid (by rw [hes]; exact eltsH_ten)
      have hel : Hid (es.length = M.length) := Lib.hid (by rw [hes, eltsH_len HOK.out.1, hml])
      have HES := Lib.hid hes
      have HEE := Lib.hid hee
      obtain ⟨X, Y, hXY, K0⟩ := InvF.openY (gs := rowsH t p) (show InvF W wr (segY 78 10 (.slice (some ⟨b, 0, none⟩) M.length c) es :: ss) by rw [hes]; exact H.out) he (by rw [hee]; rfl)
      have HXY := Lib.hid hXY
      have hE0 : es.set j ([.int .i64 t.x, .int .i64 t.y, .int .i64 t.z, p.a, p.b, .int .i64 t.qx, .int .i64 t.qy, p.qa, p.qb, p.qs], e.2) = es := by
        have h5 : ([.int .i64 t.x, .int .i64 t.y, .int .i64 t.z, p.a, p.b, .int .i64 t.qx, .int .i64 t.qy, p.qa, p.qb, p.qs], e.2) = e := by rw [hee]; rfl
        rw [h5]
        apply List.ext_getElem?
        intro i
        rw [List.getElem?_set]
        by_cases hi : j = i
        · subst hi
          rw [if_pos rfl, if_pos (List.getElem?_eq_some_iff.1 he).1, he]
        · rw [if_neg hi]
      have K1 : Hid (InvF W wr ([(78, scN 10 (.slice (some ⟨b, 0, none⟩) M.length c), cellsE (es.set j ([.int .i64 t.x, .int .i64 t.y, .int .i64 t.z, p.a, p.b, .int .i64 t.qx, .int .i64 t.qy, p.qa, p.qb, p.qs], e.2)))] :: segB 5 p.a t.l :: segB 5 p.b t.k :: segB 5 p.qa t.ql :: segB 5 p.qb t.qk :: segS 24 5 p.qs p.vs t.L :: (X ++ Y) :: ss)) := Lib.hid (by rw [hE0]; exact K0)
      have hij : Hid (j < es.length) := Lib.hid (List.getElem?_eq_some_iff.1 he).1
      have HPJ := Lib.hid hp
      have HMJ : Hid (j < (MHd M k j).length) := Lib.hid (by rw [hml]; exact hlt)
      clear hE0 K0 hXY htm hp hml hes hee he H
      have hv : Hid (∀ cs : List Value, Value.slice (some ⟨b, 0, none⟩) M.length c = .slice (some ⟨b, 0, none⟩) (es.set j (cs, e.2)).length c) := Lib.hid (fun cs => by rw [List.length_set, hel.out])
      have hL : Hid (∀ cs : List Value, cs.length = 10 → ∀ x ∈ es.set j (cs, e.2), x.1.length = 10) := Lib.hid (fun cs h => set_lens hten.out h)
      have hG : Hid (∀ cs : List Value, (es.set j (cs, e.2))[j]? = some (cs, e.2)) := Lib.hid (fun cs => by rw [List.getElem?_set, if_pos rfl, if_pos hij.out])
      have hcc := fun n (hn : n < 10) => K1.out.cellY (hL.out _ rfl) (.head _) (hv.out [.int .i64 t.x, .int .i64 t.y, .int .i64 t.z, p.a, p.b, .int .i64 t.qx, .int .i64 t.qy, p.qa, p.qb, p.qs]) (hG.out _) hn
      have g0 := hcc 0 (by decide)
      have g1 := hcc 1 (by decide)
      have g2 := hcc 2 (by decide)
      have g3 := hcc 3 (by decide)
      clear hcc
      have f0 := K1.out.frY (hL.out _ rfl) (.head _) (hv.out [.int .i64 t.x, .int .i64 t.y, .int .i64 t.z, p.a, p.b, .int .i64 t.qx, .int .i64 t.qy, p.qa, p.qb, p.qs]) (j * 10 + 0)
      have f1 := K1.out.frY (hL.out _ rfl) (.head _) (hv.out [.int .i64 t.x, .int .i64 t.y, .int .i64 t.z, p.a, p.b, .int .i64 t.qx, .int .i64 t.qy, p.qa, p.qb, p.qs]) (j * 10 + 1)
      have f2 := K1.out.frY (hL.out _ rfl) (.head _) (hv.out [.int .i64 t.x, .int .i64 t.y, .int .i64 t.z, p.a, p.b, .int .i64 t.qx, .int .i64 t.qy, p.qa, p.qb, p.qs]) (j * 10 + 2)
      simp only [Nat.add_zero] at g0 f0
      obtain ⟨A1, e1, hpa, _⟩ := K1.out.slB 5 (.tail _ (.head _))
      obtain ⟨A2, e2, hpb, _⟩ := K1.out.slB 5 (.tail _ (.tail _ (.head _)))
      obtain ⟨A3, e3, hpqa, _⟩ := K1.out.slB 5 (.tail _ (.tail _ (.tail _ (.head _))))
      obtain ⟨A4, e4, hpqb, _⟩ := K1.out.slB 5 (.tail _ (.tail _ (.tail _ (.tail _ (.head _)))))
      obtain ⟨A5, e5, hpqs, _⟩ := K1.out.slS 24 5 hvs.out (.tail _ (.tail _ (.tail _ (.tail _ (.tail _ (.head _))))))
      obtain ⟨pa, pb, pqa, pqb, pqs, pvs⟩ := p
      dsimp only at *
      subst hpa hpb hpqa hpqb hpqs
      go_wp2_with fail
      have K2a := InvF.storeY (i := j) (j := 0) (hL.out [.int .i64 t.x, .int .i64 t.y, .int .i64 t.z, (.slice A1 t.l.length e1), (.slice A2 t.k.length e2), .int .i64 t.qx, .int .i64 t.qy, (.slice A3 t.ql.length e3), (.slice A4 t.qk.length e4), (.slice A5 t.L.length e5)] rfl) K1.out (hv.out _) (hG.out _) (by decide) (.int .i64 z0)
      rw [List.set_set] at K2a
      have K2b := InvF.storeY (i := j) (j := 1) (hL.out _ rfl) K2a (hv.out _) (hG.out _) (by decide) (.int .i64 (z0 + 1))
      rw [List.set_set] at K2b
      have K2c := InvF.storeY (i := j) (j := 2) (hL.out _ rfl) K2b (hv.out _) (hG.out _) (by decide) (.int .i64 (z0 + 1 + 1))
      rw [List.set_set] at K2c
      have K2 : Hid (InvF W (((wr.setCell ⟨b, j * 10, none⟩ (.int .i64 z0)).setCell ⟨b, j * 10 + 1, none⟩ (.int .i64 (z0 + 1))).setCell ⟨b, j * 10 + 2, none⟩ (.int .i64 (z0 + 1 + 1))) (segB 5 (.slice A1 t.l.length e1) t.l :: [(78, scN 10 (.slice (some ⟨b, 0, none⟩) M.length c), cellsE (es.set j ([.int .i64 z0, .int .i64 (z0 + 1), .int .i64 (z0 + 1 + 1), (.slice A1 t.l.length e1), (.slice A2 t.k.length e2), .int .i64 t.qx, .int .i64 t.qy, (.slice A3 t.ql.length e3), (.slice A4 t.qk.length e4), (.slice A5 t.L.length e5)], e.2)))] :: segB 5 (.slice A2 t.k.length e2) t.k :: segB 5 (.slice A3 t.ql.length e3) t.ql :: segB 5 (.slice A4 t.qk.length e4) t.qk :: segS 24 5 (.slice A5 t.L.length e5) pvs t.L :: (X ++ Y) :: ss)) := Lib.hid (K2c.front 1 rfl)
      clear K1 K2a K2b K2c g0 g1 g2 g3 f0 f1 f2
      refine (markByteS_z _ t.l (q + 3) _ _ _ (K2.out.ownB 5 (.head _)) (by have := HZ.out; omega) (by omega) (by omega)).mono ?_
      rintro ev w3 ⟨rfl, ho3, hg3⟩
      have K3 : InvF W w3 (segB 5 (.slice A1 t.l.length e1) (marks (q + 3) t.l.length) :: [(78, scN 10 (.slice (some ⟨b, 0, none⟩) M.length c), cellsE (es.set j ([.int .i64 z0, .int .i64 (z0 + 1), .int .i64 (z0 + 1 + 1), (.slice A1 t.l.length e1), (.slice A2 t.k.length e2), .int .i64 t.qx, .int .i64 t.qy, (.slice A3 t.ql.length e3), (.slice A4 t.qk.length e4), (.slice A5 t.L.length e5)], e.2)))] :: segB 5 (.slice A2 t.k.length e2) t.k :: segB 5 (.slice A3 t.ql.length e3) t.ql :: segB 5 (.slice A4 t.qk.length e4) t.qk :: segS 24 5 (.slice A5 t.L.length e5) pvs t.L :: (X ++ Y) :: ss) := K2.out.wroteB ho3 hg3
      clear K2 ho3 hg3
      have hcc := fun n (hn : n < 10) => K3.cellY (hL.out [.int .i64 z0, .int .i64 (z0 + 1), .int .i64 (z0 + 1 + 1), (.slice A1 t.l.length e1), (.slice A2 t.k.length e2), .int .i64 t.qx, .int .i64 t.qy, (.slice A3 t.ql.length e3), (.slice A4 t.qk.length e4), (.slice A5 t.L.length e5)] rfl) (.tail _ (.head _)) (hv.out [.int .i64 z0, .int .i64 (z0 + 1), .int .i64 (z0 + 1 + 1), (.slice A1 t.l.length e1), (.slice A2 t.k.length e2), .int .i64 t.qx, .int .i64 t.qy, (.slice A3 t.ql.length e3), (.slice A4 t.qk.length e4), (.slice A5 t.L.length e5)]) (hG.out _) hn
      have g4 := hcc 4 (by decide)
      clear hcc
      have K4 : Hid (InvF W w3 (segB 5 (.slice A2 t.k.length e2) t.k :: segB 5 (.slice A1 t.l.length e1) (marks (q + 3) t.l.length) :: [(78, scN 10 (.slice (some ⟨b, 0, none⟩) M.length c), cellsE (es.set j ([.int .i64 z0, .int .i64 (z0 + 1), .int .i64 (z0 + 1 + 1), (.slice A1 t.l.length e1), (.slice A2 t.k.length e2), .int .i64 t.qx, .int .i64 t.qy, (.slice A3 t.ql.length e3), (.slice A4 t.qk.length e4), (.slice A5 t.L.length e5)], e.2)))] :: segB 5 (.slice A3 t.ql.length e3) t.ql :: segB 5 (.slice A4 t.qk.length e4) t.qk :: segS 24 5 (.slice A5 t.L.length e5) pvs t.L :: (X ++ Y) :: ss)) := Lib.hid (K3.front 2 rfl)
      clear K3
      go_wp2_with fail
      clear g4
      refine (markByteS_z _ t.k (q + 3 + t.l.length) _ _ _ (K4.out.ownB 5 (.head _)) (by have := HZ.out; omega) (by omega) (by omega)).mono ?_
      rintro ev w5 ⟨rfl, ho5, hg5⟩
      have K5 : InvF W w5 (segB 5 (.slice A2 t.k.length e2) (marks (q + 3 + t.l.length) t.k.length) :: segB 5 (.slice A1 t.l.length e1) (marks (q + 3) t.l.length) :: [(78, scN 10 (.slice (some ⟨b, 0, none⟩) M.length c), cellsE (es.set j ([.int .i64 z0, .int .i64 (z0 + 1), .int .i64 (z0 + 1 + 1), (.slice A1 t.l.length e1), (.slice A2 t.k.length e2), .int .i64 t.qx, .int .i64 t.qy, (.slice A3 t.ql.length e3), (.slice A4 t.qk.length e4), (.slice A5 t.L.length e5)], e.2)))] :: segB 5 (.slice A3 t.ql.length e3) t.ql :: segB 5 (.slice A4 t.qk.length e4) t.qk :: segS 24 5 (.slice A5 t.L.length e5) pvs t.L :: (X ++ Y) :: ss) := K4.out.wroteB ho5 hg5
      clear K4 ho5 hg5
      have K6 : InvF W w5 ([(78, scN 10 (.slice (some ⟨b, 0, none⟩) M.length c), cellsE (es.set j ([.int .i64 z0, .int .i64 (z0 + 1), .int .i64 (z0 + 1 + 1), (.slice A1 t.l.length e1), (.slice A2 t.k.length e2), .int .i64 t.qx, .int .i64 t.qy, (.slice A3 t.ql.length e3), (.slice A4 t.qk.length e4), (.slice A5 t.L.length e5)], e.2)))] :: segB 5 (.slice A2 t.k.length e2) (marks (q + 3 + t.l.length) t.k.length) :: segB 5 (.slice A1 t.l.length e1) (marks (q + 3) t.l.length) :: segB 5 (.slice A3 t.ql.length e3) t.ql :: segB 5 (.slice A4 t.qk.length e4) t.qk :: segS 24 5 (.slice A5 t.L.length e5) pvs t.L :: (X ++ Y) :: ss) := K5.front 2 rfl
      have hcc := fun n (hn : n < 10) => K6.cellY (hL.out [.int .i64 z0, .int .i64 (z0 + 1), .int .i64 (z0 + 1 + 1), (.slice A1 t.l.length e1), (.slice A2 t.k.length e2), .int .i64 t.qx, .int .i64 t.qy, (.slice A3 t.ql.length e3), (.slice A4 t.qk.length e4), (.slice A5 t.L.length e5)] rfl) (.head _) (hv.out [.int .i64 z0, .int .i64 (z0 + 1), .int .i64 (z0 + 1 + 1), (.slice A1 t.l.length e1), (.slice A2 t.k.length e2), .int .i64 t.qx, .int .i64 t.qy, (.slice A3 t.ql.length e3), (.slice A4 t.qk.length e4), (.slice A5 t.L.length e5)]) (hG.out _) hn
      have g5 := hcc 5 (by decide)
      have g6 := hcc 6 (by decide)
      have g7 := hcc 7 (by decide)
      clear hcc
      have f5 := K6.frY (hL.out [.int .i64 z0, .int .i64 (z0 + 1), .int .i64 (z0 + 1 + 1), (.slice A1 t.l.length e1), (.slice A2 t.k.length e2), .int .i64 t.qx, .int .i64 t.qy, (.slice A3 t.ql.length e3), (.slice A4 t.qk.length e4), (.slice A5 t.L.length e5)] rfl) (.head _) (hv.out _) (j * 10 + 5)
      have f6 := K6.frY (hL.out [.int .i64 z0, .int .i64 (z0 + 1), .int .i64 (z0 + 1 + 1), (.slice A1 t.l.length e1), (.slice A2 t.k.length e2), .int .i64 t.qx, .int .i64 t.qy, (.slice A3 t.ql.length e3), (.slice A4 t.qk.length e4), (.slice A5 t.L.length e5)] rfl) (.head _) (hv.out _) (j * 10 + 6)
      have HK6 := Lib.hid K6
      clear K5 K6
      go_wp2_with fail
      clear g5 g6 g7 f5 f6
      have K7a := InvF.storeY (i := j) (j := 5) (hL.out [.int .i64 z0, .int .i64 (z0 + 1), .int .i64 (z0 + 1 + 1), (.slice A1 t.l.length e1), (.slice A2 t.k.length e2), .int .i64 t.qx, .int .i64 t.qy, (.slice A3 t.ql.length e3), (.slice A4 t.qk.length e4), (.slice A5 t.L.length e5)] rfl) HK6.out (hv.out _) (hG.out _) (by decide) (.int .i64 (z0 + 1 + 1 + 1 + (t.l.length : Int) + (t.k.length : Int)))
      rw [List.set_set] at K7a
      have K7b := InvF.storeY (i := j) (j := 6) (hL.out _ rfl) K7a (hv.out _) (hG.out _) (by decide) (.int .i64 (z0 + 1 + 1 + 1 + (t.l.length : Int) + (t.k.length : Int) + 1))
      rw [List.set_set] at K7b
      have K7 : Hid (InvF W ((w5.setCell ⟨b, j * 10 + 5, none⟩ (.int .i64 (z0 + 1 + 1 + 1 + (t.l.length : Int) + (t.k.length : Int)))).setCell ⟨b, j * 10 + 6, none⟩ (.int .i64 (z0 + 1 + 1 + 1 + (t.l.length : Int) + (t.k.length : Int) + 1))) (segB 5 (.slice A3 t.ql.length e3) t.ql :: [(78, scN 10 (.slice (some ⟨b, 0, none⟩) M.length c), cellsE (es.set j ([.int .i64 z0, .int .i64 (z0 + 1), .int .i64 (z0 + 1 + 1), (.slice A1 t.l.length e1), (.slice A2 t.k.length e2), .int .i64 (z0 + 1 + 1 + 1 + (t.l.length : Int) + (t.k.length : Int)), .int .i64 (z0 + 1 + 1 + 1 + (t.l.length : Int) + (t.k.length : Int) + 1), (.slice A3 t.ql.length e3), (.slice A4 t.qk.length e4), (.slice A5 t.L.length e5)], e.2)))] :: segB 5 (.slice A2 t.k.length e2) (marks (q + 3 + t.l.length) t.k.length) :: segB 5 (.slice A1 t.l.length e1) (marks (q + 3) t.l.length) :: segB 5 (.slice A4 t.qk.length e4) t.qk :: segS 24 5 (.slice A5 t.L.length e5) pvs t.L :: (X ++ Y) :: ss)) := Lib.hid (K7b.front 3 rfl)
      clear HK6 K7a K7b
      refine (markByteS_z _ t.ql (q + 5 + t.l.length + t.k.length) _ _ _ (K7.out.ownB 5 (.head _)) (by have := HZ.out; omega) (by omega) (by omega)).mono ?_
      rintro ev w8 ⟨rfl, ho8, hg8⟩
      have K8 : InvF W w8 (segB 5 (.slice A3 t.ql.length e3) (marks (q + 5 + t.l.length + t.k.length) t.ql.length) :: [(78, scN 10 (.slice (some ⟨b, 0, none⟩) M.length c), cellsE (es.set j ([.int .i64 z0, .int .i64 (z0 + 1), .int .i64 (z0 + 1 + 1), (.slice A1 t.l.length e1), (.slice A2 t.k.length e2), .int .i64 (z0 + 1 + 1 + 1 + (t.l.length : Int) + (t.k.length : Int)), .int .i64 (z0 + 1 + 1 + 1 + (t.l.length : Int) + (t.k.length : Int) + 1), (.slice A3 t.ql.length e3), (.slice A4 t.qk.length e4), (.slice A5 t.L.length e5)], e.2)))] :: segB 5 (.slice A2 t.k.length e2) (marks (q + 3 + t.l.length) t.k.length) :: segB 5 (.slice A1 t.l.length e1) (marks (q + 3) t.l.length) :: segB 5 (.slice A4 t.qk.length e4) t.qk :: segS 24 5 (.slice A5 t.L.length e5) pvs t.L :: (X ++ Y) :: ss) := K7.out.wroteB ho8 hg8
      clear K7 ho8 hg8
      have hcc := fun n (hn : n < 10) => K8.cellY (hL.out [.int .i64 z0, .int .i64 (z0 + 1), .int .i64 (z0 + 1 + 1), (.slice A1 t.l.length e1), (.slice A2 t.k.length e2), .int .i64 (z0 + 1 + 1 + 1 + (t.l.length : Int) + (t.k.length : Int)), .int .i64 (z0 + 1 + 1 + 1 + (t.l.length : Int) + (t.k.length : Int) + 1), (.slice A3 t.ql.length e3), (.slice A4 t.qk.length e4), (.slice A5 t.L.length e5)] rfl) (.tail _ (.head _)) (hv.out [.int .i64 z0, .int .i64 (z0 + 1), .int .i64 (z0 + 1 + 1), (.slice A1 t.l.length e1), (.slice A2 t.k.length e2), .int .i64 (z0 + 1 + 1 + 1 + (t.l.length : Int) + (t.k.length : Int)), .int .i64 (z0 + 1 + 1 + 1 + (t.l.length : Int) + (t.k.length : Int) + 1), (.slice A3 t.ql.length e3), (.slice A4 t.qk.length e4), (.slice A5 t.L.length e5)]) (hG.out _) hn
      have g8 := hcc 8 (by decide)
      clear hcc
      have K9 : Hid (InvF W w8 (segB 5 (.slice A4 t.qk.length e4) t.qk :: segB 5 (.slice A3 t.ql.length e3) (marks (q + 5 + t.l.length + t.k.length) t.ql.length) :: [(78, scN 10 (.slice (some ⟨b, 0, none⟩) M.length c), cellsE (es.set j ([.int .i64 z0, .int .i64 (z0 + 1), .int .i64 (z0 + 1 + 1), (.slice A1 t.l.length e1), (.slice A2 t.k.length e2), .int .i64 (z0 + 1 + 1 + 1 + (t.l.length : Int) + (t.k.length : Int)), .int .i64 (z0 + 1 + 1 + 1 + (t.l.length : Int) + (t.k.length : Int) + 1), (.slice A3 t.ql.length e3), (.slice A4 t.qk.length e4), (.slice A5 t.L.length e5)], e.2)))] :: segB 5 (.slice A2 t.k.length e2) (marks (q + 3 + t.l.length) t.k.length) :: segB 5 (.slice A1 t.l.length e1) (marks (q + 3) t.l.length) :: segS 24 5 (.slice A5 t.L.length e5) pvs t.L :: (X ++ Y) :: ss)) := Lib.hid (K8.front 4 rfl)
      clear K8
      go_wp2_with fail
      clear g8
      refine (markByteS_z _ t.qk (q + 5 + t.l.length + t.k.length + t.ql.length) _ _ _ (K9.out.ownB 5 (.head _)) (by have := HZ.out; omega) (by omega) (by omega)).mono ?_
      rintro ev w10 ⟨rfl, ho10, hg10⟩
      have K10 : InvF W w10 (segB 5 (.slice A4 t.qk.length e4) (marks (q + 5 + t.l.length + t.k.length + t.ql.length) t.qk.length) :: segB 5 (.slice A3 t.ql.length e3) (marks (q + 5 + t.l.length + t.k.length) t.ql.length) :: [(78, scN 10 (.slice (some ⟨b, 0, none⟩) M.length c), cellsE (es.set j ([.int .i64 z0, .int .i64 (z0 + 1), .int .i64 (z0 + 1 + 1), (.slice A1 t.l.length e1), (.slice A2 t.k.length e2), .int .i64 (z0 + 1 + 1 + 1 + (t.l.length : Int) + (t.k.length : Int)), .int .i64 (z0 + 1 + 1 + 1 + (t.l.length : Int) + (t.k.length : Int) + 1), (.slice A3 t.ql.length e3), (.slice A4 t.qk.length e4), (.slice A5 t.L.length e5)], e.2)))] :: segB 5 (.slice A2 t.k.length e2) (marks (q + 3 + t.l.length) t.k.length) :: segB 5 (.slice A1 t.l.length e1) (marks (q + 3) t.l.length) :: segS 24 5 (.slice A5 t.L.length e5) pvs t.L :: (X ++ Y) :: ss) := K9.out.wroteB ho10 hg10
      clear K9 ho10 hg10
      have hcc := fun n (hn : n < 10) => K10.cellY (hL.out [.int .i64 z0, .int .i64 (z0 + 1), .int .i64 (z0 + 1 + 1), (.slice A1 t.l.length e1), (.slice A2 t.k.length e2), .int .i64 (z0 + 1 + 1 + 1 + (t.l.length : Int) + (t.k.length : Int)), .int .i64 (z0 + 1 + 1 + 1 + (t.l.length : Int) + (t.k.length : Int) + 1), (.slice A3 t.ql.length e3), (.slice A4 t.qk.length e4), (.slice A5 t.L.length e5)] rfl) (.tail _ (.tail _ (.head _))) (hv.out [.int .i64 z0, .int .i64 (z0 + 1), .int .i64 (z0 + 1 + 1), (.slice A1 t.l.length e1), (.slice A2 t.k.length e2), .int .i64 (z0 + 1 + 1 + 1 + (t.l.length : Int) + (t.k.length : Int)), .int .i64 (z0 + 1 + 1 + 1 + (t.l.length : Int) + (t.k.length : Int) + 1), (.slice A3 t.ql.length e3), (.slice A4 t.qk.length e4), (.slice A5 t.L.length e5)]) (hG.out _) hn
      have g9 := hcc 9 (by decide)
      clear hcc
      have K11 : Hid (InvF W w10 (segS 24 5 (.slice A5 t.L.length e5) pvs t.L :: segB 5 (.slice A4 t.qk.length e4) (marks (q + 5 + t.l.length + t.k.length + t.ql.length) t.qk.length) :: segB 5 (.slice A3 t.ql.length e3) (marks (q + 5 + t.l.length + t.k.length) t.ql.length) :: [(78, scN 10 (.slice (some ⟨b, 0, none⟩) M.length c), cellsE (es.set j ([.int .i64 z0, .int .i64 (z0 + 1), .int .i64 (z0 + 1 + 1), (.slice A1 t.l.length e1), (.slice A2 t.k.length e2), .int .i64 (z0 + 1 + 1 + 1 + (t.l.length : Int) + (t.k.length : Int)), .int .i64 (z0 + 1 + 1 + 1 + (t.l.length : Int) + (t.k.length : Int) + 1), (.slice A3 t.ql.length e3), (.slice A4 t.qk.length e4), (.slice A5 t.L.length e5)], e.2)))] :: segB 5 (.slice A2 t.k.length e2) (marks (q + 3 + t.l.length) t.k.length) :: segB 5 (.slice A1 t.l.length e1) (marks (q + 3) t.l.length) :: (X ++ Y) :: ss)) := Lib.hid (K10.front 5 rfl)
      clear K10
      go_wp2_with fail
      clear g9
      refine (markByteSS_z W _ _ pvs t.L _ (q + 5 + t.l.length + t.k.length + t.ql.length + t.qk.length) _ hvs.out K11.out (by have := HZ.out; omega) (by omega) (by have := hsz.out.2.2.2.2; omega)).mono ?_
      rintro ev w12 ⟨rfl, K12⟩
      have K13 : InvF W w12 ([(78, scN 10 (.slice (some ⟨b, 0, none⟩) M.length c), cellsE (es.set j ([.int .i64 z0, .int .i64 (z0 + 1), .int .i64 (z0 + 1 + 1), (.slice A1 t.l.length e1), (.slice A2 t.k.length e2), .int .i64 (z0 + 1 + 1 + 1 + (t.l.length : Int) + (t.k.length : Int)), .int .i64 (z0 + 1 + 1 + 1 + (t.l.length : Int) + (t.k.length : Int) + 1), (.slice A3 t.ql.length e3), (.slice A4 t.qk.length e4), (.slice A5 t.L.length e5)], e.2)))] :: segB 5 (.slice A1 t.l.length e1) (marks (q + 3) t.l.length) :: segB 5 (.slice A2 t.k.length e2) (marks (q + 3 + t.l.length) t.k.length) :: segB 5 (.slice A3 t.ql.length e3) (marks (q + 5 + t.l.length + t.k.length) t.ql.length) :: segB 5 (.slice A4 t.qk.length e4) (marks (q + 5 + t.l.length + t.k.length + t.ql.length) t.qk.length) :: segS 24 5 (.slice A5 t.L.length e5) pvs (marksS (q + 5 + t.l.length + t.k.length + t.ql.length + t.qk.length) t.L) :: (X ++ Y) :: ss) := ((((K12.front 1 rfl).front 2 rfl).front 4 rfl).front 5 rfl).front 5 rfl
      clear K11 K12
      obtain ⟨t', ht'⟩ : ∃ t' : Ht, t' = ⟨z0, z0 + 1, z0 + 1 + 1, (marks (q + 3) t.l.length), (marks (q + 3 + t.l.length) t.k.length), (z0 + 1 + 1 + 1 + (t.l.length : Int) + (t.k.length : Int)), (z0 + 1 + 1 + 1 + (t.l.length : Int) + (t.k.length : Int) + 1), (marks (q + 5 + t.l.length + t.k.length) t.ql.length), (marks (q + 5 + t.l.length + t.k.length + t.ql.length) t.qk.length), (marksS (q + 5 + t.l.length + t.k.length + t.ql.length + t.qk.length) t.L)⟩ := ⟨_, rfl⟩
      obtain ⟨p, hpp⟩ : ∃ p : HP, p = ⟨.slice A1 t.l.length e1, .slice A2 t.k.length e2, .slice A3 t.ql.length e3, .slice A4 t.qk.length e4, .slice A5 t.L.length e5, pvs⟩ := ⟨_, rfl⟩
      have hce : cellsE (es.set j ([.int .i64 z0, .int .i64 (z0 + 1), .int .i64 (z0 + 1 + 1), (.slice A1 t.l.length e1), (.slice A2 t.k.length e2), .int .i64 (z0 + 1 + 1 + 1 + (t.l.length : Int) + (t.k.length : Int)), .int .i64 (z0 + 1 + 1 + 1 + (t.l.length : Int) + (t.k.length : Int) + 1), (.slice A3 t.ql.length e3), (.slice A4 t.qk.length e4), (.slice A5 t.L.length e5)], e.2)) = cellsE (es.set j (eltH t' p)) := by
        rw [ht', hpp]
        exact cellsE_fst hij.out
      rw [hce] at K13
      have K14 := InvF.closeY (es := es) (i := j) (e' := eltH t' p) (gs := rowsH t' p) HXY.out rfl (by rw [ht', hpp]; rw [ht', hpp] at K13; exact K13)
      have HES2 : Hid (es.set j (eltH t' p) = eltsH (MHd M k (j + 1)) ps ∧ OkH (MHd M k (j + 1)) ps) := Lib.hid (by
        have hps : ps.set j p = ps := by
          apply List.ext_getElem?
          intro i
          rw [List.getElem?_set]
          by_cases hi : j = i
          · subst hi
            rw [if_pos rfl, if_pos (List.getElem?_eq_some_iff.1 HPJ.out).1, HPJ.out, hpp]
          · rw [if_neg hi]
        have hmm : (MHd M k j).set j t' = MHd M k (j + 1) := by rw [ht', HT.out]
        refine ⟨by rw [HES.out, eltsH_set HMJ.out HOK.out.1, hmm, hps], ?_⟩
        have h9 := HOK.out.set (t := t') (p := p) HMJ.out (by rw [ht', hpp]; simp only [marksS_length]; exact hvs.out)
        rw [hmm, hps] at h9
        exact h9)
      rw [HES2.out.1] at K14
      have HK14 := Lib.hid K14
      clear K13 K14 hce ht' hpp HES HEE
      go_wp2
      go_roundw
      case rel => exact ⟨j + 1, by omega, by go_num, by refine congrArg _ (HN.out _ ?_); omega, Lib.hid HES2.out.2, HK14⟩
      case measure => simp [intOf]; omega
    · obtain rfl : j = M.length := by omega
      rw [MHd_full] at H
      rw [List.take_length]
      go_wp2
      go_ret
      exact ⟨rfl, H.out⟩

set_option maxRecDepth 100000 in
set_option maxHeartbeats 8000000 in
theorem heldHeadS_z (v : Value) (k : Nat) (kz : Int) (M : List Ht) (w : World) (h : SlH w w.heap.size v (marksH k M)) (hz : kz = (k : Int)) (hk : k ≤ 134217728) (hm : mkH M ≤ 8388608) :
    Calls Tryd.prog 28 #[v, .int .i64 kz] w (Quiet (.int .i64 (kz + (mkH M : Int))) w) := by
  subst hz
  obtain ⟨A, c, rfl, h1, h2, h0, h3⟩ := h
  rw [marksH_length] at h1 h3 ⊢
  unfold maxLen at h2
  have HM0 := Lib.hid hm
  clear h0 hm
  go_enter Tryd.func28, Tryd.ntmps28
  go_wp2
  go_loopw [1, 5] (fun q i wr => ∃ j : Nat, j ≤ M.length ∧ i = .int .i64 j ∧ q = .int .i64 ((k : Int) + (mkH (M.take j) : Int)) ∧ ∃ m, wr = w.drewN m)
    (fun _ i _ => M.length - (intOf i).toNat)
  case atStart => exact ⟨0, Nat.zero_le _, rfl, by simp [mkH], 0, rfl⟩
  case round =>
    obtain ⟨j, hj, rfl, rfl, m, hw⟩ := hrel
    by_cases hlt : j < M.length
    · obtain ⟨b, off, rfl, hbb, hcell⟩ := h3 (by omega)
      obtain ⟨t, ht⟩ := getH hlt
      have hnext := mkH_take M j t ht
      have hle := mkH_le M (j + 1)
      have hm := HM0.out
      obtain ⟨q, hq⟩ : ∃ q, q = k + mkH (M.take j) := ⟨_, rfl⟩
      have hva := hcell j _ (marksH_get M k j t ht)
      rw [← hq] at hva
      obtain ⟨z0, hz0⟩ : ∃ z0 : Int, z0 = (k : Int) + (mkH (M.take j) : Int) := ⟨_, rfl⟩
      have hzq : z0 = (q : Int) := by omega
      have hzlo : 0 ≤ z0 := by omega
      have hzhi : z0 ≤ 268435456 := by omega
      have hqb : q ≤ 268435456 := by omega
      have hmt : mkT t ≤ 8388608 := by omega
      have hsz : Hid (t.l.length ≤ 8388608 ∧ t.k.length ≤ 8388608 ∧ t.ql.length ≤ 8388608 ∧ t.qk.length ≤ 8388608 ∧ sumL t.L ≤ 8388608) := Lib.hid (by unfold mkT at hmt; omega)
      have hszl : t.l.length ≤ 8388608 := hsz.out.1
      have hszk : t.k.length ≤ 8388608 := hsz.out.2.1
      have hszql : t.ql.length ≤ 8388608 := hsz.out.2.2.1
      have hszqk : t.qk.length ≤ 8388608 := hsz.out.2.2.2.1
      have hszL : sumL t.L ≤ 8388608 := hsz.out.2.2.2.2
      have hmte : mkT t = t.l.length + t.k.length + t.ql.length + t.qk.length + sumL t.L + 5 := rfl
      have HZ := Lib.hid hzq
      have HN : Hid (∀ z : Int, z = (z0 + 1 + 1 + 1 + (t.l.length : Int) + (t.k.length : Int) + 1 + 1 + (t.ql.length : Int) + (t.qk.length : Int)) + (sumL t.L : Int) → z = (k : Int) + (mkH (M.take (j + 1)) : Int)) := Lib.hid (fun z hz => by omega)
      rw [← hz0]
      obtain ⟨ua, ub, uqa, uqb, uqs, ⟨c0, c1, c2, c3, c4, c5, c6, c7, c8, c9⟩, s1, s2, s3, s4, s5⟩ := hva
      dsimp only [markHT] at c0 c1 c2 c5 c6 s1 s2 s3 s4 s5
      have e5 : ((q + 3 + t.l.length + t.k.length : Nat) : Int) = (z0 + 1 + 1 + 1 + (t.l.length : Int) + (t.k.length : Int)) := by omega
      have e6 : ((q + 3 + t.l.length + t.k.length : Nat) : Int) + 1 = (z0 + 1 + 1 + 1 + (t.l.length : Int) + (t.k.length : Int) + 1) := by omega
      have e2 : (q : Int) + 2 = z0 + 1 + 1 := by omega
      rw [e6] at c6
      rw [e5] at c5
      rw [e2] at c2
      rw [← hzq] at c0 c1
      clear hz0 hzq hq hnext hle ht hcell h3 e5 e6 e2 hm hmt hmte
      have T1 := Lib.hid s1; have T2 := Lib.hid s2; have T3 := Lib.hid s3; have T4 := Lib.hid s4; have T5 := Lib.hid s5
      obtain ⟨A1, e1, rfl, _⟩ := s1
      obtain ⟨A2, e2, rfl, _⟩ := s2
      obtain ⟨A3, e3, rfl, _⟩ := s3
      obtain ⟨A4, e4, rfl, _⟩ := s4
      obtain ⟨A5, e5, rfl, _⟩ := s5
      rw [marks_length] at c3 c4 c7 c8
      rw [marksS_length] at c9
      rw [marks_length] at T1 T2 T3 T4
      rw [marksS_length] at T5
      obtain ⟨tx, ty, tz, tl, tk, tqx, tqy, tql, tqk, tL⟩ := t
      dsimp only at *
      generalize tl.length = n1 at *
      generalize tk.length = n2 at *
      generalize tql.length = n3 at *
      generalize tqk.length = n4 at *
      obtain ⟨N5, hN5⟩ : ∃ N5, N5 = sumL tL := ⟨_, rfl⟩
      have HN5 := Lib.hid hN5
      rw [← hN5] at hszL
      clear hN5
      have HW := Lib.hid hw
      have up : ∀ o, wr.cell? ⟨b, o, none⟩ = w.cell? ⟨b, o, none⟩ := fun o => by rw [hw]; rfl
      rw [← up] at c0 c1 c2 c3 c4 c5 c6 c7 c8 c9
      have U1 : Hid (Sl wr wr.heap.size (.slice A1 n1 e1) (marks (q + 3) n1)) := by rw [hw]; exact T1
      have U2 : Hid (Sl wr wr.heap.size (.slice A2 n2 e2) (marks (q + 3 + n1) n2)) := by rw [hw]; exact T2
      have U3 : Hid (Sl wr wr.heap.size (.slice A3 n3 e3) (marks (q + 5 + n1 + n2) n3)) := by rw [hw]; exact T3
      have U4 : Hid (Sl wr wr.heap.size (.slice A4 n4 e4) (marks (q + 5 + n1 + n2 + n3) n4)) := by rw [hw]; exact T4
      have U5 : Hid (SlS wr wr.heap.size (.slice A5 tL.length e5) (marksS (q + 5 + n1 + n2 + n3 + n4) tL)) := by rw [hw]; exact T5
      clear hw up T1 T2 T3 T4 T5
      have x0 : (z0 != z0) = false := by simp
      have x1 : ((z0 + 1) != (z0 + 1)) = false := by simp
      have x2 : ((z0 + 1 + 1) != (z0 + 1 + 1)) = false := by simp
      have x3 : ((z0 + 1 + 1 + 1 + (n1 : Int) + (n2 : Int)) != (z0 + 1 + 1 + 1 + (n1 : Int) + (n2 : Int))) = false := by simp
      have x4 : ((z0 + 1 + 1 + 1 + (n1 : Int) + (n2 : Int) + 1) != (z0 + 1 + 1 + 1 + (n1 : Int) + (n2 : Int) + 1)) = false := by simp
      have y0 : ¬ ((z0 + 1 + 1 + 1 + (n1 : Int)) < 0) := by omega
      have y1 : ¬ ((z0 + 1 + 1 + 1 + (n1 : Int) + (n2 : Int)) < 0) := by omega
      have y2 : ¬ ((z0 + 1 + 1 + 1 + (n1 : Int) + (n2 : Int) + 1 + 1 + (n3 : Int)) < 0) := by omega
      have y3 : ¬ ((z0 + 1 + 1 + 1 + (n1 : Int) + (n2 : Int) + 1 + 1 + (n3 : Int) + (n4 : Int)) < 0) := by omega
      have y4 : ¬ ((z0 + 1 + 1 + 1 + (n1 : Int) + (n2 : Int) + 1 + 1 + (n3 : Int) + (n4 : Int)) + (sumL tL : Int) < 0) := by omega
      go_wp2_with fail
      refine (heldByteS_z _ (q + 3) n1 _ _ U1.out (by have := HZ.out; omega) (by omega) (by omega)).mono ?_
      rintro ev _ ⟨rfl, i1, rfl⟩
      go_wp2_with fail
      refine (heldByteS_z _ (q + 3 + n1) n2 _ _ (U2.out.drewN i1) (by have := HZ.out; omega) (by omega) (by omega)).mono ?_
      rintro ev _ ⟨rfl, i2, rfl⟩
      go_wp2_with fail
      refine (heldByteS_z _ (q + 5 + n1 + n2) n3 _ _ (U3.out.drewN (i1 + i2)) (by have := HZ.out; omega) (by omega) (by omega)).mono ?_
      rintro ev _ ⟨rfl, i3, rfl⟩
      go_wp2_with fail
      refine (heldByteS_z _ (q + 5 + n1 + n2 + n3) n4 _ _ (U4.out.drewN (i1 + i2 + i3)) (by have := HZ.out; omega) (by omega) (by omega)).mono ?_
      rintro ev _ ⟨rfl, i4, rfl⟩
      go_wp2_with fail
      refine (heldByteSS_z _ (q + 5 + n1 + n2 + n3 + n4) _ tL _ (U5.out.drewN (i1 + i2 + i3 + i4)) (by have := HZ.out; omega) (by omega) (by have := HN5.out; omega)).mono ?_
      rintro ev _ ⟨rfl, i5, rfl⟩
      go_wp2_with fail
      go_roundw
      case rel => exact ⟨j + 1, by omega, by go_num, by refine congrArg _ (HN.out _ ?_); omega, m + (i1 + i2 + i3 + i4 + i5), by rw [HW.out]; simp only [World.drewN_drewN]⟩
      case measure => simp [intOf]; omega
    · obtain rfl : j = M.length := by omega
      rw [List.take_length]
      have HW := Lib.hid hw
      clear hw
      go_wp2
      go_ret
      exact ⟨rfl, m, HW.out⟩
end Go.Proofs.YtopbalemfljphaaDoor
