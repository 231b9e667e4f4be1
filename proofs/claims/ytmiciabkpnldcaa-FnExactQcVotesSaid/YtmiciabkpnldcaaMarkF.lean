/- markQc once more: what it leaves beside the rows of its certificate. -/
import Derived.Test.YtmiciabkpnldcaaQc
import Derived.Test.YtmiciabkpnldcaaRowsE
namespace Go.Proofs.Ytmiciabkpnldcaa
open Go.ChangeShapes Go.WideShapes Go.ChangeAt Go.RowKit

theorem rowsS_val {E : TypeId} {vs : List Value} {L : List (List UInt8)} (hv : vs.length = L.length) {x : Value} {j : Nat} (hx : vs[j]? = some x) : ∃ r, (E, x, r) ∈ rowsS E vs L := by
  have hj := (List.getElem?_eq_some_iff.1 hx).1
  exact ⟨_, rowsS_mem E vs L j x hx (by omega)⟩

set_option maxHeartbeats 1000000 in
theorem markByteSS_F (S : Nat → Prop) (W w : World) (u : Value) (vs : List Value) (L : List (List UInt8)) (rs : List Row) (k : Nat) (hv : vs.length = L.length)
    (H : InvG W w ((24, u, vs) :: (rowsS 5 vs L ++ rs))) (hk : k ≤ 1073741824) (hs : sumL L ≤ 1073741824) (hS : ∀ x ∈ vs, ∀ g, x.ownBlock = some g → S g) :
    Calls Try.prog 57 #[u, .int .i64 (k : Int)] w
      (fun e w' => e = .returned (.int .i64 ((k : Int) + (sumL L : Int))) ∧ InvG W w' ((24, u, vs) :: (rowsS 5 vs (marksS k L) ++ rs)) ∧ Frm S w w') := by
  obtain ⟨A, c, rfl, h1, h2, h0, h3⟩ := (H.2.1 _ (.head _)).cells
  unfold maxLen at h2
  clear h0 h3
  obtain ⟨n, hn⟩ : ∃ n, n = vs.length := ⟨_, rfl⟩
  rw [← hn] at h1 hv H ⊢
  have Hn := Lib.hid hn
  have Hv := Lib.hid hv
  have HL : L.length = n := hv.symm
  have HLh := Lib.hid HL
  have HS := Lib.hid hS
  clear hv HL hn hS
  go_enter Try.func57, Try.ntmps57
  go_wp2
  go_loopw [1, 5] (fun q i wr => ∃ j : Nat, j ≤ n ∧ i = .int .i64 j ∧ q = .int .i64 ((k : Int) + (sumL (L.take j) : Int)) ∧ InvG W wr ((24, .slice A n c, vs) :: (rowsS 5 vs (MS L k j) ++ rs)) ∧ Frm S w wr)
    (fun _ i _ => n - (intOf i).toNat)
  case atStart => exact ⟨0, Nat.zero_le _, rfl, by simp [sumL], by rw [MS_zero]; exact H, Frm.refl _ _⟩
  case round =>
    clear H
    obtain ⟨j, hj, rfl, rfl, H, hF⟩ := hrel
    by_cases hlt : j < n
    · have hlL : j < L.length := by rw [HLh.out]; exact hlt
      obtain ⟨A', c', e', k1, k2, k0, k3⟩ := (H.2.1 _ (.head _)).cells
      obtain ⟨b, hA, hbb, hcell⟩ := k3 (by rw [← Hn.out]; omega)
      simp only [Value.slice.injEq] at e'
      obtain ⟨rfl, hnn, rfl⟩ := e'
      clear hnn
      subst hA
      have hvj := getD_at vs j (.bool false) (by rw [← Hn.out]; exact hlt)
      generalize vs.getD j (.bool false) = x at hvj
      have hc0 := (hcell j (by rw [← Hn.out]; exact hlt)).trans hvj
      have hxS := HS.out x (List.mem_of_getElem? hvj)
      have hrow := rowsS_get 5 vs (MS L k j) j x hvj (by rw [MS_length L k j (by omega)]; exact hlL)
      rw [MS_at L k j hlL] at hrow
      have hown := H.own 5 (v := x) (l := L.getD j []) (.tail _ (List.mem_append_left _ (List.mem_of_getElem? hrow)))
      have hsum := sumL_take L j hlL
      have hle := sumL_le L (j + 1)
      have hll : (L.getD j []).length ≤ 4294967296 := by omega
      have hm := marksS_at L k j hlL
      have hset := MS_set L k j hlL
      have hrs := rowsS_set 5 vs (MS L k j) j x ((marksS k L).getD j []) hvj
      rw [hm] at hset hrs
      rw [hset] at hrs
      generalize L.getD j [] = l at hrow hown hsum hll hrs
      have hsz : sumL (L.take j) ≤ 1073741824 := by omega
      have HR := Lib.hid hrow
      have HSS := Lib.hid hrs
      have HU := Lib.hid hsum
      have HXS := Lib.hid hxS
      clear hcell hm hset k0 k1 k2 k3 hrow hrs hsum hle hxS
      generalize hq : sumL (L.take j) = q at hsz HU
      rw [hq] at HSS
      go_wp2_with (go_at_call 20; refine (markByteS_z x l (k + q) _ _ _ hown (by omega) (by omega) hll).mono ?_; rintro e w3 ⟨rfl, ho3, hg3⟩)
      have hix : ((24, Value.slice (some ⟨b, 0, none⟩) n c, vs) :: (rowsS 5 vs (MS L k j) ++ rs))[j + 1]? = some (5, x, us l) := by
        rw [List.getElem?_cons_succ, List.getElem?_append_left (List.getElem?_eq_some_iff.1 HR.out).1]
        exact HR.out
      have H3 := H.wroteAt (j + 1) hix ho3 hg3
      rw [List.set_cons_succ, List.set_append_left _ _ (List.getElem?_eq_some_iff.1 HR.out).1, HSS.out] at H3
      have hF3 := Lib.hid (hF.trans (Frm.grown hg3 HXS.out))
      go_roundw
      case rel => exact ⟨j + 1, by omega, by go_num, by rw [HU.out]; go_num, H3, hF3.out⟩
      case measure => simp [intOf]; omega
    · obtain rfl : j = n := by omega
      have hfull : MS L k j = marksS k L := by rw [← HLh.out]; exact MS_full L k
      have htk : L.take j = L := by rw [← HLh.out, List.take_length]
      rw [htk]
      rw [hfull] at H
      go_wp2
      go_ret
      exact ⟨rfl, H, hF⟩

theorem markByteSS_Fz (S : Nat → Prop) (W w : World) (u : Value) (vs : List Value) (L : List (List UInt8)) (ss : List (List Row)) (k : Nat) (kz : Int) (hv : vs.length = L.length) (H : InvF W w (segS 24 5 u vs L :: ss)) (hz : kz = (k : Int)) (hk : k ≤ 1073741824) (hs : sumL L ≤ 1073741824) (hS : ∀ x ∈ vs, ∀ g, x.ownBlock = some g → S g) :
    Calls Try.prog 57 #[u, .int .i64 kz] w (fun e w' => e = .returned (.int .i64 (kz + (sumL L : Int))) ∧ InvF W w' (segS 24 5 u vs (marksS k L) :: ss) ∧ Frm S w w') := by
  subst hz
  refine (markByteSS_F S W w u vs L ss.flatten k hv (by have h := H; unfold InvF at h; rw [List.flatten_cons] at h; exact h) hk hs hS).mono ?_
  rintro e w' ⟨rfl, h, hF⟩
  refine ⟨rfl, ?_, hF⟩
  unfold InvF
  rw [List.flatten_cons]
  exact h

set_option maxHeartbeats 2000000 in
theorem markQc_F (S : Nat → Prop) (x y : Int) (W w : World) (a b s : Value) (vs : List Value) (l k : List UInt8) (L : List (List UInt8)) (ss : List (List Row)) (m : Nat) (mz : Int) (hv : vs.length = L.length) (K : InvF W w (segB 5 a l :: segB 5 b k :: segS 24 5 s vs L :: ss)) (hz : mz = (m : Int)) (hm : m ≤ 268435456) (hl : l.length ≤ 4194304) (hk : k.length ≤ 4194304) (hN : sumL L ≤ 4194304)
    (hSa : ∀ g, a.ownBlock = some g → S g) (hSb : ∀ g, b.ownBlock = some g → S g) (hSv : ∀ x ∈ vs, ∀ g, x.ownBlock = some g → S g) :
    Calls Try.prog 21 #[.agg #[.int .i64 x, .int .i64 y, a, b, s], .int .i64 mz] w (fun e w' => e = .returned (.int .i64 (mz + (l.length : Int) + (k.length : Int) + (sumL L : Int))) ∧
      InvF W w' (segB 5 a (marks m l.length) :: segB 5 b (marks (m + l.length) k.length) :: segS 24 5 s vs (marksS (m + l.length + k.length) L) :: ss) ∧ Frm S w w') := by
  obtain ⟨A, c, rfl⟩ := K.openB' (.head _)
  obtain ⟨B, d, rfl⟩ := K.openB' (.tail _ (.head _))
  obtain ⟨C, f, rfl⟩ := K.openS hv (.tail _ (.tail _ (.head _)))
  have HV := Lib.hid hv
  have HSA := Lib.hid hSa
  have HSB := Lib.hid hSb
  have HSV := Lib.hid hSv
  have K1 := K.newG 32 #[.int .i64 x, .int .i64 y, .slice A l.length c, .slice B k.length d, .slice C L.length f] w.heap.size
  replace K1 := Lib.hid (K1.front 1 rfl)
  have F1 : Hid (Frm S w (w.alloc (.cells #[.int .i64 x, .int .i64 y, .slice A l.length c, .slice B k.length d, .slice C L.length f] 32))) := Lib.hid (Frm.of_below ((Below.refl _ w).alloc (Nat.le_refl _) _))
  have HZ := Lib.hid hz
  have hz2 : Hid (mz + (l.length : Int) = ((m + l.length : Nat) : Int)) := Lib.hid (by omega)
  have hz3 : Hid (mz + (l.length : Int) + (k.length : Int) = ((m + l.length + k.length : Nat) : Int)) := Lib.hid (by omega)
  have hb0 : 0 ≤ mz := by omega
  have hb1 : mz ≤ 268435456 := by omega
  have HN := Lib.hid hN
  clear K hz hv hN hSa hSb hSv
  go_enter Try.func21, Try.ntmps21
  go_wp2_with fail
  refine (markByteS_z _ l m _ _ _ (K1.out.ownB 5 (.head _)) HZ.out (by omega) (by omega)).mono ?_
  rintro e w2 ⟨rfl, ho, hg⟩
  have K2 := K1.out.wroteB ho hg
  have F2 := Lib.hid (F1.out.trans (Frm.grown hg HSA.out))
  clear ho hg K1 F1
  obtain ⟨o0, o1, o2, o3, o4⟩ := K2.c5 (.tail _ (.head _))
  replace K2 := Lib.hid (K2.front 2 rfl)
  go_wp2_with fail
  refine (markByteS_z _ k (m + l.length) _ _ _ (K2.out.ownB 5 (.head _)) hz2.out (by omega) (by omega)).mono ?_
  rintro e w3 ⟨rfl, ho, hg⟩
  have K3 := K2.out.wroteB ho hg
  have F3 := Lib.hid (F2.out.trans (Frm.grown hg HSB.out))
  clear ho hg K2 o0 o1 o2 o3 o4 F2
  obtain ⟨o0, o1, o2, o3, o4⟩ := K3.c5 (.tail _ (.tail _ (.head _)))
  replace K3 := Lib.hid (K3.front 3 rfl)
  go_wp2_with fail
  refine (markByteSS_Fz S W _ _ vs L _ (m + l.length + k.length) _ HV.out K3.out hz3.out (by omega) (by have := HN.out; omega) HSV.out).mono ?_
  rintro e w4 ⟨rfl, K4, hF4⟩
  have F4 := Lib.hid (F3.out.trans hF4)
  have K5 := Lib.hid (((K4.front 1 rfl).front 2 rfl).sub (qs := segB 5 (.slice A l.length c) (marks m l.length) :: segB 5 (.slice B k.length d) (marks (m + l.length) k.length) :: segS 24 5 (.slice C L.length f) vs (marksS (m + l.length + k.length) L) :: ss) (.cons_cons _ (.cons_cons _ (.cons_cons _ (.cons _ (List.Sublist.refl _))))))
  clear K4 K3 o0 o1 o2 o3 o4 F3 hF4
  go_wp2
  go_ret
  exact ⟨rfl, K5.out, F4.out⟩
end Go.Proofs.Ytmiciabkpnldcaa
