/- Certificates whose tags lie over any row of a call's own: markByteSS, markQc; what GetQc answers. -/
import Derived.Test.YtopbalemfljphaaDoorQc
import Derived.Test.YtopbalemfljphaaDoorTagSeg
import Derived.Test.YtopbalemfljphaaDoorQcDecMath
namespace Go.Proofs.YtopbalemfljphaaDoor
open Go.ChangeShapes Go.WideShapes Go.ChangeAt Go.RowKit

set_option maxHeartbeats 1000000 in
theorem markByteSST_any (W w : World) (u : Value) (row : Row) (vs : List Value) (L : List (List UInt8)) (rs : List Row) (k : Nat) (hv : vs.length = L.length) (hr : Reads0 u row vs)
    (H : InvG W w (row :: (rowsS 5 vs L ++ rs))) (hk : k ≤ 1073741824) (hs : sumL L ≤ 1073741824) :
    Calls Tryd.prog 33 #[u, .int .i64 (k : Int)] w
      (fun e w' => e = .returned (.int .i64 ((k : Int) + (sumL L : Int))) ∧ InvG W w' (row :: (rowsS 5 vs (marksS k L) ++ rs))) := by
  obtain ⟨A, c, rfl, h1, h2, h0, h3⟩ := hr
  unfold maxLen at h2
  clear h0
  obtain ⟨n, hn⟩ : ∃ n, n = vs.length := ⟨_, rfl⟩
  rw [← hn] at h1 hv h3 ⊢
  have Hn := Lib.hid hn
  have Hv := Lib.hid hv
  have HL : L.length = n := hv.symm
  have HLh := Lib.hid HL
  have H3 := Lib.hid h3
  clear hv HL hn h3
  go_enter Tryd.func33, Tryd.ntmps33
  go_wp2
  go_loopw [1, 5] (fun q i wr => ∃ j : Nat, j ≤ n ∧ i = .int .i64 j ∧ q = .int .i64 ((k : Int) + (sumL (L.take j) : Int)) ∧ InvG W wr (row :: (rowsS 5 vs (MS L k j) ++ rs)))
    (fun _ i _ => n - (intOf i).toNat)
  case atStart => exact ⟨0, Nat.zero_le _, rfl, by simp [sumL], by rw [MS_zero]; exact H⟩
  case round =>
    clear H
    obtain ⟨j, hj, rfl, rfl, H⟩ := hrel
    by_cases hlt : j < n
    · have hlL : j < L.length := by rw [HLh.out]; exact hlt
      obtain ⟨b, off, rfl, hcell⟩ := H3.out (by omega)
      obtain ⟨hbb, hcell⟩ := hcell _ _ (H.2.1 _ (.head _))
      have hvj := getD_at vs j (.bool false) (by rw [← Hn.out]; exact hlt)
      generalize vs.getD j (.bool false) = x at hvj
      have hc0 := (hcell j hlt).trans hvj
      have hrow := rowsS_get 5 vs (MS L k j) j x hvj (by rw [MS_length L k j (by omega)]; exact hlL)
      rw [MS_at L k j hlL] at hrow
      have hown := H.own 5 (v := x) (l := L.getD j []) (.tail _ (List.mem_append_left _ (List.mem_of_getElem? hrow)))
      have hsum := sumL_take L j hlL
      have hle := sumL_le L (j + 1)
      have hll : (L.getD j []).length ≤ 4294967296 := by omega
      have hm := marksS_at L k j hlL
      have hset := MS_set L k j hlL
      have hrs := rowsS_set 5 vs (MS L k j) j x ((marksS k L).getD j []) hvj
      rw [hm] at hset hrs
      rw [hset] at hrs
      generalize L.getD j [] = l at hrow hown hsum hll hrs
      have hsz : sumL (L.take j) ≤ 1073741824 := by omega
      have HR := Lib.hid hrow
      have HS := Lib.hid hrs
      have HU := Lib.hid hsum
      clear hcell hm hset hrow hrs hsum hle
      generalize hq : sumL (L.take j) = q at hsz HU
      rw [hq] at HS
      go_wp2_with (go_at_call 11; refine (markByteS_z x l (k + q) _ _ _ hown (by omega) (by omega) hll).mono ?_; rintro e w3 ⟨rfl, ho3, hg3⟩)
      have hix : (row :: (rowsS 5 vs (MS L k j) ++ rs))[j + 1]? = some (5, x, us l) := by
        rw [List.getElem?_cons_succ, List.getElem?_append_left (List.getElem?_eq_some_iff.1 HR.out).1]
        exact HR.out
      have H4 := H.wroteAt (j + 1) hix ho3 hg3
      rw [List.set_cons_succ, List.set_append_left _ _ (List.getElem?_eq_some_iff.1 HR.out).1, HS.out] at H4
      go_roundw
      case rel => exact ⟨j + 1, by omega, by go_num, by rw [HU.out]; go_num, H4⟩
      case measure => simp [intOf]; omega
    · obtain rfl : j = n := by omega
      have hfull : MS L k j = marksS k L := by rw [← HLh.out]; exact MS_full L k
      have htk : L.take j = L := by rw [← HLh.out, List.take_length]
      rw [htk]
      rw [hfull] at H
      go_wp2
      go_ret
      exact ⟨rfl, H⟩

set_option maxHeartbeats 2000000 in
theorem markQcT_z (x y : Int) (W w : World) (a b s : Value) (row : Row) (vs : List Value) (l k : List UInt8) (L : List (List UInt8)) (ss : List (List Row)) (m : Nat) (mz : Int) (hv : vs.length = L.length) (hr : Reads0 s row vs) (K : InvF W w (segB 5 a l :: segB 5 b k :: (row :: rowsS 5 vs L) :: ss)) (hz : mz = (m : Int)) (hm : m ≤ 268435456) (hl : l.length ≤ 4194304) (hk : k.length ≤ 4194304) (hN : sumL L ≤ 4194304) :
    Calls Tryd.prog 27 #[.agg #[.int .i64 x, .int .i64 y, a, b, s], .int .i64 mz] w (fun e w' => e = .returned (.int .i64 (mz + (l.length : Int) + (k.length : Int) + (sumL L : Int))) ∧
      InvF W w' (segB 5 a (marks m l.length) :: segB 5 b (marks (m + l.length) k.length) :: (row :: rowsS 5 vs (marksS (m + l.length + k.length) L)) :: ss)) := by
  obtain ⟨A, c, rfl⟩ := K.openB' (.head _)
  obtain ⟨B, d, rfl⟩ := K.openB' (.tail _ (.head _))
  obtain ⟨C, f, rfl⟩ := K.openT hv hr
  have HV := Lib.hid hv
  have HR := Lib.hid hr
  have K1 := K.newG 28 #[.int .i64 x, .int .i64 y, .slice A l.length c, .slice B k.length d, .slice C L.length f] w.heap.size
  replace K1 := Lib.hid (K1.front 1 rfl)
  have HZ := Lib.hid hz
  have hz2 : Hid (mz + (l.length : Int) = ((m + l.length : Nat) : Int)) := Lib.hid (by omega)
  have hz3 : Hid (mz + (l.length : Int) + (k.length : Int) = ((m + l.length + k.length : Nat) : Int)) := Lib.hid (by omega)
  have hb0 : 0 ≤ mz := by omega
  have hb1 : mz ≤ 268435456 := by omega
  have HN := Lib.hid hN
  clear K hz hv hr hN
  go_enter Tryd.func27, Tryd.ntmps27
  go_wp2_with fail
  refine (markByteS_z _ l m _ _ _ (K1.out.ownB 5 (.head _)) HZ.out (by omega) (by omega)).mono ?_
  rintro e w2 ⟨rfl, ho, hg⟩
  have K2 := K1.out.wroteB ho hg
  clear ho hg K1
  obtain ⟨o0, o1, o2, o3, o4⟩ := K2.c5 (.tail _ (.head _))
  replace K2 := Lib.hid (K2.front 2 rfl)
  go_wp2_with fail
  refine (markByteS_z _ k (m + l.length) _ _ _ (K2.out.ownB 5 (.head _)) hz2.out (by omega) (by omega)).mono ?_
  rintro e w3 ⟨rfl, ho, hg⟩
  have K3 := K2.out.wroteB ho hg
  clear ho hg K2 o0 o1 o2 o3 o4
  obtain ⟨o0, o1, o2, o3, o4⟩ := K3.c5 (.tail _ (.tail _ (.head _)))
  replace K3 := Lib.hid (K3.front 3 rfl)
  go_wp2_with fail
  have hcall := markByteSST_any W _ _ row vs L _ (m + l.length + k.length) HV.out HR.out K3.out (by omega) (by have := HN.out; omega)
  rw [← hz3.out] at hcall
  refine hcall.mono ?_
  rintro e w4 ⟨rfl, K4⟩
  have K4' : InvF W w4 ((row :: rowsS 5 vs (marksS (m + l.length + k.length) L)) :: segB 5 (.slice B k.length d) (marks (m + l.length) k.length) :: segB 5 (.slice A l.length c) (marks m l.length) :: _ :: ss) := K4
  have K5 := Lib.hid (((K4'.front 1 rfl).front 2 rfl).sub (qs := segB 5 (.slice A l.length c) (marks m l.length) :: segB 5 (.slice B k.length d) (marks (m + l.length) k.length) :: (row :: rowsS 5 vs (marksS (m + l.length + k.length) L)) :: ss) (.cons_cons _ (.cons_cons _ (.cons_cons _ (.cons _ (List.Sublist.refl _))))))
  clear K4 K4' K3 o0 o1 o2 o3 o4 hcall
  go_wp2
  go_ret
  exact ⟨rfl, K5.out⟩

/-- The call returns a certificate of new rows, and two numbers beside it; nothing that was there has turned. -/
def FreshQ3 (w : World) (x y : Int) (l k : List UInt8) (L : List (List UInt8)) (n c : Int) (e : Ending) (w' : World) : Prop :=
  ∃ a b s row vs, e = .returned (.tuple #[.agg #[.int .i64 x, .int .i64 y, a, b, s], .int .i64 n, .int .i64 c]) ∧ vs.length = L.length ∧ Reads0 s row vs ∧ InvF w w' [segB 5 a l, segB 5 b k, row :: rowsS 5 vs L]
/-- What GetQc answers. -/
def GotQc (w : World) (r : QcAt) : Ending → World → Prop := FreshQ3 w (gqX r) (gqY r) (gqM r) (gqK r) (gqL r) (gqP r) r.e
theorem gotq_yes {w : World} {r : QcAt} {e : Ending} {w' : World} (h : r.e = 0) (H : FreshQ3 w r.x r.y r.m r.k r.L r.p 0 e w') : GotQc w r e w' := by
  obtain ⟨i1, i2, i3, i4, i5, i6⟩ := gq_all h
  unfold GotQc
  rw [i1, i2, i3, i4, i5, i6, h]
  exact H
theorem gotq_no {w : World} {r : QcAt} {e : Ending} {w' : World} (h : r.e ≠ 0) (he : e = .returned (.tuple #[.agg #[.int .i64 0, .int .i64 0, .slice none 0 0, .slice none 0 0, .slice none 0 0], .int .i64 0, .int .i64 r.e])) (H : Below w.heap.size w w') : GotQc w r e w' := by
  obtain ⟨i1, i2, i3, i4, i5, i6⟩ := gq_none h
  unfold GotQc
  rw [i1, i2, i3, i4, i5, i6]
  have hg : ∀ (w : World) (B : Nat), GOwn w B (24, .slice none 0 0, []) := fun w B => World.ownsRow_nil _ _ _ _
  refine ⟨.slice none 0 0, .slice none 0 0, .slice none 0 0, (24, .slice none 0 0, []), [], he, rfl, reads0_row (hg w 0), ?_⟩
  have h1 : InvF w w [[(24, .slice none 0 0, [])]] := (InvF.start w).more ((InvG.start w).moreG (hg _ _) (Below.refl _ _))
  have h2 := h1.moreB (E := 5) (v := .slice none 0 0) (l := []) (World.ownsRow_nil _ _ _ _) (Below.refl _ _)
  have h3 := h2.moreB (E := 5) (v := .slice none 0 0) (l := []) (World.ownsRow_nil _ _ _ _) H
  exact h3
end Go.Proofs.YtopbalemfljphaaDoor
