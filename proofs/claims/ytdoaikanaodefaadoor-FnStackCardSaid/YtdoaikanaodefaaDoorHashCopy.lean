/- hashCopy of the program: a copy of a slice of slices of bytes. -/
import Derived.Test.YtdoaikanaodefaaDoorStackBase
namespace Go.Proofs.YtdoaikanaodefaaDoor
open Go.ChangeShapes Go.WideShapes Go.ChangeAt Go.RowKit

set_option maxRecDepth 100000 in
set_option maxHeartbeats 1000000 in
theorem hashCopy_any (v : Value) (L : List (List UInt8)) (w : World) (h : SlS w w.heap.size v L) (hl : L.length ≤ 1048576) (hs : sumL L ≤ 1048576) :
    Calls Tryd.prog 41 #[v] w (FreshS w L) := by
  obtain ⟨A, c, rfl, h1, h2, h0, h3⟩ := h
  obtain ⟨i0, hi, hz0, hz1, hz2⟩ := info_parts sbinfo
  have hby : i0.bytes * L.length ≤ 281474976710656 := by rw [hz2]; omega
  have hml : L.length ≤ maxLen := by unfold maxLen; omega
  unfold maxLen at h2
  clear h0
  go_enter Tryd.func41, Tryd.ntmps41
  go_wp2_with (at_make; refine wpList_make_full _ rfl _ _ _ rfl w.heap.size 22 i0 (.slice none 0 0) 1 Tryd.underlying23 hi hz0 hz1 .i64 .i64 _ _ L.length rfl rfl rfl rfl hby hml (Nat.le_refl _) ?_; intro w1 hown1 hg1)
  have hb1 : Below w.heap.size w w1 := (Below.refl _ _).grown hg1 (Nat.le_refl _) (by simp)
  have H1 : InvG w w1 ((22, .slice (some ⟨w.heap.size, 0, none⟩) L.length L.length, CB [] L.length) :: rowsS 5 [] (L.take 0)) := by
    refine (InvG.start w).moreG ?_ hb1
    unfold GOwn
    simp only
    rw [CB_length (Nat.zero_le _), CB_nil]
    have e : (madeCells (Value.slice none 0 0).cells (L.length * 1)).toList = List.replicate L.length (.slice none 0 0) := by
      rw [Nat.mul_one]
      exact toList_madeCells_one _ _
    rw [← e]
    exact hown1
  clear hown1 hg1 hb1
  go_loopw [11] (fun i wr => ∃ (vs : List Value), vs.length ≤ L.length ∧ i = .int .i64 vs.length ∧ InvG w wr ((22, .slice (some ⟨w.heap.size, 0, none⟩) L.length L.length, CB vs L.length) :: rowsS 5 vs (L.take vs.length)))
    (fun i _ => L.length - (intOf i).toNat)
  case atStart => exact ⟨[], Nat.zero_le _, rfl, H1⟩
  case round =>
    clear H1
    obtain ⟨vs, hk, rfl, H⟩ := hrel
    obtain ⟨k, hkv⟩ : ∃ k, k = vs.length := ⟨_, rfl⟩
    rw [← hkv] at hk H ⊢
    have Hkv := Lib.hid hkv
    have Hcl : Hid ((CB vs L.length).length = L.length) := Lib.hid (CB_length (by omega))
    have Htl : Hid (vs.length = (L.take k).length) := Lib.hid (by rw [List.length_take]; omega)
    clear hkv
    by_cases hlt : k < L.length
    · have Hat : Hid ((CB vs L.length)[k]? = some (.slice none 0 0)) := Lib.hid (by rw [Hkv.out]; exact CB_at (by have := Hkv.out; omega))
      obtain ⟨b, off, rfl, hbb, hcell⟩ := h3 (by omega)
      obtain ⟨u, hu, hsl⟩ := hcell k hlt
      have hc0 := (H.bel.cell (p := ⟨b, off + k, none⟩) hbb).trans hu
      have hsl2 := hsl.up H.bel
      have hll : (L.getD k []).length ≤ 4294967296 := by have := sumL_one L k hlt; omega
      have htk := take_getD L k [] hlt
      clear hcell hu hsl
      generalize L.getD k [] = l at hsl2 hll htk
      have HTK := Lib.hid htk
      clear htk
      go_wp2_with fail
      refine (joined_any _ u [] l _ Sl.nil_ hsl2 (by simp) hll).mono ?_
      rw [List.nil_append]
      rintro e w3 ⟨u3, rfl, hown3, hb3⟩
      have H3 := (H.more hown3 hb3).perm (List.Perm.swap _ _ _)
      have hG := H3.2.1 _ (.head _)
      unfold GOwn at hG
      simp only at hG
      rw [Hcl.out] at hG
      obtain ⟨A3, c3, rfl, m1, m2, m0, m3⟩ := hown3.sl
      clear m0 m1 m2 m3
      have hat := (World.ownsRow.cellAt hG k (by omega)).trans Hat.out
      have hfr := World.ownsRow.frozenAt hG k
      go_wp2
      have hst := World.ownsRow.stored hG k (.slice A3 l.length c3)
      have hset : (CB vs L.length).set k (.slice A3 l.length c3) = CB (vs ++ [.slice A3 l.length c3]) L.length := by rw [Hkv.out]; exact CB_set _ (by have := Hkv.out; omega)
      rw [hset] at hst
      have hlen2 : (vs ++ [Value.slice A3 l.length c3]).length = k + 1 := by rw [List.length_append, Hkv.out]; rfl
      have hrows : rowsS 5 (vs ++ [.slice A3 l.length c3]) (L.take (k + 1)) = rowsS 5 vs (L.take k) ++ [(5, .slice A3 l.length c3, us l)] := by
        rw [HTK.out, rowsS_snoc _ _ _ _ _ Htl.out]
      have HF := Lib.hid ((H3.wrote (x' := CB (vs ++ [.slice A3 l.length c3]) L.length) (by unfold GOwn; simp only; rw [CB_length (by omega)]; exact hst.1) hst.2).perm (List.Perm.cons _ (List.perm_append_singleton _ _).symm))
      rw [← hrows] at HF
      have HLN := Lib.hid hlen2
      clear hst hset hG H3 hat hfr hlen2 hrows
      go_roundw
      case rel => exact ⟨vs ++ [.slice A3 l.length c3], by have := HLN.out; omega, by rw [HLN.out]; go_num, by rw [HLN.out]; exact HF.out⟩
      case measure => simp [intOf]; omega
    · obtain rfl : k = L.length := by omega
      go_wp2
      go_ret
      refine ⟨_, vs, rfl, Hkv.out.symm, ?_⟩
      rw [CB_full Hkv.out.symm, List.take_length] at H
      exact H

end Go.Proofs.YtdoaikanaodefaaDoor
