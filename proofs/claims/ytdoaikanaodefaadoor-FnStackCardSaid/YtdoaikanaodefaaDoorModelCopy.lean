/- l06Copy of the model: a copy of a slice of slices of bytes. -/
import Derived.Test.YtdoaikanaodefaaDoorStackBase
namespace Go.Proofs.YtdoaikanaodefaaDoor
open Go.ChangeShapes Go.WideShapes Go.ChangeAt Go.RowKit

/-- The rows with one more. -/
theorem rws_more {B : Nat} {w : World} {E2 E : TypeId} {u x : Value} {vs : List Value} {L : List (List UInt8)} {t : List UInt8} (hv : vs.length = L.length) (H : Rws B w ((E2, u, vs ++ [x]) :: (E, x, us t) :: rowsS E vs L)) :
    Rws B w ((E2, u, vs ++ [x]) :: rowsS E (vs ++ [x]) (L ++ [t])) := by
  rw [rowsS_snoc E vs L x t hv]
  exact H.perm (List.Perm.cons _ (List.perm_append_singleton _ _).symm)

set_option maxRecDepth 100000 in
set_option maxHeartbeats 1000000 in
theorem l06Copy_any (v : Value) (L : List (List UInt8)) (w : World) (h : SlS w w.heap.size v L) (hl : L.length ≤ 1048576) (hs : sumL L ≤ 1048576) :
    Calls Tryd.prog 56 #[v] w (FreshS w L) := by
  obtain ⟨A, c, rfl, h1, h2, h0, h3⟩ := h
  obtain ⟨i0, hi, hz0, hz1, hz2⟩ := info_parts sbinfo
  unfold maxLen at h2
  clear h0
  have hb0 : Below w.heap.size w (w.alloc (.cells #[] 22)) := (Below.refl _ _).alloc (Nat.le_refl _) _
  have hR0 : Rws w.heap.size (w.alloc (.cells #[] 22)) [(22, .slice (some ⟨w.heap.size, 0, none⟩) 0 0, [])] :=
    Rws.more (rs := []) (w := w) Rws.nil_ (World.ownsRow_lit w #[] 0 (Nat.le_refl _) (by simp [maxLen]) rfl) (Nat.le_refl _) (World.grownBy_alloc w _ none) (fun j e => by cases e)
  go_enter Tryd.func56, Tryd.ntmps56
  go_wp2
  go_loopw [3, 9] (fun o i wr => ∃ (vs : List Value), vs.length ≤ L.length ∧ i = .int .i64 vs.length ∧ Rws w.heap.size wr ((22, o, vs) :: rowsS 5 vs (L.take vs.length)) ∧ Below w.heap.size w wr)
    (fun _ i _ => L.length - (intOf i).toNat)
  case atStart => exact ⟨[], Nat.zero_le _, rfl, hR0, hb0⟩
  case round =>
    clear hR0 hb0
    obtain ⟨vs, hk, rfl, hR, hbel⟩ := hrel
    obtain ⟨k, hkv⟩ : ∃ k, k = vs.length := ⟨_, rfl⟩
    rw [← hkv] at hk hR ⊢
    have Hkv := Lib.hid hkv
    have Htl : Hid (vs.length = (L.take k).length) := Lib.hid (by rw [List.length_take]; omega)
    have hvs : vs.length ≤ 1048576 := by omega
    have hle := hbel.size
    clear hkv
    by_cases hlt : k < L.length
    · obtain ⟨b, off, rfl, hbb, hcell⟩ := h3 (by omega)
      obtain ⟨u, hu, hsl⟩ := hcell k hlt
      have hc0 := (hbel.cell (p := ⟨b, off + k, none⟩) hbb).trans hu
      have hsl2 := hsl.up hbel
      have hll : (L.getD k []).length ≤ 4294967296 := by have := sumL_one L k hlt; omega
      have htk := take_getD L k [] hlt
      clear hcell hu hsl
      generalize L.getD k [] = l at hsl2 hll htk
      have HTK := Lib.hid htk
      clear htk
      go_wp2_with fail
      refine (l01Copy_any u l _ hsl2 hll).mono ?_
      rintro e w2 ⟨x, rfl, ho2, hb2⟩
      have hbel2 := hbel.trans (hb2.mono hle)
      have hR2 := Rws.more hR (GOwn.b.2 ho2) hle (grown_of_below hb2 none) (fun j e => by cases e)
      have hR3 := hR2.perm (List.Perm.swap _ _ _)
      have hbl := (hR3.1 _ (.head _)).lt
      simp only at hbl
      obtain ⟨A3, c3, rfl, m1, m2, m0, m3⟩ := ho2.sl
      have hB2 := hbel2.size
      clear m0 m1 m2 m3 hR hR2 ho2
      go_wp2_with (at_builtin; refine wpList_appS1 (w := w2) rfl _ _ 23 rfl 22 i0 Tryd.underlying23 hi hz0 hz1 hz2 w.heap.size _ vs (by rfl) (.slice A3 l.length c3) rfl rfl hB2 hR3 (by omega) ?_; intro v4 w4 hR4 hg4)
      have hlen2 : (vs ++ [Value.slice A3 l.length c3]).length = k + 1 := by rw [List.length_append, Hkv.out]; rfl
      have HLN := Lib.hid hlen2
      have HF := Lib.hid (rws_more Htl.out hR4)
      rw [← HTK.out] at HF
      have HB4 := Lib.hid (hbel2.grown hg4 hB2 (fun j e => (hbl j e).1))
      clear hlen2 hR4 hg4 hR3 hbl
      go_roundw
      case rel => exact ⟨vs ++ [.slice A3 l.length c3], by have := HLN.out; omega, by rw [HLN.out]; go_num, by rw [HLN.out]; exact HF.out, HB4.out⟩
      case measure => simp [intOf]; omega
    · obtain rfl : k = L.length := by omega
      go_wp2
      go_ret
      refine ⟨_, vs, rfl, Hkv.out.symm, ?_⟩
      rw [List.take_length] at hR
      exact hR.inv hbel
end Go.Proofs.YtdoaikanaodefaaDoor
