/- StackBase: IBase, SSBase, StackBase. -/
import Derived.Test.YtdoaikanaodefaaDoorList
import Derived.Test.YtdoaikanaodefaaDoorPut
import Derived.Test.YtdoaikanaodefaaDoorMem
import Derived.Deep.RegionWith

/- The contracts of the helpers on slices of ints that exact laws call: toIntS, eqIntS, markIntS, heldIntS. -/
namespace Go.Proofs.YtdoaikanaodefaaDoor
open Go.ChangeShapes Go.WideShapes Go.ChangeAt Go.RowKit

/-- What toIntS has made after k rounds. -/
def TBI (l : List Int) (k : Nat) : List Int := l.take k ++ List.replicate (l.length - k) 0
theorem TBI_length (l : List Int) (k : Nat) (h : k ≤ l.length) : (TBI l k).length = l.length := by simp [TBI]; omega
theorem TBI_zero (l : List Int) : is (TBI l 0) = List.replicate l.length (.int .i64 0) := by simp [TBI, is]
theorem TBI_full (l : List Int) : TBI l l.length = l := by simp [TBI]
theorem TBI_set (l : List Int) (k : Nat) (h : k < l.length) : (is (TBI l k)).set k (.int .i64 (it l k)) = is (TBI l (k + 1)) := by
  have e : it l k = l[k] := by simp [it, List.getD_eq_getElem?_getD, List.getElem?_eq_getElem h]
  rw [e, is_set]
  congr 1
  apply List.ext_getElem?
  intro j
  simp only [TBI, List.getElem?_set, List.length_append, List.length_take, List.length_replicate]
  rcases Nat.lt_trichotomy j k with hj | hj | hj
  · rw [if_neg (by omega), List.getElem?_append_left (by simp; omega), List.getElem?_append_left (by simp; omega), List.getElem?_take_of_lt (by omega), List.getElem?_take_of_lt (by omega)]
  · subst hj
    rw [if_pos rfl, if_pos (by omega), List.getElem?_append_left (by simp; omega), List.getElem?_take_of_lt (by omega), List.getElem?_eq_getElem h]
  · rw [if_neg (by omega), List.getElem?_append_right (by simp; omega), List.getElem?_append_right (by simp; omega), List.getElem?_replicate, List.getElem?_replicate]
    simp only [List.length_take]
    by_cases hjl : j < l.length
    · rw [if_pos (by omega), if_pos (by omega)]
    · rw [if_neg (by omega), if_neg (by omega)]

set_option maxHeartbeats 400000 in
theorem toIntS_any (v : Value) (l : List Int) (w : World) (h : SlI w w.heap.size v l) (hl : l.length ≤ 4294967296) :
    Calls Tryd.prog 57 #[v] w (FreshI w l) := by
  obtain ⟨A, c, rfl, h1, h2, h0, h3⟩ := h
  obtain ⟨i0, hi, hz0, hz1, hz2⟩ := info_parts i64info
  have hby : i0.bytes * l.length ≤ 281474976710656 := by rw [hz2]; omega
  have hml : l.length ≤ maxLen := by unfold maxLen; omega
  unfold maxLen at h2
  clear h0
  go_enter Tryd.func57, Tryd.ntmps57
  go_wp2_with (at_make; refine wpList_make_full _ rfl _ _ _ rfl w.heap.size 3 i0 (.int .i64 0) 1 Tryd.underlying25 hi hz0 hz1 .i64 .i64 _ _ l.length rfl rfl rfl rfl hby hml (Nat.le_refl _) ?_; intro w1 hown1 hg1)
  have hb1 : Below w.heap.size w w1 := (Below.refl _ _).grown hg1 (Nat.le_refl _) (by simp)
  have ho1 : w1.ownsRow w.heap.size 3 1 (.slice (some ⟨w.heap.size, 0, none⟩) l.length l.length) l.length (is (TBI l 0)) := by
    rw [TBI_zero]
    have e : (madeCells (Value.int .i64 0).cells (l.length * 1)).toList = List.replicate l.length (.int .i64 0) := by
      rw [Nat.mul_one]
      exact toList_madeCells_one _ _
    rw [← e]
    exact hown1
  clear hown1 hg1
  go_loopw [4] (fun i wr => ∃ k : Nat, k ≤ l.length ∧ i = .int .i64 k ∧ wr.ownsRow w.heap.size 3 1 (.slice (some ⟨w.heap.size, 0, none⟩) l.length l.length) l.length (is (TBI l k)) ∧ Below w.heap.size w wr)
    (fun i _ => l.length - (intOf i).toNat)
  case atStart => exact ⟨0, Nat.zero_le _, rfl, ho1, hb1⟩
  case round =>
    obtain ⟨k, hk, rfl, hown, hbel⟩ := hrel
    by_cases hlt : k < l.length
    · obtain ⟨b, off, rfl, hbb, hcell⟩ := h3 (by omega)
      have hc0 := (hbel.cell (p := ⟨b, off + k, none⟩) hbb).trans (hcell k hlt)
      have hc1 := (World.ownsRow.cellAt hown k (by omega)).trans (is_get (TBI l k) k (by rw [TBI_length l k hk]; exact hlt))
      have hf1 := World.ownsRow.frozenAt hown k
      clear hcell
      have hst := World.ownsRow.stored hown k (.int .i64 (it l k))
      have hst1 := Lib.hid hst
      clear hst
      go_wp2
      go_roundw
      case rel => exact ⟨k + 1, by omega, by go_num, by rw [← TBI_set l k hlt]; exact hst1.out.1, hbel.setCell (Nat.le_refl _) _⟩
      case measure => simp [intOf]; omega
    · obtain rfl : k = l.length := by omega
      go_wp2
      go_ret
      exact ⟨_, rfl, by rw [TBI_full] at hown; exact hown, hbel⟩

set_option maxHeartbeats 400000 in
theorem eqIntS_any (v u : Value) (l : List Int) (w : World) (h : SlI w w.heap.size v l) (h' : SlI w w.heap.size u l) :
    Calls Tryd.prog 58 #[v, u] w (Quiet (.bool true) w) := by
  obtain ⟨A, c, rfl, h1, h2, h0, h3⟩ := h
  obtain ⟨A', c', rfl, h1', h2', h0', h3'⟩ := h'
  unfold maxLen at h2 h2'
  clear h0 h0'
  have hne : ((l.length : Int) != (l.length : Int)) = false := by simp
  go_enter Tryd.func58, Tryd.ntmps58
  go_wp2
  go_loopw [5] (fun i wr => ∃ k : Nat, k ≤ l.length ∧ i = .int .i64 k ∧ ∃ n, wr = w.drewN n)
    (fun i _ => l.length - (intOf i).toNat)
  case atStart => exact ⟨0, Nat.zero_le _, rfl, 0, rfl⟩
  case round =>
    obtain ⟨k, hk, rfl, n, rfl⟩ := hrel
    by_cases hlt : k < l.length
    · obtain ⟨b, off, rfl, hbb, hcell⟩ := h3 (by omega)
      obtain ⟨b', off', rfl, hbb', hcell'⟩ := h3' (by omega)
      have hc0 := hcell k hlt
      have hc1 := hcell' k hlt
      have hbn : ((it l k) != (it l k)) = false := by simp
      clear hcell hcell'
      go_wp2
      go_quiet (fail)
      go_wp2
      go_roundw
      case rel => exact ⟨k + 1, by omega, by go_num, n + nq, rfl⟩
      case measure => simp [intOf]; omega
    · obtain rfl : k = l.length := by omega
      go_wp2
      go_ret
      exact ⟨rfl, n, rfl⟩

/-- The numbers that markIntS writes: k, k + 1, .. -/
def marksI (k n : Nat) : List Int := (List.range n).map fun (i : Nat) => ((k : Int) + (i : Int))
theorem marksI_length (k n : Nat) : (marksI k n).length = n := by simp [marksI]
theorem marksI_succ (k n : Nat) : marksI k (n + 1) = marksI k n ++ [((k : Int) + (n : Int))] := by simp [marksI, List.range_succ]
theorem it_marks (k n j : Nat) (h : j < n) : it (marksI k n) j = (k : Int) + (j : Int) := by
  simp [it, marksI, List.getD_eq_getElem?_getD, h]
/-- What markIntS has written after j rounds. -/
def MKI (l : List Int) (k j : Nat) : List Int := marksI k j ++ l.drop j
theorem MKI_zero (l : List Int) (k : Nat) : MKI l k 0 = l := by simp [MKI, marksI]
theorem MKI_full (l : List Int) (k : Nat) : MKI l k l.length = marksI k l.length := by simp [MKI]
theorem MKI_length (l : List Int) (k j : Nat) (h : j ≤ l.length) : (MKI l k j).length = l.length := by simp [MKI, marksI]; omega
theorem MKI_set (l : List Int) (k j : Nat) (h : j < l.length) : (is (MKI l k j)).set j (.int .i64 ((k : Int) + (j : Int))) = is (MKI l k (j + 1)) := by
  rw [is_set]
  congr 1
  unfold MKI
  rw [marksI_succ, List.set_append_right _ _ (by simp [marksI]), List.append_assoc]
  congr 1
  rw [marksI_length, Nat.sub_self, List.drop_eq_getElem_cons h]
  rfl

/-- Every number of v has been written over, and nothing else. -/
def MarkedI (v : Value) (l : List Int) (k B : Nat) (w : World) (e : Ending) (w' : World) : Prop :=
  e = .returned (.int .i64 ((k : Int) + (l.length : Int))) ∧ OwnI 3 w' B v (marksI k l.length) ∧ w.grownBy w' v.ownBlock

set_option maxHeartbeats 400000 in
theorem markIntS_any (v : Value) (l : List Int) (k B : Nat) (w : World) (h : OwnI 3 w B v l) (hk : k ≤ 4294967296) (hl : l.length ≤ 4294967296) :
    Calls Tryd.prog 59 #[v, .int .i64 (k : Int)] w (MarkedI v l k B w) := by
  rcases h.2 with ⟨rfl, h0⟩ | ⟨g, cap, cur, rfl, hb, hg, hn, hm, hs, ht⟩
  · have : l = [] := List.eq_nil_of_length_eq_zero h0
    subst this
    go_enter Tryd.func59, Tryd.ntmps59
    go_wp2
    refine wp_loop_rounds 1 ?_
    rw [rounds_succ]
    go_wp2
    go_ret
    exact ⟨by simp, h, World.grownBy.refl _ _⟩
  · have hcap : l.length ≤ 9223372036854775807 := by omega
    clear hg hs ht hm
    go_enter Tryd.func59, Tryd.ntmps59
    go_wp2
    go_loopw [1, 5] (fun q i wr => ∃ j : Nat, j ≤ l.length ∧ i = .int .i64 j ∧ q = .int .i64 ((k : Int) + (j : Int)) ∧ wr.ownsRow B 3 1 (.slice (some ⟨g, 0, none⟩) l.length cap) l.length (is (MKI l k j)) ∧ w.grownBy wr (some g))
      (fun _ i _ => l.length - (intOf i).toNat)
    case atStart => exact ⟨0, Nat.zero_le _, rfl, by simp, by rw [MKI_zero]; exact h, World.grownBy.refl _ _⟩
    case round =>
      obtain ⟨j, hj, rfl, rfl, hown, hgr⟩ := hrel
      by_cases hlt : j < l.length
      · have hc1 := (World.ownsRow.cellAt hown j (by omega)).trans (is_get (MKI l k j) j (by rw [MKI_length l k j hj]; exact hlt))
        have hf1 := World.ownsRow.frozenAt hown j
        have hst := World.ownsRow.stored hown j (.int .i64 ((k : Int) + (j : Int)))
        have hst1 := Lib.hid hst
        clear hst
        go_wp2
        go_roundw
        case rel => exact ⟨j + 1, by omega, by go_num, by go_num, by rw [← MKI_set l k j hlt]; exact hst1.out.1, gtrans hgr hst1.out.2⟩
        case measure => simp [intOf]; omega
      · obtain rfl : j = l.length := by omega
        go_wp2
        go_ret
        exact ⟨rfl, by rw [MKI_full] at hown; unfold OwnI; rw [marksI_length]; exact hown, hgr⟩

set_option maxHeartbeats 400000 in
theorem heldIntS_any (v : Value) (k n : Nat) (w : World) (h : SlI w w.heap.size v (marksI k n)) (hk : k ≤ 4294967296) (hl : n ≤ 4294967296) :
    Calls Tryd.prog 60 #[v, .int .i64 (k : Int)] w (Quiet (.int .i64 ((k : Int) + (n : Int))) w) := by
  obtain ⟨A, c, rfl, h1, h2, h0, h3⟩ := h
  rw [marksI_length] at h1 h3 ⊢
  unfold maxLen at h2
  clear h0
  go_enter Tryd.func60, Tryd.ntmps60
  go_wp2
  go_loopw [1, 5] (fun q i wr => ∃ j : Nat, j ≤ n ∧ i = .int .i64 j ∧ q = .int .i64 ((k : Int) + (j : Int)) ∧ ∃ m, wr = w.drewN m)
    (fun _ i _ => n - (intOf i).toNat)
  case atStart => exact ⟨0, Nat.zero_le _, rfl, by simp, 0, rfl⟩
  case round =>
    obtain ⟨j, hj, rfl, rfl, m, rfl⟩ := hrel
    by_cases hlt : j < n
    · obtain ⟨b, off, rfl, hbb, hcell⟩ := h3 (by omega)
      have hc0 := hcell j hlt
      rw [it_marks k n j hlt] at hc0
      have hbn : (((k : Int) + (j : Int)) != ((k : Int) + (j : Int))) = false := by simp
      clear hcell
      go_wp2
      go_roundw
      case rel => exact ⟨j + 1, by omega, by go_num, by go_num, m, rfl⟩
      case measure => simp [intOf]; omega
    · obtain rfl : j = n := by omega
      go_wp2
      go_ret
      exact ⟨rfl, m, rfl⟩

/-! The same at any spelling of k. -/
theorem markIntS_z (v : Value) (l : List Int) (k B : Nat) (kz : Int) (w : World) (h : OwnI 3 w B v l) (hz : kz = (k : Int)) (hk : k ≤ 4294967296) (hl : l.length ≤ 4294967296) :
    Calls Tryd.prog 59 #[v, .int .i64 kz] w fun e w' => e = .returned (.int .i64 (kz + (l.length : Int))) ∧ OwnI 3 w' B v (marksI k l.length) ∧ w.grownBy w' v.ownBlock := by
  subst hz
  exact markIntS_any v l k B w h hk hl
theorem heldIntS_z (v : Value) (k n : Nat) (kz : Int) (w : World) (h : SlI w w.heap.size v (marksI k n)) (hz : kz = (k : Int)) (hk : k ≤ 4294967296) (hl : n ≤ 4294967296) :
    Calls Tryd.prog 60 #[v, .int .i64 kz] w (Quiet (.int .i64 (kz + (n : Int))) w) := by
  subst hz
  exact heldIntS_any v k n w h hk hl

/-- A slice of ints that came in reads as a list of ints. -/
theorem slI_of_row {w : World} {a : Option Addr} {len cap : Nat} {zs : List Int}
    (h : (a = none ∧ len = 0 ∧ cap = 0 ∧ zs = []) ∨
      ∃ x, a = some x ∧ len ≤ cap ∧ cap ≤ maxLen ∧ zs.length = cap ∧ (∀ i, i < zs.length → w.cell? (x.add i) = some (.int .i64 (zs.getD i 0))) ∧ ∀ n ∈ zs, (Lit.int .i64 n).wf = true) :
    ∃ l : List Int, l.length = len ∧ SlI w w.heap.size (.slice a len cap) l := by
  rcases h with ⟨rfl, rfl, rfl, rfl⟩ | ⟨x, rfl, h1, h2, h3, h4, h5⟩
  · exact ⟨[], rfl, SlI.nil_⟩
  · have hlen : (zs.take len).length = len := by simp; omega
    refine ⟨zs.take len, hlen, some x, cap, by rw [hlen], by rw [hlen]; exact h1, h2, (fun e => by cases e), fun hp => ?_⟩
    rw [hlen] at hp ⊢
    obtain ⟨b, off, spot⟩ := x
    have hc0 := h4 0 (by omega)
    have hspot : spot = none := by simpa [Addr.add] using World.cell?_spot hc0
    subst hspot
    refine ⟨b, off, rfl, lt_of_cell (off := off) (by simpa [Addr.add] using hc0), fun k hk => ?_⟩
    have hck := h4 k (by omega)
    have hz : (zs.getD k 0) = it (zs.take len) k := by
      simp [it, List.getD_eq_getElem?_getD, List.getElem?_take_of_lt hk]
    rw [hz] at hck
    have e : (⟨b, off, none⟩ : Addr).add k = ⟨b, off + k, none⟩ := by
      unfold Addr.add
      split
      · rename_i h0; subst h0; rfl
      · rfl
    rw [e] at hck
    exact hck
end Go.Proofs.YtdoaikanaodefaaDoor

/- The contracts of the helpers on slices of slices of bytes that exact laws call: toByteSS, eqByteSS, markByteSS, szByteSS. -/
namespace Go.Proofs.YtdoaikanaodefaaDoor
open Go.ChangeShapes Go.WideShapes Go.ChangeAt Go.RowKit

theorem sbinfo : (Tryd.prog.info? 22).map (fun i => (i.zero, i.size, i.bytes)) = some (some (.slice none 0 0), 1, 24) := by kernel_rfl

/-- The call returns a new slice of new rows that reads as L; nothing that was there has turned. -/
def FreshS (w : World) (L : List (List UInt8)) (e : Ending) (w' : World) : Prop :=
  ∃ u vs, e = .returned u ∧ vs.length = L.length ∧ InvG w w' ((22, u, vs) :: rowsS 5 vs L)

/-- The cells of toByteSS after some rounds. -/
def CB (vs : List Value) (n : Nat) : List Value := vs ++ List.replicate (n - vs.length) (.slice none 0 0)
theorem CB_length {vs : List Value} {n : Nat} (h : vs.length ≤ n) : (CB vs n).length = n := by simp [CB]; omega
theorem CB_nil (n : Nat) : CB [] n = List.replicate n (.slice none 0 0) := by simp [CB]
theorem CB_full {vs : List Value} {n : Nat} (h : vs.length = n) : CB vs n = vs := by simp [CB, h]
theorem CB_at {vs : List Value} {n : Nat} (h : vs.length < n) : (CB vs n)[vs.length]? = some (.slice none 0 0) := by
  unfold CB
  rw [List.getElem?_append_right (Nat.le_refl _), Nat.sub_self, List.getElem?_replicate, if_pos (by omega)]
theorem CB_set {vs : List Value} {n : Nat} (u : Value) (h : vs.length < n) : (CB vs n).set vs.length u = CB (vs ++ [u]) n := by
  unfold CB
  rw [List.set_append_right _ _ (Nat.le_refl _), Nat.sub_self, show n - vs.length = (n - (vs ++ [u]).length) + 1 by simp; omega, List.replicate_succ, List.set_cons_zero, List.append_assoc]
  rfl

set_option maxHeartbeats 1000000 in
theorem toByteSS_any (v : Value) (L : List (List UInt8)) (w : World) (h : SlS w w.heap.size v L) (hl : L.length ≤ 1048576) (hs : sumL L ≤ 1048576) :
    Calls Tryd.prog 27 #[v] w (FreshS w L) := by
  obtain ⟨A, c, rfl, h1, h2, h0, h3⟩ := h
  obtain ⟨i0, hi, hz0, hz1, hz2⟩ := info_parts sbinfo
  have hby : i0.bytes * L.length ≤ 281474976710656 := by rw [hz2]; omega
  have hml : L.length ≤ maxLen := by unfold maxLen; omega
  unfold maxLen at h2
  clear h0
  go_enter Tryd.func27, Tryd.ntmps27
  go_wp2_with (at_make; refine wpList_make_full _ rfl _ _ _ rfl w.heap.size 22 i0 (.slice none 0 0) 1 Tryd.underlying23 hi hz0 hz1 .i64 .i64 _ _ L.length rfl rfl rfl rfl hby hml (Nat.le_refl _) ?_; intro w1 hown1 hg1)
  have hb1 : Below w.heap.size w w1 := (Below.refl _ _).grown hg1 (Nat.le_refl _) (by simp)
  have H1 : InvG w w1 ((22, .slice (some ⟨w.heap.size, 0, none⟩) L.length L.length, CB [] L.length) :: rowsS 5 [] (L.take 0)) := by
    refine (InvG.start w).moreG ?_ hb1
    unfold GOwn
    simp only
    rw [CB_length (Nat.zero_le _), CB_nil]
    have e : (madeCells (Value.slice none 0 0).cells (L.length * 1)).toList = List.replicate L.length (.slice none 0 0) := by
      rw [Nat.mul_one]
      exact toList_madeCells_one _ _
    rw [← e]
    exact hown1
  clear hown1 hg1 hb1
  go_loopw [4] (fun i wr => ∃ (vs : List Value), vs.length ≤ L.length ∧ i = .int .i64 vs.length ∧ InvG w wr ((22, .slice (some ⟨w.heap.size, 0, none⟩) L.length L.length, CB vs L.length) :: rowsS 5 vs (L.take vs.length)))
    (fun i _ => L.length - (intOf i).toNat)
  case atStart => exact ⟨[], Nat.zero_le _, rfl, H1⟩
  case round =>
    clear H1
    obtain ⟨vs, hk, rfl, H⟩ := hrel
    obtain ⟨k, hkv⟩ : ∃ k, k = vs.length := ⟨_, rfl⟩
    rw [← hkv] at hk H ⊢
    have Hkv := Lib.hid hkv
    have Hcl : Hid ((CB vs L.length).length = L.length) := Lib.hid (CB_length (by omega))
    have Htl : Hid (vs.length = (L.take k).length) := Lib.hid (by rw [List.length_take]; omega)
    clear hkv
    by_cases hlt : k < L.length
    · have Hat : Hid ((CB vs L.length)[k]? = some (.slice none 0 0)) := Lib.hid (by rw [Hkv.out]; exact CB_at (by have := Hkv.out; omega))
      obtain ⟨b, off, rfl, hbb, hcell⟩ := h3 (by omega)
      obtain ⟨u, hu, hsl⟩ := hcell k hlt
      have hc0 := (H.bel.cell (p := ⟨b, off + k, none⟩) hbb).trans hu
      have hsl2 := hsl.up H.bel
      have hll : (L.getD k []).length ≤ 4294967296 := by have := sumL_one L k hlt; omega
      have htk := take_getD L k [] hlt
      clear hcell hu hsl
      generalize L.getD k [] = l at hsl2 hll htk
      have HTK := Lib.hid htk
      clear htk
      go_wp2_with fail
      refine (toByteS_any _ l _ hsl2 hll).mono ?_
      rintro e w3 ⟨u3, rfl, hown3, hb3⟩
      have H3 := (H.more hown3 hb3).perm (List.Perm.swap _ _ _)
      have hG := H3.2.1 _ (.head _)
      unfold GOwn at hG
      simp only at hG
      rw [Hcl.out] at hG
      obtain ⟨A3, c3, rfl, m1, m2, m0, m3⟩ := hown3.sl
      clear m0 m1 m2 m3
      have hat := (World.ownsRow.cellAt hG k (by omega)).trans Hat.out
      have hfr := World.ownsRow.frozenAt hG k
      go_wp2
      have hst := World.ownsRow.stored hG k (.slice A3 l.length c3)
      have hset : (CB vs L.length).set k (.slice A3 l.length c3) = CB (vs ++ [.slice A3 l.length c3]) L.length := by rw [Hkv.out]; exact CB_set _ (by have := Hkv.out; omega)
      rw [hset] at hst
      have hlen2 : (vs ++ [Value.slice A3 l.length c3]).length = k + 1 := by rw [List.length_append, Hkv.out]; rfl
      have hrows : rowsS 5 (vs ++ [.slice A3 l.length c3]) (L.take (k + 1)) = rowsS 5 vs (L.take k) ++ [(5, .slice A3 l.length c3, us l)] := by
        rw [HTK.out, rowsS_snoc _ _ _ _ _ Htl.out]
      have HF := Lib.hid ((H3.wrote (x' := CB (vs ++ [.slice A3 l.length c3]) L.length) (by unfold GOwn; simp only; rw [CB_length (by omega)]; exact hst.1) hst.2).perm (List.Perm.cons _ (List.perm_append_singleton _ _).symm))
      rw [← hrows] at HF
      have HLN := Lib.hid hlen2
      clear hst hset hG H3 hat hfr hlen2 hrows
      go_roundw
      case rel => exact ⟨vs ++ [.slice A3 l.length c3], by have := HLN.out; omega, by rw [HLN.out]; go_num, by rw [HLN.out]; exact HF.out⟩
      case measure => simp [intOf]; omega
    · obtain rfl : k = L.length := by omega
      go_wp2
      go_ret
      refine ⟨_, vs, rfl, Hkv.out.symm, ?_⟩
      rw [CB_full Hkv.out.symm, List.take_length] at H
      exact H

set_option maxHeartbeats 1000000 in
theorem eqByteSS_any (v u : Value) (L : List (List UInt8)) (w : World) (h : SlS w w.heap.size v L) (h' : SlS w w.heap.size u L) :
    Calls Tryd.prog 28 #[v, u] w (Quiet (.bool true) w) := by
  obtain ⟨A, c, rfl, h1, h2, h0, h3⟩ := h
  obtain ⟨A', c', rfl, h1', h2', h0', h3'⟩ := h'
  unfold maxLen at h2 h2'
  clear h0 h0'
  have hne : ((L.length : Int) != (L.length : Int)) = false := by simp
  go_enter Tryd.func28, Tryd.ntmps28
  go_wp2
  go_loopw [5] (fun i wr => ∃ k : Nat, k ≤ L.length ∧ i = .int .i64 k ∧ ∃ n, wr = w.drewN n)
    (fun i _ => L.length - (intOf i).toNat)
  case atStart => exact ⟨0, Nat.zero_le _, rfl, 0, rfl⟩
  case round =>
    obtain ⟨k, hk, rfl, n, rfl⟩ := hrel
    by_cases hlt : k < L.length
    · obtain ⟨b, off, rfl, hbb, hcell⟩ := h3 (by omega)
      obtain ⟨b', off', rfl, hbb', hcell'⟩ := h3' (by omega)
      obtain ⟨x, hc0, hx⟩ := hcell k hlt
      obtain ⟨y, hc1, hy⟩ := hcell' k hlt
      obtain ⟨w2, hw2⟩ : ∃ w2, w2 = w.drewN n := ⟨_, rfl⟩
      replace hc0 : w2.cell? ⟨b, off + k, none⟩ = some x := by rw [hw2]; exact hc0
      replace hc1 : w2.cell? ⟨b', off' + k, none⟩ = some y := by rw [hw2]; exact hc1
      replace hx : Sl w2 w2.heap.size x (L.getD k []) := by rw [hw2]; exact hx
      replace hy : Sl w2 w2.heap.size y (L.getD k []) := by rw [hw2]; exact hy
      have Q := Lib.hid (fun (m : Nat) => eqByteS_any x y (L.getD k []) (w2.drewN m) hx hy)
      have Hw2 := Lib.hid hw2
      rw [← hw2]
      clear hcell hcell' hw2 hx hy
      go_wp2
      go_quiet (first | (go_at_call_of 21 x; exact Calls.quiet_of (Q.out _)))
      go_wp2
      go_roundw
      case rel => exact ⟨k + 1, by omega, by go_num, n + nq, by rw [Hw2.out, World.drewN_drewN]⟩
      case measure => simp [intOf]; omega
    · obtain rfl : k = L.length := by omega
      go_wp2
      go_ret
      exact ⟨rfl, n, rfl⟩

theorem marksS_at (L : List (List UInt8)) (k j : Nat) (h : j < L.length) : (marksS k L).getD j [] = marks (k + sumL (L.take j)) (L.getD j []).length := marksS_get L k j h

set_option maxHeartbeats 1000000 in
theorem markByteSS_any (W w : World) (u : Value) (vs : List Value) (L : List (List UInt8)) (rs : List (TypeId × Value × List Value)) (k : Nat) (hv : vs.length = L.length)
    (H : InvG W w ((22, u, vs) :: (rowsS 5 vs L ++ rs))) (hk : k ≤ 1073741824) (hs : sumL L ≤ 1073741824) :
    Calls Tryd.prog 29 #[u, .int .i64 (k : Int)] w
      (fun e w' => e = .returned (.int .i64 ((k : Int) + (sumL L : Int))) ∧ InvG W w' ((22, u, vs) :: (rowsS 5 vs (marksS k L) ++ rs))) := by
  obtain ⟨A, c, rfl, h1, h2, h0, h3⟩ := (H.2.1 _ (.head _)).cells
  unfold maxLen at h2
  clear h0 h3
  obtain ⟨n, hn⟩ : ∃ n, n = vs.length := ⟨_, rfl⟩
  rw [← hn] at h1 hv H ⊢
  have Hn := Lib.hid hn
  have Hv := Lib.hid hv
  have HL : L.length = n := hv.symm
  have HLh := Lib.hid HL
  clear hv HL hn
  go_enter Tryd.func29, Tryd.ntmps29
  go_wp2
  go_loopw [1, 5] (fun q i wr => ∃ j : Nat, j ≤ n ∧ i = .int .i64 j ∧ q = .int .i64 ((k : Int) + (sumL (L.take j) : Int)) ∧ InvG W wr ((22, .slice A n c, vs) :: (rowsS 5 vs (MS L k j) ++ rs)))
    (fun _ i _ => n - (intOf i).toNat)
  case atStart => exact ⟨0, Nat.zero_le _, rfl, by simp [sumL], by rw [MS_zero]; exact H⟩
  case round =>
    clear H
    obtain ⟨j, hj, rfl, rfl, H⟩ := hrel
    by_cases hlt : j < n
    · have hlL : j < L.length := by rw [HLh.out]; exact hlt
      obtain ⟨A', c', e', k1, k2, k0, k3⟩ := (H.2.1 _ (.head _)).cells
      obtain ⟨b, hA, hbb, hcell⟩ := k3 (by rw [← Hn.out]; omega)
      simp only [Value.slice.injEq] at e'
      obtain ⟨rfl, hnn, rfl⟩ := e'
      clear hnn
      subst hA
      have hvj := getD_at vs j (.bool false) (by rw [← Hn.out]; exact hlt)
      generalize vs.getD j (.bool false) = x at hvj
      have hc0 := (hcell j (by rw [← Hn.out]; exact hlt)).trans hvj
      have hrow := rowsS_get 5 vs (MS L k j) j x hvj (by rw [MS_length L k j (by omega)]; exact hlL)
      rw [MS_at L k j hlL] at hrow
      have hown := H.own 5 (v := x) (l := L.getD j []) (.tail _ (List.mem_append_left _ (List.mem_of_getElem? hrow)))
      have hsum := sumL_take L j hlL
      have hle := sumL_le L (j + 1)
      have hll : (L.getD j []).length ≤ 4294967296 := by omega
      have hm := marksS_at L k j hlL
      have hset := MS_set L k j hlL
      have hrs := rowsS_set 5 vs (MS L k j) j x ((marksS k L).getD j []) hvj
      rw [hm] at hset hrs
      rw [hset] at hrs
      generalize L.getD j [] = l at hrow hown hsum hll hrs
      have hsz : sumL (L.take j) ≤ 1073741824 := by omega
      have HR := Lib.hid hrow
      have HS := Lib.hid hrs
      have HU := Lib.hid hsum
      clear hcell hm hset k0 k1 k2 k3 hrow hrs hsum hle
      generalize hq : sumL (L.take j) = q at hsz HU
      rw [hq] at HS
      go_wp2_with (go_at_call 23; refine (markByteS_z x l (k + q) _ _ _ hown (by omega) (by omega) hll).mono ?_; rintro e w3 ⟨rfl, ho3, hg3⟩)
      have hix : ((22, Value.slice (some ⟨b, 0, none⟩) n c, vs) :: (rowsS 5 vs (MS L k j) ++ rs))[j + 1]? = some (5, x, us l) := by
        rw [List.getElem?_cons_succ, List.getElem?_append_left (List.getElem?_eq_some_iff.1 HR.out).1]
        exact HR.out
      have H3 := H.wroteAt (j + 1) hix ho3 hg3
      rw [List.set_cons_succ, List.set_append_left _ _ (List.getElem?_eq_some_iff.1 HR.out).1, HS.out] at H3
      go_roundw
      case rel => exact ⟨j + 1, by omega, by go_num, by rw [HU.out]; go_num, H3⟩
      case measure => simp [intOf]; omega
    · obtain rfl : j = n := by omega
      have hfull : MS L k j = marksS k L := by rw [← HLh.out]; exact MS_full L k
      have htk : L.take j = L := by rw [← HLh.out, List.take_length]
      rw [htk]
      rw [hfull] at H
      go_wp2
      go_ret
      exact ⟨rfl, H⟩

/-- What szByteSS leaves of m. -/
def szZ (L : List (List UInt8)) (m : Int) : Int := if m < (L.length : Int) + (sumL L : Int) then -1 else m - (L.length : Int) - (sumL L : Int)
theorem szByteS_any (v : Value) (l : List UInt8) (m : Int) (w : World) (h : Sl w w.heap.size v l) (h0 : 0 ≤ m) (hm : m ≤ 1073741824) :
    Calls Tryd.prog 62 #[v, .int .i64 m] w (fun e w' => e = .returned (.int .i64 (if m < (l.length : Int) then -1 else m - (l.length : Int))) ∧ w' = w) := by
  obtain ⟨A, c, rfl, h1, h2, k0, h3⟩ := h
  unfold maxLen at h2
  clear k0 h3
  by_cases hlt : m < (l.length : Int)
  · rw [if_pos hlt]
    go_enter Tryd.func62, Tryd.ntmps62
    have hn : m - (l.length : Int) < 0 := by omega
    go_wp2
    go_ret
    exact ⟨rfl, rfl⟩
  · rw [if_neg hlt]
    go_enter Tryd.func62, Tryd.ntmps62
    have hn : ¬ m - (l.length : Int) < 0 := by omega
    go_wp2
    go_ret
    exact ⟨rfl, rfl⟩
set_option maxHeartbeats 1000000 in
theorem szByteSS_any (v : Value) (L : List (List UInt8)) (m : Int) (w : World) (h : SlS w w.heap.size v L) (h0 : 0 ≤ m) (hm : m ≤ 1073741824) :
    Calls Tryd.prog 25 #[v, .int .i64 m] w (fun e w' => e = .returned (.int .i64 (szZ L m)) ∧ w' = w) := by
  obtain ⟨A, c, rfl, h1, h2, k0, h3⟩ := h
  unfold maxLen at h2
  clear k0
  obtain ⟨R, hR⟩ : ∃ R, R = szZ L m := ⟨_, rfl⟩
  rw [← hR]
  unfold szZ at hR
  have HR := Lib.hid hR
  clear hR
  by_cases hlt : m < (L.length : Int)
  · obtain rfl : R = -1 := by rw [HR.out, if_pos (by omega)]
    go_enter Tryd.func25, Tryd.ntmps25
    have hn : m - (L.length : Int) < 0 := by omega
    go_wp2
    go_ret
    exact ⟨rfl, rfl⟩
  · have hn : ¬ m - (L.length : Int) < 0 := by omega
    go_enter Tryd.func25, Tryd.ntmps25
    go_wp2
    go_loopw [1, 5] (fun q i wr => ∃ j : Nat, j ≤ L.length ∧ i = .int .i64 j ∧ q = .int .i64 (m - (L.length : Int) - (sumL (L.take j) : Int)) ∧ 0 ≤ m - (L.length : Int) - (sumL (L.take j) : Int) ∧ wr = w)
      (fun _ i _ => L.length - (intOf i).toNat)
    case atStart => exact ⟨0, Nat.zero_le _, rfl, by simp [sumL], by simp [sumL]; omega, rfl⟩
    case round =>
      obtain ⟨j, hj, rfl, rfl, hq0, rfl⟩ := hrel
      by_cases hlj : j < L.length
      · obtain ⟨b, off, rfl, hbb, hcell⟩ := h3 (by omega)
        obtain ⟨x, hc0, hx⟩ := hcell j hlj
        have hsum := sumL_take L j hlj
        have hle := sumL_le L (j + 1)
        clear hcell
        generalize L.getD j [] = l at hx hsum
        generalize sumL (L.take j) = q at hsum hq0 ⊢
        have HS := Lib.hid hsum
        obtain ⟨z, hz⟩ : ∃ z : Int, z = m - (L.length : Int) - (q : Int) := ⟨_, rfl⟩
        rw [← hz] at hq0 ⊢
        have HZ := Lib.hid hz
        have hzm : z ≤ 1073741824 := by omega
        by_cases hz1 : z < (l.length : Int)
        · have hall : m < (L.length : Int) + (sumL L : Int) := by omega
          obtain rfl : R = -1 := by rw [HR.out, if_pos hall]
          clear hsum hz hall hle
          go_wp2_with (go_at_call 62; refine (szByteS_any x l z _ hx hq0 hzm).mono ?_; rw [if_pos hz1]; rintro e _ ⟨rfl, rfl⟩)
          go_ret
          exact ⟨rfl, rfl⟩
        · have hge : ¬ z - (l.length : Int) < 0 := by omega
          clear hsum hz hle
          go_wp2_with (go_at_call 62; refine (szByteS_any x l z _ hx hq0 hzm).mono ?_; rw [if_neg hz1]; rintro e _ ⟨rfl, rfl⟩)
          go_roundw
          case rel => exact ⟨j + 1, by omega, by go_num, by have := HZ.out; have := HS.out; go_num, by have := HZ.out; have := HS.out; omega, trivial⟩
          case measure => simp [intOf]; omega
      · obtain rfl : j = L.length := by omega
        rw [List.take_length] at hq0 ⊢
        have hR := HR.out
        rw [if_neg (by omega)] at hR
        rw [← hR]
        clear hR
        go_wp2
        go_ret
        exact ⟨rfl, rfl⟩

theorem markByteSS_z (W w : World) (u : Value) (vs : List Value) (L : List (List UInt8)) (ss : List (List Row)) (k : Nat) (kz : Int) (hv : vs.length = L.length) (H : InvF W w (segS 22 5 u vs L :: ss)) (hz : kz = (k : Int)) (hk : k ≤ 1073741824) (hs : sumL L ≤ 1073741824) :
    Calls Tryd.prog 29 #[u, .int .i64 kz] w (fun e w' => e = .returned (.int .i64 (kz + (sumL L : Int))) ∧ InvF W w' (segS 22 5 u vs (marksS k L) :: ss)) := by
  subst hz
  exact markByteSS_any W w u vs L ss.flatten k hv H hk hs
end Go.Proofs.YtdoaikanaodefaaDoor

/- The contracts of the helpers on stacks that exact laws call: szStack, toStack, eqStack, markStack, heldStack (and szIntS, heldByteSS). -/
namespace Go.Proofs.YtdoaikanaodefaaDoor
open Go.ChangeShapes Go.WideShapes Go.ChangeAt Go.RowKit

section
variable {W w w' : World} {ss qs : List (List Row)}
/-- A call that began in w has made the segments qs. -/
theorem InvF.moreF (H : InvF W w ss) (K : InvF w w' qs) : InvF W w' (qs ++ ss) := by
  unfold InvF
  rw [List.flatten_append]
  exact InvG.moreAll H K
theorem Rws.mono {B B' : Nat} {rs : List Row} (H : Rws B w rs) (h : B' ≤ B) : Rws B' w rs := ⟨fun p hp => (H.1 p hp).mono h, H.2⟩
theorem grown_cell (w : World) (b o : Nat) (v : Value) : w.grownBy (w.setCell ⟨b, o, none⟩ v) (some b) :=
  ⟨rfl, rfl, rfl, by simp [World.setCell], fun k _ hk => Below.heap_setCell _ _ _ k (fun e => hk (by rw [e]))⟩
/-- A store into a block ahead of the rows. -/
theorem Rws.cell {B : Nat} {rs : List Row} (H : Rws B w rs) {b : Nat} (h : b < B) (o : Nat) (v : Value) : Rws B (w.setCell ⟨b, o, none⟩ v) rs :=
  H.kept (grown_cell w b o v) (fun g e => by cases e; exact h)
theorem Rws.moreAll {B : Nat} {rs qs : List Row} (H : Rws B w rs) (K : InvG w w' qs) (hB : B ≤ w.heap.size) : Rws B w' (qs ++ rs) := by
  have H' : Rws B w' rs := ⟨fun p hp => (H.1 p hp).up K.bel, H.2⟩
  refine ⟨fun p hp => ?_, List.pairwise_append.2 ⟨K.2.2, H'.2, fun p hp q hq => ?_⟩⟩
  · rcases List.mem_append.1 hp with hp | hp
    · exact (K.2.1 p hp).mono hB
    · exact H'.1 p hp
  · rcases hv : p.2.1.ownBlock with _ | g
    · exact .inl rfl
    · refine .inr fun e => ?_
      have h1 := ((K.2.1 p hp).lt g hv).1
      have h2 := ((H.1 q hq).lt g e.symm).2
      omega
theorem InvG.rws {rs : List Row} (H : InvG W w rs) : Rws W.heap.size w rs := ⟨H.2.1, H.2.2⟩
end

theorem bcell {W w1 : World} (hb : Below W.heap.size W w1) : (∀ b o, b < W.heap.size → w1.cell? ⟨b, o, none⟩ = W.cell? ⟨b, o, none⟩) ∧ (∀ b o, b < W.heap.size → w1.frozen? ⟨b, o, none⟩ = W.frozen? ⟨b, o, none⟩) :=
  ⟨fun b o h => hb.cell (p := ⟨b, o, none⟩) h, fun b o h => hb.frozen (p := ⟨b, o, none⟩) h⟩

/-- The struct v reads as the heights H and the hashes L. -/
def SlK (w : World) (B : Nat) (v : Value) (H : List Int) (L : List (List UInt8)) : Prop :=
  ∃ a s, v = .agg #[a, s] ∧ SlI w B a H ∧ SlS w B s L
section
variable {w w' : World} {B B' : Nat} {v : Value} {H : List Int} {L : List (List UInt8)}
theorem SlK.mono (h : SlK w B v H L) (hB : B ≤ B') : SlK w B' v H L := by
  obtain ⟨a, s, e, h1, h2⟩ := h
  exact ⟨a, s, e, h1.mono hB, h2.mono hB⟩
theorem SlK.below (h : SlK w B v H L) (hb : Below B w w') : SlK w' B v H L := by
  obtain ⟨a, s, e, h1, h2⟩ := h
  exact ⟨a, s, e, h1.below hb, h2.below hb⟩
theorem SlK.up (h : SlK w w.heap.size v H L) (hb : Below w.heap.size w w') : SlK w' w'.heap.size v H L := (h.below hb).mono hb.size
theorem SlK.drewN (h : SlK w B v H L) (n : Nat) : SlK (w.drewN n) B v H L := h
end

/-- The call returns a new stack; nothing that was there has turned. -/
def FreshK (w : World) (H : List Int) (L : List (List UInt8)) (e : Ending) (w' : World) : Prop :=
  ∃ a s vs, e = .returned (.agg #[a, s]) ∧ vs.length = L.length ∧ InvF w w' [segI 3 a H, segS 22 5 s vs L]

set_option maxHeartbeats 1000000 in
theorem toStack_any (v : Value) (H : List Int) (L : List (List UInt8)) (w : World) (h : SlK w w.heap.size v H L) (hH : H.length ≤ 1048576) (hl : L.length ≤ 1048576) (hs : sumL L ≤ 1048576) :
    Calls Tryd.prog 18 #[v] w (FreshK w H L) := by
  obtain ⟨a, s, rfl, hI, hS⟩ := h
  obtain ⟨A, c, rfl, p1, p2, p0, p3⟩ := id hI
  obtain ⟨A', c', rfl, q1, q2, q0, q3⟩ := id hS
  clear p1 p2 p0 p3 q1 q2 q0 q3
  have hb3 : Below w.heap.size w (((w.alloc (.cells #[.slice A H.length c, .slice A' L.length c'] 38)).alloc (.cells #[.slice none 0 0, .slice none 0 0] 27)).alloc (.cells #[.slice none 0 0, .slice none 0 0] 27)) :=
    (((Below.refl _ w).alloc (Nat.le_refl _) _).alloc (by simp) _).alloc (by simp; omega) _
  go_enter Tryd.func18, Tryd.ntmps18
  go_wp2_with fail
  refine (toIntS_any _ H _ (hI.up hb3) (by omega)).mono ?_
  rintro e w4 ⟨u4, rfl, ho4, hb4⟩
  have H4 := (InvG.start _).moreI ho4 hb4
  obtain ⟨A4, c4, rfl, m1, m2, m0, m3⟩ := ho4.sl
  clear m1 m2 m0 m3 ho4
  have K4 := Lib.hid H4.rws
  clear H4
  obtain ⟨hc4, hf4⟩ := bcell hb4
  have hz4 : w.heap.size + 2 < w4.heap.size := by have := hb4.size; simp at this; omega
  have hy4 : w.heap.size + 1 < w4.heap.size := by omega
  go_wp2_with fail
  have hb4' := (hb3.trans (hb4.mono hb3.size)).setCell (p := ⟨w.heap.size + 1 + 1, 0, none⟩) (by simp; omega) (.slice A4 H.length c4)
  refine (toByteSS_any _ L _ (hS.up hb4') hl hs).mono ?_
  rintro e w5 ⟨u5, vs, rfl, hv, H5⟩
  have HV := Lib.hid hv
  have hb5 := H5.bel
  obtain ⟨A5, c5, rfl, m1, m2, m0, m3⟩ := H5.slS 5 22 hv (.head _) (fun _ hp => .tail _ hp)
  clear m1 m2 m0 m3 hv
  have K5 := Lib.hid H5
  clear H5
  obtain ⟨hc5, hf5⟩ := bcell hb5
  have hz5 : w.heap.size + 2 < w5.heap.size := by have := hb5.size; simp at this; omega
  have hy5 : w.heap.size + 1 < w5.heap.size := by omega
  have h5 := (((K4.out.cell (b := w.heap.size + 1 + 1) (by simp <;> omega) 0 (.slice A4 H.length c4)).moreAll K5.out (by simp; have := hb4.size; simp at this; omega)).cell (b := w.heap.size + 1 + 1) (by simp <;> omega) 1 (.slice A5 L.length c5))
  have h6 := Lib.hid ((((h5.cell (b := w.heap.size + 1) (by simp <;> omega) 0 (.slice A4 H.length c4)).cell (b := w.heap.size + 1) (by simp <;> omega) 1 (.slice A5 L.length c5)).mono hb3.size).perm List.perm_append_comm)
  have h7 := Lib.hid ((((hb4'.trans (hb5.mono hb4'.size)).setCell (p := ⟨w.heap.size + 1 + 1, 1, none⟩) (by simp <;> omega) (.slice A5 L.length c5)).setCell (p := ⟨w.heap.size + 1, 0, none⟩) (by simp <;> omega) (.slice A4 H.length c4)).setCell (p := ⟨w.heap.size + 1, 1, none⟩) (by simp <;> omega) (.slice A5 L.length c5))
  clear h5
  go_wp2
  refine bodyPost_ret (v := .agg #[.slice A4 H.length c4, .slice A5 L.length c5]) (by simp [results, Tryd.results18, go_sem, hc5, hc4, hy4]) rfl ⟨_, _, vs, rfl, HV.out, ?_⟩
  have := h6.out.inv h7.out
  simpa [InvF, segI, segS] using this

set_option maxHeartbeats 1000000 in
theorem eqStack_any (v u : Value) (H : List Int) (L : List (List UInt8)) (w : World) (h : SlK w w.heap.size v H L) (h' : SlK w w.heap.size u H L) :
    Calls Tryd.prog 20 #[v, u] w (Yes w) := by
  obtain ⟨a, s, rfl, hI, hS⟩ := h
  obtain ⟨A, c, rfl, p1, p2, p0, p3⟩ := id hI
  obtain ⟨A', c', rfl, q1, q2, q0, q3⟩ := id hS
  clear p1 p2 p0 p3 q1 q2 q0 q3
  obtain ⟨a, s, rfl, hJ, hT⟩ := h'
  obtain ⟨B, d, rfl, p1, p2, p0, p3⟩ := id hJ
  obtain ⟨B', d', rfl, q1, q2, q0, q3⟩ := id hT
  clear p1 p2 p0 p3 q1 q2 q0 q3
  have hb : Below w.heap.size w ((w.alloc (.cells #[.slice A H.length c, .slice A' L.length c'] 27)).alloc (.cells #[.slice B H.length d, .slice B' L.length d'] 27)) := ((Below.refl _ w).alloc (Nat.le_refl _) _).alloc (by simp) _
  go_enter Tryd.func20, Tryd.ntmps20
  go_wp2_with fail
  refine (eqIntS_any _ _ H _ (hI.up hb) (hJ.up hb)).mono ?_
  rintro e _ ⟨rfl, m, rfl⟩
  go_wp2_with fail
  refine (eqByteSS_any _ _ L _ ((hS.up hb).drewN m) ((hT.up hb).drewN m)).mono ?_
  rintro e _ ⟨rfl, n, rfl⟩
  go_wp2_with fail
  go_ret
  exact ⟨rfl, below_drewN hb (m + n)⟩

set_option maxHeartbeats 1000000 in
theorem markStack_any (W w : World) (a s : Value) (vs : List Value) (H : List Int) (L : List (List UInt8)) (ss : List (List Row)) (k : Nat) (kz : Int) (hv : vs.length = L.length) (K : InvF W w (segI 3 a H :: segS 22 5 s vs L :: ss)) (hz : kz = (k : Int)) (hk : k ≤ 1073741824) (hH : H.length ≤ 4194304) (hs : sumL L ≤ 1073741824) (hkz : k ≤ 536870912) :
    Calls Tryd.prog 22 #[.agg #[a, s], .int .i64 kz] w (fun e w' => e = .returned (.int .i64 (kz + (H.length : Int) + (sumL L : Int))) ∧
      InvF W w' (segI 3 a (marksI k H.length) :: segS 22 5 s vs (marksS (k + H.length) L) :: ss)) := by
  obtain ⟨A, c, rfl, p1, p2, p0, p3⟩ := (K.ownI 3 (.head _)).sl
  obtain ⟨A', c', rfl, q1, q2, q0, q3⟩ := K.slS 22 5 hv (.tail _ (.head _))
  clear p1 p2 p0 p3 q1 q2 q0 q3
  have K1 := Lib.hid (K.up ((Below.refl _ w).alloc (Nat.le_refl _) (.cells #[.slice A H.length c, .slice A' L.length c'] 27)))
  have hlt := (K.ownI 3 (.head _)).lt
  have HV := Lib.hid hv
  have HZ := Lib.hid hz
  have hz2 : Hid (kz + (H.length : Int) = ((k + H.length : Nat) : Int)) := Lib.hid (by omega)
  have hb0 : 0 ≤ kz := by omega
  have hb1 : kz ≤ 536870912 := by omega
  clear K hv hz
  go_enter Tryd.func22, Tryd.ntmps22
  go_wp2_with fail
  refine (markIntS_z _ H k _ _ _ (K1.out.ownI 3 (.head _)) HZ.out (by omega) (by omega)).mono ?_
  rintro e w2 ⟨rfl, ho, hg⟩
  have hne : some w.heap.size ≠ (Value.slice A H.length c).ownBlock := fun e => by have := (hlt _ e.symm).2; omega
  have hx0 := hg.cell (a := ⟨w.heap.size, 1, none⟩) (v := .slice A' L.length c') (by simp) hne
  have K2 := Lib.hid ((K1.out.wroteI ho hg).front 1 rfl)
  clear ho hg hlt hne
  go_wp2_with fail
  refine (markByteSS_z W _ _ vs L _ (k + H.length) _ HV.out K2.out hz2.out (by omega) (by omega)).mono ?_
  rintro e w3 ⟨rfl, K3⟩
  have K4 := Lib.hid (K3.front 1 rfl)
  clear K3
  go_wp2
  go_ret
  exact ⟨rfl, K4.out⟩

set_option maxHeartbeats 1000000 in
theorem heldByteSS_any (v : Value) (k : Nat) (L : List (List UInt8)) (w : World) (h : SlS w w.heap.size v (marksS k L)) (hk : k ≤ 1073741824) (hs : sumL L ≤ 1073741824) :
    Calls Tryd.prog 61 #[v, .int .i64 (k : Int)] w (Quiet (.int .i64 ((k : Int) + (sumL L : Int))) w) := by
  obtain ⟨A, c, rfl, h1, h2, h0, h3⟩ := h
  rw [marksS_length] at h1 h3 ⊢
  unfold maxLen at h2
  clear h0
  go_enter Tryd.func61, Tryd.ntmps61
  go_wp2
  go_loopw [1, 5] (fun q i wr => ∃ j : Nat, j ≤ L.length ∧ i = .int .i64 j ∧ q = .int .i64 ((k : Int) + (sumL (L.take j) : Int)) ∧ ∃ m, wr = w.drewN m)
    (fun _ i _ => L.length - (intOf i).toNat)
  case atStart => exact ⟨0, Nat.zero_le _, rfl, by simp [sumL], 0, rfl⟩
  case round =>
    obtain ⟨j, hj, rfl, rfl, m, hw⟩ := hrel
    have HW := Lib.hid hw
    by_cases hlt : j < L.length
    · obtain ⟨b, off, rfl, hbb, hcell⟩ := h3 (by omega)
      obtain ⟨x, hc0, hx⟩ := hcell j hlt
      rw [marksS_at L k j hlt] at hx
      have hc1 : wr.cell? ⟨b, off + j, none⟩ = some x := by rw [hw]; exact hc0
      have hx1 : Sl wr wr.heap.size x (marks (k + sumL (L.take j)) (L.getD j []).length) := by rw [hw]; exact hx
      have hsum := sumL_take L j hlt
      have hle := sumL_le L (j + 1)
      clear hcell hc0 hx hw
      generalize (L.getD j []).length = n at hx1 hsum
      have hq1 : sumL (L.take j) ≤ 1073741824 := by omega
      have hn1 : n ≤ 1073741824 := by omega
      have HS := Lib.hid hsum
      clear hsum hle
      generalize sumL (L.take j) = q at hx1 HS hq1 ⊢
      have hq0 : ¬ ((k : Int) + (q : Int) + (n : Int) < 0) := by omega
      go_wp2_with (go_at_call 86; refine (heldByteS_z x (k + q) n _ _ hx1 (by omega) (by omega) (by omega)).mono ?_; rintro e _ ⟨rfl, m2, rfl⟩)
      go_roundw
      case rel => exact ⟨j + 1, by omega, by go_num, by rw [HS.out]; go_num, m + m2, by rw [HW.out, World.drewN_drewN]⟩
      case measure => simp [intOf]; omega
    · obtain rfl : j = L.length := by omega
      clear hw
      rw [List.take_length]
      go_wp2
      go_ret
      exact ⟨rfl, m, HW.out⟩

set_option maxHeartbeats 1000000 in
theorem heldStack_z (v : Value) (k n : Nat) (L : List (List UInt8)) (kz : Int) (w : World) (h : SlK w w.heap.size v (marksI k n) (marksS (k + n) L)) (hz : kz = (k : Int)) (hk : k ≤ 536870912) (hn : n ≤ 4194304) (hs : sumL L ≤ 1073741824) :
    Calls Tryd.prog 24 #[v, .int .i64 kz] w (fun e w' => e = .returned (.int .i64 (kz + (n : Int) + (sumL L : Int))) ∧ Below w.heap.size w w') := by
  obtain ⟨a, s, rfl, hI, hS⟩ := h
  obtain ⟨A, c, rfl, p1, p2, p0, p3⟩ := id hI
  obtain ⟨A', c', rfl, q1, q2, q0, q3⟩ := id hS
  clear p1 p2 p0 p3 q1 q2 q0 q3
  rw [marksI_length] at hI ⊢
  rw [marksS_length] at hS ⊢
  have hb : Below w.heap.size w (w.alloc (.cells #[.slice A n c, .slice A' L.length c'] 27)) := (Below.refl _ w).alloc (Nat.le_refl _) _
  have HZ := Lib.hid hz
  have hz1 : ¬ (kz + (n : Int) < 0) := by omega
  have hz3 : ¬ (kz + (n : Int) + (sumL L : Int) < 0) := by omega
  have hz4 : kz + (n : Int) ≤ 541065216 := by omega
  have hz2 : kz + (n : Int) = ((k + n : Nat) : Int) := by omega
  have HZ2 := Lib.hid hz2
  have hb0 : 0 ≤ kz := by omega
  clear hz hz2
  have HB := Lib.hid (heldByteSS_any (.slice A' L.length c') (k + n) L)
  rw [← HZ2.out] at HB
  go_enter Tryd.func24, Tryd.ntmps24
  go_wp2_with fail
  refine (heldIntS_z _ k n _ _ (hI.up hb) HZ.out (by omega) (by omega)).mono ?_
  rintro e _ ⟨rfl, m, rfl⟩
  go_wp2_with fail
  refine (HB.out _ ((hS.up hb).drewN m) (by omega) (by omega)).mono ?_
  rintro e _ ⟨rfl, m2, rfl⟩
  go_wp2_with fail
  go_ret
  exact ⟨rfl, below_drewN hb (m + m2)⟩

/-- What szStack leaves of m. -/
def szKZ (H : List Int) (L : List (List UInt8)) (m : Int) : Int := if m < (H.length : Int) then -1 else szZ L (m - (H.length : Int))
theorem szIntS_any (v : Value) (l : List Int) (m : Int) (w : World) (h : SlI w w.heap.size v l) (h0 : 0 ≤ m) (hm : m ≤ 1073741824) :
    Calls Tryd.prog 51 #[v, .int .i64 m] w (fun e w' => e = .returned (.int .i64 (if m < (l.length : Int) then -1 else m - (l.length : Int))) ∧ w' = w) := by
  obtain ⟨A, c, rfl, h1, h2, k0, h3⟩ := h
  unfold maxLen at h2
  clear k0 h3
  by_cases hlt : m < (l.length : Int)
  · rw [if_pos hlt]
    have hn : m - (l.length : Int) < 0 := by omega
    go_enter Tryd.func51, Tryd.ntmps51
    go_wp2
    go_ret
    exact ⟨rfl, rfl⟩
  · rw [if_neg hlt]
    have hn : ¬ m - (l.length : Int) < 0 := by omega
    go_enter Tryd.func51, Tryd.ntmps51
    go_wp2
    go_ret
    exact ⟨rfl, rfl⟩
set_option maxHeartbeats 1000000 in
theorem szStack_any (v : Value) (H : List Int) (L : List (List UInt8)) (m : Int) (w : World) (h : SlK w w.heap.size v H L) (h0 : 0 ≤ m) (hm : m ≤ 1073741824) :
    Calls Tryd.prog 16 #[v, .int .i64 m] w (fun e w' => e = .returned (.int .i64 (szKZ H L m)) ∧ Below w.heap.size w w') := by
  obtain ⟨a, s, rfl, hI, hS⟩ := h
  obtain ⟨A, c, rfl, p1, p2, p0, p3⟩ := id hI
  obtain ⟨A', c', rfl, q1, q2, q0, q3⟩ := id hS
  clear p1 p2 p0 p3 q1 q2 q0 q3
  have hb : Below w.heap.size w (w.alloc (.cells #[.slice A H.length c, .slice A' L.length c'] 38)) := (Below.refl _ w).alloc (Nat.le_refl _) _
  obtain ⟨R, hR⟩ : ∃ R, R = szKZ H L m := ⟨_, rfl⟩
  rw [← hR]
  unfold szKZ at hR
  by_cases hlt : m < (H.length : Int)
  · rw [if_pos hlt] at hR
    subst hR
    go_enter Tryd.func16, Tryd.ntmps16
    go_wp2_with fail
    refine (szIntS_any _ H m _ (hI.up hb) h0 hm).mono ?_
    rw [if_pos hlt]
    rintro e w' ⟨rfl, hw⟩
    subst hw
    go_wp2
    go_ret
    exact ⟨rfl, hb⟩
  · rw [if_neg hlt] at hR
    obtain ⟨z, hz⟩ : ∃ z : Int, z = m - (H.length : Int) := ⟨_, rfl⟩
    rw [← hz] at hR
    have HR := Lib.hid hR
    have HZ := Lib.hid hz
    have hz0 : ¬ z < 0 := by omega
    have hz1 : z ≤ 1073741824 := by omega
    clear hR hz
    by_cases hRn : R < 0
    · go_enter Tryd.func16, Tryd.ntmps16
      have hRe : R = -1 := by
        have := HR.out
        unfold szZ at this
        split at this
        · exact this
        · omega
      subst hRe
      go_wp2_with fail
      refine (szIntS_any _ H m _ (hI.up hb) h0 hm).mono ?_
      rw [if_neg (show ¬ m < (H.length : Int) by omega), ← HZ.out]
      rintro e w' ⟨rfl, hw⟩
      subst hw
      go_wp2_with fail
      refine (szByteSS_any _ L z _ (hS.up hb) (by omega) hz1).mono ?_
      rw [← HR.out]
      rintro e w' ⟨rfl, hw⟩
      subst hw
      go_wp2
      go_ret
      exact ⟨rfl, hb⟩
    · go_enter Tryd.func16, Tryd.ntmps16
      go_wp2_with fail
      refine (szIntS_any _ H m _ (hI.up hb) h0 hm).mono ?_
      rw [if_neg (show ¬ m < (H.length : Int) by omega), ← HZ.out]
      rintro e w' ⟨rfl, hw⟩
      subst hw
      go_wp2_with fail
      refine (szByteSS_any _ L z _ (hS.up hb) (by omega) hz1).mono ?_
      rw [← HR.out]
      rintro e w' ⟨rfl, hw⟩
      subst hw
      go_wp2
      go_ret
      exact ⟨rfl, hb⟩
end Go.Proofs.YtdoaikanaodefaaDoor
