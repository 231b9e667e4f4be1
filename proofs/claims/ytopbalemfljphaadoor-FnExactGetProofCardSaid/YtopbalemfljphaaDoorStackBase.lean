/- StackBase: IBase, SSBase, StackBase. -/
import Derived.Test.YtopbalemfljphaaDoorList
import Derived.Test.YtopbalemfljphaaDoorPut
import Derived.Test.YtopbalemfljphaaDoorMem
import Derived.Deep.RegionWith

/- The contracts of the helpers on slices of ints that exact laws call: toIntS, eqIntS, markIntS, heldIntS. -/
namespace Go.Proofs.YtopbalemfljphaaDoor
open Go.ChangeShapes Go.WideShapes Go.ChangeAt Go.RowKit

/-- What toIntS has made after k rounds. -/
def TBI (l : List Int) (k : Nat) : List Int := l.take k ++ List.replicate (l.length - k) 0
theorem TBI_length (l : List Int) (k : Nat) (h : k ≤ l.length) : (TBI l k).length = l.length := by simp [TBI]; omega
theorem TBI_zero (l : List Int) : is (TBI l 0) = List.replicate l.length (.int .i64 0) := by simp [TBI, is]
theorem TBI_full (l : List Int) : TBI l l.length = l := by simp [TBI]
theorem TBI_set (l : List Int) (k : Nat) (h : k < l.length) : (is (TBI l k)).set k (.int .i64 (it l k)) = is (TBI l (k + 1)) := by
  have e : it l k = l[k] := by simp [it, List.getD_eq_getElem?_getD, List.getElem?_eq_getElem h]
  rw [e, is_set]
  congr 1
  apply List.ext_getElem?
  intro j
  simp only [TBI, List.getElem?_set, List.length_append, List.length_take, List.length_replicate]
  rcases Nat.lt_trichotomy j k with hj | hj | hj
  · rw [if_neg (by omega), List.getElem?_append_left (by simp; omega), List.getElem?_append_left (by simp; omega), List.getElem?_take_of_lt (by omega), List.getElem?_take_of_lt (by omega)]
  · subst hj
    rw [if_pos rfl, if_pos (by omega), List.getElem?_append_left (by simp; omega), List.getElem?_take_of_lt (by omega), List.getElem?_eq_getElem h]
  · rw [if_neg (by omega), List.getElem?_append_right (by simp; omega), List.getElem?_append_right (by simp; omega), List.getElem?_replicate, List.getElem?_replicate]
    simp only [List.length_take]
    by_cases hjl : j < l.length
    · rw [if_pos (by omega), if_pos (by omega)]
    · rw [if_neg (by omega), if_neg (by omega)]

/-- The numbers that markIntS writes: k, k + 1, .. -/
def marksI (k n : Nat) : List Int := (List.range n).map fun (i : Nat) => ((k : Int) + (i : Int))
theorem marksI_length (k n : Nat) : (marksI k n).length = n := by simp [marksI]
theorem marksI_succ (k n : Nat) : marksI k (n + 1) = marksI k n ++ [((k : Int) + (n : Int))] := by simp [marksI, List.range_succ]
theorem it_marks (k n j : Nat) (h : j < n) : it (marksI k n) j = (k : Int) + (j : Int) := by
  simp [it, marksI, List.getD_eq_getElem?_getD, h]
/-- What markIntS has written after j rounds. -/
def MKI (l : List Int) (k j : Nat) : List Int := marksI k j ++ l.drop j
theorem MKI_zero (l : List Int) (k : Nat) : MKI l k 0 = l := by simp [MKI, marksI]
theorem MKI_full (l : List Int) (k : Nat) : MKI l k l.length = marksI k l.length := by simp [MKI]
theorem MKI_length (l : List Int) (k j : Nat) (h : j ≤ l.length) : (MKI l k j).length = l.length := by simp [MKI, marksI]; omega
theorem MKI_set (l : List Int) (k j : Nat) (h : j < l.length) : (is (MKI l k j)).set j (.int .i64 ((k : Int) + (j : Int))) = is (MKI l k (j + 1)) := by
  rw [is_set]
  congr 1
  unfold MKI
  rw [marksI_succ, List.set_append_right _ _ (by simp [marksI]), List.append_assoc]
  congr 1
  rw [marksI_length, Nat.sub_self, List.drop_eq_getElem_cons h]
  rfl

/-- Every number of v has been written over, and nothing else. -/
def MarkedI (v : Value) (l : List Int) (k B : Nat) (w : World) (e : Ending) (w' : World) : Prop :=
  e = .returned (.int .i64 ((k : Int) + (l.length : Int))) ∧ OwnI 3 w' B v (marksI k l.length) ∧ w.grownBy w' v.ownBlock

/-! The same at any spelling of k. -/
/-- A slice of ints that came in reads as a list of ints. -/
theorem slI_of_row {w : World} {a : Option Addr} {len cap : Nat} {zs : List Int}
    (h : (a = none ∧ len = 0 ∧ cap = 0 ∧ zs = []) ∨
      ∃ x, a = some x ∧ len ≤ cap ∧ cap ≤ maxLen ∧ zs.length = cap ∧ (∀ i, i < zs.length → w.cell? (x.add i) = some (.int .i64 (zs.getD i 0))) ∧ ∀ n ∈ zs, (Lit.int .i64 n).wf = true) :
    ∃ l : List Int, l.length = len ∧ SlI w w.heap.size (.slice a len cap) l := by
  rcases h with ⟨rfl, rfl, rfl, rfl⟩ | ⟨x, rfl, h1, h2, h3, h4, h5⟩
  · exact ⟨[], rfl, SlI.nil_⟩
  · have hlen : (zs.take len).length = len := by simp; omega
    refine ⟨zs.take len, hlen, some x, cap, by rw [hlen], by rw [hlen]; exact h1, h2, (fun e => by cases e), fun hp => ?_⟩
    rw [hlen] at hp ⊢
    obtain ⟨b, off, spot⟩ := x
    have hc0 := h4 0 (by omega)
    have hspot : spot = none := by simpa [Addr.add] using World.cell?_spot hc0
    subst hspot
    refine ⟨b, off, rfl, lt_of_cell (off := off) (by simpa [Addr.add] using hc0), fun k hk => ?_⟩
    have hck := h4 k (by omega)
    have hz : (zs.getD k 0) = it (zs.take len) k := by
      simp [it, List.getD_eq_getElem?_getD, List.getElem?_take_of_lt hk]
    rw [hz] at hck
    have e : (⟨b, off, none⟩ : Addr).add k = ⟨b, off + k, none⟩ := by
      unfold Addr.add
      split
      · rename_i h0; subst h0; rfl
      · rfl
    rw [e] at hck
    exact hck
end Go.Proofs.YtopbalemfljphaaDoor

/- The contracts of the helpers on slices of slices of bytes that exact laws call: toByteSS, eqByteSS, markByteSS, szByteSS. -/
namespace Go.Proofs.YtopbalemfljphaaDoor
open Go.ChangeShapes Go.WideShapes Go.ChangeAt Go.RowKit

theorem sbinfo : (Tryd.prog.info? 24).map (fun i => (i.zero, i.size, i.bytes)) = some (some (.slice none 0 0), 1, 24) := by kernel_rfl

/-- The call returns a new slice of new rows that reads as L; nothing that was there has turned. -/
def FreshS (w : World) (L : List (List UInt8)) (e : Ending) (w' : World) : Prop :=
  ∃ u vs, e = .returned u ∧ vs.length = L.length ∧ InvG w w' ((24, u, vs) :: rowsS 5 vs L)

/-- The cells of toByteSS after some rounds. -/
def CB (vs : List Value) (n : Nat) : List Value := vs ++ List.replicate (n - vs.length) (.slice none 0 0)
theorem CB_length {vs : List Value} {n : Nat} (h : vs.length ≤ n) : (CB vs n).length = n := by simp [CB]; omega
theorem CB_nil (n : Nat) : CB [] n = List.replicate n (.slice none 0 0) := by simp [CB]
theorem CB_full {vs : List Value} {n : Nat} (h : vs.length = n) : CB vs n = vs := by simp [CB, h]
theorem CB_at {vs : List Value} {n : Nat} (h : vs.length < n) : (CB vs n)[vs.length]? = some (.slice none 0 0) := by
  unfold CB
  rw [List.getElem?_append_right (Nat.le_refl _), Nat.sub_self, List.getElem?_replicate, if_pos (by omega)]
theorem CB_set {vs : List Value} {n : Nat} (u : Value) (h : vs.length < n) : (CB vs n).set vs.length u = CB (vs ++ [u]) n := by
  unfold CB
  rw [List.set_append_right _ _ (Nat.le_refl _), Nat.sub_self, show n - vs.length = (n - (vs ++ [u]).length) + 1 by simp; omega, List.replicate_succ, List.set_cons_zero, List.append_assoc]
  rfl

set_option maxHeartbeats 1000000 in
theorem eqByteSS_any (v u : Value) (L : List (List UInt8)) (w : World) (h : SlS w w.heap.size v L) (h' : SlS w w.heap.size u L) :
    Calls Tryd.prog 32 #[v, u] w (Quiet (.bool true) w) := by
  obtain ⟨A, c, rfl, h1, h2, h0, h3⟩ := h
  obtain ⟨A', c', rfl, h1', h2', h0', h3'⟩ := h'
  unfold maxLen at h2 h2'
  clear h0 h0'
  have hne : ((L.length : Int) != (L.length : Int)) = false := by simp
  go_enter Tryd.func32, Tryd.ntmps32
  go_wp2
  go_loopw [5] (fun i wr => ∃ k : Nat, k ≤ L.length ∧ i = .int .i64 k ∧ ∃ n, wr = w.drewN n)
    (fun i _ => L.length - (intOf i).toNat)
  case atStart => exact ⟨0, Nat.zero_le _, rfl, 0, rfl⟩
  case round =>
    obtain ⟨k, hk, rfl, n, rfl⟩ := hrel
    by_cases hlt : k < L.length
    · obtain ⟨b, off, rfl, hbb, hcell⟩ := h3 (by omega)
      obtain ⟨b', off', rfl, hbb', hcell'⟩ := h3' (by omega)
      obtain ⟨x, hc0, hx⟩ := hcell k hlt
      obtain ⟨y, hc1, hy⟩ := hcell' k hlt
      obtain ⟨w2, hw2⟩ : ∃ w2, w2 = w.drewN n := ⟨_, rfl⟩
      replace hc0 : w2.cell? ⟨b, off + k, none⟩ = some x := by rw [hw2]; exact hc0
      replace hc1 : w2.cell? ⟨b', off' + k, none⟩ = some y := by rw [hw2]; exact hc1
      replace hx : Sl w2 w2.heap.size x (L.getD k []) := by rw [hw2]; exact hx
      replace hy : Sl w2 w2.heap.size y (L.getD k []) := by rw [hw2]; exact hy
      have Q := Lib.hid (fun (m : Nat) => eqByteS_any x y (L.getD k []) (w2.drewN m) hx hy)
      have Hw2 := Lib.hid hw2
      rw [← hw2]
      clear hcell hcell' hw2 hx hy
      go_wp2
      go_quiet (first | (go_at_call_of 10 x; exact Calls.quiet_of (Q.out _)))
      go_wp2
      go_roundw
      case rel => exact ⟨k + 1, by omega, by go_num, n + nq, by rw [Hw2.out, World.drewN_drewN]⟩
      case measure => simp [intOf]; omega
    · obtain rfl : k = L.length := by omega
      go_wp2
      go_ret
      exact ⟨rfl, n, rfl⟩

theorem marksS_at (L : List (List UInt8)) (k j : Nat) (h : j < L.length) : (marksS k L).getD j [] = marks (k + sumL (L.take j)) (L.getD j []).length := marksS_get L k j h

set_option maxHeartbeats 1000000 in
theorem markByteSS_any (W w : World) (u : Value) (vs : List Value) (L : List (List UInt8)) (rs : List (TypeId × Value × List Value)) (k : Nat) (hv : vs.length = L.length)
    (H : InvG W w ((24, u, vs) :: (rowsS 5 vs L ++ rs))) (hk : k ≤ 1073741824) (hs : sumL L ≤ 1073741824) :
    Calls Tryd.prog 33 #[u, .int .i64 (k : Int)] w
      (fun e w' => e = .returned (.int .i64 ((k : Int) + (sumL L : Int))) ∧ InvG W w' ((24, u, vs) :: (rowsS 5 vs (marksS k L) ++ rs))) := by
  obtain ⟨A, c, rfl, h1, h2, h0, h3⟩ := (H.2.1 _ (.head _)).cells
  unfold maxLen at h2
  clear h0 h3
  obtain ⟨n, hn⟩ : ∃ n, n = vs.length := ⟨_, rfl⟩
  rw [← hn] at h1 hv H ⊢
  have Hn := Lib.hid hn
  have Hv := Lib.hid hv
  have HL : L.length = n := hv.symm
  have HLh := Lib.hid HL
  clear hv HL hn
  go_enter Tryd.func33, Tryd.ntmps33
  go_wp2
  go_loopw [1, 5] (fun q i wr => ∃ j : Nat, j ≤ n ∧ i = .int .i64 j ∧ q = .int .i64 ((k : Int) + (sumL (L.take j) : Int)) ∧ InvG W wr ((24, .slice A n c, vs) :: (rowsS 5 vs (MS L k j) ++ rs)))
    (fun _ i _ => n - (intOf i).toNat)
  case atStart => exact ⟨0, Nat.zero_le _, rfl, by simp [sumL], by rw [MS_zero]; exact H⟩
  case round =>
    clear H
    obtain ⟨j, hj, rfl, rfl, H⟩ := hrel
    by_cases hlt : j < n
    · have hlL : j < L.length := by rw [HLh.out]; exact hlt
      obtain ⟨A', c', e', k1, k2, k0, k3⟩ := (H.2.1 _ (.head _)).cells
      obtain ⟨b, hA, hbb, hcell⟩ := k3 (by rw [← Hn.out]; omega)
      simp only [Value.slice.injEq] at e'
      obtain ⟨rfl, hnn, rfl⟩ := e'
      clear hnn
      subst hA
      have hvj := getD_at vs j (.bool false) (by rw [← Hn.out]; exact hlt)
      generalize vs.getD j (.bool false) = x at hvj
      have hc0 := (hcell j (by rw [← Hn.out]; exact hlt)).trans hvj
      have hrow := rowsS_get 5 vs (MS L k j) j x hvj (by rw [MS_length L k j (by omega)]; exact hlL)
      rw [MS_at L k j hlL] at hrow
      have hown := H.own 5 (v := x) (l := L.getD j []) (.tail _ (List.mem_append_left _ (List.mem_of_getElem? hrow)))
      have hsum := sumL_take L j hlL
      have hle := sumL_le L (j + 1)
      have hll : (L.getD j []).length ≤ 4294967296 := by omega
      have hm := marksS_at L k j hlL
      have hset := MS_set L k j hlL
      have hrs := rowsS_set 5 vs (MS L k j) j x ((marksS k L).getD j []) hvj
      rw [hm] at hset hrs
      rw [hset] at hrs
      generalize L.getD j [] = l at hrow hown hsum hll hrs
      have hsz : sumL (L.take j) ≤ 1073741824 := by omega
      have HR := Lib.hid hrow
      have HS := Lib.hid hrs
      have HU := Lib.hid hsum
      clear hcell hm hset k0 k1 k2 k3 hrow hrs hsum hle
      generalize hq : sumL (L.take j) = q at hsz HU
      rw [hq] at HS
      go_wp2_with (go_at_call 11; refine (markByteS_z x l (k + q) _ _ _ hown (by omega) (by omega) hll).mono ?_; rintro e w3 ⟨rfl, ho3, hg3⟩)
      have hix : ((24, Value.slice (some ⟨b, 0, none⟩) n c, vs) :: (rowsS 5 vs (MS L k j) ++ rs))[j + 1]? = some (5, x, us l) := by
        rw [List.getElem?_cons_succ, List.getElem?_append_left (List.getElem?_eq_some_iff.1 HR.out).1]
        exact HR.out
      have H3 := H.wroteAt (j + 1) hix ho3 hg3
      rw [List.set_cons_succ, List.set_append_left _ _ (List.getElem?_eq_some_iff.1 HR.out).1, HS.out] at H3
      go_roundw
      case rel => exact ⟨j + 1, by omega, by go_num, by rw [HU.out]; go_num, H3⟩
      case measure => simp [intOf]; omega
    · obtain rfl : j = n := by omega
      have hfull : MS L k j = marksS k L := by rw [← HLh.out]; exact MS_full L k
      have htk : L.take j = L := by rw [← HLh.out, List.take_length]
      rw [htk]
      rw [hfull] at H
      go_wp2
      go_ret
      exact ⟨rfl, H⟩

/-- What szByteSS leaves of m. -/
def szZ (L : List (List UInt8)) (m : Int) : Int := if m < (L.length : Int) + (sumL L : Int) then -1 else m - (L.length : Int) - (sumL L : Int)
theorem markByteSS_z (W w : World) (u : Value) (vs : List Value) (L : List (List UInt8)) (ss : List (List Row)) (k : Nat) (kz : Int) (hv : vs.length = L.length) (H : InvF W w (segS 24 5 u vs L :: ss)) (hz : kz = (k : Int)) (hk : k ≤ 1073741824) (hs : sumL L ≤ 1073741824) :
    Calls Tryd.prog 33 #[u, .int .i64 kz] w (fun e w' => e = .returned (.int .i64 (kz + (sumL L : Int))) ∧ InvF W w' (segS 24 5 u vs (marksS k L) :: ss)) := by
  subst hz
  exact markByteSS_any W w u vs L ss.flatten k hv H hk hs
end Go.Proofs.YtopbalemfljphaaDoor

/- The contracts of the helpers on stacks that exact laws call: szStack, toStack, eqStack, markStack, heldStack (and szIntS, heldByteSS). -/
namespace Go.Proofs.YtopbalemfljphaaDoor
open Go.ChangeShapes Go.WideShapes Go.ChangeAt Go.RowKit

section
variable {W w w' : World} {ss qs : List (List Row)}
/-- A call that began in w has made the segments qs. -/
theorem InvF.moreF (H : InvF W w ss) (K : InvF w w' qs) : InvF W w' (qs ++ ss) := by
  unfold InvF
  rw [List.flatten_append]
  exact InvG.moreAll H K
theorem Rws.mono {B B' : Nat} {rs : List Row} (H : Rws B w rs) (h : B' ≤ B) : Rws B' w rs := ⟨fun p hp => (H.1 p hp).mono h, H.2⟩
theorem grown_cell (w : World) (b o : Nat) (v : Value) : w.grownBy (w.setCell ⟨b, o, none⟩ v) (some b) :=
  ⟨rfl, rfl, rfl, by simp [World.setCell], fun k _ hk => Below.heap_setCell _ _ _ k (fun e => hk (by rw [e]))⟩
/-- A store into a block ahead of the rows. -/
theorem Rws.cell {B : Nat} {rs : List Row} (H : Rws B w rs) {b : Nat} (h : b < B) (o : Nat) (v : Value) : Rws B (w.setCell ⟨b, o, none⟩ v) rs :=
  H.kept (grown_cell w b o v) (fun g e => by cases e; exact h)
theorem Rws.moreAll {B : Nat} {rs qs : List Row} (H : Rws B w rs) (K : InvG w w' qs) (hB : B ≤ w.heap.size) : Rws B w' (qs ++ rs) := by
  have H' : Rws B w' rs := ⟨fun p hp => (H.1 p hp).up K.bel, H.2⟩
  refine ⟨fun p hp => ?_, List.pairwise_append.2 ⟨K.2.2, H'.2, fun p hp q hq => ?_⟩⟩
  · rcases List.mem_append.1 hp with hp | hp
    · exact (K.2.1 p hp).mono hB
    · exact H'.1 p hp
  · rcases hv : p.2.1.ownBlock with _ | g
    · exact .inl rfl
    · refine .inr fun e => ?_
      have h1 := ((K.2.1 p hp).lt g hv).1
      have h2 := ((H.1 q hq).lt g e.symm).2
      omega
theorem InvG.rws {rs : List Row} (H : InvG W w rs) : Rws W.heap.size w rs := ⟨H.2.1, H.2.2⟩
end

theorem bcell {W w1 : World} (hb : Below W.heap.size W w1) : (∀ b o, b < W.heap.size → w1.cell? ⟨b, o, none⟩ = W.cell? ⟨b, o, none⟩) ∧ (∀ b o, b < W.heap.size → w1.frozen? ⟨b, o, none⟩ = W.frozen? ⟨b, o, none⟩) :=
  ⟨fun b o h => hb.cell (p := ⟨b, o, none⟩) h, fun b o h => hb.frozen (p := ⟨b, o, none⟩) h⟩

/-- The struct v reads as the heights H and the hashes L. -/
def SlK (w : World) (B : Nat) (v : Value) (H : List Int) (L : List (List UInt8)) : Prop :=
  ∃ a s, v = .agg #[a, s] ∧ SlI w B a H ∧ SlS w B s L
section
variable {w w' : World} {B B' : Nat} {v : Value} {H : List Int} {L : List (List UInt8)}
theorem SlK.mono (h : SlK w B v H L) (hB : B ≤ B') : SlK w B' v H L := by
  obtain ⟨a, s, e, h1, h2⟩ := h
  exact ⟨a, s, e, h1.mono hB, h2.mono hB⟩
theorem SlK.below (h : SlK w B v H L) (hb : Below B w w') : SlK w' B v H L := by
  obtain ⟨a, s, e, h1, h2⟩ := h
  exact ⟨a, s, e, h1.below hb, h2.below hb⟩
theorem SlK.up (h : SlK w w.heap.size v H L) (hb : Below w.heap.size w w') : SlK w' w'.heap.size v H L := (h.below hb).mono hb.size
theorem SlK.drewN (h : SlK w B v H L) (n : Nat) : SlK (w.drewN n) B v H L := h
end

/-- The call returns a new stack; nothing that was there has turned. -/
def FreshK (w : World) (H : List Int) (L : List (List UInt8)) (e : Ending) (w' : World) : Prop :=
  ∃ a s vs, e = .returned (.agg #[a, s]) ∧ vs.length = L.length ∧ InvF w w' [segI 3 a H, segS 24 5 s vs L]

set_option maxHeartbeats 1000000 in
theorem heldByteSS_any (v : Value) (k : Nat) (L : List (List UInt8)) (w : World) (h : SlS w w.heap.size v (marksS k L)) (hk : k ≤ 1073741824) (hs : sumL L ≤ 1073741824) :
    Calls Tryd.prog 35 #[v, .int .i64 (k : Int)] w (Quiet (.int .i64 ((k : Int) + (sumL L : Int))) w) := by
  obtain ⟨A, c, rfl, h1, h2, h0, h3⟩ := h
  rw [marksS_length] at h1 h3 ⊢
  unfold maxLen at h2
  clear h0
  go_enter Tryd.func35, Tryd.ntmps35
  go_wp2
  go_loopw [1, 5] (fun q i wr => ∃ j : Nat, j ≤ L.length ∧ i = .int .i64 j ∧ q = .int .i64 ((k : Int) + (sumL (L.take j) : Int)) ∧ ∃ m, wr = w.drewN m)
    (fun _ i _ => L.length - (intOf i).toNat)
  case atStart => exact ⟨0, Nat.zero_le _, rfl, by simp [sumL], 0, rfl⟩
  case round =>
    obtain ⟨j, hj, rfl, rfl, m, hw⟩ := hrel
    have HW := Lib.hid hw
    by_cases hlt : j < L.length
    · obtain ⟨b, off, rfl, hbb, hcell⟩ := h3 (by omega)
      obtain ⟨x, hc0, hx⟩ := hcell j hlt
      rw [marksS_at L k j hlt] at hx
      have hc1 : wr.cell? ⟨b, off + j, none⟩ = some x := by rw [hw]; exact hc0
      have hx1 : Sl wr wr.heap.size x (marks (k + sumL (L.take j)) (L.getD j []).length) := by rw [hw]; exact hx
      have hsum := sumL_take L j hlt
      have hle := sumL_le L (j + 1)
      clear hcell hc0 hx hw
      generalize (L.getD j []).length = n at hx1 hsum
      have hq1 : sumL (L.take j) ≤ 1073741824 := by omega
      have hn1 : n ≤ 1073741824 := by omega
      have HS := Lib.hid hsum
      clear hsum hle
      generalize sumL (L.take j) = q at hx1 HS hq1 ⊢
      have hq0 : ¬ ((k : Int) + (q : Int) + (n : Int) < 0) := by omega
      go_wp2_with (go_at_call 34; refine (heldByteS_z x (k + q) n _ _ hx1 (by omega) (by omega) (by omega)).mono ?_; rintro e _ ⟨rfl, m2, rfl⟩)
      go_roundw
      case rel => exact ⟨j + 1, by omega, by go_num, by rw [HS.out]; go_num, m + m2, by rw [HW.out, World.drewN_drewN]⟩
      case measure => simp [intOf]; omega
    · obtain rfl : j = L.length := by omega
      clear hw
      rw [List.take_length]
      go_wp2
      go_ret
      exact ⟨rfl, m, HW.out⟩

/-- What szStack leaves of m. -/
def szKZ (H : List Int) (L : List (List UInt8)) (m : Int) : Int := if m < (H.length : Int) then -1 else szZ L (m - (H.length : Int))
end Go.Proofs.YtopbalemfljphaaDoor
