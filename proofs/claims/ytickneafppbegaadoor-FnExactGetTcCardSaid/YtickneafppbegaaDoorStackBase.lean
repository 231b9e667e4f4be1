/- StackBase: IBase, SSBase, StackBase. -/
import Derived.Test.YtickneafppbegaaDoorList
import Derived.Test.YtickneafppbegaaDoorPut
import Derived.Test.YtickneafppbegaaDoorMem
import Derived.Deep.RegionWith

/- The contracts of the helpers on slices of ints that exact laws call: toIntS, eqIntS, markIntS, heldIntS. -/
namespace Go.Proofs.YtickneafppbegaaDoor
open Go.ChangeShapes Go.WideShapes Go.ChangeAt Go.RowKit

/-- What toIntS has made after k rounds. -/
def TBI (l : List Int) (k : Nat) : List Int := l.take k ++ List.replicate (l.length - k) 0
theorem TBI_length (l : List Int) (k : Nat) (h : k ≤ l.length) : (TBI l k).length = l.length := by simp [TBI]; omega
theorem TBI_zero (l : List Int) : is (TBI l 0) = List.replicate l.length (.int .i64 0) := by simp [TBI, is]
theorem TBI_full (l : List Int) : TBI l l.length = l := by simp [TBI]
theorem TBI_set (l : List Int) (k : Nat) (h : k < l.length) : (is (TBI l k)).set k (.int .i64 (it l k)) = is (TBI l (k + 1)) := by
  have e : it l k = l[k] := by simp [it, List.getD_eq_getElem?_getD, List.getElem?_eq_getElem h]
  rw [e, is_set]
  congr 1
  apply List.ext_getElem?
  intro j
  simp only [TBI, List.getElem?_set, List.length_append, List.length_take, List.length_replicate]
  rcases Nat.lt_trichotomy j k with hj | hj | hj
  · rw [if_neg (by omega), List.getElem?_append_left (by simp; omega), List.getElem?_append_left (by simp; omega), List.getElem?_take_of_lt (by omega), List.getElem?_take_of_lt (by omega)]
  · subst hj
    rw [if_pos rfl, if_pos (by omega), List.getElem?_append_left (by simp; omega), List.getElem?_take_of_lt (by omega), List.getElem?_eq_getElem h]
  · rw [if_neg (by omega), List.getElem?_append_right (by simp; omega), List.getElem?_append_right (by simp; omega), List.getElem?_replicate, List.getElem?_replicate]
    simp only [List.length_take]
    by_cases hjl : j < l.length
    · rw [if_pos (by omega), if_pos (by omega)]
    · rw [if_neg (by omega), if_neg (by omega)]

/-- The numbers that markIntS writes: k, k + 1, .. -/
def marksI (k n : Nat) : List Int := (List.range n).map fun (i : Nat) => ((k : Int) + (i : Int))
theorem marksI_length (k n : Nat) : (marksI k n).length = n := by simp [marksI]
theorem marksI_succ (k n : Nat) : marksI k (n + 1) = marksI k n ++ [((k : Int) + (n : Int))] := by simp [marksI, List.range_succ]
theorem it_marks (k n j : Nat) (h : j < n) : it (marksI k n) j = (k : Int) + (j : Int) := by
  simp [it, marksI, List.getD_eq_getElem?_getD, h]
/-- What markIntS has written after j rounds. -/
def MKI (l : List Int) (k j : Nat) : List Int := marksI k j ++ l.drop j
theorem MKI_zero (l : List Int) (k : Nat) : MKI l k 0 = l := by simp [MKI, marksI]
theorem MKI_full (l : List Int) (k : Nat) : MKI l k l.length = marksI k l.length := by simp [MKI]
theorem MKI_length (l : List Int) (k j : Nat) (h : j ≤ l.length) : (MKI l k j).length = l.length := by simp [MKI, marksI]; omega
theorem MKI_set (l : List Int) (k j : Nat) (h : j < l.length) : (is (MKI l k j)).set j (.int .i64 ((k : Int) + (j : Int))) = is (MKI l k (j + 1)) := by
  rw [is_set]
  congr 1
  unfold MKI
  rw [marksI_succ, List.set_append_right _ _ (by simp [marksI]), List.append_assoc]
  congr 1
  rw [marksI_length, Nat.sub_self, List.drop_eq_getElem_cons h]
  rfl

/-- Every number of v has been written over, and nothing else. -/
def MarkedI (v : Value) (l : List Int) (k B : Nat) (w : World) (e : Ending) (w' : World) : Prop :=
  e = .returned (.int .i64 ((k : Int) + (l.length : Int))) ∧ OwnI 3 w' B v (marksI k l.length) ∧ w.grownBy w' v.ownBlock

/-! The same at any spelling of k. -/
/-- A slice of ints that came in reads as a list of ints. -/
theorem slI_of_row {w : World} {a : Option Addr} {len cap : Nat} {zs : List Int}
    (h : (a = none ∧ len = 0 ∧ cap = 0 ∧ zs = []) ∨
      ∃ x, a = some x ∧ len ≤ cap ∧ cap ≤ maxLen ∧ zs.length = cap ∧ (∀ i, i < zs.length → w.cell? (x.add i) = some (.int .i64 (zs.getD i 0))) ∧ ∀ n ∈ zs, (Lit.int .i64 n).wf = true) :
    ∃ l : List Int, l.length = len ∧ SlI w w.heap.size (.slice a len cap) l := by
  rcases h with ⟨rfl, rfl, rfl, rfl⟩ | ⟨x, rfl, h1, h2, h3, h4, h5⟩
  · exact ⟨[], rfl, SlI.nil_⟩
  · have hlen : (zs.take len).length = len := by simp; omega
    refine ⟨zs.take len, hlen, some x, cap, by rw [hlen], by rw [hlen]; exact h1, h2, (fun e => by cases e), fun hp => ?_⟩
    rw [hlen] at hp ⊢
    obtain ⟨b, off, spot⟩ := x
    have hc0 := h4 0 (by omega)
    have hspot : spot = none := by simpa [Addr.add] using World.cell?_spot hc0
    subst hspot
    refine ⟨b, off, rfl, lt_of_cell (off := off) (by simpa [Addr.add] using hc0), fun k hk => ?_⟩
    have hck := h4 k (by omega)
    have hz : (zs.getD k 0) = it (zs.take len) k := by
      simp [it, List.getD_eq_getElem?_getD, List.getElem?_take_of_lt hk]
    rw [hz] at hck
    have e : (⟨b, off, none⟩ : Addr).add k = ⟨b, off + k, none⟩ := by
      unfold Addr.add
      split
      · rename_i h0; subst h0; rfl
      · rfl
    rw [e] at hck
    exact hck
end Go.Proofs.YtickneafppbegaaDoor

/- The contracts of the helpers on slices of slices of bytes that exact laws call: toByteSS, eqByteSS, markByteSS, szByteSS. -/
namespace Go.Proofs.YtickneafppbegaaDoor
open Go.ChangeShapes Go.WideShapes Go.ChangeAt Go.RowKit

theorem sbinfo : (Tryd.prog.info? 24).map (fun i => (i.zero, i.size, i.bytes)) = some (some (.slice none 0 0), 1, 24) := by kernel_rfl

/-- The call returns a new slice of new rows that reads as L; nothing that was there has turned. -/
def FreshS (w : World) (L : List (List UInt8)) (e : Ending) (w' : World) : Prop :=
  ∃ u vs, e = .returned u ∧ vs.length = L.length ∧ InvG w w' ((24, u, vs) :: rowsS 5 vs L)

/-- The cells of toByteSS after some rounds. -/
def CB (vs : List Value) (n : Nat) : List Value := vs ++ List.replicate (n - vs.length) (.slice none 0 0)
theorem CB_length {vs : List Value} {n : Nat} (h : vs.length ≤ n) : (CB vs n).length = n := by simp [CB]; omega
theorem CB_nil (n : Nat) : CB [] n = List.replicate n (.slice none 0 0) := by simp [CB]
theorem CB_full {vs : List Value} {n : Nat} (h : vs.length = n) : CB vs n = vs := by simp [CB, h]
theorem CB_at {vs : List Value} {n : Nat} (h : vs.length < n) : (CB vs n)[vs.length]? = some (.slice none 0 0) := by
  unfold CB
  rw [List.getElem?_append_right (Nat.le_refl _), Nat.sub_self, List.getElem?_replicate, if_pos (by omega)]
theorem CB_set {vs : List Value} {n : Nat} (u : Value) (h : vs.length < n) : (CB vs n).set vs.length u = CB (vs ++ [u]) n := by
  unfold CB
  rw [List.set_append_right _ _ (Nat.le_refl _), Nat.sub_self, show n - vs.length = (n - (vs ++ [u]).length) + 1 by simp; omega, List.replicate_succ, List.set_cons_zero, List.append_assoc]
  rfl

theorem marksS_at (L : List (List UInt8)) (k j : Nat) (h : j < L.length) : (marksS k L).getD j [] = marks (k + sumL (L.take j)) (L.getD j []).length := marksS_get L k j h

/-- What szByteSS leaves of m. -/
def szZ (L : List (List UInt8)) (m : Int) : Int := if m < (L.length : Int) + (sumL L : Int) then -1 else m - (L.length : Int) - (sumL L : Int)
end Go.Proofs.YtickneafppbegaaDoor

/- The contracts of the helpers on stacks that exact laws call: szStack, toStack, eqStack, markStack, heldStack (and szIntS, heldByteSS). -/
namespace Go.Proofs.YtickneafppbegaaDoor
open Go.ChangeShapes Go.WideShapes Go.ChangeAt Go.RowKit

section
variable {W w w' : World} {ss qs : List (List Row)}
/-- A call that began in w has made the segments qs. -/
theorem InvF.moreF (H : InvF W w ss) (K : InvF w w' qs) : InvF W w' (qs ++ ss) := by
  unfold InvF
  rw [List.flatten_append]
  exact InvG.moreAll H K
theorem Rws.mono {B B' : Nat} {rs : List Row} (H : Rws B w rs) (h : B' ≤ B) : Rws B' w rs := ⟨fun p hp => (H.1 p hp).mono h, H.2⟩
theorem grown_cell (w : World) (b o : Nat) (v : Value) : w.grownBy (w.setCell ⟨b, o, none⟩ v) (some b) :=
  ⟨rfl, rfl, rfl, by simp [World.setCell], fun k _ hk => Below.heap_setCell _ _ _ k (fun e => hk (by rw [e]))⟩
/-- A store into a block ahead of the rows. -/
theorem Rws.cell {B : Nat} {rs : List Row} (H : Rws B w rs) {b : Nat} (h : b < B) (o : Nat) (v : Value) : Rws B (w.setCell ⟨b, o, none⟩ v) rs :=
  H.kept (grown_cell w b o v) (fun g e => by cases e; exact h)
theorem Rws.moreAll {B : Nat} {rs qs : List Row} (H : Rws B w rs) (K : InvG w w' qs) (hB : B ≤ w.heap.size) : Rws B w' (qs ++ rs) := by
  have H' : Rws B w' rs := ⟨fun p hp => (H.1 p hp).up K.bel, H.2⟩
  refine ⟨fun p hp => ?_, List.pairwise_append.2 ⟨K.2.2, H'.2, fun p hp q hq => ?_⟩⟩
  · rcases List.mem_append.1 hp with hp | hp
    · exact (K.2.1 p hp).mono hB
    · exact H'.1 p hp
  · rcases hv : p.2.1.ownBlock with _ | g
    · exact .inl rfl
    · refine .inr fun e => ?_
      have h1 := ((K.2.1 p hp).lt g hv).1
      have h2 := ((H.1 q hq).lt g e.symm).2
      omega
theorem InvG.rws {rs : List Row} (H : InvG W w rs) : Rws W.heap.size w rs := ⟨H.2.1, H.2.2⟩
end

theorem bcell {W w1 : World} (hb : Below W.heap.size W w1) : (∀ b o, b < W.heap.size → w1.cell? ⟨b, o, none⟩ = W.cell? ⟨b, o, none⟩) ∧ (∀ b o, b < W.heap.size → w1.frozen? ⟨b, o, none⟩ = W.frozen? ⟨b, o, none⟩) :=
  ⟨fun b o h => hb.cell (p := ⟨b, o, none⟩) h, fun b o h => hb.frozen (p := ⟨b, o, none⟩) h⟩

/-- The struct v reads as the heights H and the hashes L. -/
def SlK (w : World) (B : Nat) (v : Value) (H : List Int) (L : List (List UInt8)) : Prop :=
  ∃ a s, v = .agg #[a, s] ∧ SlI w B a H ∧ SlS w B s L
section
variable {w w' : World} {B B' : Nat} {v : Value} {H : List Int} {L : List (List UInt8)}
theorem SlK.mono (h : SlK w B v H L) (hB : B ≤ B') : SlK w B' v H L := by
  obtain ⟨a, s, e, h1, h2⟩ := h
  exact ⟨a, s, e, h1.mono hB, h2.mono hB⟩
theorem SlK.below (h : SlK w B v H L) (hb : Below B w w') : SlK w' B v H L := by
  obtain ⟨a, s, e, h1, h2⟩ := h
  exact ⟨a, s, e, h1.below hb, h2.below hb⟩
theorem SlK.up (h : SlK w w.heap.size v H L) (hb : Below w.heap.size w w') : SlK w' w'.heap.size v H L := (h.below hb).mono hb.size
theorem SlK.drewN (h : SlK w B v H L) (n : Nat) : SlK (w.drewN n) B v H L := h
end

/-- The call returns a new stack; nothing that was there has turned. -/
def FreshK (w : World) (H : List Int) (L : List (List UInt8)) (e : Ending) (w' : World) : Prop :=
  ∃ a s vs, e = .returned (.agg #[a, s]) ∧ vs.length = L.length ∧ InvF w w' [segI 3 a H, segS 24 5 s vs L]

/-- What szStack leaves of m. -/
def szKZ (H : List Int) (L : List (List UInt8)) (m : Int) : Int := if m < (H.length : Int) then -1 else szZ L (m - (H.length : Int))
end Go.Proofs.YtickneafppbegaaDoor
