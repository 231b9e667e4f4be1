import Derived.Test.YtnpdbadjbmeamaaDoorStackMath
import Derived.Test.YtnpdbadjbmeamaaDoorMakeList
import Derived.Test.YtnpdbadjbmeamaaDoorStackOf
import Derived.Test.YtnpdbadjbmeamaaDoorStackRoot
import Derived.Test.YtnpdbadjbmeamaaDoorStackSize
import Derived.Test.YtnpdbadjbmeamaaDoorStr
import Derived.Test.YtnpdbadjbmeamaaDoorStackOpen
import Derived.Test.YtnpdbadjbmeamaaDoorCards
import Derived.Test.YtnpdbadjbmeamaaDoorTie
import Derived.Test.YtnpdbadjbmeamaaDoorLaidW
import Derived.SevenTiedAt
import Derived.Test.YtnpdbadjbmeamaaDoorArgs
import Derived.WalkKit
import Derived.ProofKit
import Derived.OpenShut
import Derived.ShutString
import Derived.ChangeOld
import Derived.Below
/- The stack of a list stands for the list: its root is the tree's root, its size the list's length. No program is named here. -/
namespace Go.Proofs.YtnpdbadjbmeamaaDoor
open Go.RowKit

/-- The root of a list whose first part is a power of two that the rest does not pass. -/
theorem treeL_cat {a b : List (List UInt8)} {k : Nat} (ha : a.length = 2 ^ k) (hb0 : 0 < b.length) (hb : b.length ≤ 2 ^ k) : treeL (a ++ b) = nodeL (treeL a) (treeL b) := by
  have hp := Nat.two_pow_pos k
  have hs : splitN (a ++ b).length = 2 ^ k := splitN_of (by rw [List.length_append]; omega) (by rw [List.length_append]; omega)
  rw [treeL_two (by rw [List.length_append]; omega), hs, ← ha, List.take_left, List.drop_left]

/-- The chunks C, one for each of the first n subtrees. -/
def Chunks (H : List Int) (L : List (List UInt8)) (n : Nat) (C : List (List (List UInt8))) : Prop :=
  C.length = n ∧ ∀ i, i < n → 0 ≤ it H i ∧ (C.getD i []).length = 2 ^ (it H i).toNat ∧ L.getD i [] = treeL (C.getD i [])
/-- The stack stands for l. -/
def Rep (H : List Int) (L : List (List UInt8)) (l : List (List UInt8)) : Prop :=
  ∃ C, Chunks H L H.length C ∧ C.flatten = l ∧ H.length = L.length ∧ ∀ i, i + 1 < H.length → it H (i + 1) < it H i
theorem Rep.nil_ : Rep [] [] [] := ⟨[], ⟨rfl, fun i h => absurd h (by simp)⟩, rfl, rfl, fun i h => absurd h (by simp)⟩

theorem chunks_pop {H : List Int} {L : List (List UInt8)} {n : Nat} {C : List (List (List UInt8))} (h : Chunks H L (n + 1) C) :
    ∃ D, C = D ++ [C.getD n []] ∧ Chunks H L n D := by
  obtain ⟨hl, hc⟩ := h
  refine ⟨C.take n, ?_, by rw [List.length_take]; omega, fun i hi => ?_⟩
  · have := take_getD C n [] (by omega)
    rw [List.take_of_length_le (by omega)] at this
    exact this
  · rw [getD_take _ _ _ _ hi]
    exact hc i (by omega)
theorem chunks_snoc {H : List Int} {L : List (List UInt8)} {n : Nat} {D : List (List (List UInt8))} {z : Int} {x : List UInt8} {c : List (List UInt8)} (hH : n ≤ H.length) (hL : n ≤ L.length) (h : Chunks H L n D) (h0 : 0 ≤ z) (hc : c.length = 2 ^ z.toNat) (hx : x = treeL c) :
    Chunks (H.take n ++ [z]) (L.take n ++ [x]) (n + 1) (D ++ [c]) := by
  obtain ⟨hl, hd⟩ := h
  have hHl : (H.take n).length = n := by rw [List.length_take]; omega
  have hLl : (L.take n).length = n := by rw [List.length_take]; omega
  refine ⟨by simp [hl], fun i hi => ?_⟩
  rcases Nat.lt_or_ge i n with h1 | h1
  · have e1 : it (H.take n ++ [z]) i = it H i := by
      unfold it
      rw [getD_app_lt _ _ _ _ (by omega), getD_take _ _ _ _ h1]
    have e2 : (L.take n ++ [x]).getD i [] = L.getD i [] := by rw [getD_app_lt _ _ _ _ (by omega), getD_take _ _ _ _ h1]
    have e3 : (D ++ [c]).getD i [] = D.getD i [] := getD_app_lt _ _ _ _ (by omega)
    rw [e1, e2, e3]
    exact hd i h1
  · obtain rfl : i = n := by omega
    have e1 : it (H.take i ++ [z]) i = z := by
      unfold it
      rw [List.getD_eq_getElem?_getD, List.getElem?_append_right (by omega), hHl, Nat.sub_self]
      rfl
    have e2 : (L.take i ++ [x]).getD i [] = x := by
      rw [List.getD_eq_getElem?_getD, List.getElem?_append_right (by omega), hLl, Nat.sub_self]
      rfl
    have e3 : (D ++ [c]).getD i [] = c := by
      rw [List.getD_eq_getElem?_getD, List.getElem?_append_right (by omega), hl, Nat.sub_self]
      rfl
    rw [e1, e2, e3]
    exact ⟨h0, hc, hx⟩

/-- A merged leaf: what is left, and the chunk that has grown. -/
theorem mrg_rep {H : List Int} {L : List (List UInt8)} (hdec : ∀ i, i + 1 < H.length → it H (i + 1) < it H i) : ∀ (n up : Nat) (x : List UInt8) (C : List (List (List UInt8))) (cur : List (List UInt8)), n ≤ H.length → Chunks H L n C → cur.length = 2 ^ up → x = treeL cur →
    (0 < n → (up : Int) ≤ it H (n - 1)) →
    ∃ D d, Chunks H L (mrg H L n up x).1 D ∧ d.length = 2 ^ (mrg H L n up x).2.1 ∧ (mrg H L n up x).2.2 = treeL d ∧ D.flatten ++ d = C.flatten ++ cur ∧ (mrg H L n up x).1 ≤ n ∧
      (0 < (mrg H L n up x).1 → ((mrg H L n up x).2.1 : Int) < it H ((mrg H L n up x).1 - 1)) := by
  intro n
  induction n with
  | zero =>
    intro up x C cur _ hC hc hx _
    rw [mrg_zero]
    exact ⟨C, cur, hC, hc, hx, rfl, Nat.le_refl _, fun h => absurd h (by simp)⟩
  | succ n ih =>
    intro up x C cur hn hC hc hx hup
    have hu := hup (by omega)
    rw [Nat.add_sub_cancel] at hu
    by_cases he : it H n = (up : Int)
    · rw [mrg_go he]
      obtain ⟨D, hD, hDC⟩ := chunks_pop hC
      have hcn := hC.2 n (by omega)
      have hp := Nat.two_pow_pos up
      rw [he, Int.toNat_natCast] at hcn
      obtain ⟨D', d, h1, h2, h3, h4, h5, h6⟩ := ih (up + 1) (nodeL (L.getD n []) x) D (C.getD n [] ++ cur) (by omega) hDC (by rw [List.length_append, hcn.2.1, hc, Nat.pow_succ]; omega)
        (by rw [treeL_cat hcn.2.1 (by omega) (by omega), ← hcn.2.2, hx])
        (fun h0 => by
          have := hdec (n - 1) (by omega)
          rw [show n - 1 + 1 = n by omega, he] at this
          omega)
      refine ⟨D', d, h1, h2, h3, ?_, by omega, h6⟩
      rw [h4]
      conv => rhs; rw [hD]
      simp
    · rw [mrg_stop he]
      exact ⟨C, cur, hC, hc, hx, rfl, Nat.le_refl _, fun _ => by rw [Nat.add_sub_cancel]; show (up : Int) < _; omega⟩

theorem push_rep {H : List Int} {L l : List (List UInt8)} {y : List UInt8} (h : Rep H L l) : Rep (pushH H L (leafL y)) (pushS H L (leafL y)) (l ++ [y]) := by
  obtain ⟨C, hC, hfl, hlen, hdec⟩ := h
  have hone : leafL y = treeL [y] := (treeL_one (L := [y]) rfl).symm
  obtain ⟨D, d, h1, h2, h3, h4, h5, h6⟩ := mrg_rep hdec H.length 0 (leafL y) C [y] (Nat.le_refl _) hC rfl hone (fun h0 => by have := (hC.2 (H.length - 1) (by omega)).1; simpa using this)
  unfold pushH pushS pushM
  generalize mrg H L H.length 0 (leafL y) = M at h1 h2 h3 h4 h5 h6
  have hHl : (H.take M.1).length = M.1 := by rw [List.length_take]; omega
  have hlen1 : (H.take M.1 ++ [(M.2.1 : Int)]).length = M.1 + 1 := by rw [List.length_append, hHl]; rfl
  have hC2 := chunks_snoc (z := (M.2.1 : Int)) (x := M.2.2) (c := d) h5 (by omega) h1 (by omega) (by rw [Int.toNat_natCast]; exact h2) h3
  refine ⟨D ++ [d], by rw [hlen1]; exact hC2, by rw [List.flatten_append]; simp only [List.flatten_cons, List.flatten_nil, List.append_nil]; rw [h4, hfl], ?_, fun i hi => ?_⟩
  · rw [hlen1, List.length_append, List.length_take]
    simp
    omega
  · rw [hlen1] at hi
    have e1 : ∀ j, j < M.1 → it (H.take M.1 ++ [(M.2.1 : Int)]) j = it H j := fun j hj => by
      unfold it
      rw [getD_app_lt _ _ _ _ (by omega), getD_take _ _ _ _ hj]
    rcases Nat.lt_or_ge (i + 1) M.1 with h7 | h7
    · rw [e1 _ h7, e1 _ (by omega)]
      exact hdec i (by omega)
    · have hi1 : i + 1 = M.1 := by omega
      have e2 : it (H.take M.1 ++ [(M.2.1 : Int)]) (i + 1) = (M.2.1 : Int) := by
        unfold it
        rw [List.getD_eq_getElem?_getD, List.getElem?_append_right (by omega), hHl, hi1, Nat.sub_self]
        rfl
      rw [e2, e1 _ (by omega)]
      have := h6 (by omega)
      rwa [← hi1, Nat.add_sub_cancel] at this

/-- A stack of few leaves is valid. -/
theorem rep_ok {H : List Int} {L l : List (List UInt8)} (h : Rep H L l) (hl : l.length ≤ 2097151) : okS H L = true := by
  obtain ⟨C, hC, hfl, hlen, hdec⟩ := h
  refine okS_true hlen fun i hi => ?_
  obtain ⟨h0, h1, h2⟩ := hC.2 i hi
  have hle : (C.getD i []).length ≤ l.length := by
    rw [← hfl]
    have hm : C.getD i [] ∈ C := by
      rw [List.getD_eq_getElem?_getD, List.getElem?_eq_getElem (by rw [hC.1]; exact hi)]
      exact List.getElem_mem _
    exact (List.sublist_flatten_of_mem hm).length_le
  refine ⟨h0, ?_, by rw [h2]; exact treeL_length _, fun hp => ?_⟩
  · rcases Int.lt_or_le 20 (it H i) with h3 | h3
    · have h4 : 21 ≤ (it H i).toNat := by omega
      have h5 : 2 ^ 21 ≤ 2 ^ (it H i).toNat := Nat.pow_le_pow_right (by omega) h4
      have h6 : (2 : Nat) ^ 21 = 2097152 := rfl
      omega
    · exact h3
  · have := hdec (i - 1) (by omega)
    rwa [show i - 1 + 1 = i by omega] at this

theorem szK_rep {H : List Int} {L : List (List UInt8)} {n : Nat} {C : List (List (List UInt8))} (h : Chunks H L n C) : szK H n = C.flatten.length := by
  induction n generalizing C with
  | zero =>
    have : C = [] := List.eq_nil_of_length_eq_zero h.1
    subst this
    rfl
  | succ n ih =>
    obtain ⟨D, hD, hDC⟩ := chunks_pop h
    have hc := h.2 n (by omega)
    rw [szK, ih hDC, ← hc.2.1]
    conv => rhs; rw [hD]
    simp
/-- The rest of a stack behind its first k subtrees, with its root. -/
theorem down_rep {H : List Int} {L : List (List UInt8)} (hdec : ∀ i, i + 1 < H.length → it H (i + 1) < it H i) : ∀ (k : Nat) (C : List (List (List UInt8))) (suf : List (List UInt8)) (v : List UInt8), k < H.length → Chunks H L k C → 0 < suf.length → suf.length < 2 ^ ((it H k).toNat + 1) → v = treeL suf →
    0 ≤ it H k → downL L k v = treeL (C.flatten ++ suf) := by
  intro k
  induction k with
  | zero =>
    intro C suf v _ hC _ _ hv _
    have : C = [] := List.eq_nil_of_length_eq_zero hC.1
    subst this
    rw [downL_zero, hv]
    rfl
  | succ k ih =>
    intro C suf v hk hC h0 hs hv hit
    obtain ⟨D, hD, hDC⟩ := chunks_pop hC
    have hc := hC.2 k (by omega)
    have hd := hdec k (by omega)
    have hpow : 2 ^ ((it H (k + 1)).toNat + 1) ≤ 2 ^ (it H k).toNat := Nat.pow_le_pow_right (by omega) (by omega)
    have hcat := treeL_cat hc.2.1 h0 (show suf.length ≤ 2 ^ (it H k).toNat by omega)
    rw [downL_succ, ih D (C.getD k [] ++ suf) _ (by omega) hDC (by rw [List.length_append]; omega) (by rw [List.length_append, hc.2.1, Nat.pow_succ]; omega) (by rw [hcat, ← hc.2.2, hv]) hc.1]
    congr 1
    conv => rhs; rw [hD]
    simp
theorem root_rep {H : List Int} {L l : List (List UInt8)} (h : Rep H L l) : rootL L = treeL l := by
  obtain ⟨C, hC, hfl, hlen, hdec⟩ := h
  unfold rootL
  by_cases h0 : L.length = 0
  · rw [if_pos h0]
    have : C = [] := List.eq_nil_of_length_eq_zero (by rw [hC.1]; omega)
    subst this
    rw [← hfl]
    exact (treeL_nil rfl).symm
  · rw [if_neg h0]
    have hC' : Chunks H L (L.length - 1 + 1) C := by rw [show L.length - 1 + 1 = H.length by omega]; exact hC
    obtain ⟨D, hD, hDC⟩ := chunks_pop hC'
    have hc := hC.2 (L.length - 1) (by omega)
    have hp := Nat.two_pow_pos (it H (L.length - 1)).toNat
    rw [down_rep hdec (L.length - 1) D (C.getD (L.length - 1) []) _ (by omega) hDC (by omega) (by rw [hc.2.1, Nat.pow_succ]; omega) hc.2.2 hc.1, ← hfl]
    congr 1
    conv => rhs; rw [hD]
    simp

/-- The stack of a short list. -/
theorem stK_rep {M : List (List UInt8)} : ∀ k, k ≤ M.length → Rep (stK M k).1 (stK M k).2 (M.take k) := by
  intro k
  induction k with
  | zero => intro _; exact Rep.nil_
  | succ k ih =>
    intro hk
    rw [stK_succ, take_getD M k [] (by omega)]
    exact push_rep (ih (by omega))
theorem push_short {H : List Int} {L l : List (List UInt8)} {y : List UInt8} (h : Rep H L l) (hl : l.length ≤ 1048576) : pushB H L (leafL y) = true := by
  have h1 := rep_ok h (by omega)
  have h2 := rep_ok (push_rep (y := y) h) (by rw [List.length_append, List.length_singleton]; omega)
  unfold pushB
  rw [h1, h2]
  have h3 := leafL_length y
  simp [h3]
theorem sk_short {M : List (List UInt8)} (hM : M.length ≤ 1048576) : skB M = true := skB_yes fun j hj => push_short (stK_rep j (by omega)) (by rw [List.length_take]; omega)
theorem sk_rep {M : List (List UInt8)} (hM : M.length ≤ 1048576) : Rep (skH M) (skS M) M := by
  rw [skH_yes (sk_short hM), skS_yes (sk_short hM)]
  have := stK_rep (M := M) M.length (Nat.le_refl _)
  rwa [List.take_length] at this
theorem rep_root {H : List Int} {L l : List (List UInt8)} (h : Rep H L l) (hl : l.length ≤ 2097151) : rootS H L = treeL l := by
  unfold rootS
  rw [if_pos (rep_ok h hl)]
  exact root_rep h
theorem rep_size {H : List Int} {L l : List (List UInt8)} (h : Rep H L l) (hl : l.length ≤ 2097151) : sizeS H L = (l.length : Int) := by
  unfold sizeS
  rw [if_pos (rep_ok h hl)]
  obtain ⟨C, hC, hfl, _, _⟩ := h
  rw [szK_rep hC, hfl]
theorem ps_rep {H : List Int} {L l : List (List UInt8)} {y : List UInt8} (h : Rep H L l) (hl : l.length ≤ 1048576) : Rep (psH H L (leafL y)) (psS H L (leafL y)) (l ++ [y]) := by
  have hp := push_short (y := y) h hl
  rw [psH_yes hp, psS_yes hp]
  exact push_rep h
theorem root_empty : rootS [] [] = treeL [] := rep_root Rep.nil_ (by simp)
end Go.Proofs.YtnpdbadjbmeamaaDoor
/- The walk of the law FnStack: for every argument the law answers true and leaves all memory that was there as it was. -/
namespace Go.Proofs.YtnpdbadjbmeamaaDoor
open Go.ChangeShapes Go.WideShapes Go.ChangeAt Go.RowKit

/-- What each operation of the drawn region yields. -/
def FnSp (wr : World) (a s : Value) (H : List Int) (L : List (List UInt8)) : Nat → World → (Nat → Value) → Prop
  | 0, w, vs => OfSp wr a s a [5] H L 0 w vs
  | 1, w, vs => Sl w w.heap.size (vs 1) [5]
  | n + 2, w, vs => OfSp wr a s a [5] H L (n + 2) w vs
theorem FnSp.up {wr : World} {a s : Value} {H : List Int} {L : List (List UInt8)} {w w' : World} {vs vs' : Nat → Value} :
    ∀ i, FnSp wr a s H L i w vs → Below w.heap.size w w' → vs i = vs' i → (i = 4 ∨ i = 5 → vs 3 = vs' 3) → FnSp wr a s H L i w' vs'
  | 0, h, hb, e, e3 => OfSp.up (wr := wr) (a := a) (s := s) (x := a) (l := [5]) (H := H) (L := L) 0 h hb e e3
  | 1, h, hb, e, _ => by
    simp only [FnSp] at h ⊢
    rw [← e]
    exact h.up hb
  | n + 2, h, hb, e, e3 => OfSp.up (wr := wr) (a := a) (s := s) (x := a) (l := [5]) (H := H) (L := L) (n + 2) h hb e e3
theorem own_five (w : World) (B : Nat) (hB : B ≤ w.heap.size) : Own 5 (w.alloc (.cells #[.int .u8 5] 5)) B (.slice (some ⟨w.heap.size, 0, none⟩) 1 1) [5] :=
  World.ownsRow_lit w #[.int .u8 5] 1 hB (by simp [maxLen]) rfl

/-- The row, and behind it the literal {5}. -/
theorem five_rws {B : Nat} {w : World} {E : TypeId} {v : Value} {xs : List Value} (h : GOwn w B (E, v, xs)) (hB : B ≤ w.heap.size) :
    Rws B (w.alloc (.cells #[.int .u8 5] 5)) [(E, v, xs), (5, .slice (some ⟨w.heap.size, 0, none⟩) 1 1, us [5])] := by
  have h0 : Rws B w [(E, v, xs)] := ⟨fun p hp => by rw [List.mem_singleton.1 hp]; exact h, List.pairwise_singleton _ _⟩
  exact (h0.more (row := none) (p := (5, .slice (some ⟨w.heap.size, 0, none⟩) 1 1, us [5])) (GOwn.b.2 (own_five w w.heap.size (Nat.le_refl _))) hB (World.grownBy_alloc w _ _) (fun g e => by cases e)).perm (List.Perm.swap _ _ _)
theorem more_slS {w w' : World} {B : Nat} {E : TypeId} {v v5 : Value} {L : List (List UInt8)} {ys : List Value}
    (hR : Rws B w' [(E, v, [] ++ ys ++ [v5]), (5, v5, us [5])]) (hl : ys.length = L.length) (hy : ∀ k y, ys[k]? = some y → Sl w w.heap.size y (L.getD k []))
    (hb : Below w.heap.size w w') : SlS w' w'.heap.size v (L ++ [[5]]) := by
  refine slS_of_cells (hR.1 _ (.head _)) (by simp [hl]) fun k y hk => ?_
  rw [List.nil_append] at hk
  by_cases hlt : k < ys.length
  · rw [List.getElem?_append_left hlt] at hk
    have := (hy k y hk).up hb
    rw [List.getD_eq_getElem?_getD, List.getElem?_append_left (by omega), ← List.getD_eq_getElem?_getD]
    exact this
  · have h5 : Sl w' w'.heap.size v5 [5] := (GOwn.b.1 (hR.1 _ (.tail _ (.head _)))).sl
    rw [List.getElem?_append_right (by omega)] at hk
    have hk0 : k - ys.length = 0 := by
      rcases h0 : k - ys.length with _ | n
      · rfl
      · rw [h0] at hk
        simp at hk
    rw [hk0] at hk
    simp only [List.getElem?_cons_zero, Option.some.injEq] at hk
    subst hk
    rw [List.getD_eq_getElem?_getD, List.getElem?_append_right (by omega), show k - L.length = 0 from by omega]
    exact h5

set_option maxRecDepth 100000 in
set_option maxHeartbeats 8000000 in
theorem FnStack_walk (v0 : Value) (l0 : List UInt8) (W : World) (h0 : Sl W W.heap.size v0 l0)
    (hgI : Glob W 0 initW) (hg : Glob W 1 kk) :
    Calls Tryd.prog 3 #[v0] W (Yes W) := by
  obtain ⟨i0, hi, hz0, hz1, hz2⟩ := info_parts sbinfo
  have hs0 := h0
  obtain ⟨A0, c0, rfl, p0, q0, r0, z0⟩ := h0
  unfold maxLen at q0
  clear r0 z0
  by_cases hbig0 : 1048576 < l0.length
  · have hb : (1048576 : Int) < (l0.length : Int) := by omega
    go_enter Tryd.func3, Tryd.ntmps3
    go_wp2
    go_ret
    exact ⟨rfl, Below.refl _ _⟩
  have hb0 : ¬ ((1048576 : Int) < (l0.length : Int)) := by omega
  go_enter Tryd.func3, Tryd.ntmps3
  go_wp2_with fail
  refine (MakeList_any _ l0 _ hs0 (by omega)).mono ?_
  rintro e w1 ⟨L, u, vs, rfl, hvl, hL0, hL9, hLs, K⟩
  have hb1 := K.bel
  have hS : SlS w1 w1.heap.size u L := ((InvF.start W).more K).slS 22 5 hvl (.head _)
  have hI1 := hgI.below hgI.lt hb1
  have hG1 := hg.below hg.lt hb1
  clear hvl K p0 q0 hb0 hs0 hgI hg
  have HS := Lib.hid hS
  have HREP : Hid (Rep (skH L) (skS L) L) := Lib.hid (sk_rep (by omega))
  have HSKB : Hid (skB L = true) := Lib.hid (sk_short (by omega))
  have HSM := Lib.hid (sk_small L)
  have HG := Lib.hid (And.intro hI1 hG1)
  have HLS : Hid (sumL L ≤ 35) := Lib.hid hLs
  have HB1 := Lib.hid hb1
  clear hS hI1 hG1 hLs hb1
  obtain ⟨A, c, rfl, h1, h2, k0, h3⟩ : SlS w1 w1.heap.size u L := HS.out
  unfold maxLen at h2
  clear k0 h3
  go_wp2_with fail
  refine (implStackOf_any _ L w1 HS.out (by have := HLS.out; omega) HG.out.1 HG.out.2).mono ?_
  rintro e w2 hf
  obtain ⟨A1, c1, A2, c2, us2, rfl, hv2, K2⟩ := FreshKB.open hf
  rw [HSKB.out]
  obtain ⟨H, hH⟩ : ∃ H, H = skH L := ⟨_, rfl⟩
  obtain ⟨S, hSS⟩ : ∃ S, S = skS L := ⟨_, rfl⟩
  simp only [← hH, ← hSS] at HREP HSM hv2 K2
  try rw [← hH]
  try rw [← hSS]
  have HS2 : Hid (SlK w2 w2.heap.size (.agg #[.slice A1 H.length c1, .slice A2 S.length c2]) H S) := Lib.hid (K2.slK hv2.out (.head _) (.tail _ (.head _)))
  have HB2 : Hid (Below w1.heap.size w1 w2) := Lib.hid K2.bel
  clear hH hSS hf K2 hv2 HSKB us2
  have HV4 : Hid (VarK (w2.alloc (.cells #[.slice A1 H.length c1, .slice A2 S.length c2] 27)) w2.heap.size (.slice A1 H.length c1) (.slice A2 S.length c2)) := Lib.hid (heap_alloc_new w2 _)
  have HB4 : Hid (Below w2.heap.size w2 (w2.alloc (.cells #[.slice A1 H.length c1, .slice A2 S.length c2] 27))) := Lib.hid ((Below.refl _ _).alloc (Nat.le_refl _) _)
  go_wp2
  generalize w2.alloc (.cells #[.slice A1 H.length c1, .slice A2 S.length c2] 27) = wr at HV4 HB4 ⊢
  obtain ⟨n2, hn2⟩ : ∃ n, n = w2.heap.size := ⟨_, rfl⟩
  rw [← hn2] at HV4 ⊢
  have HN2 : Hid (n2 < wr.heap.size) := Lib.hid HV4.out.lt
  have HSK : Hid (SlK wr wr.heap.size (.agg #[.slice A1 H.length c1, .slice A2 S.length c2]) H S) := Lib.hid (HS2.out.up HB4.out)
  have HBR : Hid (Below w1.heap.size w1 wr) := Lib.hid (HB2.out.trans (HB4.out.mono HB2.out.size))
  have HGR : Hid (Glob wr 0 initW ∧ Glob wr 1 kk) := Lib.hid ⟨HG.out.1.up HBR.out, HG.out.2.up HBR.out⟩
  have HLR : Hid (SlS wr wr.heap.size (.slice A L.length c) L) := Lib.hid (HS.out.up HBR.out)
  have HBW : Hid (Below W.heap.size W wr) := Lib.hid (HB1.out.trans (HBR.out.mono HB1.out.size))
  clear HS2 HB2 HB4 HBR HG HS HB1 hn2
  have hV4 := HV4.out
  refine wp_region_late 8 (fun i => i == 6) (FnSp wr (.slice A1 H.length c1) (.slice A2 S.length c2) H S) (by kernel_rfl) (by kernel_rfl) ?hup ?hearly ?hstep ?hend
  case hup =>
    intro i w5 w6 vs vs' hi h hb6 hv
    refine FnSp.up i h hb6 (hv i (.inl rfl)) (fun hi => ?_)
    rcases hi with rfl | rfl
    · exact hv 3 (.inr (by kernel_rfl))
    · exact hv 3 (.inr (by kernel_rfl))
  case hearly =>
    intro i o hi0 hE ho vs w5 hb6 hp
    obtain rfl : i = 6 := by simpa using hE
    have h4 : vs 4 = vs 3 := hp 4 (by kernel_rfl)
    obtain ⟨A1', c1', A2', c2', us2, e3, _, _⟩ : OfSp wr (.slice A1 H.length c1) (.slice A2 S.length c2) (.slice A1 H.length c1) [5] H S 3 w5 vs := hp 3 (by kernel_rfl)
    rw [e3] at h4
    simp only [putAll, dstOf, Option.bind_some, Act.put, List.getElem?_toArray, List.getElem?_cons_zero, List.getElem?_cons_succ, List.setIfInBounds_toArray, List.set_cons_zero, List.set_cons_succ]
    simp only [List.getElem?_toArray, List.getElem?_cons_zero, List.getElem?_cons_succ, Option.some.injEq] at ho
    subst ho
    refine ⟨.bool (pushB H S (leafL [5])), fun w => ?_, ⟨_, rfl⟩, by simp [FnSp, OfSp, upd]⟩
    go_simp
  case hstep =>
    intro i o hi0 hE ho vs w5 hb6 hp
    have hd0 := (hV4.up hb6).c0
    have hd1 := (hV4.up hb6).c1
    simp only [putAll, dstOf, Option.bind_some, Act.put, List.getElem?_toArray, List.getElem?_cons_zero, List.getElem?_cons_succ, List.setIfInBounds_toArray, List.set_cons_zero, List.set_cons_succ]
    rcases i with _ | _ | _ | _ | _ | _ | _ | _ | i
    all_goals (first | (exfalso; omega; done) | (exfalso; simp at hE; done) | skip)
    all_goals simp only [List.getElem?_toArray, List.getElem?_cons_zero, List.getElem?_cons_succ, Option.some.injEq] at ho
    all_goals subst ho
    all_goals unfold Oper.wp
    · go_simp
      exact ⟨Below.refl _ _, by simp [FnSp, OfSp, upd, valOf]⟩
    · go_simp
      refine ⟨(Below.refl _ _).alloc (Nat.le_refl _) _, ?_⟩
      have := (own_five w5 w5.heap.size (Nat.le_refl _)).sl
      simpa [FnSp, upd, valOf] using this
    · have h1 : Sl w5 w5.heap.size (vs 1) [5] := hp 1 (by kernel_rfl)
      go_simp
      refine (implLeafHash_any (vs 1) [5] w5 h1 (by simp) (HGR.out.1.up hb6) (HGR.out.2.up hb6)).mono ?_
      rintro e w6 ⟨u, rfl, hO, hbe⟩
      refine ⟨hbe, ?_⟩
      have := GOwn.b.2 (hO.mono hb6.size)
      simpa [FnSp, OfSp, upd, valOf] using this
    · have h0 : vs 0 = _ := hp 0 (by kernel_rfl)
      have h2 : GOwn w5 wr.heap.size (5, vs 2, us (leafL [5])) := hp 2 (by kernel_rfl)
      have H2 : Hid (Own 5 w5 wr.heap.size (vs 2) (leafL [5])) := Lib.hid (GOwn.b.1 h2)
      clear h2
      go_simp
      refine (implStackPush_any _ (vs 2) H S (leafL [5]) w5 (HSK.out.up hb6) H2.out.sl (HGR.out.1.up hb6) (HGR.out.2.up hb6)).mono ?_
      rintro e w6 hf
      obtain ⟨A1', c1', A2', c2', us2, rfl, hv2, K⟩ := FreshKB.open hf
      refine ⟨K.bel, A1', c1', A2', c2', us2, ?_, hv2.out, ?_⟩
      · simp [upd, valOf]
      · have := (InvG.rws K).mono hb6.size
        simpa [InvF, segI, segS] using this
    · go_simp
      exact ⟨Below.refl _ _, by simp [FnSp, OfSp, upd, valOf]⟩
    · have h4 : vs 4 = vs 3 := hp 4 (by kernel_rfl)
      obtain ⟨A1', c1', A2', c2', us2, e3, _, _⟩ : OfSp wr (.slice A1 H.length c1) (.slice A2 S.length c2) (.slice A1 H.length c1) [5] H S 3 w5 vs := hp 3 (by kernel_rfl)
      rw [e3] at h4
      go_simp
      exact ⟨Below.refl _ _, .slice A1' (psH H S (leafL [5])).length c1', .slice A2' (psS H S (leafL [5])).length c2', by simp [upd, e3], by simp [upd, valOf]⟩
    · go_simp
      refine ⟨(Below.refl _ _).alloc (Nat.le_refl _) _, w5.heap.size, ?_, hb6.size, heap_alloc_new w5 _⟩
      simp [upd, valOf]
  case hend =>
    intro vs w5 hb6 hp
    obtain ⟨A3, c3, A4, c4, us2, e3, hul2, hR2⟩ : OfSp wr (.slice A1 H.length c1) (.slice A2 S.length c2) (.slice A1 H.length c1) [5] H S 3 w5 vs := hp 3 (by omega)
    obtain ⟨a1, s1, e3', e5⟩ : ∃ a s, vs 3 = .tuple #[.agg #[a, s], .bool (pushB H S (leafL [5]))] ∧ vs 5 = .agg #[a, s] := hp 5 (by omega)
    have e6 : vs 6 = .bool (pushB H S (leafL [5])) := hp 6 (by omega)
    rw [e3] at e3'
    simp only [Value.tuple.injEq, Array.mk.injEq, List.cons.injEq, Value.agg.injEq, and_true] at e3'
    obtain ⟨rfl, rfl⟩ := e3'
    obtain ⟨k7, e7, hk7, hk⟩ : ∃ k, vs 7 = .pointer (some ⟨k, 0, none⟩) ∧ wr.heap.size ≤ k ∧ w5.heap[k]? = some (.cells #[.slice none 0 0, .slice none 0 0] 27) := hp 7 (by omega)
    have hl8 := HREP.out
    have HSH : Hid (pushB H S (leafL [5]) = true) := Lib.hid (push_short hl8 (by omega))
    have HREP2 : Hid (Rep (psH H S (leafL [5])) (psS H S (leafL [5])) (L ++ [[5]])) := Lib.hid (ps_rep hl8 (by omega))
    have HSM2 := Lib.hid (ps_small H S (leafL [5]))
    rw [HSH.out] at e3 e6
    clear hl8 HSH
    obtain ⟨H2, hH2⟩ : ∃ x, x = psH H S (leafL [5]) := ⟨_, rfl⟩
    obtain ⟨S2, hS2⟩ : ∃ x, x = psS H S (leafL [5]) := ⟨_, rfl⟩
    simp only [← hH2, ← hS2] at HREP2 HSM2 hR2 hul2 e3 e5
    clear hH2 hS2
    have hV7 : VarK w5 k7 (.slice none 0 0) (.slice none 0 0) := hk
    have hV5 := hV4.up hb6
    have hd0 := hV7.c0
    have hd1 := hV7.c1
    have hf0 := hV7.f0
    have hf1 := hV7.f1
    have hoff := hR2.not_at hk (push_types (by decide) (by decide) (by decide))
    clear hp e3 hk hV4
    simp only [putAll, dstOf, Option.bind_some, Act.put, List.getElem?_toArray, List.getElem?_cons_zero, List.getElem?_cons_succ, List.setIfInBounds_toArray, List.set_cons_zero, List.set_cons_succ]
    refine wpAny_one (i := 8) (by kernel_rfl) rfl rfl ?_
    unfold Oper.wp
    go_simp
    have hV76 : VarK ((w5.setCell ⟨k7, 0, none⟩ (.slice A3 H2.length c3)).setCell ⟨k7, 1, none⟩ (.slice A4 S2.length c4)) k7 (.slice A3 H2.length c3) (.slice A4 S2.length c4) := (hV7.set0 _).set1 _
    have hB6 : Below wr.heap.size wr ((w5.setCell ⟨k7, 0, none⟩ (.slice A3 H2.length c3)).setCell ⟨k7, 1, none⟩ (.slice A4 S2.length c4)) := (hb6.setCell (p := ⟨k7, 0, none⟩) hk7 _).setCell (p := ⟨k7, 1, none⟩) hk7 _
    have hR6 := ((hR2.cellOff hoff 0 (.slice A3 H2.length c3)).cellOff hoff 1 (.slice A4 S2.length c4))
    have HTK := Lib.hid (hR6.slK hul2)
    clear hd0 hd1 hf0 hf1 hV5 hV7 hR2 hul2 hb6 hoff hR6
    generalize ((w5.setCell ⟨k7, 0, none⟩ (.slice A3 H2.length c3)).setCell ⟨k7, 1, none⟩ (.slice A4 S2.length c4)) = W6 at hV76 hB6 HTK ⊢
    have HV7 := Lib.hid hV76
    have HV46 := Lib.hid (HV4.out.up hB6)
    have HSK6 := Lib.hid (HSK.out.up hB6)
    have HG6 : Hid (Glob W6 0 initW ∧ Glob W6 1 kk) := Lib.hid ⟨HGR.out.1.up hB6, HGR.out.2.up hB6⟩
    have HL6 := Lib.hid (HLR.out.up hB6)
    have HB6 := Lib.hid (HBW.out.trans (hB6.mono HBW.out.size))
    clear hV76 hB6 HV4 HSK HGR HLR HBW HN2
    refine wpAny_one (i := 9) (by kernel_rfl) rfl rfl ?_
    unfold Oper.wp
    go_simp
    refine wpAny_done (by kernel_rfl) (NoPanic.normal ?_) _
    try clear vs
    -- more
    obtain ⟨ys, hyR, hyl, hyS⟩ := HL6.out.rdC
    have HYL := Lib.hid hyl
    have HYS := Lib.hid hyS
    have HYR : Hid (RdC (W6.alloc (.cells #[] 22)) (W6.alloc (.cells #[] 22)).heap.size (.slice A L.length c) ys) := Lib.hid ((hyR.below ((Below.refl _ _).alloc (Nat.le_refl _) _)).mono (by simp))
    have HYN : Hid (([] : List Value).length + ys.length ≤ 1073741824) := Lib.hid (by simp only [List.length_nil]; omega)
    have HYN2 : Hid (([] ++ ys : List Value).length ≤ 1073741823) := Lib.hid (by simp only [List.nil_append]; omega)
    clear hyl hyS hyR
    go_upto_region 7 with (first
      | (at_builtin; refine wpList_appC (W := W6) rfl _ _ 23 rfl 22 i0 Tryd.underlying23 hi (.slice none 0 0) 24 hz0 hz1 hz2 rfl (by omega) _ [] (by rfl) _ ys (by rfl) HYR.out (World.ownsRow_lit W6 #[] 0 (Nat.le_refl _) (by simp [maxLen]) rfl) ((Below.refl _ _).alloc (Nat.le_refl _) _) HYN.out ?_; intro v7 w7 hown7 hb7;
         have HO7 := Lib.hid hown7;
         have HB7 := Lib.hid hb7;
         have HB8 : Hid (Below W6.heap.size W6 (w7.alloc (.cells #[.int .u8 5] 5))) := Lib.hid (hb7.alloc hb7.size _);
         clear hown7 hb7)
      | (at_builtin; refine wpList_appR1 (w := w7.alloc (.cells #[.int .u8 5] 5)) rfl _ _ 23 rfl 22 i0 Tryd.underlying23 hi (.slice none 0 0) 24 hz0 hz1 hz2 rfl (by omega) W6.heap.size _ ([] ++ ys) (by rfl) (.slice (some ⟨w7.heap.size, 0, none⟩) 1 1) rfl (by go_simp) HB8.out.size (five_rws HO7.out HB7.out.size) HYN2.out ?_; intro v9 w9 hR9 hg9;
         have HB9 : Hid (Below W6.heap.size W6 w9) := Lib.hid (HB8.out.grown hg9 HB8.out.size (fun j e => (HO7.out.lt j e).1));
         have HM9 := Lib.hid (more_slS hR9 HYL.out HYS.out HB9.out);
         clear hR9 hg9))
    clear e5 e6 e7 HYL HYS HYR HYN HYN2 HO7 HB7 HB8
    have HN : Hid (L.length ≤ 2097151 ∧ (L ++ [[5]]).length ≤ 2097151 ∧ sumL L ≤ 1073741000 ∧ L.length ≤ 1073741824 ∧ sumL (L ++ [[5]]) ≤ 1073741000 ∧ (L ++ [[5]]).length ≤ 1073741824) := Lib.hid (by
      have h1 := sumL_app L [[5]]
      have h2 := HLS.out
      have h3 : sumL [[(5 : UInt8)]] = 1 := rfl
      have h4 : (L ++ [[(5 : UInt8)]]).length = L.length + 1 := by simp
      exact ⟨by omega, by omega, by omega, by omega, by omega, by omega⟩)
    have HSZ2 : Hid (((L ++ [[(5 : UInt8)]]).length : Int) = (L.length : Int) + 1) := Lib.hid (by simp)
    have HUP : Hid (∀ w, Below w9.heap.size w9 w → SlK w w.heap.size (.agg #[.slice A1 H.length c1, .slice A2 S.length c2]) H S ∧ SlK w w.heap.size (.agg #[.slice A3 H2.length c3, .slice A4 S2.length c4]) H2 S2 ∧
        VarK w n2 (.slice A1 H.length c1) (.slice A2 S.length c2) ∧ VarK w k7 (.slice A3 H2.length c3) (.slice A4 S2.length c4) ∧
        Glob w 0 initW ∧ Glob w 1 kk ∧ SlS w w.heap.size (.slice A L.length c) L ∧ SlS w w.heap.size v9 (L ++ [[5]]) ∧ Below W.heap.size W w) := Lib.hid (fun w hb => by
      have hb6 := HB9.out.trans (hb.mono HB9.out.size)
      exact ⟨HSK6.out.up hb6, HTK.out.up hb6, HV46.out.up hb6, HV7.out.up hb6, HG6.out.1.up hb6, HG6.out.2.up hb6, HL6.out.up hb6, HM9.out.up hb, HB6.out.trans (hb6.mono HB6.out.size)⟩)
    clear HSK6 HTK HV46 HV7 HG6 HL6 HM9 HB6 HB9 HSM HSM2 HLS h1 h2 hk7
    have hb9 : Below w9.heap.size w9 w9 := Below.refl _ _
    obtain ⟨hS, -, hV, -⟩ := HUP.out w9 hb9
    have hd0 := hV.c0
    have hd1 := hV.c1
    clear hS hV
    go_wp2_with fail
    refine (implStackOk_any _ H S w9 (HUP.out w9 hb9).1).mono ?_
    rintro e w10 ⟨rfl, hb10⟩
    rw [rep_ok HREP.out HN.out.1]
    clear hd0 hd1
    have hd0 := (HUP.out w10 hb10).2.2.1.c0
    have hd1 := (HUP.out w10 hb10).2.2.1.c1
    go_wp2_with fail
    refine (implStackSize_any _ H S w10 (HUP.out w10 hb10).1).mono ?_
    rintro e w11 ⟨rfl, hb⟩
    have hb11 := hb10.trans (hb.mono hb10.size)
    rw [rep_size HREP.out HN.out.1]
    clear hd0 hd1 hb
    have hd0 := (HUP.out w11 hb11).2.2.2.1.c0
    have hd1 := (HUP.out w11 hb11).2.2.2.1.c1
    go_wp2_with fail
    refine (implStackSize_any _ H2 S2 w11 (HUP.out w11 hb11).2.1).mono ?_
    rintro e w12 ⟨rfl, hb⟩
    have hb12 := hb11.trans (hb.mono hb11.size)
    rw [rep_size HREP2.out HN.out.2.1, HSZ2.out]
    clear hd0 hd1 hb
    have hd0 := (HUP.out w12 hb12).2.2.1.c0
    have hd1 := (HUP.out w12 hb12).2.2.1.c1
    go_wp2_with fail
    -- the root of s
    refine (implStackRoot_any _ H S w12 (HUP.out w12 hb12).1 (HUP.out w12 hb12).2.2.2.2.1 (HUP.out w12 hb12).2.2.2.2.2.1).mono ?_
    rintro e w13 ⟨v13, rfl, hO13, hb13'⟩
    have hb13 := hb12.trans (hb13'.mono hb12.size)
    clear hd0 hd1
    go_wp2_with fail
    refine (implTreeRoot_any _ L w13 (HUP.out w13 hb13).2.2.2.2.2.2.1 HN.out.2.2.1 HN.out.2.2.2.1 (HUP.out w13 hb13).2.2.2.2.1 (HUP.out w13 hb13).2.2.2.2.2.1).mono ?_
    rintro e w14 ⟨v14, rfl, hO14, hb14'⟩
    have hb14 := hb13.trans (hb14'.mono hb13.size)
    go_wp2_with fail
    refine (implSameBytes_any v13 v14 (rootS H S) (treeL L) w14 (hO13.sl.up hb14') hO14.sl).mono ?_
    rintro e w' ⟨rfl, hw⟩
    obtain rfl : w14 = w' := hw
    rw [rep_root HREP.out HN.out.1, show (treeL L == treeL L) = true from by simp]
    clear hO13 hO14 hb13' hb14'
    have hd0 := (HUP.out w14 hb14).2.2.2.1.c0
    have hd1 := (HUP.out w14 hb14).2.2.2.1.c1
    go_wp2_with fail
    -- the root of t
    refine (implStackRoot_any _ H2 S2 w14 (HUP.out w14 hb14).2.1 (HUP.out w14 hb14).2.2.2.2.1 (HUP.out w14 hb14).2.2.2.2.2.1).mono ?_
    rintro e w15 ⟨v15, rfl, hO15, hb15'⟩
    have hb15 := hb14.trans (hb15'.mono hb14.size)
    clear hd0 hd1
    go_wp2_with fail
    refine (implTreeRoot_any _ (L ++ [[5]]) w15 (HUP.out w15 hb15).2.2.2.2.2.2.2.1 HN.out.2.2.2.2.1 HN.out.2.2.2.2.2 (HUP.out w15 hb15).2.2.2.2.1 (HUP.out w15 hb15).2.2.2.2.2.1).mono ?_
    rintro e w16 ⟨v16, rfl, hO16, hb16'⟩
    have hb16 := hb15.trans (hb16'.mono hb15.size)
    go_wp2_with fail
    refine (implSameBytes_any v15 v16 (rootS H2 S2) (treeL (L ++ [[5]])) w16 (hO15.sl.up hb16') hO16.sl).mono ?_
    rintro e w' ⟨rfl, hw⟩
    obtain rfl : w16 = w' := hw
    rw [rep_root HREP2.out HN.out.2.1, show (treeL (L ++ [[5]]) == treeL (L ++ [[5]])) = true from by simp]
    clear hO15 hO16 hb15' hb16'
    go_wp2_with fail
    -- the root of none
    refine (implStackRoot_any _ [] [] w16 ⟨_, _, rfl, SlI.nil_, SlS.nil_⟩ (HUP.out w16 hb16).2.2.2.2.1 (HUP.out w16 hb16).2.2.2.2.2.1).mono ?_
    rintro e w17 ⟨v17, rfl, hO17, hb17'⟩
    have hb17 := hb16.trans (hb17'.mono hb16.size)
    go_wp2_with fail
    refine (implTreeRoot_any _ [] w17 SlS.nil_ (by simp [sumL]) (by simp) (HUP.out w17 hb17).2.2.2.2.1 (HUP.out w17 hb17).2.2.2.2.2.1).mono ?_
    rintro e w18 ⟨v18, rfl, hO18, hb18'⟩
    have hb18 := hb17.trans (hb18'.mono hb17.size)
    go_wp2_with fail
    refine (implSameBytes_any v17 v18 (rootS [] []) (treeL []) w18 (hO17.sl.up hb18') hO18.sl).mono ?_
    rintro e w' ⟨rfl, hw⟩
    obtain rfl : w18 = w' := hw
    rw [root_empty, show (treeL [] == treeL []) = true from by simp]
    clear hO17 hO18 hb17' hb18'
    go_wp2
    go_ret
    exact ⟨rfl, (HUP.out w18 hb18).2.2.2.2.2.2.2.2⟩
end Go.Proofs.YtnpdbadjbmeamaaDoor
/- The law FnStack holds for every argument. The listed package-level variables are tied to the program's text; no other condition. -/
namespace Go.Proofs.YtnpdbadjbmeamaaDoor.fnStack
open Go.ChangeShapes Go.WideShapes Go.ChangeAt Go.RowKit
open Go.ChangeMaps (open_string shut_string)
set_option linter.unusedVariables false

theorem own : ownKnob Tryd.prog.godebug = none := by kernel_rfl
theorem laidOut : laidOutB Tryd.prog = true := by kernel_rfl

set_option maxRecDepth 100000 in
theorem lifted (os : Os) (started : os.Started) (H : Type) (enc : TypeId × Value → H) :
    ReturnsInHanded {} Tryd.checked os 3 .any (fun w args => (Rows.fnStackSpec.pre enc Tryd.prog Tryd.f3 [] false w args ∧ laidMetH Tryd.prog ldIR w) ∧ sizedMet enc Tryd.prog Tryd.f3 (OpenSpec.ofChange Rows.fnStackSpec) false w args)
      (Rows.fnStackSpec.post enc Tryd.prog Tryd.f3 false true false false) := by
  refine returnsInHanded_of_change_and (C := Tryd.checked) (X := fun w _ => laidMetH Tryd.prog ldIR w) (fun _ _ _ hh h => h.of_heap hh) own started (by kernel_rfl) Tryd.func3
    (ChangeSpec.witness_shaped (enc := enc) (C := Tryd.checked) (os := os) (X := fun w _ => laidMetH Tryd.prog ldIR w) false (World.doorLaid Tryd.prog 400 os) #[.slice none 0 0] 8 rfl (World.shaped_of_RefB (by kernel_rfl) (by kernel_rfl)) (by kernel_rfl) (by kernel_rfl) (by kernel_rfl) (door_ldIR os _)) ?_
  intro W base args ds gs before hval0 hW _ _ hL _
  have hval : ∀ (j : Nat) t v, Tryd.f3.params[j]? = some t → args[j]? = some v → Value.okWide Tryd.prog W .any base t v := hval0
  have hW' := hW
  obtain ⟨p, q, hA0, hV, rfl, hfz, hnd⟩ := hW
  have hA : DataW.TrodAll enc Tryd.prog W 0 (fun _ => true) true Tryd.f3.params.toList args.toList ds p := hA0
  rw [Tryd.params3] at hA hval
  obtain ⟨v0, vs0, d0, ds0, p0, q0, hargs, rfl, rfl, h0, r0⟩ := trodAll_cons hA
  obtain ⟨rfl, rfl, rfl⟩ := trodAll_nil r0
  obtain rfl : args = #[v0] := by cases args; simp_all
  obtain ⟨g1, g2, rfl⟩ := gs_2 hV
  obtain ⟨a0, len0, cap0, rfl⟩ := okWide_slice Tryd.underlying22 (hval 0 22 v0 rfl rfl)
  have lt0 : ∀ x ∈ p0, x.block < W.heap.size := by obtain ⟨m, hm⟩ := h0; exact DataW.trod_lt m _ _ _ hm
  obtain ⟨l0, s0⟩ := sl_of_arg Tryd.underlying22 Tryd.underlying5 (by kernel_rfl) h0
  clear hA0 hval0
  refine (FnStack_walk _ l0 W s0 ((both_of_ldIR hL).1) ((both_of_ldIR hL).2)).mono fun e W' ⟨he, bel⟩ => ?_
  subst he
  exact ⟨_, rfl, _, _, _, [], _, q, hW', trodAll_mk1 (shut_bool Tryd.underlying4 _), (trodAll_cons_mk (Below.trod laidOut (by kernel_rfl) (of_decide_eq_true (by kernel_rfl)) h0 bel lt0) trodAll_mk0), Below.trodVars (by kernel_rfl) bel (by kernel_rfl) hV, bel.frame _, fun h => by cases h⟩

theorem over : Rows.fnStackRow.holds Tryd.pinned (OpenSpec.ofChange Rows.fnStackSpec) :=
  OpenClaim.holds_of_wide 3 Tryd.f3 rfl rfl rfl rfl rfl rfl rfl ⟨rfl, rfl, rfl, rfl, rfl⟩ rfl rfl rfl rfl rfl (by kernel_rfl) Tryd.func3 (by kernel_rfl)
    (of_decide_eq_true (by kernel_rfl)) (by unfold Func.isWrapper; first | (rw [if_pos (by decide +kernel)]; kernel_rfl) | (rw [if_neg (by decide +kernel)]; exact ⟨rfl, rfl⟩))
    (fun os started H enc _ => lifted os started H enc)

theorem proved : Rows.FnStackSaid := over

theorem card_holds : Rows.FnStackCardSaid :=
  Claim7.holds_tied_plain_at .later [] [.wider, .data] true (true, "62da9f0625bd7e9de335b9ce9a719223afb05251e3c43ffdb486c3b269ccca28") false
    proved (fun _ h => by cases h) (by kernel_rfl) (fun _ h => by cases h) fnStack_row_tie rfl ⟨rfl, rfl⟩ (by kernel_rfl) rfl
    (fun f fn hf hfn => by
      have hn : Tryd.prog.funcNamed (Tryd.f3).name = some 3 := by kernel_rfl
      obtain rfl : f = 3 := Option.some.inj (hn.symm.trans hf) |>.symm
      obtain rfl : fn = Tryd.f3 := (Option.some.inj (Tryd.func3.symm.trans hfn)).symm
      exact ⟨by kernel_rfl, fun j t ht => by
        rw [Tryd.params3] at ht
        have hm : t ∈ [22] := by simpa using Array.mem_of_getElem? ht
        have hall : ([22].all fun u => !Tryd.prog.wantsStandIn u) = true := by kernel_rfl
        exact (show Tryd.prog.wantsStandIn t = false by simpa using List.all_eq_true.1 hall t hm)⟩)
    (by kernel_rfl)
#print axioms card_holds
end Go.Proofs.YtnpdbadjbmeamaaDoor.fnStack
