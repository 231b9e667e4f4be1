/- The stack of a list stands for the list: its root is the tree's root, its size the list's length. No program is named here. -/
import Derived.Test.YtdoaikanaodefaaDoorMem
namespace Go.Proofs.YtdoaikanaodefaaDoor
open Go.RowKit

/-- The root of a list whose first part is a power of two that the rest does not pass. -/
theorem treeL_cat {a b : List (List UInt8)} {k : Nat} (ha : a.length = 2 ^ k) (hb0 : 0 < b.length) (hb : b.length ≤ 2 ^ k) : treeL (a ++ b) = nodeL (treeL a) (treeL b) := by
  have hp := Nat.two_pow_pos k
  have hs : splitN (a ++ b).length = 2 ^ k := splitN_of (by rw [List.length_append]; omega) (by rw [List.length_append]; omega)
  rw [treeL_two (by rw [List.length_append]; omega), hs, ← ha, List.take_left, List.drop_left]

/-- The chunks C, one for each of the first n subtrees. -/
def Chunks (H : List Int) (L : List (List UInt8)) (n : Nat) (C : List (List (List UInt8))) : Prop :=
  C.length = n ∧ ∀ i, i < n → 0 ≤ it H i ∧ (C.getD i []).length = 2 ^ (it H i).toNat ∧ L.getD i [] = treeL (C.getD i [])
/-- The stack stands for l. -/
def Rep (H : List Int) (L : List (List UInt8)) (l : List (List UInt8)) : Prop :=
  ∃ C, Chunks H L H.length C ∧ C.flatten = l ∧ H.length = L.length ∧ ∀ i, i + 1 < H.length → it H (i + 1) < it H i
theorem Rep.nil_ : Rep [] [] [] := ⟨[], ⟨rfl, fun i h => absurd h (by simp)⟩, rfl, rfl, fun i h => absurd h (by simp)⟩

theorem chunks_pop {H : List Int} {L : List (List UInt8)} {n : Nat} {C : List (List (List UInt8))} (h : Chunks H L (n + 1) C) :
    ∃ D, C = D ++ [C.getD n []] ∧ Chunks H L n D := by
  obtain ⟨hl, hc⟩ := h
  refine ⟨C.take n, ?_, by rw [List.length_take]; omega, fun i hi => ?_⟩
  · have := take_getD C n [] (by omega)
    rw [List.take_of_length_le (by omega)] at this
    exact this
  · rw [getD_take _ _ _ _ hi]
    exact hc i (by omega)
theorem chunks_snoc {H : List Int} {L : List (List UInt8)} {n : Nat} {D : List (List (List UInt8))} {z : Int} {x : List UInt8} {c : List (List UInt8)} (hH : n ≤ H.length) (hL : n ≤ L.length) (h : Chunks H L n D) (h0 : 0 ≤ z) (hc : c.length = 2 ^ z.toNat) (hx : x = treeL c) :
    Chunks (H.take n ++ [z]) (L.take n ++ [x]) (n + 1) (D ++ [c]) := by
  obtain ⟨hl, hd⟩ := h
  have hHl : (H.take n).length = n := by rw [List.length_take]; omega
  have hLl : (L.take n).length = n := by rw [List.length_take]; omega
  refine ⟨by simp [hl], fun i hi => ?_⟩
  rcases Nat.lt_or_ge i n with h1 | h1
  · have e1 : it (H.take n ++ [z]) i = it H i := by
      unfold it
      rw [getD_app_lt _ _ _ _ (by omega), getD_take _ _ _ _ h1]
    have e2 : (L.take n ++ [x]).getD i [] = L.getD i [] := by rw [getD_app_lt _ _ _ _ (by omega), getD_take _ _ _ _ h1]
    have e3 : (D ++ [c]).getD i [] = D.getD i [] := getD_app_lt _ _ _ _ (by omega)
    rw [e1, e2, e3]
    exact hd i h1
  · obtain rfl : i = n := by omega
    have e1 : it (H.take i ++ [z]) i = z := by
      unfold it
      rw [List.getD_eq_getElem?_getD, List.getElem?_append_right (by omega), hHl, Nat.sub_self]
      rfl
    have e2 : (L.take i ++ [x]).getD i [] = x := by
      rw [List.getD_eq_getElem?_getD, List.getElem?_append_right (by omega), hLl, Nat.sub_self]
      rfl
    have e3 : (D ++ [c]).getD i [] = c := by
      rw [List.getD_eq_getElem?_getD, List.getElem?_append_right (by omega), hl, Nat.sub_self]
      rfl
    rw [e1, e2, e3]
    exact ⟨h0, hc, hx⟩

/-- A merged leaf: what is left, and the chunk that has grown. -/
theorem mrg_rep {H : List Int} {L : List (List UInt8)} (hdec : ∀ i, i + 1 < H.length → it H (i + 1) < it H i) : ∀ (n up : Nat) (x : List UInt8) (C : List (List (List UInt8))) (cur : List (List UInt8)), n ≤ H.length → Chunks H L n C → cur.length = 2 ^ up → x = treeL cur →
    (0 < n → (up : Int) ≤ it H (n - 1)) →
    ∃ D d, Chunks H L (mrg H L n up x).1 D ∧ d.length = 2 ^ (mrg H L n up x).2.1 ∧ (mrg H L n up x).2.2 = treeL d ∧ D.flatten ++ d = C.flatten ++ cur ∧ (mrg H L n up x).1 ≤ n ∧
      (0 < (mrg H L n up x).1 → ((mrg H L n up x).2.1 : Int) < it H ((mrg H L n up x).1 - 1)) := by
  intro n
  induction n with
  | zero =>
    intro up x C cur _ hC hc hx _
    rw [mrg_zero]
    exact ⟨C, cur, hC, hc, hx, rfl, Nat.le_refl _, fun h => absurd h (by simp)⟩
  | succ n ih =>
    intro up x C cur hn hC hc hx hup
    have hu := hup (by omega)
    rw [Nat.add_sub_cancel] at hu
    by_cases he : it H n = (up : Int)
    · rw [mrg_go he]
      obtain ⟨D, hD, hDC⟩ := chunks_pop hC
      have hcn := hC.2 n (by omega)
      have hp := Nat.two_pow_pos up
      rw [he, Int.toNat_natCast] at hcn
      obtain ⟨D', d, h1, h2, h3, h4, h5, h6⟩ := ih (up + 1) (nodeL (L.getD n []) x) D (C.getD n [] ++ cur) (by omega) hDC (by rw [List.length_append, hcn.2.1, hc, Nat.pow_succ]; omega)
        (by rw [treeL_cat hcn.2.1 (by omega) (by omega), ← hcn.2.2, hx])
        (fun h0 => by
          have := hdec (n - 1) (by omega)
          rw [show n - 1 + 1 = n by omega, he] at this
          omega)
      refine ⟨D', d, h1, h2, h3, ?_, by omega, h6⟩
      rw [h4]
      conv => rhs; rw [hD]
      simp
    · rw [mrg_stop he]
      exact ⟨C, cur, hC, hc, hx, rfl, Nat.le_refl _, fun _ => by rw [Nat.add_sub_cancel]; show (up : Int) < _; omega⟩

theorem push_rep {H : List Int} {L l : List (List UInt8)} {y : List UInt8} (h : Rep H L l) : Rep (pushH H L (leafL y)) (pushS H L (leafL y)) (l ++ [y]) := by
  obtain ⟨C, hC, hfl, hlen, hdec⟩ := h
  have hone : leafL y = treeL [y] := (treeL_one (L := [y]) rfl).symm
  obtain ⟨D, d, h1, h2, h3, h4, h5, h6⟩ := mrg_rep hdec H.length 0 (leafL y) C [y] (Nat.le_refl _) hC rfl hone (fun h0 => by have := (hC.2 (H.length - 1) (by omega)).1; simpa using this)
  unfold pushH pushS pushM
  generalize mrg H L H.length 0 (leafL y) = M at h1 h2 h3 h4 h5 h6
  have hHl : (H.take M.1).length = M.1 := by rw [List.length_take]; omega
  have hlen1 : (H.take M.1 ++ [(M.2.1 : Int)]).length = M.1 + 1 := by rw [List.length_append, hHl]; rfl
  have hC2 := chunks_snoc (z := (M.2.1 : Int)) (x := M.2.2) (c := d) h5 (by omega) h1 (by omega) (by rw [Int.toNat_natCast]; exact h2) h3
  refine ⟨D ++ [d], by rw [hlen1]; exact hC2, by rw [List.flatten_append]; simp only [List.flatten_cons, List.flatten_nil, List.append_nil]; rw [h4, hfl], ?_, fun i hi => ?_⟩
  · rw [hlen1, List.length_append, List.length_take]
    simp
    omega
  · rw [hlen1] at hi
    have e1 : ∀ j, j < M.1 → it (H.take M.1 ++ [(M.2.1 : Int)]) j = it H j := fun j hj => by
      unfold it
      rw [getD_app_lt _ _ _ _ (by omega), getD_take _ _ _ _ hj]
    rcases Nat.lt_or_ge (i + 1) M.1 with h7 | h7
    · rw [e1 _ h7, e1 _ (by omega)]
      exact hdec i (by omega)
    · have hi1 : i + 1 = M.1 := by omega
      have e2 : it (H.take M.1 ++ [(M.2.1 : Int)]) (i + 1) = (M.2.1 : Int) := by
        unfold it
        rw [List.getD_eq_getElem?_getD, List.getElem?_append_right (by omega), hHl, hi1, Nat.sub_self]
        rfl
      rw [e2, e1 _ (by omega)]
      have := h6 (by omega)
      rwa [← hi1, Nat.add_sub_cancel] at this

/-- A stack of few leaves is valid. -/
theorem rep_ok {H : List Int} {L l : List (List UInt8)} (h : Rep H L l) (hl : l.length ≤ 2097151) : okS H L = true := by
  obtain ⟨C, hC, hfl, hlen, hdec⟩ := h
  refine okS_true hlen fun i hi => ?_
  obtain ⟨h0, h1, h2⟩ := hC.2 i hi
  have hle : (C.getD i []).length ≤ l.length := by
    rw [← hfl]
    have hm : C.getD i [] ∈ C := by
      rw [List.getD_eq_getElem?_getD, List.getElem?_eq_getElem (by rw [hC.1]; exact hi)]
      exact List.getElem_mem _
    exact (List.sublist_flatten_of_mem hm).length_le
  refine ⟨h0, ?_, by rw [h2]; exact treeL_length _, fun hp => ?_⟩
  · rcases Int.lt_or_le 20 (it H i) with h3 | h3
    · have h4 : 21 ≤ (it H i).toNat := by omega
      have h5 : 2 ^ 21 ≤ 2 ^ (it H i).toNat := Nat.pow_le_pow_right (by omega) h4
      have h6 : (2 : Nat) ^ 21 = 2097152 := rfl
      omega
    · exact h3
  · have := hdec (i - 1) (by omega)
    rwa [show i - 1 + 1 = i by omega] at this

theorem szK_rep {H : List Int} {L : List (List UInt8)} {n : Nat} {C : List (List (List UInt8))} (h : Chunks H L n C) : szK H n = C.flatten.length := by
  induction n generalizing C with
  | zero =>
    have : C = [] := List.eq_nil_of_length_eq_zero h.1
    subst this
    rfl
  | succ n ih =>
    obtain ⟨D, hD, hDC⟩ := chunks_pop h
    have hc := h.2 n (by omega)
    rw [szK, ih hDC, ← hc.2.1]
    conv => rhs; rw [hD]
    simp
/-- The rest of a stack behind its first k subtrees, with its root. -/
theorem down_rep {H : List Int} {L : List (List UInt8)} (hdec : ∀ i, i + 1 < H.length → it H (i + 1) < it H i) : ∀ (k : Nat) (C : List (List (List UInt8))) (suf : List (List UInt8)) (v : List UInt8), k < H.length → Chunks H L k C → 0 < suf.length → suf.length < 2 ^ ((it H k).toNat + 1) → v = treeL suf →
    0 ≤ it H k → downL L k v = treeL (C.flatten ++ suf) := by
  intro k
  induction k with
  | zero =>
    intro C suf v _ hC _ _ hv _
    have : C = [] := List.eq_nil_of_length_eq_zero hC.1
    subst this
    rw [downL_zero, hv]
    rfl
  | succ k ih =>
    intro C suf v hk hC h0 hs hv hit
    obtain ⟨D, hD, hDC⟩ := chunks_pop hC
    have hc := hC.2 k (by omega)
    have hd := hdec k (by omega)
    have hpow : 2 ^ ((it H (k + 1)).toNat + 1) ≤ 2 ^ (it H k).toNat := Nat.pow_le_pow_right (by omega) (by omega)
    have hcat := treeL_cat hc.2.1 h0 (show suf.length ≤ 2 ^ (it H k).toNat by omega)
    rw [downL_succ, ih D (C.getD k [] ++ suf) _ (by omega) hDC (by rw [List.length_append]; omega) (by rw [List.length_append, hc.2.1, Nat.pow_succ]; omega) (by rw [hcat, ← hc.2.2, hv]) hc.1]
    congr 1
    conv => rhs; rw [hD]
    simp
theorem root_rep {H : List Int} {L l : List (List UInt8)} (h : Rep H L l) : rootL L = treeL l := by
  obtain ⟨C, hC, hfl, hlen, hdec⟩ := h
  unfold rootL
  by_cases h0 : L.length = 0
  · rw [if_pos h0]
    have : C = [] := List.eq_nil_of_length_eq_zero (by rw [hC.1]; omega)
    subst this
    rw [← hfl]
    exact (treeL_nil rfl).symm
  · rw [if_neg h0]
    have hC' : Chunks H L (L.length - 1 + 1) C := by rw [show L.length - 1 + 1 = H.length by omega]; exact hC
    obtain ⟨D, hD, hDC⟩ := chunks_pop hC'
    have hc := hC.2 (L.length - 1) (by omega)
    have hp := Nat.two_pow_pos (it H (L.length - 1)).toNat
    rw [down_rep hdec (L.length - 1) D (C.getD (L.length - 1) []) _ (by omega) hDC (by omega) (by rw [hc.2.1, Nat.pow_succ]; omega) hc.2.2 hc.1, ← hfl]
    congr 1
    conv => rhs; rw [hD]
    simp

/-- The stack of a short list. -/
theorem stK_rep {M : List (List UInt8)} : ∀ k, k ≤ M.length → Rep (stK M k).1 (stK M k).2 (M.take k) := by
  intro k
  induction k with
  | zero => intro _; exact Rep.nil_
  | succ k ih =>
    intro hk
    rw [stK_succ, take_getD M k [] (by omega)]
    exact push_rep (ih (by omega))
theorem push_short {H : List Int} {L l : List (List UInt8)} {y : List UInt8} (h : Rep H L l) (hl : l.length ≤ 1048576) : pushB H L (leafL y) = true := by
  have h1 := rep_ok h (by omega)
  have h2 := rep_ok (push_rep (y := y) h) (by rw [List.length_append, List.length_singleton]; omega)
  unfold pushB
  rw [h1, h2]
  have h3 := leafL_length y
  simp [h3]
theorem sk_short {M : List (List UInt8)} (hM : M.length ≤ 1048576) : skB M = true := skB_yes fun j hj => push_short (stK_rep j (by omega)) (by rw [List.length_take]; omega)
theorem sk_rep {M : List (List UInt8)} (hM : M.length ≤ 1048576) : Rep (skH M) (skS M) M := by
  rw [skH_yes (sk_short hM), skS_yes (sk_short hM)]
  have := stK_rep (M := M) M.length (Nat.le_refl _)
  rwa [List.take_length] at this
theorem rep_root {H : List Int} {L l : List (List UInt8)} (h : Rep H L l) (hl : l.length ≤ 2097151) : rootS H L = treeL l := by
  unfold rootS
  rw [if_pos (rep_ok h hl)]
  exact root_rep h
theorem rep_size {H : List Int} {L l : List (List UInt8)} (h : Rep H L l) (hl : l.length ≤ 2097151) : sizeS H L = (l.length : Int) := by
  unfold sizeS
  rw [if_pos (rep_ok h hl)]
  obtain ⟨C, hC, hfl, _, _⟩ := h
  rw [szK_rep hC, hfl]
theorem ps_rep {H : List Int} {L l : List (List UInt8)} {y : List UInt8} (h : Rep H L l) (hl : l.length ≤ 1048576) : Rep (psH H L (leafL y)) (psS H L (leafL y)) (l ++ [y]) := by
  have hp := push_short (y := y) h hl
  rw [psH_yes hp, psS_yes hp]
  exact push_rep h
theorem root_empty : rootS [] [] = treeL [] := rep_root Rep.nil_ (by simp)
end Go.Proofs.YtdoaikanaodefaaDoor
