/- Consistency proofs over lists, without a program: the parts whose roots are the proof (cprt), the same from the root down (cprt_left, cprt_right), the proof (consL), the two roots that a proof leads to (croot). -/
import Derived.Test.YtlchadbbldkkfaaPathRun
namespace Go.Proofs.Ytlchadbbldkkfaa
open Go.RowKit

/-- m without its lowest bit. -/
def lowN (m : Nat) : Nat := m &&& (m - 1)
theorem lowN_le (m : Nat) : lowN m ≤ m - 1 := Nat.and_le_right
theorem lowN_lt {m : Nat} (h : 0 < m) : lowN m < m := by
  have := lowN_le m
  omega
theorem lowN_pow (j : Nat) : lowN (2 ^ j) = 0 := by
  unfold lowN
  rw [Nat.and_two_pow_sub_one_eq_mod, Nat.mod_self]
theorem lowN_add {j a : Nat} (h : a < 2 ^ j) (h0 : 0 < a) : lowN (2 ^ j + a) = 2 ^ j + lowN a := by
  have hp := Nat.two_pow_pos j
  unfold lowN
  rw [show 2 ^ j + a - 1 = 2 ^ j + (a - 1) by omega]
  have h1 : ((2 ^ j + a) &&& (2 ^ j + (a - 1))) / 2 ^ j = 1 := by
    rw [Nat.and_div_two_pow, Nat.add_div_left _ hp, Nat.add_div_left _ hp, Nat.div_eq_of_lt h, Nat.div_eq_of_lt (by omega)]
    rfl
  have h2 : ((2 ^ j + a) &&& (2 ^ j + (a - 1))) % 2 ^ j = a &&& (a - 1) := by
    rw [Nat.and_mod_two_pow, Nat.add_mod_left, Nat.add_mod_left, Nat.mod_eq_of_lt h, Nat.mod_eq_of_lt (show a - 1 < 2 ^ j by omega)]
  have h3 := Nat.div_add_mod ((2 ^ j + a) &&& (2 ^ j + (a - 1))) (2 ^ j)
  rw [h1, h2, Nat.mul_one] at h3
  exact h3.symm

/-- The part that ends with the last old leaf, unless its root is known. -/
def baseC (m : Nat) (b : Bool) : List (Nat × Nat) := if b = true ∧ lowN m = 0 then [] else [(lowN m, m)]
/-- Does a part beside the last old leaf's way stand outside of that part? -/
def outC (m : Nat) (p : Nat × Nat) : Bool := !(decide (lowN m ≤ p.1) && decide (p.2 ≤ m))
/-- The parts whose roots are the proof of the first m of n leaves. -/
def cprt (m n : Nat) (b : Bool) : List (Nat × Nat) := if m = n then (if b = true then [] else [(0, n)]) else baseC m b ++ (prt (m - 1) n).filter (outC m)
theorem cprt_yes (n : Nat) : cprt n n true = [] := by
  unfold cprt
  rw [if_pos rfl, if_pos rfl]
theorem cprt_no (n : Nat) : cprt n n false = [(0, n)] := by
  unfold cprt
  rw [if_pos rfl, if_neg (by decide)]
theorem cprt_top {m n : Nat} (h : m ≠ n) : cprt m n true = (if 0 < lowN m then [(lowN m, m)] else []) ++ (prt (m - 1) n).filter (outC m) := by
  unfold cprt baseC
  rw [if_neg h]
  congr 1
  by_cases h0 : lowN m = 0
  · rw [if_pos ⟨rfl, h0⟩, if_neg (by omega)]
  · rw [if_neg (fun e => h0 e.2), if_pos (by omega)]
theorem outC_yes {m : Nat} {p : Nat × Nat} (h : ¬ (lowN m ≤ p.1 ∧ p.2 ≤ m)) : outC m p = true := by
  unfold outC
  simp
  omega
theorem outC_no {m : Nat} {p : Nat × Nat} (h : lowN m ≤ p.1 ∧ p.2 ≤ m) : outC m p = false := by
  unfold outC
  simpa using h

theorem cprt_left {m n : Nat} {b : Bool} (h : 2 ≤ n) (h0 : 1 ≤ m) (hk : m ≤ splitN n) : cprt m n b = cprt m (splitN n) b ++ [(splitN n, n)] := by
  have hlt := splitN_lt h
  have hp := prt_left (i := m - 1) h (by omega)
  by_cases he : m = splitN n
  · obtain ⟨j, hj⟩ := splitN_pow h
    have hz : lowN m = 0 := by rw [he, hj]; exact lowN_pow j
    have hin : (prt (m - 1) (splitN n)).filter (outC m) = [] := by
      rw [List.filter_eq_nil_iff]
      intro p hpm
      have := (prt_mem hpm).2
      rw [outC_no ⟨by omega, by omega⟩]
      decide
    have hout : outC m (splitN n, n) = true := outC_yes (by simp only; omega)
    unfold cprt
    rw [if_neg (by omega), if_pos he, hp, List.filter_append, hin, List.nil_append, List.filter_cons_of_pos hout, List.filter_nil]
    congr 1
    unfold baseC
    cases b with
    | true => rw [if_pos ⟨rfl, hz⟩, if_pos rfl]
    | false => rw [if_neg (fun e => by cases e.1), if_neg (by decide), hz, he]
  · have hout : outC m (splitN n, n) = true := outC_yes (by simp only; omega)
    unfold cprt
    rw [if_neg (by omega), if_neg he, hp, List.filter_append, List.filter_cons_of_pos hout, List.filter_nil, List.append_assoc]

theorem cprt_right {m n : Nat} {b : Bool} (h : 2 ≤ n) (hk : splitN n < m) (hm : m < n) : cprt m n b = (cprt (m - splitN n) (n - splitN n) false).map (shiftP (splitN n)) ++ [(0, splitN n)] := by
  have hlt := splitN_lt h
  have hhf := splitN_half h
  have hps := splitN_pos h
  have hp := prt_right (i := m - 1) h (by omega) (by omega)
  obtain ⟨j, hj⟩ := splitN_pow h
  have hlow : lowN m = lowN (m - splitN n) + splitN n := by
    have := lowN_add (j := j) (a := m - splitN n) (by omega) (by omega)
    rw [← hj, show splitN n + (m - splitN n) = m by omega] at this
    omega
  have hout : outC m (0, splitN n) = true := outC_yes (by simp only; omega)
  unfold cprt
  rw [if_neg (by omega), if_neg (by omega), hp, List.filter_append, List.filter_cons_of_pos hout, List.filter_nil, ← List.append_assoc, List.map_append]
  congr 1
  congr 1
  · unfold baseC
    rw [if_neg (fun e => by omega), if_neg (fun e => by cases e.1)]
    simp only [List.map_cons, List.map_nil, shiftP]
    rw [hlow, show m - splitN n + splitN n = m by omega]
  · rw [List.filter_map, show m - 1 - splitN n = m - splitN n - 1 by omega]
    congr 1
    refine List.filter_congr fun p _ => ?_
    change outC m (p.1 + splitN n, p.2 + splitN n) = outC (m - splitN n) p
    by_cases hc : lowN (m - splitN n) ≤ p.1 ∧ p.2 ≤ m - splitN n
    · rw [outC_no hc, outC_no (by simp only; omega)]
    · rw [outC_yes hc, outC_yes (by simp only; omega)]

theorem baseC_mem {m n : Nat} {b : Bool} (h0 : 1 ≤ m) (h : m ≤ n) {p : Nat × Nat} (hp : p ∈ baseC m b) : p.1 < p.2 ∧ p.2 ≤ n := by
  unfold baseC at hp
  split at hp
  · cases hp
  · rcases List.mem_singleton.1 hp with rfl
    exact ⟨lowN_lt h0, h⟩
theorem cprt_mem {m n : Nat} {b : Bool} (h0 : 1 ≤ m) (h : m ≤ n) {p : Nat × Nat} (hp : p ∈ cprt m n b) : p.1 < p.2 ∧ p.2 ≤ n := by
  unfold cprt at hp
  split at hp
  · split at hp
    · cases hp
    · rcases List.mem_singleton.1 hp with rfl
      exact ⟨by simp only; omega, Nat.le_refl _⟩
  · rcases List.mem_append.1 hp with hp | hp
    · exact baseC_mem h0 h hp
    · exact prt_mem (List.mem_filter.1 hp).1
theorem baseC_len (m : Nat) (b : Bool) : (baseC m b).length ≤ 1 := by
  unfold baseC
  split <;> simp
theorem cprt_len {m n : Nat} {b : Bool} (h0 : 1 ≤ m) (h : m ≤ n) (hn : n ≤ 2 ^ 30) : (cprt m n b).length ≤ 31 := by
  unfold cprt
  split
  · split <;> simp
  · have h1 := baseC_len m b
    have h2 := List.length_filter_le (outC m) (prt (m - 1) n)
    have h3 := prt_len (i := m - 1) (n := n) (by omega) hn
    rw [List.length_append]
    omega

/-- How long the proof is. -/
def clenN (m n : Nat) (b : Bool) : Nat := (cprt m n b).length
theorem clenN_yes (n : Nat) : clenN n n true = 0 := by
  unfold clenN
  rw [cprt_yes]
  rfl
theorem clenN_no (n : Nat) : clenN n n false = 1 := by
  unfold clenN
  rw [cprt_no]
  rfl
theorem clenN_left {m n : Nat} {b : Bool} (h : 2 ≤ n) (h0 : 1 ≤ m) (hk : m ≤ splitN n) : clenN m n b = clenN m (splitN n) b + 1 := by
  unfold clenN
  rw [cprt_left h h0 hk, List.length_append]
  rfl
theorem clenN_right {m n : Nat} {b : Bool} (h : 2 ≤ n) (hk : splitN n < m) (hm : m < n) : clenN m n b = clenN (m - splitN n) (n - splitN n) false + 1 := by
  unfold clenN
  rw [cprt_right h hk hm, List.length_append, List.length_map]
  rfl

/-- The proof of the first m leaves. -/
def consL (L : List (List UInt8)) (m : Nat) (b : Bool) : List (List UInt8) := (cprt m L.length b).map (rootOf L)
theorem consL_length (L : List (List UInt8)) (m : Nat) (b : Bool) : (consL L m b).length = clenN m L.length b := by simp [consL, clenN]
theorem consL_32 (L : List (List UInt8)) (m : Nat) (b : Bool) : ∀ r ∈ consL L m b, r.length = 32 := by
  intro r hr
  obtain ⟨p, _, rfl⟩ := List.mem_map.1 hr
  exact rootOf_length L p
theorem consL_yes {L : List (List UInt8)} {m : Nat} (h : m = L.length) : consL L m true = [] := by
  unfold consL
  rw [h, cprt_yes]
  rfl
theorem consL_no {L : List (List UInt8)} {m : Nat} (h : m = L.length) : consL L m false = [treeL L] := by
  unfold consL
  rw [h, cprt_no]
  simp only [List.map_cons, List.map_nil, rootOf]
  rw [Nat.sub_zero, partL_all]
theorem consL_left {L : List (List UInt8)} {m : Nat} {b : Bool} (h : 2 ≤ L.length) (h0 : 1 ≤ m) (hk : m ≤ splitN L.length) :
    consL L m b = consL (L.take (splitN L.length)) m b ++ [treeL (L.drop (splitN L.length))] := by
  have hlt := splitN_lt h
  have hl : (L.take (splitN L.length)).length = splitN L.length := by rw [List.length_take]; omega
  unfold consL
  rw [hl, cprt_left h h0 hk, List.map_append]
  congr 1
  · refine List.map_congr_left fun p hp => ?_
    obtain ⟨h1, h2⟩ := cprt_mem h0 hk hp
    unfold rootOf partL
    rw [List.drop_take, List.take_take, Nat.min_eq_left (by omega)]
  · simp only [List.map_cons, List.map_nil, rootOf, partL]
    rw [List.take_of_length_le (by rw [List.length_drop]; exact Nat.le_refl _)]
theorem consL_right {L : List (List UInt8)} {m : Nat} {b : Bool} (h : 2 ≤ L.length) (hk : splitN L.length < m) (hm : m < L.length) :
    consL L m b = consL (L.drop (splitN L.length)) (m - splitN L.length) false ++ [treeL (L.take (splitN L.length))] := by
  unfold consL
  rw [List.length_drop, cprt_right h hk hm, List.map_append, List.map_map]
  congr 1
  refine List.map_congr_left fun p hp => ?_
  simp only [Function.comp, rootOf, shiftP, partL, List.drop_drop]
  rw [Nat.add_sub_add_right, Nat.add_comm p.1]

/-- One step up: the old and the new root. -/
def stepC (m : Nat) (acc : List UInt8 × List UInt8) (q : (Nat × Nat) × List UInt8) : List UInt8 × List UInt8 :=
  if m ≤ q.1.1 then (acc.1, nodeL acc.2 q.2) else if q.1.2 < m then (nodeL q.2 acc.1, nodeL q.2 acc.2) else (q.2, q.2)
theorem stepC_new {m : Nat} {acc : List UInt8 × List UInt8} {q : (Nat × Nat) × List UInt8} (h : m ≤ q.1.1) : stepC m acc q = (acc.1, nodeL acc.2 q.2) := if_pos h
theorem stepC_old {m : Nat} {acc : List UInt8 × List UInt8} {q : (Nat × Nat) × List UInt8} (h : ¬ m ≤ q.1.1) (h' : q.1.2 < m) : stepC m acc q = (nodeL q.2 acc.1, nodeL q.2 acc.2) := by
  unfold stepC
  rw [if_neg h, if_pos h']
theorem stepC_all {m : Nat} {acc : List UInt8 × List UInt8} {q : (Nat × Nat) × List UInt8} (h : ¬ m ≤ q.1.1) (h' : ¬ q.1.2 < m) : stepC m acc q = (q.2, q.2) := by
  unfold stepC
  rw [if_neg h, if_neg h']
/-- The two roots to which a proof leads. -/
def croot (old : List UInt8) (m n : Nat) (b : Bool) (P : List (List UInt8)) : List UInt8 × List UInt8 := ((cprt m n b).zip P).foldl (stepC m) (old, old)
theorem croot_yes (old : List UInt8) (n : Nat) (P : List (List UInt8)) : croot old n n true P = (old, old) := by
  unfold croot
  rw [cprt_yes]
  rfl
theorem croot_no {old : List UInt8} {n : Nat} {P : List (List UInt8)} (h0 : 1 ≤ n) (hP : P.length = 1) : croot old n n false P = (P.getD 0 [], P.getD 0 []) := by
  match P, hP with
  | [r], _ =>
    unfold croot
    rw [cprt_no]
    simp only [List.zip_cons_cons, List.zip_nil_left, List.foldl_cons, List.foldl_nil, stepC]
    rw [if_neg (by omega), if_neg (by omega)]
    rfl
theorem croot_left {old : List UInt8} {m n : Nat} {b : Bool} {q : List (List UInt8)} {r : List UInt8} (hn : 2 ≤ n) (h0 : 1 ≤ m) (hk : m ≤ splitN n) (hq : q.length = clenN m (splitN n) b) :
    croot old m n b (q ++ [r]) = ((croot old m (splitN n) b q).1, nodeL (croot old m (splitN n) b q).2 r) := by
  unfold croot
  rw [cprt_left hn h0 hk, List.zip_append (by rw [hq]; rfl), List.foldl_append]
  simp only [List.zip_cons_cons, List.zip_nil_left, List.foldl_cons, List.foldl_nil]
  rw [stepC_new (show m ≤ ((splitN n, n), r).1.1 from hk)]
theorem croot_right {old : List UInt8} {m n : Nat} {b : Bool} {q : List (List UInt8)} {r : List UInt8} (hn : 2 ≤ n) (hk : splitN n < m) (hm : m < n) (hq : q.length = clenN (m - splitN n) (n - splitN n) false) :
    croot old m n b (q ++ [r]) = (nodeL r (croot old (m - splitN n) (n - splitN n) false q).1, nodeL r (croot old (m - splitN n) (n - splitN n) false q).2) := by
  unfold croot
  rw [cprt_right hn hk hm, List.zip_append (by rw [hq, List.length_map]; rfl), List.foldl_append]
  simp only [List.zip_cons_cons, List.zip_nil_left, List.foldl_cons, List.foldl_nil]
  rw [stepC_old (show ¬ m ≤ (((0, splitN n) : Nat × Nat), r).1.1 by simp only; omega) (show (((0, splitN n) : Nat × Nat), r).1.2 < m by simp only; omega), List.zip_map_left, List.foldl_map]
  have hs : (fun (acc : List UInt8 × List UInt8) (p : (Nat × Nat) × List UInt8) => stepC m acc (Prod.map (shiftP (splitN n)) id p)) = stepC (m - splitN n) := by
    funext acc p
    by_cases h1 : m ≤ p.1.1 + splitN n
    · rw [stepC_new (show m - splitN n ≤ p.1.1 by omega)]
      exact stepC_new h1
    · by_cases h2 : p.1.2 + splitN n < m
      · rw [stepC_old (show ¬ m - splitN n ≤ p.1.1 by omega) (show p.1.2 < m - splitN n by omega)]
        exact stepC_old h1 h2
      · rw [stepC_all (show ¬ m - splitN n ≤ p.1.1 by omega) (show ¬ p.1.2 < m - splitN n by omega)]
        exact stepC_all h1 h2
  rw [hs]
theorem stepC_length {m : Nat} {acc : List UInt8 × List UInt8} {q : (Nat × Nat) × List UInt8} (h : acc.1.length = 32 ∧ acc.2.length = 32) (hq : q.2.length = 32) : (stepC m acc q).1.length = 32 ∧ (stepC m acc q).2.length = 32 := by
  unfold stepC
  split
  · exact ⟨h.1, nodeL_length _ _⟩
  · split
    · exact ⟨nodeL_length _ _, nodeL_length _ _⟩
    · exact ⟨hq, hq⟩
theorem foldC_length {m : Nat} : ∀ (zs : List ((Nat × Nat) × List UInt8)) (acc : List UInt8 × List UInt8), acc.1.length = 32 ∧ acc.2.length = 32 → (∀ q ∈ zs, q.2.length = 32) → (zs.foldl (stepC m) acc).1.length = 32 ∧ (zs.foldl (stepC m) acc).2.length = 32
  | [], _, h, _ => h
  | z :: zs, acc, h, hz => by
    rw [List.foldl_cons]
    exact foldC_length zs _ (stepC_length h (hz z List.mem_cons_self)) fun q hq => hz q (List.mem_cons_of_mem _ hq)
theorem croot_length {old : List UInt8} {m n : Nat} {b : Bool} {P : List (List UInt8)} (ho : old.length = 32) (hP : ∀ r ∈ P, r.length = 32) : (croot old m n b P).1.length = 32 ∧ (croot old m n b P).2.length = 32 :=
  foldC_length _ _ ⟨ho, ho⟩ fun _ hq => hP _ (List.of_mem_zip hq).2

/-- The proof leads to the root of the first m leaves and to the root. -/
theorem croot_cons : ∀ (f : Nat) (L : List (List UInt8)) (m : Nat) (b : Bool) (old : List UInt8), L.length ≤ f → 1 ≤ m → m ≤ L.length → (b = true → old = treeL (L.take m)) →
    croot old m L.length b (consL L m b) = (treeL (L.take m), treeL L) := by
  intro f
  induction f with
  | zero => intro L m b old hf h0 hm; omega
  | succ f ih =>
    intro L m b old hf h0 hm ho
    by_cases he : m = L.length
    · have ht : L.take m = L := List.take_of_length_le (by omega)
      cases b with
      | true =>
        have := ho rfl
        rw [he, croot_yes, this, ← he, ht]
      | false =>
        rw [consL_no he, he, croot_no (by omega) rfl, ← he, ht]
        rfl
    · have h : 2 ≤ L.length := by omega
      have hlt := splitN_lt h
      have hhf := splitN_half h
      by_cases hk : m ≤ splitN L.length
      · have hl : (L.take (splitN L.length)).length = splitN L.length := by rw [List.length_take]; omega
        have ht : (L.take (splitN L.length)).take m = L.take m := by rw [List.take_take, Nat.min_eq_left hk]
        rw [consL_left h h0 hk, croot_left h h0 hk (by rw [consL_length, hl])]
        have := ih (L.take (splitN L.length)) m b old (by omega) h0 (by omega) (by rw [ht]; exact ho)
        rw [hl, ht] at this
        rw [this, ← treeL_two h]
      · have hl : (L.drop (splitN L.length)).length = L.length - splitN L.length := List.length_drop
        rw [consL_right h (by omega) (by omega), croot_right h (by omega) (by omega) (by rw [consL_length, hl])]
        have := ih (L.drop (splitN L.length)) (m - splitN L.length) false old (by omega) (by omega) (by omega) (fun e => by cases e)
        rw [hl] at this
        rw [this, ← treeL_two h]
        congr 1
        obtain ⟨j, hj⟩ := splitN_pow h
        have hml : (L.take m).length = m := by rw [List.length_take]; omega
        have hsm : splitN m = splitN L.length := by rw [hj]; exact splitN_of (by omega) (by omega)
        rw [treeL_two (L := L.take m) (by omega), hml, hsm, List.take_take, Nat.min_eq_left (by omega), List.drop_take]
end Go.Proofs.Ytlchadbbldkkfaa
