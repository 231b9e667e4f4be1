/- The list of parts beside a leaf, gone through level by level, without a program: which part the next level adds, and when all have been met. -/
import Derived.Test.YtlchadbbldkkfaaDoorPathMath
namespace Go.Proofs.YtlchadbbldkkfaaDoor
open Go.RowKit

/-- A part of a list of n leaves. -/
abbrev PA (n : Nat) : Type := { p : Nat × Nat // p.1 < p.2 ∧ p.2 ≤ n }
theorem sub_list {α : Type} {P : α → Prop} : ∀ l : List α, (∀ p ∈ l, P p) → ∃ zs : List { p // P p }, zs.map (fun x => x.1) = l
  | [], _ => ⟨[], rfl⟩
  | a :: l, h => by
    obtain ⟨zs, hz⟩ := sub_list l fun p hp => h p (List.mem_cons_of_mem _ hp)
    exact ⟨⟨a, h a List.mem_cons_self⟩ :: zs, by rw [List.map_cons, hz]⟩
theorem prt_sub (i n : Nat) : ∃ zs : List (PA n), zs.map (fun x => x.1) = prt i n := sub_list _ fun _ h => prt_mem h

theorem upN_pre (i n s : Nat) : ∀ d, upN i n s <+: upN i n (s + d)
  | 0 => List.prefix_refl _
  | d + 1 => (upN_pre i n s d).trans (List.prefix_append _ _)
theorem upN_prt {i n : Nat} (hi : i < n) (s : Nat) : upN i n s <+: prt i n := by
  rw [← prt_of (m := n + s) hi (Nat.le_trans (Nat.le_of_lt Nat.lt_two_pow_self) (Nat.pow_le_pow_right (by omega) (Nat.le_add_right _ _))), Nat.add_comm]
  exact upN_pre i n s n
/-- How many parts the levels below s have. -/
def cN (i n s : Nat) : Nat := (upN i n s).length
theorem cN_zero (i n : Nat) : cN i n 0 = 0 := rfl
theorem cN_no {i n s : Nat} (h : ¬ x1 (i / 2 ^ s) ≤ (n - 1) / 2 ^ s) : cN i n (s + 1) = cN i n s := by
  unfold cN
  simp only [upN, lev]
  rw [if_neg h, List.append_nil]
theorem cN_yes {i n s : Nat} (hi : i < n) {zs : List (PA n)} (hz : zs.map (fun x => x.1) = prt i n) (h : x1 (i / 2 ^ s) ≤ (n - 1) / 2 ^ s) :
    ∃ hc : cN i n s < zs.length, (zs[cN i n s]).1 = (x1 (i / 2 ^ s) * 2 ^ s, min ((x1 (i / 2 ^ s) + 1) * 2 ^ s) n) ∧ zs.take (cN i n (s + 1)) = zs.take (cN i n s) ++ [zs[cN i n s]] := by
  have hl : lev i n s = [(x1 (i / 2 ^ s) * 2 ^ s, min ((x1 (i / 2 ^ s) + 1) * 2 ^ s) n)] := by unfold lev; rw [if_pos h]
  have hp := upN_prt hi (s + 1)
  simp only [upN] at hp
  rw [hl] at hp
  obtain ⟨t, ht⟩ := hp
  have hlen : zs.length = (prt i n).length := by rw [← hz, List.length_map]
  have hc : cN i n s < zs.length := by
    rw [hlen, ← ht]
    simp [cN]
  have hc1 : cN i n (s + 1) = cN i n s + 1 := by
    unfold cN
    simp only [upN]
    rw [hl]
    simp
  refine ⟨hc, ?_, ?_⟩
  · have h1 : (zs.map (fun x => x.1))[cN i n s]? = some (zs[cN i n s]).1 := by
      rw [List.getElem?_map, List.getElem?_eq_getElem hc]
      rfl
    rw [hz, ← ht] at h1
    rw [List.append_assoc, List.getElem?_append_right (by unfold cN; exact Nat.le_refl _)] at h1
    have h2 : cN i n s - (upN i n s).length = 0 := Nat.sub_self _
    rw [h2] at h1
    simp only [List.cons_append, List.getElem?_cons_zero, Option.some.injEq] at h1
    exact h1.symm
  · rw [hc1, List.take_add_one, List.getElem?_eq_getElem hc]
    rfl
theorem cN_all {i n s : Nat} (hi : i < n) {zs : List (PA n)} (hz : zs.map (fun x => x.1) = prt i n) (h : (n - 1) / 2 ^ s = 0) : zs.take (cN i n s) = zs := by
  have hn : n ≤ 2 ^ s := by
    have hp := Nat.two_pow_pos s
    rcases Nat.div_eq_zero_iff.1 h with h | h
    · omega
    · omega
  refine List.take_of_length_le ?_
  have hlen : zs.length = (prt i n).length := by rw [← hz, List.length_map]
  unfold cN
  rw [prt_of hi hn, hlen]
  exact Nat.le_refl _
theorem zs_len {i n : Nat} {zs : List (PA n)} (hz : zs.map (fun x => x.1) = prt i n) : zs.length = plenN i n := by
  unfold plenN
  rw [← hz, List.length_map]
theorem lev_small {n s : Nat} (hn : n ≤ 1073741824) (h : 0 < (n - 1) / 2 ^ s) : 2 ^ s ≤ 536870912 := by
  have hp := Nat.two_pow_pos s
  have h1 : 1 * 2 ^ s ≤ n - 1 := (Nat.le_div_iff_mul_le hp).1 h
  rcases Nat.lt_or_ge s 30 with h2 | h2
  · exact Nat.le_trans (Nat.pow_le_pow_right (by omega) (show s ≤ 29 by omega)) (by decide)
  · have := Nat.le_trans (show 2 ^ 30 ≤ 2 ^ 30 from Nat.le_refl _) (Nat.pow_le_pow_right (show 2 > 0 by omega) h2)
    omega
end Go.Proofs.YtlchadbbldkkfaaDoor
