/- Rows that are all hashes: l08Hashes of the model, areHashes of the program. -/
import Derived.Test.YtopbalemfljphaaPut
import Derived.Test.YtopbalemfljphaaMem
namespace Go.Proofs.Ytopbalemfljphaa
open Go.ChangeShapes Go.WideShapes Go.ChangeAt Go.RowKit

/-- Are all rows hashes? -/
def all32 (P : List (List UInt8)) : Bool := P.all fun r => (r.length : Int) == 32
theorem all32_at {P : List (List UInt8)} (h : all32 P = true) : ∀ r ∈ P, r.length = 32 := by
  intro r hr
  have := List.all_eq_true.1 h r hr
  simp at this
  omega
theorem all32_of {P : List (List UInt8)} (h : ∀ r ∈ P, r.length = 32) : all32 P = true := List.all_eq_true.2 fun r hr => by rw [h r hr]; rfl
theorem all32_no {P : List (List UInt8)} {k : Nat} (hk : k < P.length) (h : (P.getD k []).length ≠ 32) : all32 P = false := by
  rcases hb : all32 P with _ | _
  · rfl
  · exact absurd (all32_at hb _ (by simp [List.getD_eq_getElem?_getD, List.getElem?_eq_getElem hk])) h
theorem all32_yes {P : List (List UInt8)} (h : ∀ k, k < P.length → (P.getD k []).length = 32) : all32 P = true := all32_of fun r hr => by
  obtain ⟨k, hk, rfl⟩ := List.mem_iff_getElem.1 hr
  have := h k hk
  simpa [List.getD_eq_getElem?_getD, List.getElem?_eq_getElem hk] using this

set_option maxHeartbeats 1000000 in
theorem l08Hashes_any (v : Value) (P : List (List UInt8)) (w : World) (h : SlS w w.heap.size v P) :
    Calls Try.prog 70 #[v] w (fun e w' => e = .returned (.bool (all32 P)) ∧ w = w') := by
  obtain ⟨A, c, rfl, h1, h2, h0, h3⟩ := h
  unfold maxLen at h2
  clear h0
  obtain ⟨R, hR⟩ : ∃ R, R = all32 P := ⟨_, rfl⟩
  rw [← hR]
  have HR := Lib.hid hR
  clear hR
  go_enter Try.func70, Try.ntmps70
  go_wp2
  go_loopw [7] (fun i wr => ∃ k : Nat, k ≤ P.length ∧ i = .int .i64 k ∧ Hid (∀ j, j < k → (P.getD j []).length = 32) ∧ w = wr)
    (fun i _ => P.length - (intOf i).toNat)
  case atStart => exact ⟨0, Nat.zero_le _, rfl, Lib.hid (fun j hj => by omega), rfl⟩
  case round =>
    obtain ⟨k, hk, rfl, hok, rfl⟩ := hrel
    by_cases hlt : k < P.length
    · obtain ⟨b, off, rfl, hbb, hcell⟩ := h3 (by omega)
      obtain ⟨u, hu, hsl⟩ := hcell k hlt
      have hklt : (k : Int) < (P.length : Int) := by omega
      have HBad : Hid ((P.getD k []).length ≠ 32 → R = false) := Lib.hid fun e => HR.out.trans (all32_no hlt e)
      have HGood : Hid ((P.getD k []).length = 32 → ∀ j, j < k + 1 → (P.getD j []).length = 32) := Lib.hid fun e j hj => by
        rcases Nat.lt_or_ge j k with h | h
        · exact hok.out j h
        · obtain rfl : j = k := by omega
          exact e
      generalize P.getD k [] = l at hsl HBad HGood
      clear hcell hok
      by_cases hlh : l.length = 32
      case neg =>
        obtain rfl := HBad.out hlh
        have hlh2 := hash_no hlh
        clear hlh
        go_wp2_with (go_at_call 89; refine (l07Hash_any u l _ hsl).mono ?_; rw [hlh2]; rintro e w' ⟨rfl, rfl⟩)
        go_ret
        exact ⟨rfl, rfl⟩
      case pos =>
        have hlh2 := hash_yes hlh
        have HG := Lib.hid (HGood.out hlh)
        clear hlh
        go_wp2_with (go_at_call 89; refine (l07Hash_any u l _ hsl).mono ?_; rw [hlh2]; rintro e w' ⟨rfl, rfl⟩)
        go_roundw
        case rel => exact ⟨k + 1, by omega, by go_num, HG, trivial⟩
        case measure => simp [intOf]; omega
    · obtain rfl : k = P.length := by omega
      obtain rfl : R = true := HR.out.trans (all32_yes hok.out)
      go_wp2
      go_ret
      exact ⟨rfl, rfl⟩

/-- Are they so many, and hashes all of them? -/
def hashesB (P : List (List UInt8)) (z : Int) : Bool := decide ((P.length : Int) = z ∧ all32 P = true)
theorem hashesB_yes {P : List (List UInt8)} {z : Int} (e : (P.length : Int) = z ∧ all32 P = true) : hashesB P z = true := decide_eq_true e
theorem hashesB_no {P : List (List UInt8)} {z : Int} (e : ¬ ((P.length : Int) = z ∧ all32 P = true)) : hashesB P z = false := decide_eq_false e

set_option maxHeartbeats 2000000 in
theorem areHashes_any (v : Value) (P : List (List UInt8)) (z : Int) (w : World) (h : SlS w w.heap.size v P) :
    Calls Try.prog 74 #[v, .int .i64 z] w (fun e w' => e = .returned (.bool (hashesB P z)) ∧ w = w') := by
  obtain ⟨A, c, rfl, h1, h2, h0, h3⟩ := h
  unfold maxLen at h2
  clear h0
  by_cases hl : (P.length : Int) = z
  case neg =>
    rw [hashesB_no (fun e => hl e.1)]
    have hne : ((P.length : Int) != z) = true := by rw [bne_iff_ne]; exact hl
    clear hl h3
    go_enter Try.func74, Try.ntmps74
    go_wp2
    go_ret
    exact ⟨rfl, rfl⟩
  case pos =>
    have hne : ((P.length : Int) != z) = false := by rw [hl]; simp
    obtain ⟨R, hR⟩ : ∃ R, R = all32 P := ⟨_, rfl⟩
    have hres : hashesB P z = R := by
      cases ha : all32 P with
      | false => rw [hR, ha]; exact hashesB_no (fun e => by rw [ha] at e; exact absurd e.2 (by decide))
      | true => rw [hR, ha]; exact hashesB_yes ⟨hl, ha⟩
    rw [hres]
    have HR := Lib.hid hR
    clear hl hres hR
    go_enter Try.func74, Try.ntmps74
    go_wp2
    go_loopw [13] (fun j wr => ∃ k : Nat, k ≤ P.length ∧ j = .int .i64 k ∧ Hid (∀ j, j < k → (P.getD j []).length = 32) ∧ w = wr)
      (fun i _ => P.length - (intOf i).toNat)
    case atStart => exact ⟨0, Nat.zero_le _, rfl, Lib.hid (fun j hj => by omega), rfl⟩
    case round =>
      obtain ⟨k, hk, rfl, hok, rfl⟩ := hrel
      by_cases hlt : k < P.length
      · obtain ⟨b, off, rfl, hbb, hcell⟩ := h3 (by omega)
        obtain ⟨u, hu, hsl⟩ := hcell k hlt
        have hklt : (k : Int) < (P.length : Int) := by omega
        have HBad : Hid ((P.getD k []).length ≠ 32 → R = false) := Lib.hid fun e => HR.out.trans (all32_no hlt e)
        have HGood : Hid ((P.getD k []).length = 32 → ∀ j, j < k + 1 → (P.getD j []).length = 32) := Lib.hid fun e j hj => by
          rcases Nat.lt_or_ge j k with h | h
          · exact hok.out j h
          · obtain rfl : j = k := by omega
            exact e
        generalize P.getD k [] = l at hsl HBad HGood
        clear hcell hok
        by_cases hlh : l.length = 32
        case neg =>
          obtain rfl := HBad.out hlh
          have hlh2 := hash_no hlh
          clear hlh
          go_wp2_with (go_at_call 95; refine (isHash_any u l _ hsl).mono ?_; rw [hlh2]; rintro e w' ⟨rfl, rfl⟩)
          go_ret
          exact ⟨rfl, rfl⟩
        case pos =>
          have hlh2 := hash_yes hlh
          have HG := Lib.hid (HGood.out hlh)
          clear hlh
          go_wp2_with (go_at_call 95; refine (isHash_any u l _ hsl).mono ?_; rw [hlh2]; rintro e w' ⟨rfl, rfl⟩)
          go_roundw
          case rel => exact ⟨k + 1, by omega, by go_num, HG, trivial⟩
          case measure => simp [intOf]; omega
      · obtain rfl : k = P.length := by omega
        obtain rfl : R = true := HR.out.trans (all32_yes hok.out)
        go_wp2
        go_ret
        exact ⟨rfl, rfl⟩

end Go.Proofs.Ytopbalemfljphaa
