/- The contracts of TreeSame, as the program has it (slices.EqualFunc) and as its model has it. -/
import Derived.Test.YtopbalemfljphaaPut
import Derived.Test.YtopbalemfljphaaMem
import Derived.Deep.RegionWith
namespace Go.Proofs.Ytopbalemfljphaa
open Go.ChangeShapes Go.WideShapes Go.ChangeAt Go.RowKit

theorem same_len {L M : List (List UInt8)} (h : L.length ≠ M.length) : (L == M) = false := by
  rw [beq_eq_false_iff_ne]
  exact fun e => h (by rw [e])
theorem same_mis {L M : List (List UInt8)} {k : Nat} (h : (L.getD k [] == M.getD k []) = false) : (L == M) = false := by
  rw [beq_eq_false_iff_ne] at h ⊢
  exact fun e => h (by rw [e])
theorem same_end {L M : List (List UInt8)} (hl : L.length = M.length) (h : ∀ j, j < L.length → L.getD j [] = M.getD j []) : (L == M) = true := by
  rw [beq_iff_eq]
  refine List.ext_getElem hl fun j h1 h2 => ?_
  have := h j h1
  rw [List.getD_eq_getElem?_getD, List.getD_eq_getElem?_getD, List.getElem?_eq_getElem h1, List.getElem?_eq_getElem h2] at this
  simpa using this

set_option maxHeartbeats 1000000 in
theorem specTreeSame_any (v u : Value) (L M : List (List UInt8)) (w : World) (h : SlS w w.heap.size v L) (h' : SlS w w.heap.size u M) :
    Calls Try.prog 78 #[v, u] w (Quiet (.bool (L == M)) w) := by
  obtain ⟨A, c, rfl, h1, h2, h0, h3⟩ := h
  obtain ⟨A', c', rfl, h1', h2', h0', h3'⟩ := h'
  unfold maxLen at h2 h2'
  clear h0 h0'
  obtain ⟨R, hR⟩ : ∃ R, R = (L == M) := ⟨_, rfl⟩
  rw [← hR]
  have HR := Lib.hid hR
  clear hR
  by_cases hlen : L.length = M.length
  · have HLEN := Lib.hid hlen
    rw [← hlen] at h1' h3' ⊢
    have hne : ((L.length : Int) != (L.length : Int)) = false := by simp
    clear hlen
    go_enter Try.func78, Try.ntmps78
    go_wp2
    go_loopw [13] (fun i wr => ∃ k : Nat, k ≤ L.length ∧ i = .int .i64 k ∧ (∀ j, j < k → L.getD j [] = M.getD j []) ∧ ∃ n, wr = w.drewN n)
      (fun i _ => L.length - (intOf i).toNat)
    case atStart => exact ⟨0, Nat.zero_le _, rfl, fun j hj => by omega, 0, rfl⟩
    case round =>
      obtain ⟨k, hk, rfl, heq, n, rfl⟩ := hrel
      by_cases hlt : k < L.length
      · obtain ⟨b, off, rfl, hbb, hcell⟩ := h3 (by omega)
        obtain ⟨b', off', rfl, hbb', hcell'⟩ := h3' (by omega)
        obtain ⟨x, hc0, hx⟩ := hcell k hlt
        obtain ⟨y, hc1, hy⟩ := hcell' k hlt
        obtain ⟨w2, hw2⟩ : ∃ w2, w2 = w.drewN n := ⟨_, rfl⟩
        replace hc0 : w2.cell? ⟨b, off + k, none⟩ = some x := by rw [hw2]; exact hc0
        replace hc1 : w2.cell? ⟨b', off' + k, none⟩ = some y := by rw [hw2]; exact hc1
        replace hx : Sl w2 w2.heap.size x (L.getD k []) := by rw [hw2]; exact hx
        replace hy : Sl w2 w2.heap.size y (M.getD k []) := by rw [hw2]; exact hy
        have Q := Lib.hid (fun (m : Nat) => specSameBytes_any x y (L.getD k []) (M.getD k []) (w2.drewN m) hx hy)
        have Hw2 := Lib.hid hw2
        have HEQ := Lib.hid heq
        rw [← hw2]
        clear hcell hcell' hw2 hx hy heq
        by_cases hb : (L.getD k [] == M.getD k []) = true
        · have HB := Lib.hid hb
          rw [hb] at Q
          clear hb
          go_wp2
          go_quiet (first | (go_at_call_of 77 x; exact Calls.quiet_of_same ((Q.out _).mono fun _ _ hh => ⟨hh.1, hh.2.symm⟩)))
          go_wp2
          go_roundw
          case rel =>
            refine ⟨k + 1, by omega, by go_num, fun j hj => ?_, n + nq, by rw [Hw2.out, World.drewN_drewN]⟩
            rcases Nat.lt_or_ge j k with hjk | hjk
            · exact HEQ.out j hjk
            · obtain rfl : j = k := by omega
              exact eq_of_beq HB.out
          case measure => simp [intOf]; omega
        · rw [Bool.not_eq_true] at hb
          obtain rfl : R = false := by rw [HR.out]; exact same_mis hb
          rw [hb] at Q
          clear hb
          go_wp2
          go_quiet (first | (go_at_call_of 77 x; exact Calls.quiet_of_same ((Q.out _).mono fun _ _ hh => ⟨hh.1, hh.2.symm⟩)))
          go_wp2
          go_ret
          exact ⟨rfl, n + nq, by rw [Hw2.out, World.drewN_drewN]⟩
      · obtain rfl : k = L.length := by omega
        obtain rfl : R = true := by rw [HR.out]; exact same_end HLEN.out heq
        go_wp2
        go_ret
        exact ⟨rfl, n, rfl⟩
  · obtain rfl : R = false := by rw [HR.out]; exact same_len hlen
    have hne : ((L.length : Int) != (M.length : Int)) = true := by simp; omega
    clear h3 h3'
    go_enter Try.func78, Try.ntmps78
    go_wp2
    go_ret
    exact ⟨rfl, 0, rfl⟩

set_option maxHeartbeats 1000000 in
theorem equalFunc_any (v u : Value) (L M : List (List UInt8)) (w : World) (h : SlS w w.heap.size v L) (h' : SlS w w.heap.size u M) :
    Calls Try.prog 109 #[v, u, .func (Fn.func 79) #[] #[]] w (fun e w' => e = .returned (.bool (L == M)) ∧ w = w') := by
  obtain ⟨A, c, rfl, h1, h2, h0, h3⟩ := h
  obtain ⟨A', c', rfl, h1', h2', h0', h3'⟩ := h'
  unfold maxLen at h2 h2'
  clear h0 h0'
  obtain ⟨R, hR⟩ : ∃ R, R = (L == M) := ⟨_, rfl⟩
  rw [← hR]
  have HR := Lib.hid hR
  clear hR
  by_cases hlen : L.length = M.length
  · have HLEN := Lib.hid hlen
    rw [← hlen] at h1' h3' ⊢
    have hne : ((L.length : Int) != (L.length : Int)) = false := by simp
    clear hlen
    go_enter Try.func109, Try.ntmps109
    go_wp2
    go_loopw [17] (fun i wr => ∃ k : Nat, k ≤ L.length ∧ i = .int .i64 k ∧ (∀ j, j < k → L.getD j [] = M.getD j []) ∧ w = wr)
      (fun i _ => L.length - (intOf i).toNat)
    case atStart => exact ⟨0, Nat.zero_le _, rfl, fun j hj => by omega, rfl⟩
    case round =>
      obtain ⟨k, hk, rfl, heq, rfl⟩ := hrel
      by_cases hlt : k < L.length
      · obtain ⟨b, off, rfl, hbb, hcell⟩ := h3 (by omega)
        obtain ⟨b', off', rfl, hbb', hcell'⟩ := h3' (by omega)
        obtain ⟨x, hc0, hx⟩ := hcell k hlt
        obtain ⟨y, hc1, hy⟩ := hcell' k hlt
        have Q := Lib.hid (implSameBytes_any x y (L.getD k []) (M.getD k []) w hx hy)
        have HEQ := Lib.hid heq
        clear hcell hcell' hx hy heq
        by_cases hb : (L.getD k [] == M.getD k []) = true
        · have HB := Lib.hid hb
          rw [hb] at Q
          clear hb
          go_wp2_with (go_at_call 79; refine Q.out.mono ?_; rintro e _ ⟨rfl, rfl⟩)
          go_roundw
          case rel =>
            refine ⟨k + 1, by omega, by go_num, fun j hj => ?_, trivial⟩
            rcases Nat.lt_or_ge j k with hjk | hjk
            · exact HEQ.out j hjk
            · obtain rfl : j = k := by omega
              exact eq_of_beq HB.out
          case measure => simp [intOf]; omega
        · rw [Bool.not_eq_true] at hb
          obtain rfl : R = false := by rw [HR.out]; exact same_mis hb
          rw [hb] at Q
          clear hb
          go_wp2_with (go_at_call 79; refine Q.out.mono ?_; rintro e _ ⟨rfl, rfl⟩)
          go_ret
          exact ⟨rfl, rfl⟩
      · obtain rfl : k = L.length := by omega
        obtain rfl : R = true := by rw [HR.out]; exact same_end HLEN.out heq
        go_wp2
        go_ret
        exact ⟨rfl, rfl⟩
  · obtain rfl : R = false := by rw [HR.out]; exact same_len hlen
    have hne : ((L.length : Int) != (M.length : Int)) = true := by simp; omega
    clear h3 h3'
    go_enter Try.func109, Try.ntmps109
    go_wp2
    go_ret
    exact ⟨rfl, rfl⟩

theorem implTreeSame_any (v u : Value) (L M : List (List UInt8)) (w : World) (h : SlS w w.heap.size v L) (h' : SlS w w.heap.size u M) :
    Calls Try.prog 80 #[v, u] w (Quiet (.bool (L == M)) w) := by
  go_enter Try.func80, Try.ntmps80
  go_wp2_with (go_at_call 109; refine (equalFunc_any _ _ L M _ h h').mono ?_; rintro e w' ⟨rfl, rfl⟩)
  go_ret
  exact ⟨rfl, 0, rfl⟩

theorem implTreeSameB_any (v u : Value) (L M : List (List UInt8)) (w : World) (h : SlS w w.heap.size v L) (h' : SlS w w.heap.size u M) :
    Calls Try.prog 80 #[v, u] w (fun e w' => e = .returned (.bool (L == M)) ∧ Below w.heap.size w w') :=
  (implTreeSame_any v u L M w h h').mono fun _ _ hh => ⟨hh.1, by obtain ⟨n, hn⟩ := hh.2; rw [hn]; exact below_drewN (Below.refl _ _) n⟩
theorem specTreeSameB_any (v u : Value) (L M : List (List UInt8)) (w : World) (h : SlS w w.heap.size v L) (h' : SlS w w.heap.size u M) :
    Calls Try.prog 78 #[v, u] w (fun e w' => e = .returned (.bool (L == M)) ∧ Below w.heap.size w w') :=
  (specTreeSame_any v u L M w h h').mono fun _ _ hh => ⟨hh.1, by obtain ⟨n, hn⟩ := hh.2; rw [hn]; exact below_drewN (Below.refl _ _) n⟩
end Go.Proofs.Ytopbalemfljphaa
