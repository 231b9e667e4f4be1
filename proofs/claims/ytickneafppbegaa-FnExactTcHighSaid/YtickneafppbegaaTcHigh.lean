/- TcHigh of the model and of the program. -/
import Derived.Test.YtickneafppbegaaEnt
namespace Go.Proofs.Ytickneafppbegaa
open Go.ChangeShapes Go.WideShapes Go.ChangeAt Go.RowKit

def hF (n : Int) (t : Et) : Int := if n < t.y then t.y else n
/-- The greatest of the views that the entries speak of. -/
def highE : List Et → Int
  | [] => -1
  | t :: L => L.foldl hF t.y
theorem highE_one {L : List Et} {t : Et} (h : L[0]? = some t) : highE (L.take 1) = t.y := by
  cases L with
  | nil => simp at h
  | cons a L =>
    simp at h
    subst h
    rfl
theorem highE_succ {L : List Et} {j : Nat} {t : Et} (h : L[j]? = some t) (hj : 0 < j) : highE (L.take (j + 1)) = hF (highE (L.take j)) t := by
  cases L with
  | nil => simp at h
  | cons a L =>
    obtain ⟨k, rfl⟩ : ∃ k, j = k + 1 := ⟨j - 1, by omega⟩
    have h' : L[k]? = some t := by simpa using h
    show (L.take (k + 1)).foldl hF a.y = hF ((L.take k).foldl hF a.y) t
    rw [List.take_add_one, h', List.foldl_append]
    rfl
set_option maxHeartbeats 4000000 in
theorem specTcHigh_any (x : Int) (s : Value) (L : List Et) (w : World) (hs : SlE w w.heap.size s L) :
    Calls Try.prog 23 #[.agg #[.int .i64 x, s]] w (fun e w' => e = .returned (.int .i64 (highE L)) ∧ Below w.heap.size w w') := by
  obtain ⟨A, c, rfl, h1, h2, h0, h3⟩ := hs
  unfold maxLen at h2
  clear h0
  have hB : Below w.heap.size w (w.alloc (.cells #[.int .i64 x, .slice A L.length c] 33)) := (Below.refl _ w).alloc (Nat.le_refl _) _
  go_enter Try.func23, Try.ntmps23
  go_wp2
  go_loopw [3, 9] (fun n i wr => ∃ j : Nat, j ≤ L.length ∧ i = .int .i64 (j : Int) ∧ n = .int .i64 (highE (L.take j)) ∧ Hid (Below w.heap.size w wr))
    (fun _ i _ => L.length - (intOf i).toNat)
  case atStart => exact ⟨0, Nat.zero_le _, rfl, rfl, Lib.hid hB⟩
  case round =>
    obtain ⟨j, hj, rfl, rfl, HB⟩ := hrel
    by_cases hlt : j < L.length
    · obtain ⟨b, off, rfl, hbb, hcell⟩ := h3 (by omega)
      obtain ⟨t, ht⟩ := getE hlt
      obtain ⟨u, g0, g1, g2, s1⟩ := (hcell j t ht).below HB.out hbb
      have H1 := (InvF.start wr).newG 53 #[.int .i64 t.x, .int .i64 t.y, u] wr.heap.size
      obtain ⟨m0, m1, m2⟩ := H1.c3 (.head _)
      have HB2 := Lib.hid (HB.out.trans (H1.bel.mono HB.out.size))
      have HO : Hid (j = 0 → highE (L.take (j + 1)) = t.y) := Lib.hid (fun h => by subst h; exact highE_one ht)
      have HS : Hid (0 < j → highE (L.take (j + 1)) = hF (highE (L.take j)) t) := Lib.hid (fun h => highE_succ ht h)
      obtain ⟨A1, e1, rfl, _⟩ := s1
      clear hcell ht H1 hB
      generalize highE (L.take j) = n at *
      obtain ⟨n', hn'⟩ : ∃ n', n' = highE (L.take (j + 1)) := ⟨_, rfl⟩
      rw [← hn'] at HO HS
      have HN' := Lib.hid hn'
      clear hn'
      unfold hF at HS
      generalize t.y = ty at *
      generalize t.x = tx at *
      by_cases hj0 : j = 0
      · obtain rfl : n' = ty := HO.out hj0
        have d0 : ((j : Int) == 0) = true := by rw [beq_iff_eq]; omega
        clear hj0
        go_wp2
        go_roundw
        case rel => exact ⟨j + 1, by omega, by go_num, by rw [← HN'.out], HB2⟩
        case measure => simp [intOf]; omega
      · have d0 : ((j : Int) == 0) = false := by rw [beq_eq_false_iff_ne]; omega
        by_cases hc : n < ty
        · obtain rfl : n' = ty := by rw [HS.out (by omega), if_pos hc]
          clear hj0
          go_wp2
          go_roundw
          case rel => exact ⟨j + 1, by omega, by go_num, by rw [← HN'.out], HB2⟩
          case measure => simp [intOf]; omega
        · obtain rfl : n' = n := by rw [HS.out (by omega), if_neg hc]
          have d1 : decide (n' < ty) = false := decide_eq_false hc
          clear hj0
          go_wp2
          go_roundw
          case rel => exact ⟨j + 1, by omega, by go_num, by rw [← HN'.out], HB2⟩
          case measure => simp [intOf]; omega
    · obtain rfl : j = L.length := by omega
      rw [List.take_length]
      go_wp2
      go_ret
      exact ⟨rfl, HB.out⟩
set_option maxHeartbeats 4000000 in
theorem implTcHigh_any (x : Int) (s : Value) (L : List Et) (w : World) (hs : SlE w w.heap.size s L) :
    Calls Try.prog 24 #[.agg #[.int .i64 x, s]] w (fun e w' => e = .returned (.int .i64 (highE L)) ∧ Below w.heap.size w w') := by
  obtain ⟨A, c, rfl, h1, h2, h0, h3⟩ := hs
  unfold maxLen at h2
  clear h0
  have H0 := (InvF.start w).newG 33 #[.int .i64 x, .slice A L.length c] w.heap.size
  have hB := H0.bel
  by_cases hl0 : L.length = 0
  · have hnil := List.eq_nil_of_length_eq_zero hl0
    have hh : Hid (highE L = -1) := Lib.hid (by rw [hnil]; rfl)
    rw [hh.out]
    have d0 : ((L.length : Int) == 0) = true := by rw [beq_iff_eq]; omega
    have HBB := Lib.hid hB
    clear hnil h3 hl0 hB
    go_enter Try.func24, Try.ntmps24
    go_wp2
    go_ret
    exact ⟨rfl, HBB.out⟩
  have d0 : ((L.length : Int) == 0) = false := by rw [beq_eq_false_iff_ne]; omega
  have hlpos : 0 < L.length := by omega
  clear hl0
  obtain ⟨b, off, rfl, hbb, hcell⟩ := h3 hlpos
  obtain ⟨t0, ht0⟩ := getE hlpos
  have hc0 : (w.alloc (.cells #[.int .i64 x, .slice (some ⟨b, off, none⟩) L.length c] 33)).cell? ⟨b, off + 1, none⟩ = some (.int .i64 t0.y) := by
    obtain ⟨u, g0, g1, g2, s1⟩ := hcell 0 t0 ht0
    rw [Nat.zero_mul, Nat.add_zero] at g1
    exact (hB.cell (p := ⟨b, off + 1, none⟩) hbb).trans g1
  obtain ⟨h0, hh0⟩ : ∃ h0, h0 = t0.y := ⟨_, rfl⟩
  rw [← hh0] at hc0
  have HH0 : Hid (highE (L.take 1) = h0) := Lib.hid (by rw [highE_one ht0, hh0])
  have HL0 : Hid (∀ t, L[0]? = some t → t.y = h0) := Lib.hid (fun t h => by rw [ht0] at h; cases h; exact hh0.symm)
  clear hh0 ht0 h3
  obtain ⟨o0, o1⟩ := H0.c2 (.head _)
  go_enter Try.func24, Try.ntmps24
  go_wp2
  clear o0 o1 hc0 H0
  go_loopw [3, 18] (fun n i wr => ∃ (j : Nat) (h : Int), j ≤ L.length ∧ i = .int .i64 (j : Int) ∧ n = .int .i64 h ∧ Hid (j = 0 → h = h0) ∧ Hid (0 < j → h = highE (L.take j)) ∧ Hid (Below w.heap.size w wr))
    (fun _ i _ => L.length - (intOf i).toNat)
  case atStart => exact ⟨0, h0, Nat.zero_le _, rfl, rfl, Lib.hid (fun _ => rfl), Lib.hid (fun h => absurd h (Nat.lt_irrefl _)), Lib.hid hB⟩
  case round =>
    obtain ⟨j, h, hj, rfl, rfl, HZ, HP, HB⟩ := hrel
    by_cases hlt : j < L.length
    · obtain ⟨t, ht⟩ := getE hlt
      obtain ⟨u, g0, g1, g2, s1⟩ := (hcell j t ht).below HB.out hbb
      have H1 := (InvF.start wr).newG 53 #[.int .i64 t.x, .int .i64 t.y, u] wr.heap.size
      obtain ⟨m0, m1, m2⟩ := H1.c3 (.head _)
      have HB2 := Lib.hid (HB.out.trans (H1.bel.mono HB.out.size))
      have HN : Hid ((if h < t.y then t.y else h) = highE (L.take (j + 1))) := Lib.hid (by
        by_cases hj0 : j = 0
        · subst hj0
          rw [HH0.out, HZ.out rfl, HL0.out t ht, if_neg (Int.lt_irrefl _)]
        · rw [highE_succ ht (by omega), ← HP.out (by omega)]
          rfl)
      obtain ⟨A1, e1, rfl, _⟩ := s1
      clear ht H1 hB
      generalize t.y = ty at *
      generalize t.x = tx at *
      by_cases hc : h < ty
      · have HN2 : Hid (ty = highE (L.take (j + 1))) := Lib.hid (by have := HN.out; rw [if_pos hc] at this; exact this)
        have e1 : max h ty = ty := by omega
        go_wp2
        go_roundw
        case rel => exact ⟨j + 1, ty, by omega, by go_num, by first | rfl | rw [e1], Lib.hid (fun h => by omega), Lib.hid (fun _ => HN2.out), HB2⟩
        case measure => simp [intOf]; omega
      · have HN2 : Hid (h = highE (L.take (j + 1))) := Lib.hid (by have := HN.out; rw [if_neg hc] at this; exact this)
        have e1 : max h ty = h := by omega
        go_wp2
        go_roundw
        case rel => exact ⟨j + 1, h, by omega, by go_num, by first | rfl | rw [e1], Lib.hid (fun h => by omega), Lib.hid (fun _ => HN2.out), HB2⟩
        case measure => simp [intOf]; omega
    · obtain rfl : j = L.length := by omega
      have HF : Hid (h = highE L) := Lib.hid (by have := HP.out hlpos; rw [List.take_length] at this; exact this)
      go_wp2
      go_ret
      exact ⟨congrArg (fun z => Ending.returned (.int .i64 z)) HF.out, HB.out⟩
end Go.Proofs.Ytickneafppbegaa
