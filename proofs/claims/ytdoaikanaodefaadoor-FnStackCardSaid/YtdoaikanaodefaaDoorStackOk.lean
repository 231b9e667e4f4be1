/- The contracts of StackOk and StackSize, as the program has them and as their models have them. -/
import Derived.Test.YtdoaikanaodefaaDoorStackBase
import Derived.Test.YtdoaikanaodefaaDoorPut
namespace Go.Proofs.YtdoaikanaodefaaDoor
open Go.ChangeShapes Go.WideShapes Go.ChangeAt Go.RowKit

/-- The call returns x; nothing that was there has turned. -/
def Tells (x : Value) (w : World) (e : Ending) (w' : World) : Prop := e = .returned x ∧ Below w.heap.size w w'

/-- OkK, for a loop's relation. -/
def OkN (H : List Int) (L : List (List UInt8)) (k : Nat) : Prop := OkK H L k

set_option maxRecDepth 100000 in
set_option maxHeartbeats 2000000 in
theorem specStackOk_any (v : Value) (H : List Int) (L : List (List UInt8)) (w : World) (h : SlK w w.heap.size v H L) :
    Calls Tryd.prog 52 #[v] w (Tells (.bool (okS H L)) w) := by
  obtain ⟨a, s, rfl, hI, hS⟩ := h
  obtain ⟨A, c, rfl, p1, p2, p0, p3⟩ := hI
  obtain ⟨A', c', rfl, q1, q2, q0, q3⟩ := hS
  unfold maxLen at p2 q2
  clear p0 q0
  have hb : Below w.heap.size w (w.alloc (.cells #[.slice A H.length c, .slice A' L.length c'] 27)) := (Below.refl _ w).alloc (Nat.le_refl _) _
  obtain ⟨R, hR⟩ : ∃ R, R = okS H L := ⟨_, rfl⟩
  rw [← hR]
  have HR := Lib.hid hR
  clear hR
  by_cases hlen : H.length = L.length
  case neg =>
    have hne : ((H.length : Int) != (L.length : Int)) = true := by rw [bne_iff_ne]; omega
    obtain rfl : R = false := HR.out.trans (okS_len hlen)
    clear hlen
    go_enter Tryd.func52, Tryd.ntmps52
    go_wp2
    go_ret
    exact ⟨rfl, hb⟩
  case pos =>
    have hne : ((H.length : Int) != (L.length : Int)) = false := by rw [hlen]; simp
    have HLN := Lib.hid hlen
    clear hlen
    go_enter Tryd.func52, Tryd.ntmps52
    go_wp2
    go_loopw [15] (fun i wr => ∃ k : Nat, k ≤ H.length ∧ i = .int .i64 k ∧ OkN H L k ∧ wr = w.alloc (.cells #[.slice A H.length c, .slice A' L.length c'] 27))
      (fun i _ => H.length - (intOf i).toNat)
    case atStart => exact ⟨0, Nat.zero_le _, rfl, OkK.zero _ _, rfl⟩
    case round =>
      obtain ⟨k, hk, rfl, hok, rfl⟩ := hrel
      by_cases hlt : k < H.length
      · have hlL : k < L.length := by have := HLN.out; omega
        have hkL : (k : Int) < (L.length : Int) := by omega
        obtain ⟨b, off, rfl, hbb, hcell⟩ := p3 (by omega)
        obtain ⟨b', off', rfl, hbb', hcell'⟩ := q3 (by omega)
        have hc0 := (hb.cell (p := ⟨b, off + k, none⟩) hbb).trans (hcell k hlt)
        obtain ⟨x, hx0, hx⟩ := hcell' k hlL
        have hc1 := (hb.cell (p := ⟨b', off' + k, none⟩) hbb').trans hx0
        have hxs := hx.up hb
        have HBad : Hid (¬ (0 ≤ it H k ∧ it H k ≤ 20 ∧ (L.getD k []).length = 32 ∧ (0 < k → it H k < it H (k - 1))) → R = false) := Lib.hid fun e => HR.out.trans (okS_at hlt e)
        have HGood : Hid (0 ≤ it H k ∧ it H k ≤ 20 ∧ (L.getD k []).length = 32 ∧ (0 < k → it H k < it H (k - 1)) → OkN H L (k + 1)) := Lib.hid fun e => OkK.succ hok e
        generalize L.getD k [] = l at hxs HBad HGood
        have hprev : Hid (0 < k → (w.alloc (.cells #[.slice (some ⟨b, off, none⟩) H.length c, .slice (some ⟨b', off', none⟩) L.length c'] 27)).cell? ⟨b, off + (k - 1), none⟩ = some (.int .i64 (it H (k - 1)))) :=
          Lib.hid fun h => (hb.cell (p := ⟨b, off + (k - 1), none⟩) hbb).trans (hcell (k - 1) (by omega))
        clear hcell hcell' hx0 hx hok
        by_cases hin : 0 ≤ it H k ∧ it H k ≤ 20
        case neg =>
          obtain rfl := HBad.out fun e => hin ⟨e.1, e.2.1⟩
          go_wp2_with (go_at_call 84; refine (l01In_no _ _ _ _ hin).mono ?_; rintro e w' ⟨rfl, rfl⟩)
          go_ret
          exact ⟨rfl, hb⟩
        case pos =>
          obtain ⟨hn0, hn1⟩ := hin
          by_cases hlh : l.length = 32
          case neg =>
            obtain rfl := HBad.out fun e => hlh e.2.2.1
            have hlh2 := hash_no hlh
            clear hlh
            go_wp2_with (first
              | (go_at_call 84; refine (l01In_yes _ _ _ _ hn0 hn1).mono ?_; rintro e w' ⟨rfl, rfl⟩)
              | (go_at_call 53; refine (l07Hash_any x l _ hxs).mono ?_; rw [hlh2]; rintro e w' ⟨rfl, rfl⟩))
            go_ret
            exact ⟨rfl, hb⟩
          case pos =>
            have hlh2 := hash_yes hlh
            have HLH := Lib.hid hlh
            clear hlh
            by_cases hk0 : 0 < k
            case neg =>
              have hkz : ¬ (0 < (k : Int)) := by omega
              have HG := Lib.hid (HGood.out ⟨hn0, hn1, HLH.out, fun e => absurd e hk0⟩)
              clear hk0
              go_wp2_with (first
                | (go_at_call 84; refine (l01In_yes _ _ _ _ hn0 hn1).mono ?_; rintro e w' ⟨rfl, rfl⟩)
                | (go_at_call 53; refine (l07Hash_any x l _ hxs).mono ?_; rw [hlh2]; rintro e w' ⟨rfl, rfl⟩))
              go_roundw
              case rel => exact ⟨k + 1, by omega, by go_num, HG.out, trivial⟩
              case measure => simp [intOf]; omega
            case pos =>
              obtain ⟨j, rfl⟩ : ∃ j, k = j + 1 := ⟨k - 1, by omega⟩
              have hc2 := hprev.out hk0
              rw [Nat.add_sub_cancel] at hc2 HBad HGood
              have hkz : 0 < ((j + 1 : Nat) : Int) := by omega
              clear hprev
              by_cases hd : it H (j + 1) < it H j
              case neg =>
                have hd2 : it H j ≤ it H (j + 1) := by omega
                obtain rfl := HBad.out fun e => hd (e.2.2.2 hk0)
                clear hd HGood HBad
                go_wp2_with (first
                  | (go_at_call 84; refine (l01In_yes _ _ _ _ hn0 hn1).mono ?_; rintro e w' ⟨rfl, rfl⟩)
                  | (go_at_call 53; refine (l07Hash_any x l _ hxs).mono ?_; rw [hlh2]; rintro e w' ⟨rfl, rfl⟩))
                go_ret
                exact ⟨rfl, hb⟩
              case pos =>
                have hd2 : ¬ it H j ≤ it H (j + 1) := by omega
                have HG := Lib.hid (HGood.out ⟨hn0, hn1, HLH.out, fun _ => hd⟩)
                clear hd HGood HBad
                go_wp2_with (first
                  | (go_at_call 84; refine (l01In_yes _ _ _ _ hn0 hn1).mono ?_; rintro e w' ⟨rfl, rfl⟩)
                  | (go_at_call 53; refine (l07Hash_any x l _ hxs).mono ?_; rw [hlh2]; rintro e w' ⟨rfl, rfl⟩))
                go_roundw
                case rel => exact ⟨j + 1 + 1, by omega, by go_num, HG.out, trivial⟩
                case measure => simp [intOf]; omega
      · obtain rfl : k = H.length := by omega
        obtain rfl : R = true := HR.out.trans (okS_true HLN.out hok)
        go_wp2
        go_ret
        exact ⟨rfl, hb⟩

set_option maxRecDepth 100000 in
set_option maxHeartbeats 2000000 in
theorem implStackOk_any (v : Value) (H : List Int) (L : List (List UInt8)) (w : World) (h : SlK w w.heap.size v H L) :
    Calls Tryd.prog 11 #[v] w (Tells (.bool (okS H L)) w) := by
  obtain ⟨a, s, rfl, hI, hS⟩ := h
  obtain ⟨A, c, rfl, p1, p2, p0, p3⟩ := hI
  obtain ⟨A', c', rfl, q1, q2, q0, q3⟩ := hS
  unfold maxLen at p2 q2
  clear p0 q0
  have hb : Below w.heap.size w (w.alloc (.cells #[.slice A H.length c, .slice A' L.length c'] 27)) := (Below.refl _ w).alloc (Nat.le_refl _) _
  obtain ⟨R, hR⟩ : ∃ R, R = okS H L := ⟨_, rfl⟩
  rw [← hR]
  have HR := Lib.hid hR
  clear hR
  by_cases hlen : H.length = L.length
  case neg =>
    have hne : ((H.length : Int) != (L.length : Int)) = true := by rw [bne_iff_ne]; omega
    obtain rfl : R = false := HR.out.trans (okS_len hlen)
    clear hlen
    go_enter Tryd.func11, Tryd.ntmps11
    go_wp2
    go_ret
    exact ⟨rfl, hb⟩
  case pos =>
    have hne : ((H.length : Int) != (L.length : Int)) = false := by rw [hlen]; simp
    have HLN := Lib.hid hlen
    clear hlen
    go_enter Tryd.func11, Tryd.ntmps11
    go_wp2
    go_loopw [3, 16] (fun m i wr => ∃ k : Nat, k ≤ H.length ∧ i = .int .i64 k ∧ m = .int .i64 (limK H k) ∧ OkN H L k ∧ wr = w.alloc (.cells #[.slice A H.length c, .slice A' L.length c'] 27))
      (fun _ i _ => H.length - (intOf i).toNat)
    case atStart => exact ⟨0, Nat.zero_le _, rfl, rfl, OkK.zero _ _, rfl⟩
    case round =>
      obtain ⟨k, hk, rfl, rfl, hok, rfl⟩ := hrel
      by_cases hlt : k < H.length
      · have hlL : k < L.length := by have := HLN.out; omega
        have hkL : (k : Int) < (L.length : Int) := by omega
        obtain ⟨b, off, rfl, hbb, hcell⟩ := p3 (by omega)
        obtain ⟨b', off', rfl, hbb', hcell'⟩ := q3 (by omega)
        have hc0 := (hb.cell (p := ⟨b, off + k, none⟩) hbb).trans (hcell k hlt)
        obtain ⟨x, hx0, hx⟩ := hcell' k hlL
        have hc1 := (hb.cell (p := ⟨b', off' + k, none⟩) hbb').trans hx0
        have hxs := hx.up hb
        have HNeg : Hid (it H k < 0 → R = false) := Lib.hid fun e => HR.out.trans (okS_at hlt (not_okAt_neg e))
        have HLim : Hid (limK H k ≤ it H k → R = false) := Lib.hid fun e => HR.out.trans (okS_at hlt (not_okAt_lim e))
        have HHash : Hid ((L.getD k []).length ≠ 32 → R = false) := Lib.hid fun e => HR.out.trans (okS_at hlt (not_okAt_hash e))
        have HGood : Hid (0 ≤ it H k → it H k < limK H k → (L.getD k []).length = 32 → OkN H L (k + 1)) := Lib.hid fun e0 e1 e2 => OkK.succ hok (okAt_lim hok e0 e1 e2)
        generalize L.getD k [] = l at hxs HHash HGood
        have hl := limK_bound hok
        have HN := Lib.hid (limK_succ H k)
        generalize limK H k = m at hl HLim HGood ⊢
        obtain ⟨hl0, hl1⟩ := hl
        clear hcell hcell' hx0 hx hok
        by_cases h0 : it H k < 0
        case pos =>
          obtain rfl := HNeg.out h0
          clear HNeg HLim HHash HGood
          go_wp2
          go_ret
          exact ⟨rfl, hb⟩
        case neg =>
          by_cases hm : m ≤ it H k
          case pos =>
            obtain rfl := HLim.out hm
            clear HNeg HLim HHash HGood
            go_wp2
            go_ret
            exact ⟨rfl, hb⟩
          case neg =>
            by_cases hlh : l.length = 32
            case neg =>
              obtain rfl := HHash.out hlh
              have hlh2 := hash_no hlh
              clear HNeg HLim HHash HGood hlh
              go_wp2_with (go_at_call 38; refine (isHash_any x l _ hxs).mono ?_; rw [hlh2]; rintro e w' ⟨rfl, rfl⟩)
              go_ret
              exact ⟨rfl, hb⟩
            case pos =>
              have hlh2 := hash_yes hlh
              have HG := Lib.hid (HGood.out (by omega) (by omega) hlh)
              clear HNeg HLim HHash HGood hlh
              go_wp2_with (go_at_call 38; refine (isHash_any x l _ hxs).mono ?_; rw [hlh2]; rintro e w' ⟨rfl, rfl⟩)
              go_roundw
              case rel => exact ⟨k + 1, by omega, by go_num, by rw [HN.out], HG.out, trivial⟩
              case measure => simp [intOf]; omega
      · obtain rfl : k = H.length := by omega
        obtain rfl : R = true := HR.out.trans (okS_true HLN.out hok)
        go_wp2
        go_ret
        exact ⟨rfl, hb⟩

end Go.Proofs.YtdoaikanaodefaaDoor
