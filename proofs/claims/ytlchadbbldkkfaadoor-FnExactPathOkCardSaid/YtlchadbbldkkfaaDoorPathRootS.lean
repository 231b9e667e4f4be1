/- The contracts of l08Hashes, l08Root, PathRoot as their models have them. -/
import Derived.Test.YtlchadbbldkkfaaDoorPathLenS
import Derived.Test.YtlchadbbldkkfaaDoorHash32
import Derived.Test.YtlchadbbldkkfaaDoorSS
import Derived.Test.YtlchadbbldkkfaaDoorMerkle
import Derived.Deep.RegionHeld3
namespace Go.Proofs.YtlchadbbldkkfaaDoor
open Go.ChangeShapes Go.WideShapes Go.ChangeAt Go.RowKit

/-- Are all rows hashes? -/
def all32 (P : List (List UInt8)) : Bool := P.all fun r => (r.length : Int) == 32
theorem all32_at {P : List (List UInt8)} (h : all32 P = true) : ∀ r ∈ P, r.length = 32 := by
  intro r hr
  have := List.all_eq_true.1 h r hr
  simp at this
  omega
theorem all32_of {P : List (List UInt8)} (h : ∀ r ∈ P, r.length = 32) : all32 P = true := List.all_eq_true.2 fun r hr => by rw [h r hr]; rfl
theorem all32_no {P : List (List UInt8)} {k : Nat} (hk : k < P.length) (h : (P.getD k []).length ≠ 32) : all32 P = false := by
  rcases hb : all32 P with _ | _
  · rfl
  · exact absurd (all32_at hb _ (by simp [List.getD_eq_getElem?_getD, List.getElem?_eq_getElem hk])) h
theorem all32_yes {P : List (List UInt8)} (h : ∀ k, k < P.length → (P.getD k []).length = 32) : all32 P = true := all32_of fun r hr => by
  obtain ⟨k, hk, rfl⟩ := List.mem_iff_getElem.1 hr
  have := h k hk
  simpa [List.getD_eq_getElem?_getD, List.getElem?_eq_getElem hk] using this

set_option maxHeartbeats 1000000 in
theorem l08Hashes_any (v : Value) (P : List (List UInt8)) (w : World) (h : SlS w w.heap.size v P) :
    Calls Tryd.prog 57 #[v] w (fun e w' => e = .returned (.bool (all32 P)) ∧ w = w') := by
  obtain ⟨A, c, rfl, h1, h2, h0, h3⟩ := h
  unfold maxLen at h2
  clear h0
  obtain ⟨R, hR⟩ : ∃ R, R = all32 P := ⟨_, rfl⟩
  rw [← hR]
  have HR := Lib.hid hR
  clear hR
  go_enter Tryd.func57, Tryd.ntmps57
  go_wp2
  go_loopw [7] (fun i wr => ∃ k : Nat, k ≤ P.length ∧ i = .int .i64 k ∧ Hid (∀ j, j < k → (P.getD j []).length = 32) ∧ w = wr)
    (fun i _ => P.length - (intOf i).toNat)
  case atStart => exact ⟨0, Nat.zero_le _, rfl, Lib.hid (fun j hj => by omega), rfl⟩
  case round =>
    obtain ⟨k, hk, rfl, hok, rfl⟩ := hrel
    by_cases hlt : k < P.length
    · obtain ⟨b, off, rfl, hbb, hcell⟩ := h3 (by omega)
      obtain ⟨u, hu, hsl⟩ := hcell k hlt
      have hklt : (k : Int) < (P.length : Int) := by omega
      have HBad : Hid ((P.getD k []).length ≠ 32 → R = false) := Lib.hid fun e => HR.out.trans (all32_no hlt e)
      have HGood : Hid ((P.getD k []).length = 32 → ∀ j, j < k + 1 → (P.getD j []).length = 32) := Lib.hid fun e j hj => by
        rcases Nat.lt_or_ge j k with h | h
        · exact hok.out j h
        · obtain rfl : j = k := by omega
          exact e
      generalize P.getD k [] = l at hsl HBad HGood
      clear hcell hok
      by_cases hlh : l.length = 32
      case neg =>
        obtain rfl := HBad.out hlh
        have hlh2 := hash_no hlh
        clear hlh
        go_wp2_with (go_at_call 54; refine (l07Hash_any u l _ hsl).mono ?_; rw [hlh2]; rintro e w' ⟨rfl, rfl⟩)
        go_ret
        exact ⟨rfl, rfl⟩
      case pos =>
        have hlh2 := hash_yes hlh
        have HG := Lib.hid (HGood.out hlh)
        clear hlh
        go_wp2_with (go_at_call 54; refine (l07Hash_any u l _ hsl).mono ?_; rw [hlh2]; rintro e w' ⟨rfl, rfl⟩)
        go_roundw
        case rel => exact ⟨k + 1, by omega, by go_num, HG, trivial⟩
        case measure => simp [intOf]; omega
    · obtain rfl : k = P.length := by omega
      obtain rfl : R = true := HR.out.trans (all32_yes hok.out)
      go_wp2
      go_ret
      exact ⟨rfl, rfl⟩

/-- The call returns a slice that reads as l; nothing that was there has turned. -/
def Reads (w : World) (l : List UInt8) (e : Ending) (w' : World) : Prop := ∃ x, e = .returned x ∧ Sl w' w'.heap.size x l ∧ Below w.heap.size w w'

set_option maxRecDepth 100000 in
set_option maxHeartbeats 4000000 in
theorem l08Root_in : ∀ (f : Nat) (h : List UInt8) (i n : Nat) (P : List (List UInt8)) (u v : Value) (w : World), n ≤ f → i < n → n ≤ 1048576 → h.length = 32 → P.length = plenN i n → (∀ r ∈ P, r.length = 32) → Sl w w.heap.size u h → SlS w w.heap.size v P →
    Calls Tryd.prog 59 #[u, .int .i64 (i : Int), .int .i64 (n : Int), v] w (Reads w (rootR h i n P)) := by
  intro f
  induction f with
  | zero => intro h i n P u v w hf hi; omega
  | succ f ih =>
    intro h i n P u v w hf hi hn hh hP hall hu hv
    by_cases h1n : n = 1
    · rw [rootR_small (by omega) hi]
      have h1' : ((n : Int) == 1) = true := by simp [h1n]
      have HU := Lib.hid hu
      clear ih hP hall hv h1n hh
      go_enter Tryd.func59, Tryd.ntmps59
      go_wp2
      go_ret
      exact ⟨u, rfl, HU.out, Below.refl _ _⟩
    · have h1' : ((n : Int) == 1) = false := by rw [beq_eq_false_iff_ne]; omega
      have hn2 : 2 ≤ n := by omega
      have hlt := splitN_lt hn2
      have hps := splitN_pos hn2
      have HA := Lib.hid (fun w => specSplitAt_any (n : Int) w (by omega))
      rw [splitZ_nat] at HA
      obtain ⟨A, c, rfl, p1, p2, p0, p3⟩ := hv
      have p2' := p2
      unfold maxLen at p2'
      obtain ⟨last, hlast⟩ : ∃ last, P.length = last + 1 := by
        by_cases hk : i < splitN n
        · exact ⟨_, hP.trans (plenN_left hn2 hk)⟩
        · exact ⟨_, hP.trans (plenN_right hn2 (by omega) hi)⟩
      obtain ⟨bb, off, rfl, hbb, hcell⟩ := p3 (by omega)
      obtain ⟨xv, hx0, hx⟩ := hcell last (by omega)
      have hPs : P = P.take last ++ [P.getD last []] := by
        have := take_getD P last [] (by omega)
        rw [← this, List.take_of_length_le (by omega)]
      have hxl : (P.getD last []).length = 32 := hall _ (by simp [List.getD_eq_getElem?_getD, List.getElem?_eq_getElem (show last < P.length by omega)])
      have ht : SlS w w.heap.size (.slice (some ⟨bb, off, none⟩) last c) (P.take last) := by
        have := slS_cut (L := P) (off := off) (c := c) 0 last p2 hbb hcell (by omega) off c (by omega) (by omega) (Nat.le_refl _)
        simpa using this
      have htl : (P.take last).length = last := by rw [List.length_take]; omega
      have hall2 : ∀ r ∈ P.take last, r.length = 32 := fun r hr => hall r (List.mem_of_mem_take hr)
      have hpl := plenN_left (i := i) hn2
      have hpr := plenN_right (i := i) hn2
      have hrl := rootR_left (h := h) (i := i) (q := P.take last) (r := P.getD last []) hn2
      have hrr := rootR_right (h := h) (i := i) (q := P.take last) (r := P.getD last []) hn2
      rw [← hPs] at hrl hrr
      generalize splitN n = s at hlt hps HA hpl hpr hrl hrr
      have HP := Lib.hid hP
      have HLAST := Lib.hid hlast
      have hm1 : ((last + 1 : Nat) : Int) - 1 = (last : Int) := by omega
      rw [hlast] at p1 ⊢
      obtain ⟨m, hm⟩ : ∃ m, m = last + 1 := ⟨_, rfl⟩
      rw [← hm] at p1 hm1 ⊢
      have hml : (last : Int) < (m : Int) := by omega
      have hml2 : last ≤ m := by omega
      have hml3 : (last : Int) ≤ (m : Int) := by omega
      have hml4 : last ≤ c := by omega
      have hml5 : (last : Int) ≤ (c : Int) := by omega
      have hl0 : (0 : Int) ≤ (last : Int) := by omega
      have HT := Lib.hid ht
      have HX := Lib.hid hx
      have HU := Lib.hid hu
      have HXL := Lib.hid (show (P.getD last []).length ≤ 536870000 by omega)
      have HK0 : Hid (w.drew.cell? ⟨bb, off + last, none⟩ = some xv) := Lib.hid hx0
      have HXC : Hid (∀ w', Below w.heap.size w w' → w'.cell? ⟨bb, off + last, none⟩ = some xv) := Lib.hid fun w' hb => (hb.cell (p := ⟨bb, off + last, none⟩) hbb).trans hx0
      by_cases hk : i < s
      · have hki : (i : Int) < (s : Int) := by omega
        have hlp : last = plenN i s := by have := hpl hk; have := HP.out; have := HLAST.out; omega
        rw [hrl hk (by rw [htl]; exact hlp)]
        have IH := Lib.hid (fun u v w h1 h2 => ih h i s (P.take last) u v w (by omega) hk (by omega) hh (by rw [htl]; exact hlp) hall2 h1 h2)
        have hrlen := rootR_length (h := h) (i := i) (n := s) (path := P.take last) hh
        generalize rootR h i s (P.take last) = R1 at IH hrlen ⊢
        generalize P.getD last [] = x at HX HXL ⊢
        have HRL : Hid (R1.length ≤ 536870000) := Lib.hid (by omega)
        clear ih hP hall hall2 hcell p3 hx hx0 hPs hxl ht htl hpl hpr hrl hrr hlast hm hrlen hlp hu hh p0
        go_enter Tryd.func59, Tryd.ntmps59
        go_wp2_with fail
        refine (HA.out _).mono ?_
        rintro e w' ⟨rfl, hw⟩
        obtain rfl : w = w' := hw.symm
        go_wp2_with fail
        have HD : Hid (Below w.heap.size w w.drew) := Lib.hid (below_drewN (Below.refl _ _) 1)
        go_region_held3 (fun w' => w'.cell? ⟨bb, off + last, none⟩ = some xv)
          (first
            | exact HK0.out
            | exact HK1.out
            | exact HK2.out)
          (first
            | (go_at_call 59; refine (IH.out _ _ w.drew HU.out HT.out).mono ?_; rintro e w1 ⟨x1, rfl, ho1, hb1⟩; have HB1 := Lib.hid (HD.out.trans hb1); have HK1 := Lib.hid (HXC.out _ HB1.out))
            | (go_at_call 78; refine (specNodeHash_any x1 xv R1 x w1 ho1 (HX.out.up HB1.out) HRL.out HXL.out).mono ?_; rintro e w2 ⟨x2, rfl, ho2, hb2⟩; have HB2 := Lib.hid (HB1.out.trans (hb2.mono HB1.out.size)); have HK2 := Lib.hid (HXC.out _ HB2.out)))
        go_wp2
        go_ret
        exact ⟨x2, rfl, ho2.sl, HB2.out⟩
      · have hki : ¬ (i : Int) < (s : Int) := by omega
        have e1 : IntKind.i64.wrap ((i : Int) - (s : Int)) = ((i - s : Nat) : Int) := by rw [IntKind.wrap_i64]; omega
        have e2 : IntKind.i64.wrap ((n : Int) - (s : Int)) = ((n - s : Nat) : Int) := by rw [IntKind.wrap_i64]; omega
        have hjs : i - s < n - s := by omega
        have hx1 : i - s ≤ 1048576 := by omega
        have hx2 : n - s ≤ 1048576 := by omega
        have hlp : last = plenN (i - s) (n - s) := by have := hpr (by omega) hi; have := HP.out; have := HLAST.out; omega
        rw [hrr (by omega) hi (by rw [htl]; exact hlp)]
        have IH := Lib.hid (fun u v w h1 h2 => ih h (i - s) (n - s) (P.take last) u v w (by omega) hjs (by omega) hh (by rw [htl]; exact hlp) hall2 h1 h2)
        have hrlen := rootR_length (h := h) (i := i - s) (n := n - s) (path := P.take last) hh
        clear hlp
        generalize rootR h (i - s) (n - s) (P.take last) = R1 at IH hrlen ⊢
        generalize i - s = i' at e1 IH hjs hx1
        generalize n - s = n' at e2 IH hjs hx2
        generalize P.getD last [] = x at HX HXL ⊢
        have HRL : Hid (R1.length ≤ 536870000) := Lib.hid (by omega)
        clear ih hP hall hall2 hcell p3 hx hx0 hPs hxl ht htl hpl hpr hrl hrr hlast hm hrlen hu hh p0
        go_enter Tryd.func59, Tryd.ntmps59
        go_wp2_with fail
        refine (HA.out _).mono ?_
        rintro e w' ⟨rfl, hw⟩
        obtain rfl : w = w' := hw.symm
        go_wp2_with fail
        have HD : Hid (Below w.heap.size w w.drew) := Lib.hid (below_drewN (Below.refl _ _) 1)
        go_region_held3 (fun w' => w'.cell? ⟨bb, off + last, none⟩ = some xv)
          (first
            | exact HK0.out
            | exact HK1.out
            | exact HK2.out)
          (first
            | (go_at_call 59; refine (IH.out _ _ w.drew HU.out HT.out).mono ?_; rintro e w1 ⟨x1, rfl, ho1, hb1⟩; have HB1 := Lib.hid (HD.out.trans hb1); have HK1 := Lib.hid (HXC.out _ HB1.out))
            | (go_at_call 78; refine (specNodeHash_any xv x1 x R1 w1 (HX.out.up HB1.out) ho1 HXL.out HRL.out).mono ?_; rintro e w2 ⟨x2, rfl, ho2, hb2⟩; have HB2 := Lib.hid (HB1.out.trans (hb2.mono HB1.out.size)); have HK2 := Lib.hid (HXC.out _ HB2.out)))
        go_wp2
        go_ret
        exact ⟨x2, rfl, ho2.sl, HB2.out⟩

/-- The call returns a new row that reads as l, and b; nothing that was there has turned. -/
def FreshB (w : World) (l : List UInt8) (b : Bool) (e : Ending) (w' : World) : Prop := ∃ v, e = .returned (.tuple #[v, .bool b]) ∧ Own 5 w' w.heap.size v l ∧ Below w.heap.size w w'

/-- Is there a root? -/
def rootB (h : List UInt8) (i n : Int) (P : List (List UInt8)) : Bool := decide (h.length = 32 ∧ pathB i n = true ∧ (P.length : Int) = plenZ i n ∧ all32 P = true)
theorem rootB_yes {h : List UInt8} {i n : Int} {P : List (List UInt8)} (e : h.length = 32 ∧ pathB i n = true ∧ (P.length : Int) = plenZ i n ∧ all32 P = true) : rootB h i n P = true := decide_eq_true e
theorem rootB_no {h : List UInt8} {i n : Int} {P : List (List UInt8)} (e : ¬ (h.length = 32 ∧ pathB i n = true ∧ (P.length : Int) = plenZ i n ∧ all32 P = true)) : rootB h i n P = false := decide_eq_false e
/-- The root, none where there is none. -/
def rootP (h : List UInt8) (i n : Int) (P : List (List UInt8)) : List UInt8 := if rootB h i n P = true then rootR h i.toNat n.toNat P else []
theorem rootP_len (h : List UInt8) (i n : Int) (P : List (List UInt8)) : (rootP h i n P).length ≤ 32 := by
  unfold rootP
  split
  · rename_i e
    have e' : h.length = 32 ∧ pathB i n = true ∧ (P.length : Int) = plenZ i n ∧ all32 P = true := of_decide_eq_true e
    rw [rootR_length e'.1]
    omega
  · simp

set_option maxRecDepth 100000 in
set_option maxHeartbeats 4000000 in
theorem specPathRoot_any (u v : Value) (h : List UInt8) (i n : Int) (P : List (List UInt8)) (w : World) (hu : Sl w w.heap.size u h) (hv : SlS w w.heap.size v P) :
    Calls Tryd.prog 23 #[u, .int .i64 i, .int .i64 n, v] w (FreshB w (rootP h i n P) (rootB h i n P)) := by
  have hvs := hv
  obtain ⟨A, c, rfl, p1, p2, p0, p3⟩ := hv
  unfold maxLen at p2
  have HV := Lib.hid hvs
  have HU := Lib.hid hu
  have HH := Lib.hid (fun w (h' : Sl w w.heap.size u h) => l07Hash_any u h w h')
  have HI := Lib.hid (fun w => l08In_any i n w)
  have HL := Lib.hid (fun w => specPathLen_any i n w)
  have HA := Lib.hid (fun w (h' : SlS w w.heap.size (.slice A P.length c) P) => l08Hashes_any _ P w h')
  unfold rootP
  clear p0 p3 hu hvs
  by_cases hh : h.length = 32
  case neg =>
    rw [rootB_no (fun e => hh e.1), if_neg (by decide)]
    have hh2 := hash_no hh
    rw [hh2] at HH
    clear hh hh2
    go_enter Tryd.func23, Tryd.ntmps23
    go_wp2_with (go_at_call 54; refine (HH.out _ HU.out).mono ?_; rintro e w' ⟨rfl, rfl⟩)
    go_ret2
    exact ⟨_, rfl, World.ownsRow_nil _ _ _ _, Below.refl _ _⟩
  case pos =>
    have hh2 := hash_yes hh
    rw [hh2] at HH
    have HH32 := Lib.hid hh
    clear hh hh2
    cases hb : pathB i n with
    | false =>
      rw [rootB_no (fun e => by rw [hb] at e; exact absurd e.2.1 (by decide)), if_neg (by decide)]
      rw [hb] at HI
      clear hb
      go_enter Tryd.func23, Tryd.ntmps23
      go_wp2_with (first
        | (go_at_call 54; refine (HH.out _ HU.out).mono ?_; rintro e w' ⟨rfl, rfl⟩)
        | (go_at_call 55; refine (HI.out _).mono ?_; rintro e w' ⟨rfl, rfl⟩))
      go_ret2
      exact ⟨_, rfl, World.ownsRow_nil _ _ _ _, Below.refl _ _⟩
    | true =>
      rw [hb] at HI
      by_cases hl : (P.length : Int) = plenZ i n
      case neg =>
        rw [rootB_no (fun e => hl e.2.2.1), if_neg (by decide)]
        have hne : ((P.length : Int) != plenZ i n) = true := by rw [bne_iff_ne]; exact hl
        clear hb hl
        generalize plenZ i n = Z at HL hne
        go_enter Tryd.func23, Tryd.ntmps23
        go_wp2_with (first
          | (go_at_call 54; refine (HH.out _ HU.out).mono ?_; rintro e w' ⟨rfl, rfl⟩)
          | (go_at_call 55; refine (HI.out _).mono ?_; rintro e w' ⟨rfl, rfl⟩)
          | (go_at_call 56; refine (HL.out _).mono ?_; rintro e w' ⟨rfl, rfl⟩))
        go_ret2
        exact ⟨_, rfl, World.ownsRow_nil _ _ _ _, Below.refl _ _⟩
      case pos =>
        have hne : ((P.length : Int) != plenZ i n) = false := by rw [hl]; simp
        cases ha : all32 P with
        | false =>
          rw [rootB_no (fun e => by rw [ha] at e; exact absurd e.2.2.2 (by decide)), if_neg (by decide)]
          rw [ha] at HA
          clear hb hl ha
          generalize plenZ i n = Z at HL hne
          go_enter Tryd.func23, Tryd.ntmps23
          go_wp2_with (first
            | (go_at_call 54; refine (HH.out _ HU.out).mono ?_; rintro e w' ⟨rfl, rfl⟩)
            | (go_at_call 55; refine (HI.out _).mono ?_; rintro e w' ⟨rfl, rfl⟩)
            | (go_at_call 56; refine (HL.out _).mono ?_; rintro e w' ⟨rfl, rfl⟩)
            | (go_at_call 57; refine (HA.out _ HV.out).mono ?_; rintro e w' ⟨rfl, rfl⟩))
          go_ret2
          exact ⟨_, rfl, World.ownsRow_nil _ _ _ _, Below.refl _ _⟩
        | true =>
          rw [rootB_yes ⟨HH32.out, hb, hl, ha⟩, if_pos rfl]
          rw [ha] at HA
          have hbb : 1 ≤ n ∧ n ≤ 1048576 ∧ 0 ≤ i ∧ i < n := of_decide_eq_true hb
          obtain ⟨i', rfl⟩ := Int.eq_ofNat_of_zero_le hbb.2.2.1
          obtain ⟨n', rfl⟩ := Int.eq_ofNat_of_zero_le (show 0 ≤ n by omega)
          have hl' : P.length = plenN i' n' := by
            unfold plenZ at hl
            rw [hb, if_pos rfl] at hl
            exact Int.ofNat.inj hl
          have HR := Lib.hid (fun w h1 h2 => l08Root_in n' h i' n' P u (.slice A P.length c) w (Nat.le_refl _) (by omega) (by omega) HH32.out hl' (all32_at ha) h1 h2)
          have hrl := rootR_length (h := h) (i := i') (n := n') (path := P) HH32.out
          simp only [Int.toNat_natCast]
          generalize rootR h i' n' P = R at HR hrl ⊢
          have HRL : Hid (R.length ≤ 4294967296) := Lib.hid (by omega)
          clear hb hl ha hl' hrl hbb
          generalize plenZ i' n' = Z at HL hne
          go_enter Tryd.func23, Tryd.ntmps23
          go_wp2_with (first
            | (go_at_call 54; refine (HH.out _ HU.out).mono ?_; rintro e w' ⟨rfl, rfl⟩)
            | (go_at_call 55; refine (HI.out _).mono ?_; rintro e w' ⟨rfl, rfl⟩)
            | (go_at_call 56; refine (HL.out _).mono ?_; rintro e w' ⟨rfl, rfl⟩)
            | (go_at_call 57; refine (HA.out _ HV.out).mono ?_; rintro e w' ⟨rfl, rfl⟩)
            | (go_at_call 59; refine (HR.out _ HU.out HV.out).mono ?_; rintro e w1 ⟨x1, rfl, ho1, hb1⟩)
            | (go_at_call 58; refine (l01Copy_any x1 R _ ho1 HRL.out).mono ?_; rintro e w2 ⟨x2, rfl, ho2, hb2⟩))
          go_ret2
          exact ⟨x2, rfl, ho2.mono hb1.size, hb1.trans (hb2.mono hb1.size)⟩
end Go.Proofs.YtlchadbbldkkfaaDoor
