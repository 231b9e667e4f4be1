/- PathRoot: PathRootS, PathRoot. -/
import Derived.Test.YtlchadbbldkkfaaDoorPathLen
import Derived.Test.YtlchadbbldkkfaaDoorPut
import Derived.Test.YtlchadbbldkkfaaDoorMem
import Derived.Test.YtlchadbbldkkfaaDoorTree
import Derived.Deep.RegionHeld3
import Derived.Deep.RegionWith
import Derived.Deep.QuietTactic
import Derived.BigQuiet
import Derived.ControlIn

/- The contracts of l08Hashes, l08Root, PathRoot as their models have them. -/
namespace Go.Proofs.YtlchadbbldkkfaaDoor
open Go.ChangeShapes Go.WideShapes Go.ChangeAt Go.RowKit

/-- Are all rows hashes? -/
def all32 (P : List (List UInt8)) : Bool := P.all fun r => (r.length : Int) == 32
theorem all32_at {P : List (List UInt8)} (h : all32 P = true) : ∀ r ∈ P, r.length = 32 := by
  intro r hr
  have := List.all_eq_true.1 h r hr
  simp at this
  omega
theorem all32_of {P : List (List UInt8)} (h : ∀ r ∈ P, r.length = 32) : all32 P = true := List.all_eq_true.2 fun r hr => by rw [h r hr]; rfl
theorem all32_no {P : List (List UInt8)} {k : Nat} (hk : k < P.length) (h : (P.getD k []).length ≠ 32) : all32 P = false := by
  rcases hb : all32 P with _ | _
  · rfl
  · exact absurd (all32_at hb _ (by simp [List.getD_eq_getElem?_getD, List.getElem?_eq_getElem hk])) h
theorem all32_yes {P : List (List UInt8)} (h : ∀ k, k < P.length → (P.getD k []).length = 32) : all32 P = true := all32_of fun r hr => by
  obtain ⟨k, hk, rfl⟩ := List.mem_iff_getElem.1 hr
  have := h k hk
  simpa [List.getD_eq_getElem?_getD, List.getElem?_eq_getElem hk] using this

set_option maxHeartbeats 1000000 in
theorem l08Hashes_any (v : Value) (P : List (List UInt8)) (w : World) (h : SlS w w.heap.size v P) :
    Calls Tryd.prog 57 #[v] w (fun e w' => e = .returned (.bool (all32 P)) ∧ w = w') := by
  obtain ⟨A, c, rfl, h1, h2, h0, h3⟩ := h
  unfold maxLen at h2
  clear h0
  obtain ⟨R, hR⟩ : ∃ R, R = all32 P := ⟨_, rfl⟩
  rw [← hR]
  have HR := Lib.hid hR
  clear hR
  go_enter Tryd.func57, Tryd.ntmps57
  go_wp2
  go_loopw [7] (fun i wr => ∃ k : Nat, k ≤ P.length ∧ i = .int .i64 k ∧ Hid (∀ j, j < k → (P.getD j []).length = 32) ∧ w = wr)
    (fun i _ => P.length - (intOf i).toNat)
  case atStart => exact ⟨0, Nat.zero_le _, rfl, Lib.hid (fun j hj => by omega), rfl⟩
  case round =>
    obtain ⟨k, hk, rfl, hok, rfl⟩ := hrel
    by_cases hlt : k < P.length
    · obtain ⟨b, off, rfl, hbb, hcell⟩ := h3 (by omega)
      obtain ⟨u, hu, hsl⟩ := hcell k hlt
      have hklt : (k : Int) < (P.length : Int) := by omega
      have HBad : Hid ((P.getD k []).length ≠ 32 → R = false) := Lib.hid fun e => HR.out.trans (all32_no hlt e)
      have HGood : Hid ((P.getD k []).length = 32 → ∀ j, j < k + 1 → (P.getD j []).length = 32) := Lib.hid fun e j hj => by
        rcases Nat.lt_or_ge j k with h | h
        · exact hok.out j h
        · obtain rfl : j = k := by omega
          exact e
      generalize P.getD k [] = l at hsl HBad HGood
      clear hcell hok
      by_cases hlh : l.length = 32
      case neg =>
        obtain rfl := HBad.out hlh
        have hlh2 := hash_no hlh
        clear hlh
        go_wp2_with (go_at_call 54; refine (l07Hash_any u l _ hsl).mono ?_; rw [hlh2]; rintro e w' ⟨rfl, rfl⟩)
        go_ret
        exact ⟨rfl, rfl⟩
      case pos =>
        have hlh2 := hash_yes hlh
        have HG := Lib.hid (HGood.out hlh)
        clear hlh
        go_wp2_with (go_at_call 54; refine (l07Hash_any u l _ hsl).mono ?_; rw [hlh2]; rintro e w' ⟨rfl, rfl⟩)
        go_roundw
        case rel => exact ⟨k + 1, by omega, by go_num, HG, trivial⟩
        case measure => simp [intOf]; omega
    · obtain rfl : k = P.length := by omega
      obtain rfl : R = true := HR.out.trans (all32_yes hok.out)
      go_wp2
      go_ret
      exact ⟨rfl, rfl⟩

/-- The call returns a slice that reads as l; nothing that was there has turned. -/
def Reads (w : World) (l : List UInt8) (e : Ending) (w' : World) : Prop := ∃ x, e = .returned x ∧ Sl w' w'.heap.size x l ∧ Below w.heap.size w w'

set_option maxRecDepth 100000 in
set_option maxHeartbeats 4000000 in
theorem l08Root_in : ∀ (f : Nat) (h : List UInt8) (i n : Nat) (P : List (List UInt8)) (u v : Value) (w : World), n ≤ f → i < n → n ≤ 1048576 → h.length = 32 → P.length = plenN i n → (∀ r ∈ P, r.length = 32) → Sl w w.heap.size u h → SlS w w.heap.size v P →
    Calls Tryd.prog 59 #[u, .int .i64 (i : Int), .int .i64 (n : Int), v] w (Reads w (rootR h i n P)) := by
  intro f
  induction f with
  | zero => intro h i n P u v w hf hi; omega
  | succ f ih =>
    intro h i n P u v w hf hi hn hh hP hall hu hv
    by_cases h1n : n = 1
    · rw [rootR_small (by omega) hi]
      have h1' : ((n : Int) == 1) = true := by simp [h1n]
      have HU := Lib.hid hu
      clear ih hP hall hv h1n hh
      go_enter Tryd.func59, Tryd.ntmps59
      go_wp2
      go_ret
      exact ⟨u, rfl, HU.out, Below.refl _ _⟩
    · have h1' : ((n : Int) == 1) = false := by rw [beq_eq_false_iff_ne]; omega
      have hn2 : 2 ≤ n := by omega
      have hlt := splitN_lt hn2
      have hps := splitN_pos hn2
      have HA := Lib.hid (fun w => specSplitAt_any (n : Int) w (by omega))
      rw [splitZ_nat] at HA
      obtain ⟨A, c, rfl, p1, p2, p0, p3⟩ := hv
      have p2' := p2
      unfold maxLen at p2'
      obtain ⟨last, hlast⟩ : ∃ last, P.length = last + 1 := by
        by_cases hk : i < splitN n
        · exact ⟨_, hP.trans (plenN_left hn2 hk)⟩
        · exact ⟨_, hP.trans (plenN_right hn2 (by omega) hi)⟩
      obtain ⟨bb, off, rfl, hbb, hcell⟩ := p3 (by omega)
      obtain ⟨xv, hx0, hx⟩ := hcell last (by omega)
      have hPs : P = P.take last ++ [P.getD last []] := by
        have := take_getD P last [] (by omega)
        rw [← this, List.take_of_length_le (by omega)]
      have hxl : (P.getD last []).length = 32 := hall _ (by simp [List.getD_eq_getElem?_getD, List.getElem?_eq_getElem (show last < P.length by omega)])
      have ht : SlS w w.heap.size (.slice (some ⟨bb, off, none⟩) last c) (P.take last) := by
        have := slS_cut (L := P) (off := off) (c := c) 0 last p2 hbb hcell (by omega) off c (by omega) (by omega) (Nat.le_refl _)
        simpa using this
      have htl : (P.take last).length = last := by rw [List.length_take]; omega
      have hall2 : ∀ r ∈ P.take last, r.length = 32 := fun r hr => hall r (List.mem_of_mem_take hr)
      have hpl := plenN_left (i := i) hn2
      have hpr := plenN_right (i := i) hn2
      have hrl := rootR_left (h := h) (i := i) (q := P.take last) (r := P.getD last []) hn2
      have hrr := rootR_right (h := h) (i := i) (q := P.take last) (r := P.getD last []) hn2
      rw [← hPs] at hrl hrr
      generalize splitN n = s at hlt hps HA hpl hpr hrl hrr
      have HP := Lib.hid hP
      have HLAST := Lib.hid hlast
      have hm1 : ((last + 1 : Nat) : Int) - 1 = (last : Int) := by omega
      rw [hlast] at p1 ⊢
      obtain ⟨m, hm⟩ : ∃ m, m = last + 1 := ⟨_, rfl⟩
      rw [← hm] at p1 hm1 ⊢
      have hml : (last : Int) < (m : Int) := by omega
      have hml2 : last ≤ m := by omega
      have hml3 : (last : Int) ≤ (m : Int) := by omega
      have hml4 : last ≤ c := by omega
      have hml5 : (last : Int) ≤ (c : Int) := by omega
      have hl0 : (0 : Int) ≤ (last : Int) := by omega
      have HT := Lib.hid ht
      have HX := Lib.hid hx
      have HU := Lib.hid hu
      have HXL := Lib.hid (show (P.getD last []).length ≤ 536870000 by omega)
      have HK0 : Hid (w.drew.cell? ⟨bb, off + last, none⟩ = some xv) := Lib.hid hx0
      have HXC : Hid (∀ w', Below w.heap.size w w' → w'.cell? ⟨bb, off + last, none⟩ = some xv) := Lib.hid fun w' hb => (hb.cell (p := ⟨bb, off + last, none⟩) hbb).trans hx0
      by_cases hk : i < s
      · have hki : (i : Int) < (s : Int) := by omega
        have hlp : last = plenN i s := by have := hpl hk; have := HP.out; have := HLAST.out; omega
        rw [hrl hk (by rw [htl]; exact hlp)]
        have IH := Lib.hid (fun u v w h1 h2 => ih h i s (P.take last) u v w (by omega) hk (by omega) hh (by rw [htl]; exact hlp) hall2 h1 h2)
        have hrlen := rootR_length (h := h) (i := i) (n := s) (path := P.take last) hh
        generalize rootR h i s (P.take last) = R1 at IH hrlen ⊢
        generalize P.getD last [] = x at HX HXL ⊢
        have HRL : Hid (R1.length ≤ 536870000) := Lib.hid (by omega)
        clear ih hP hall hall2 hcell p3 hx hx0 hPs hxl ht htl hpl hpr hrl hrr hlast hm hrlen hlp hu hh p0
        go_enter Tryd.func59, Tryd.ntmps59
        go_wp2_with fail
        refine (HA.out _).mono ?_
        rintro e w' ⟨rfl, hw⟩
        obtain rfl : w = w' := hw.symm
        go_wp2_with fail
        have HD : Hid (Below w.heap.size w w.drew) := Lib.hid (below_drewN (Below.refl _ _) 1)
        go_region_held3 (fun w' => w'.cell? ⟨bb, off + last, none⟩ = some xv)
          (first
            | exact HK0.out
            | exact HK1.out
            | exact HK2.out)
          (first
            | (go_at_call 59; refine (IH.out _ _ w.drew HU.out HT.out).mono ?_; rintro e w1 ⟨x1, rfl, ho1, hb1⟩; have HB1 := Lib.hid (HD.out.trans hb1); have HK1 := Lib.hid (HXC.out _ HB1.out))
            | (go_at_call 78; refine (specNodeHash_any x1 xv R1 x w1 ho1 (HX.out.up HB1.out) HRL.out HXL.out).mono ?_; rintro e w2 ⟨x2, rfl, ho2, hb2⟩; have HB2 := Lib.hid (HB1.out.trans (hb2.mono HB1.out.size)); have HK2 := Lib.hid (HXC.out _ HB2.out)))
        go_wp2
        go_ret
        exact ⟨x2, rfl, ho2.sl, HB2.out⟩
      · have hki : ¬ (i : Int) < (s : Int) := by omega
        have e1 : IntKind.i64.wrap ((i : Int) - (s : Int)) = ((i - s : Nat) : Int) := by rw [IntKind.wrap_i64]; omega
        have e2 : IntKind.i64.wrap ((n : Int) - (s : Int)) = ((n - s : Nat) : Int) := by rw [IntKind.wrap_i64]; omega
        have hjs : i - s < n - s := by omega
        have hx1 : i - s ≤ 1048576 := by omega
        have hx2 : n - s ≤ 1048576 := by omega
        have hlp : last = plenN (i - s) (n - s) := by have := hpr (by omega) hi; have := HP.out; have := HLAST.out; omega
        rw [hrr (by omega) hi (by rw [htl]; exact hlp)]
        have IH := Lib.hid (fun u v w h1 h2 => ih h (i - s) (n - s) (P.take last) u v w (by omega) hjs (by omega) hh (by rw [htl]; exact hlp) hall2 h1 h2)
        have hrlen := rootR_length (h := h) (i := i - s) (n := n - s) (path := P.take last) hh
        clear hlp
        generalize rootR h (i - s) (n - s) (P.take last) = R1 at IH hrlen ⊢
        generalize i - s = i' at e1 IH hjs hx1
        generalize n - s = n' at e2 IH hjs hx2
        generalize P.getD last [] = x at HX HXL ⊢
        have HRL : Hid (R1.length ≤ 536870000) := Lib.hid (by omega)
        clear ih hP hall hall2 hcell p3 hx hx0 hPs hxl ht htl hpl hpr hrl hrr hlast hm hrlen hu hh p0
        go_enter Tryd.func59, Tryd.ntmps59
        go_wp2_with fail
        refine (HA.out _).mono ?_
        rintro e w' ⟨rfl, hw⟩
        obtain rfl : w = w' := hw.symm
        go_wp2_with fail
        have HD : Hid (Below w.heap.size w w.drew) := Lib.hid (below_drewN (Below.refl _ _) 1)
        go_region_held3 (fun w' => w'.cell? ⟨bb, off + last, none⟩ = some xv)
          (first
            | exact HK0.out
            | exact HK1.out
            | exact HK2.out)
          (first
            | (go_at_call 59; refine (IH.out _ _ w.drew HU.out HT.out).mono ?_; rintro e w1 ⟨x1, rfl, ho1, hb1⟩; have HB1 := Lib.hid (HD.out.trans hb1); have HK1 := Lib.hid (HXC.out _ HB1.out))
            | (go_at_call 78; refine (specNodeHash_any xv x1 x R1 w1 (HX.out.up HB1.out) ho1 HXL.out HRL.out).mono ?_; rintro e w2 ⟨x2, rfl, ho2, hb2⟩; have HB2 := Lib.hid (HB1.out.trans (hb2.mono HB1.out.size)); have HK2 := Lib.hid (HXC.out _ HB2.out)))
        go_wp2
        go_ret
        exact ⟨x2, rfl, ho2.sl, HB2.out⟩

/-- The call returns a new row that reads as l, and b; nothing that was there has turned. -/
def FreshB (w : World) (l : List UInt8) (b : Bool) (e : Ending) (w' : World) : Prop := ∃ v, e = .returned (.tuple #[v, .bool b]) ∧ Own 5 w' w.heap.size v l ∧ Below w.heap.size w w'

/-- Is there a root? -/
def rootB (h : List UInt8) (i n : Int) (P : List (List UInt8)) : Bool := decide (h.length = 32 ∧ pathB i n = true ∧ (P.length : Int) = plenZ i n ∧ all32 P = true)
theorem rootB_yes {h : List UInt8} {i n : Int} {P : List (List UInt8)} (e : h.length = 32 ∧ pathB i n = true ∧ (P.length : Int) = plenZ i n ∧ all32 P = true) : rootB h i n P = true := decide_eq_true e
theorem rootB_no {h : List UInt8} {i n : Int} {P : List (List UInt8)} (e : ¬ (h.length = 32 ∧ pathB i n = true ∧ (P.length : Int) = plenZ i n ∧ all32 P = true)) : rootB h i n P = false := decide_eq_false e
/-- The root, none where there is none. -/
def rootP (h : List UInt8) (i n : Int) (P : List (List UInt8)) : List UInt8 := if rootB h i n P = true then rootR h i.toNat n.toNat P else []
theorem rootP_len (h : List UInt8) (i n : Int) (P : List (List UInt8)) : (rootP h i n P).length ≤ 32 := by
  unfold rootP
  split
  · rename_i e
    have e' : h.length = 32 ∧ pathB i n = true ∧ (P.length : Int) = plenZ i n ∧ all32 P = true := of_decide_eq_true e
    rw [rootR_length e'.1]
    omega
  · simp

set_option maxRecDepth 100000 in
set_option maxHeartbeats 4000000 in
theorem specPathRoot_any (u v : Value) (h : List UInt8) (i n : Int) (P : List (List UInt8)) (w : World) (hu : Sl w w.heap.size u h) (hv : SlS w w.heap.size v P) :
    Calls Tryd.prog 23 #[u, .int .i64 i, .int .i64 n, v] w (FreshB w (rootP h i n P) (rootB h i n P)) := by
  have hvs := hv
  obtain ⟨A, c, rfl, p1, p2, p0, p3⟩ := hv
  unfold maxLen at p2
  have HV := Lib.hid hvs
  have HU := Lib.hid hu
  have HH := Lib.hid (fun w (h' : Sl w w.heap.size u h) => l07Hash_any u h w h')
  have HI := Lib.hid (fun w => l08In_any i n w)
  have HL := Lib.hid (fun w => specPathLen_any i n w)
  have HA := Lib.hid (fun w (h' : SlS w w.heap.size (.slice A P.length c) P) => l08Hashes_any _ P w h')
  unfold rootP
  clear p0 p3 hu hvs
  by_cases hh : h.length = 32
  case neg =>
    rw [rootB_no (fun e => hh e.1), if_neg (by decide)]
    have hh2 := hash_no hh
    rw [hh2] at HH
    clear hh hh2
    go_enter Tryd.func23, Tryd.ntmps23
    go_wp2_with (go_at_call 54; refine (HH.out _ HU.out).mono ?_; rintro e w' ⟨rfl, rfl⟩)
    go_ret2
    exact ⟨_, rfl, World.ownsRow_nil _ _ _ _, Below.refl _ _⟩
  case pos =>
    have hh2 := hash_yes hh
    rw [hh2] at HH
    have HH32 := Lib.hid hh
    clear hh hh2
    cases hb : pathB i n with
    | false =>
      rw [rootB_no (fun e => by rw [hb] at e; exact absurd e.2.1 (by decide)), if_neg (by decide)]
      rw [hb] at HI
      clear hb
      go_enter Tryd.func23, Tryd.ntmps23
      go_wp2_with (first
        | (go_at_call 54; refine (HH.out _ HU.out).mono ?_; rintro e w' ⟨rfl, rfl⟩)
        | (go_at_call 55; refine (HI.out _).mono ?_; rintro e w' ⟨rfl, rfl⟩))
      go_ret2
      exact ⟨_, rfl, World.ownsRow_nil _ _ _ _, Below.refl _ _⟩
    | true =>
      rw [hb] at HI
      by_cases hl : (P.length : Int) = plenZ i n
      case neg =>
        rw [rootB_no (fun e => hl e.2.2.1), if_neg (by decide)]
        have hne : ((P.length : Int) != plenZ i n) = true := by rw [bne_iff_ne]; exact hl
        clear hb hl
        generalize plenZ i n = Z at HL hne
        go_enter Tryd.func23, Tryd.ntmps23
        go_wp2_with (first
          | (go_at_call 54; refine (HH.out _ HU.out).mono ?_; rintro e w' ⟨rfl, rfl⟩)
          | (go_at_call 55; refine (HI.out _).mono ?_; rintro e w' ⟨rfl, rfl⟩)
          | (go_at_call 56; refine (HL.out _).mono ?_; rintro e w' ⟨rfl, rfl⟩))
        go_ret2
        exact ⟨_, rfl, World.ownsRow_nil _ _ _ _, Below.refl _ _⟩
      case pos =>
        have hne : ((P.length : Int) != plenZ i n) = false := by rw [hl]; simp
        cases ha : all32 P with
        | false =>
          rw [rootB_no (fun e => by rw [ha] at e; exact absurd e.2.2.2 (by decide)), if_neg (by decide)]
          rw [ha] at HA
          clear hb hl ha
          generalize plenZ i n = Z at HL hne
          go_enter Tryd.func23, Tryd.ntmps23
          go_wp2_with (first
            | (go_at_call 54; refine (HH.out _ HU.out).mono ?_; rintro e w' ⟨rfl, rfl⟩)
            | (go_at_call 55; refine (HI.out _).mono ?_; rintro e w' ⟨rfl, rfl⟩)
            | (go_at_call 56; refine (HL.out _).mono ?_; rintro e w' ⟨rfl, rfl⟩)
            | (go_at_call 57; refine (HA.out _ HV.out).mono ?_; rintro e w' ⟨rfl, rfl⟩))
          go_ret2
          exact ⟨_, rfl, World.ownsRow_nil _ _ _ _, Below.refl _ _⟩
        | true =>
          rw [rootB_yes ⟨HH32.out, hb, hl, ha⟩, if_pos rfl]
          rw [ha] at HA
          have hbb : 1 ≤ n ∧ n ≤ 1048576 ∧ 0 ≤ i ∧ i < n := of_decide_eq_true hb
          obtain ⟨i', rfl⟩ := Int.eq_ofNat_of_zero_le hbb.2.2.1
          obtain ⟨n', rfl⟩ := Int.eq_ofNat_of_zero_le (show 0 ≤ n by omega)
          have hl' : P.length = plenN i' n' := by
            unfold plenZ at hl
            rw [hb, if_pos rfl] at hl
            exact Int.ofNat.inj hl
          have HR := Lib.hid (fun w h1 h2 => l08Root_in n' h i' n' P u (.slice A P.length c) w (Nat.le_refl _) (by omega) (by omega) HH32.out hl' (all32_at ha) h1 h2)
          have hrl := rootR_length (h := h) (i := i') (n := n') (path := P) HH32.out
          simp only [Int.toNat_natCast]
          generalize rootR h i' n' P = R at HR hrl ⊢
          have HRL : Hid (R.length ≤ 4294967296) := Lib.hid (by omega)
          clear hb hl ha hl' hrl hbb
          generalize plenZ i' n' = Z at HL hne
          go_enter Tryd.func23, Tryd.ntmps23
          go_wp2_with (first
            | (go_at_call 54; refine (HH.out _ HU.out).mono ?_; rintro e w' ⟨rfl, rfl⟩)
            | (go_at_call 55; refine (HI.out _).mono ?_; rintro e w' ⟨rfl, rfl⟩)
            | (go_at_call 56; refine (HL.out _).mono ?_; rintro e w' ⟨rfl, rfl⟩)
            | (go_at_call 57; refine (HA.out _ HV.out).mono ?_; rintro e w' ⟨rfl, rfl⟩)
            | (go_at_call 59; refine (HR.out _ HU.out HV.out).mono ?_; rintro e w1 ⟨x1, rfl, ho1, hb1⟩)
            | (go_at_call 58; refine (l01Copy_any x1 R _ ho1 HRL.out).mono ?_; rintro e w2 ⟨x2, rfl, ho2, hb2⟩))
          go_ret2
          exact ⟨x2, rfl, ho2.mono hb1.size, hb1.trans (hb2.mono hb1.size)⟩
end Go.Proofs.YtlchadbbldkkfaaDoor

/- The contracts of areHashes and PathRoot as the program has them: a range over the parts beside a leaf that goes up to the root. -/
namespace Go.Proofs.YtlchadbbldkkfaaDoor
open Go.ChangeShapes Go.WideShapes Go.ChangeAt Go.RowKit Go.Shelf

/-- Are they so many, and hashes all of them? -/
def hashesB (P : List (List UInt8)) (z : Int) : Bool := decide ((P.length : Int) = z ∧ all32 P = true)
theorem hashesB_yes {P : List (List UInt8)} {z : Int} (e : (P.length : Int) = z ∧ all32 P = true) : hashesB P z = true := decide_eq_true e
theorem hashesB_no {P : List (List UInt8)} {z : Int} (e : ¬ ((P.length : Int) = z ∧ all32 P = true)) : hashesB P z = false := decide_eq_false e

set_option maxHeartbeats 2000000 in
theorem areHashes_any (v : Value) (P : List (List UInt8)) (z : Int) (w : World) (h : SlS w w.heap.size v P) :
    Calls Tryd.prog 46 #[v, .int .i64 z] w (fun e w' => e = .returned (.bool (hashesB P z)) ∧ w = w') := by
  obtain ⟨A, c, rfl, h1, h2, h0, h3⟩ := h
  unfold maxLen at h2
  clear h0
  by_cases hl : (P.length : Int) = z
  case neg =>
    rw [hashesB_no (fun e => hl e.1)]
    have hne : ((P.length : Int) != z) = true := by rw [bne_iff_ne]; exact hl
    clear hl h3
    go_enter Tryd.func46, Tryd.ntmps46
    go_wp2
    go_ret
    exact ⟨rfl, rfl⟩
  case pos =>
    have hne : ((P.length : Int) != z) = false := by rw [hl]; simp
    obtain ⟨R, hR⟩ : ∃ R, R = all32 P := ⟨_, rfl⟩
    have hres : hashesB P z = R := by
      cases ha : all32 P with
      | false => rw [hR, ha]; exact hashesB_no (fun e => by rw [ha] at e; exact absurd e.2 (by decide))
      | true => rw [hR, ha]; exact hashesB_yes ⟨hl, ha⟩
    rw [hres]
    have HR := Lib.hid hR
    clear hl hres hR
    go_enter Tryd.func46, Tryd.ntmps46
    go_wp2
    go_loopw [13] (fun j wr => ∃ k : Nat, k ≤ P.length ∧ j = .int .i64 k ∧ Hid (∀ j, j < k → (P.getD j []).length = 32) ∧ w = wr)
      (fun i _ => P.length - (intOf i).toNat)
    case atStart => exact ⟨0, Nat.zero_le _, rfl, Lib.hid (fun j hj => by omega), rfl⟩
    case round =>
      obtain ⟨k, hk, rfl, hok, rfl⟩ := hrel
      by_cases hlt : k < P.length
      · obtain ⟨b, off, rfl, hbb, hcell⟩ := h3 (by omega)
        obtain ⟨u, hu, hsl⟩ := hcell k hlt
        have hklt : (k : Int) < (P.length : Int) := by omega
        have HBad : Hid ((P.getD k []).length ≠ 32 → R = false) := Lib.hid fun e => HR.out.trans (all32_no hlt e)
        have HGood : Hid ((P.getD k []).length = 32 → ∀ j, j < k + 1 → (P.getD j []).length = 32) := Lib.hid fun e j hj => by
          rcases Nat.lt_or_ge j k with h | h
          · exact hok.out j h
          · obtain rfl : j = k := by omega
            exact e
        generalize P.getD k [] = l at hsl HBad HGood
        clear hcell hok
        by_cases hlh : l.length = 32
        case neg =>
          obtain rfl := HBad.out hlh
          have hlh2 := hash_no hlh
          clear hlh
          go_wp2_with (go_at_call 44; refine (isHash_any u l _ hsl).mono ?_; rw [hlh2]; rintro e w' ⟨rfl, rfl⟩)
          go_ret
          exact ⟨rfl, rfl⟩
        case pos =>
          have hlh2 := hash_yes hlh
          have HG := Lib.hid (HGood.out hlh)
          clear hlh
          go_wp2_with (go_at_call 44; refine (isHash_any u l _ hsl).mono ?_; rw [hlh2]; rintro e w' ⟨rfl, rfl⟩)
          go_roundw
          case rel => exact ⟨k + 1, by omega, by go_num, HG, trivial⟩
          case measure => simp [intOf]; omega
      · obtain rfl : k = P.length := by omega
        obtain rfl : R = true := HR.out.trans (all32_yes hok.out)
        go_wp2
        go_ret
        exact ⟨rfl, rfl⟩

/-- The root after the rounds of pre. -/
def accR {n : Nat} (i : Nat) (h : List UInt8) (P : List (List UInt8)) (pre : List (PA n)) : List UInt8 := ((pre.map fun x => x.1).zip (P.take pre.length)).foldl (stepR i) h
theorem accR_snoc {n : Nat} {i : Nat} {h : List UInt8} {P : List (List UInt8)} {pre : List (PA n)} (x : PA n) (hk : pre.length < P.length) : accR i h P (pre ++ [x]) = stepR i (accR i h P pre) (x.1, P.getD pre.length []) := by
  unfold accR
  rw [List.length_append, List.map_append]
  simp only [List.length_singleton, List.map_cons, List.map_nil]
  rw [take_getD P _ [] hk, List.zip_append (by rw [List.length_map, List.length_take]; omega), List.foldl_append]
  rfl
theorem accR_nil {n : Nat} (i : Nat) (h : List UInt8) (P : List (List UInt8)) : accR (n := n) i h P [] = h := rfl
theorem accR_all {n : Nat} {i : Nat} {h : List UInt8} {P : List (List UInt8)} {zs : List (PA n)} (hz : zs.map (fun x => x.1) = prt i n) (hP : P.length = zs.length) : accR i h P zs = rootR h i n P := by
  unfold accR rootR
  rw [hz, List.take_of_length_le (by omega)]
theorem stepR_length {i : Nat} {f : List UInt8} {q : (Nat × Nat) × List UInt8} : (stepR i f q).length = 32 := by
  unfold stepR
  split
  · exact nodeL_length _ _
  · exact nodeL_length _ _

/-- What a round of PathRoot keeps: the root so far, the rest of the path, the variable of the leaf. -/
def PrtI {n : Nat} (i : Nat) (h : List UInt8) (P : List (List UInt8)) (w : World) (B S b off c : Nat) (pre : List (PA n)) (W : World) : Prop :=
  (∃ v, Boxed W S 22 v ∧ W.ownsRow B 5 1 v (accR i h P pre).length (us (accR i h P pre)) ∧ (accR i h P pre).length = 32) ∧ Boxed W B 3 (.int .i64 (i : Int)) ∧
    (∃ A', (pre.length < P.length → A' = some ⟨b, off + pre.length, none⟩) ∧ Boxed W (B + 1) 23 (.slice A' (P.length - pre.length) (c - pre.length))) ∧ Below B w W ∧ S + 2 < W.heap.size
theorem PrtI.own {n : Nat} (i : Nat) (h : List UInt8) (P : List (List UInt8)) (w : World) (B S b off c B' : Nat) (h1 : B ≤ w.heap.size) (h2 : B ≤ B') : OwnFrom B' (PrtI (n := n) i h P w B S b off c) :=
  OwnFrom.and (Go.Own.from (holdsRow_own B S 22 5 1 (fun pre : List (PA n) => (accR i h P pre).length) (fun pre => us (accR i h P pre)) (fun pre _ => (accR i h P pre).length = 32)) _)
    (OwnFrom.and (ownFrom_boxed B' B _ fun _ => .int .i64 (i : Int)) (OwnFrom.and (fun pre W W' row hs hg hr => by
      obtain ⟨A', e, hb⟩ := hs
      exact ⟨A', e, ownFrom_boxed (β := Unit) B' (B + 1) _ (fun _ => .slice A' (P.length - pre.length) (c - pre.length)) () W W' row hb hg hr⟩) (OwnFrom.and (ownFrom_below h1 h2) (ownFrom_size B' (S + 2)))))

/-- A round of PathRoot has been gone through: the rest of the path stored, the new root made and stored. -/
theorem prt_step {n : Nat} {i : Nat} {h : List UInt8} {P : List (List UInt8)} {w W W3 : World} {B S b off c D : Nat} {q : List (PA n)} {pv v v' : Value} {N : List UInt8} (hBS : B + 1 < S) (hsw : S + 2 < W.heap.size)
    (hb3 : Below (W.setCell ⟨B + 1, 0, none⟩ pv).heap.size (W.setCell ⟨B + 1, 0, none⟩ pv) W3) (hbi : Boxed (W.setCell ⟨B + 1, 0, none⟩ pv) B 3 (.int .i64 (i : Int))) (hbp : Boxed (W.setCell ⟨B + 1, 0, none⟩ pv) (B + 1) 23 pv)
    (hv3 : Boxed W3 S 22 v) (hbw : Below B w (W.setCell ⟨B + 1, 0, none⟩ pv)) (ho3 : Own 5 W3 (W.setCell ⟨B + 1, 0, none⟩ pv).heap.size v' N) (hst : accR i h P q = N) (hN : N.length = 32)
    (hp : ∃ A', (q.length < P.length → A' = some ⟨b, off + q.length, none⟩) ∧ pv = .slice A' (P.length - q.length) (c - q.length)) :
    KeepsFrom D W (W3.setCell ⟨S, 0, none⟩ v') ∧ KpP B (S + 1) (S + 1 + 1) W (W3.setCell ⟨S, 0, none⟩ v') ∧ PrtI i h P w B S b off c q (W3.setCell ⟨S, 0, none⟩ v') := by
  have hsz : (W.setCell ⟨B + 1, 0, none⟩ pv).heap.size = W.heap.size := by simp [World.setCell]
  have hsz3 := hb3.size
  have hg3 := grown_of_below hb3 none
  refine ⟨((KeepsOthers.setCell _ _ _).from _).trans ((KeepsFrom.of_grownBy hg3 fun j e => by cases e).trans ((KeepsOthers.setCell _ _ _).from _)),
    ⟨(((Below.refl B W).setCell (p := ⟨B + 1, 0, none⟩) (by simp) pv).trans (hb3.mono (by omega))).setCell (p := ⟨S, 0, none⟩) (show B ≤ S by omega) _, ?_, ?_⟩, ⟨v', hv3.set _, ?_, by rw [hst]; exact hN⟩, (hbi.kept hg3 (by simp)).other (by omega) _, ?_, (hbw.trans (hb3.mono (by omega))).setCell (p := ⟨S, 0, none⟩) (show B ≤ S by omega) _, ?_⟩
  · exact (Below.heap_setCell _ _ _ _ (show S + 1 ≠ S by omega)).trans ((hb3.block _ (by omega)).trans (Below.heap_setCell _ _ _ _ (show S + 1 ≠ B + 1 by omega)))
  · exact (Below.heap_setCell _ _ _ _ (show S + 1 + 1 ≠ S by omega)).trans ((hb3.block _ (by omega)).trans (Below.heap_setCell _ _ _ _ (show S + 1 + 1 ≠ B + 1 by omega)))
  · rw [hst]
    have h1 : Own 5 W3 B v' N := ho3.mono (by omega)
    exact h1.kept (grownBy_setCell' _ _ _) (.inr (hv3.not_row (by decide) h1).symm)
  · obtain ⟨A', h1, rfl⟩ := hp
    exact ⟨A', h1, (hbp.kept hg3 (by simp)).other (by omega) _⟩
  · have := (grownBy_setCell' W3 S v').size
    omega

attribute [local go_sem] Oper.semAt_some

set_option maxRecDepth 100000 in
set_option maxHeartbeats 4000000 in
theorem implPathRoot_in (u v : Value) (h : List UInt8) (i n : Nat) (P : List (List UInt8)) (w : World) (hu : Sl w w.heap.size u h) (hv : SlS w w.heap.size v P) (hh : h.length = 32) (hi : i < n) (hn : n ≤ 1048576) (hP : P.length = plenN i n) (hall : ∀ r ∈ P, r.length = 32)
    (hI : Glob w 0 initW) (hG : Glob w 1 kk) :
    Calls Tryd.prog 13 #[u, .int .i64 (i : Int), .int .i64 (n : Int), v] w (FreshB w (rootR h i n P) true) := by
  have hok : hashesB P (plenZ (i : Int) (n : Int)) = true := hashesB_yes ⟨by unfold plenZ; rw [if_pos (pathB_yes (by omega))]; simp [hP], all32_of hall⟩
  obtain ⟨A, c, rfl, p1, p2, p0, p3⟩ := id hv
  have p2' := p2
  unfold maxLen at p2'
  have hb1 : Below w.heap.size w ((w.alloc (.cells #[.int .i64 (i : Int)] 3)).alloc (.cells #[.slice A P.length c] 23)).drew := below_drewN (((Below.refl _ w).alloc (Nat.le_refl _) _).alloc (by simp) _) 1
  have HIH : Hid (∀ w' (h' : Sl w' w'.heap.size u h), Calls Tryd.prog 44 #[u] w' (fun e w2 => e = .returned (.bool true) ∧ w' = w2)) := Lib.hid fun w' h' => by
    have := isHash_any u h w' h'
    rwa [hash_yes hh] at this
  have HHP := Lib.hid (fun w => hasPath_any (i : Int) (n : Int) w)
  rw [pathB_yes (by omega)] at HHP
  have HPL := Lib.hid (fun w => implPathLen_any (i : Int) (n : Int) w)
  have HAH : Hid (∀ w' (h' : SlS w' w'.heap.size (.slice A P.length c) P), Calls Tryd.prog 46 #[.slice A P.length c, .int .i64 (plenZ (i : Int) (n : Int))] w' (fun e w2 => e = .returned (.bool true) ∧ w' = w2)) := Lib.hid fun w' h' => by
    have := areHashes_any (.slice A P.length c) P (plenZ (i : Int) (n : Int)) w' h'
    rwa [hok] at this
  generalize plenZ (i : Int) (n : Int) = Z at HPL HAH hok
  have HU := Lib.hid (hu.up hb1)
  have HV := Lib.hid (hv.up hb1)
  have HU0 := Lib.hid hu
  have hh4 : h.length ≤ 4294967296 := by omega
  have HHH := Lib.hid hh
  have HCI : Hid (((w.alloc (.cells #[.int .i64 (i : Int)] 3)).alloc (.cells #[.slice A P.length c] 23)).cell? ⟨w.heap.size, 0, none⟩ = some (.int .i64 (i : Int))) := Lib.hid (by simp)
  have HCP : Hid (((w.alloc (.cells #[.int .i64 (i : Int)] 3)).alloc (.cells #[.slice A P.length c] 23)).cell? ⟨w.heap.size + 1, 0, none⟩ = some (.slice A P.length c)) := Lib.hid (by simp)
  have HP := Lib.hid hP
  have HALL := Lib.hid hall
  clear hok hu hh p0 hP hall p3
  refine (callsIn_wide (n := 3)).1 ?_
  refine callsIn_of_wp_marks Tryd.func13 rfl trivial ?_ rfl
  simp only [Tryd.ntmps13, List.size_toArray, List.length_cons, List.length_nil, Nat.reduceAdd, Nat.reduceSub, Array.replicate_succ, Array.replicate_zero, List.push_toArray, List.append_toArray, List.nil_append, List.cons_append]
  have HK0 : Hid (((w.alloc (.cells #[.int .i64 (i : Int)] 3)).alloc (.cells #[.slice A P.length c] 23)).drew.cell? ⟨w.heap.size, 0, none⟩ = some (.int .i64 (i : Int)) ∧ ((w.alloc (.cells #[.int .i64 (i : Int)] 3)).alloc (.cells #[.slice A P.length c] 23)).drew.cell? ⟨w.heap.size + 1, 0, none⟩ = some (.slice A P.length c)) := Lib.hid ⟨HCI.out, HCP.out⟩
  gi_wp2
  refine wpIn_wide.2 ?_
  go_region_held3 (fun w' => w'.cell? ⟨w.heap.size, 0, none⟩ = some (.int .i64 (i : Int)) ∧ w'.cell? ⟨w.heap.size + 1, 0, none⟩ = some (.slice A P.length c))
    (first
      | exact HK0.out
      | exact HK2.out)
    (first
      | (go_at_call 44; refine (HIH.out _ HU.out).mono ?_; rintro e w' ⟨rfl, rfl⟩)
      | (go_at_call 45; refine (HHP.out _).mono ?_; rintro e w' ⟨rfl, rfl⟩)
      | (go_at_call 15; refine (HPL.out _).mono ?_; rintro e w2 ⟨rfl, hb2⟩; have HB2 := Lib.hid hb2; have hu2 := HU.out.up hb2; have HV2 := Lib.hid (HV.out.up hb2); have hcI2 := (hb2.cell (p := ⟨w.heap.size, 0, none⟩) (by simp; omega)).trans HCI.out; have hcP2 := (hb2.cell (p := ⟨w.heap.size + 1, 0, none⟩) (by simp)).trans HCP.out; have HK2 := Lib.hid (And.intro hcI2 hcP2); clear hb2)
      | (go_at_call 46; refine (HAH.out _ HV2.out).mono ?_; rintro e w' ⟨rfl, rfl⟩))
  rename_i K hK hHeld
  refine hK _ _ ?_
  clear hK hHeld
  gi_wp2
  refine ⟨trivial, ?_⟩
  refine (callsIn_wide.2 (joined_any _ u [] h _ Sl.nil_ hu2 (by simp) hh4)).mono ?_
  rw [List.nil_append]
  rintro e w3 ⟨u3, rfl, ho3, hb3⟩
  have HO3 := Lib.hid ho3
  have HB3 := Lib.hid hb3
  obtain ⟨A3, c3, rfl, n1, n2, n0, n3⟩ := ho3.sl
  have hsz2 : w.heap.size + 1 + 1 ≤ w2.heap.size := by
    have := HB2.out.size
    simpa using this
  have hcI3 := (hb3.cell (p := ⟨w.heap.size, 0, none⟩) (show w.heap.size < w2.heap.size by omega)).trans hcI2
  have hcP3 := (hb3.cell (p := ⟨w.heap.size + 1, 0, none⟩) (show w.heap.size + 1 < w2.heap.size by omega)).trans hcP2
  have hsz3 := HB3.out.size
  have hcI4 := (((Below.refl w3.heap.size w3).alloc (Nat.le_refl _) (.cells #[.slice A3 h.length c3] 22)).cell (p := ⟨w.heap.size, 0, none⟩) (show w.heap.size < w3.heap.size by omega)).trans hcI3
  clear n1 n2 n0 n3 ho3 hb3 hu2 hcI2 hcP2 hcI3 hcP3
  gi_wp2_with (refine ⟨trivial, ?_⟩; gi_at_call 43; refine (parts_in _ _ _ _).mono ?_; rintro e w' ⟨rfl, rfl⟩)
  obtain ⟨B, hB⟩ : ∃ B, B = w.heap.size := ⟨_, rfl⟩
  obtain ⟨S, hS⟩ : ∃ S, S = w3.heap.size := ⟨_, rfl⟩
  have bO := Boxed.new w3 22 (.slice A3 h.length c3)
  have bI := Boxed.new (w3.alloc (.cells #[.slice A3 h.length c3] 22)) 3 (.int .i64 (i : Int))
  have bN := Boxed.new ((w3.alloc (.cells #[.slice A3 h.length c3] 22)).alloc (.cells #[.int .i64 (i : Int)] 3)) 3 (.int .i64 (n : Int))
  rw [World.size_alloc, ← hS] at bI
  rw [World.size_alloc, World.size_alloc, ← hS] at bN
  replace bO := (bO.alloc (.cells #[.int .i64 (i : Int)] 3)).alloc (.cells #[.int .i64 (n : Int)] 3)
  replace bI := bI.alloc (.cells #[.int .i64 (n : Int)] 3)
  rw [← hS] at bO
  have b0 : Boxed ((w.alloc (.cells #[.int .i64 (i : Int)] 3)).alloc (.cells #[.slice A P.length c] 23)).drew w.heap.size 3 (.int .i64 (i : Int)) := ((Boxed.new w 3 (.int .i64 (i : Int))).alloc (.cells #[.slice A P.length c] 23))
  have b1 : Boxed ((w.alloc (.cells #[.int .i64 (i : Int)] 3)).alloc (.cells #[.slice A P.length c] 23)).drew (w.alloc (.cells #[.int .i64 (i : Int)] 3)).heap.size 23 (.slice A P.length c) := Boxed.new (w.alloc (.cells #[.int .i64 (i : Int)] 3)) 23 (.slice A P.length c)
  rw [World.size_alloc] at b1
  rw [← hB] at b0 b1
  replace b0 := (((((b0.kept (grown_of_below HB2.out none) (by simp)).kept (grown_of_below HB3.out none) (by simp)).alloc (.cells #[.slice A3 h.length c3] 22)).alloc (.cells #[.int .i64 (i : Int)] 3)).alloc (.cells #[.int .i64 (n : Int)] 3))
  replace b1 := (((((b1.kept (grown_of_below HB2.out none) (by simp)).kept (grown_of_below HB3.out none) (by simp)).alloc (.cells #[.slice A3 h.length c3] 22)).alloc (.cells #[.int .i64 (i : Int)] 3)).alloc (.cells #[.int .i64 (n : Int)] 3))
  have hsz2 : w.heap.size + 1 + 1 ≤ w2.heap.size := by
    have := HB2.out.size
    simpa using this
  have hsz3 := HB3.out.size
  have hBS : B + 1 < S := by omega
  have hb3 : Below w.heap.size w w3 := (hb1.trans (HB2.out.mono (by simp; omega))).trans (HB3.out.mono (by omega))
  have hBL : Below B w (((w3.alloc (.cells #[.slice A3 h.length c3] 22)).alloc (.cells #[.int .i64 (i : Int)] 3)).alloc (.cells #[.int .i64 (n : Int)] 3)) := by
    rw [hB]
    exact ((hb3.alloc (by omega) _).alloc (by simp; omega) _).alloc (by simp; omega) _
  have hO4 := (HO3.out.up ((((Below.refl _ w3).alloc (Nat.le_refl _) (.cells #[.slice A3 h.length c3] 22)).alloc (by simp) (.cells #[.int .i64 (i : Int)] 3)).alloc (by simp; omega) (.cells #[.int .i64 (n : Int)] 3))).mono (show B ≤ w2.heap.size by omega)
  have hsz4 : (((w3.alloc (.cells #[.slice A3 h.length c3] 22)).alloc (.cells #[.int .i64 (i : Int)] 3)).alloc (.cells #[.int .i64 (n : Int)] 3)).heap.size = S + 3 := by simp [hS]
  rw [← hB, ← hS]
  generalize ((w3.alloc (.cells #[.slice A3 h.length c3] 22)).alloc (.cells #[.int .i64 (i : Int)] 3)).alloc (.cells #[.int .i64 (n : Int)] 3) = w4 at bO bI bN b0 b1 hBL hO4 hsz4 ⊢
  obtain ⟨b, off, hbo⟩ : ∃ b off, 0 < P.length → A = some ⟨b, off, none⟩ ∧ b < w.heap.size ∧ ∀ k, k < P.length → ∃ u, w.cell? ⟨b, off + k, none⟩ = some u ∧ Sl w w.heap.size u (P.getD k []) := by
    by_cases h0 : 0 < P.length
    · obtain ⟨A', c', e', _, _, _, h3⟩ := hv
      simp only [Value.slice.injEq, true_and] at e'
      obtain ⟨rfl, rfl⟩ := e'
      obtain ⟨b, off, h⟩ := h3 h0
      exact ⟨b, off, fun _ => h⟩
    · exact ⟨0, 0, fun h => absurd h h0⟩
  obtain ⟨zs, hzs⟩ := prt_sub i n
  have HZ := Lib.hid hzs
  have HZL : Hid (P.length = zs.length) := Lib.hid (HP.out.trans (zs_len hzs).symm)
  have HBO := Lib.hid hbo
  have HB := Lib.hid hB
  have hOI := PrtI.own (n := n) i h P w B S b off c w4.heap.size (Nat.le_of_eq hB) (by omega)
  have hI0 : PrtI (n := n) i h P w B S b off c [] w4 := ⟨⟨_, bO, hO4, HHH.out⟩, b0, ⟨A, fun h0 => (HBO.out h0).1, b1⟩, hBL, by omega⟩
  have HCI5 := Lib.hid b0.cell
  clear hbo hzs hO4 bO b0 b1 hB hS hsz2 hsz3 hb3 hv hcI4 hb1 HIH HHP HPL HAH HU HV HU0 HB2 HB3 HO3 HCI HCP HK0 HK2 HV2
  refine wpIn_rangeFunc_ownH (w0 := w4) (N := zs.length) (S := fun ys => ys = zs) (Sp := fun _ => True) (Kp := KpP B (S + 1) (S + 1 + 1)) (encs := fun x : PA n => #[.agg #[.int .i64 (x.1.1 : Int), .int .i64 (x.1.2 : Int)]]) rfl (by omega)
    (gf := 74) (lb := #[.pointer (some ⟨S + 1, 0, none⟩), .pointer (some ⟨S + 1 + 1, 0, none⟩)]) rfl trivial (enters_of Tryd.func74 (by kernel_rfl) rfl)
    (fun l' J Jx W hW hJ _ hY h0 => ?seq) KpP.trans (kpP_b (by omega) (by omega) (by omega)) (Below.refl _ _) (fun _ => rfl)
    (PrtI i h P w B S b off c)
    (fun _ _ _ => False) hOI (fun _ _ _ _ _ hs _ _ => hs) hI0
    (fun x a' W => ∃ k, a' = { tmps := #[u, .int .i64 (i : Int), .int .i64 (n : Int), .slice A P.length c, undef, .pointer (some ⟨B, 0, none⟩), undef, .pointer (some ⟨B + 1, 0, none⟩), .slice none 0 0, .bool false, .pointer (some ⟨S, 0, none⟩), .pointer (some ⟨k, 0, none⟩), undef, u, .bool true, .bool false, .bool false, .int .i64 (i : Int), .int .i64 (n : Int), .bool true, .bool false, .bool false, .bool false, .slice A P.length c, .int .i64 (i : Int), .int .i64 (n : Int), .int .i64 Z, .bool true, .bool false, .bool false, u, .slice A3 h.length c3, .int .i64 (i : Int), .int .i64 (n : Int),
      .func (.func 74) #[] #[.pointer (some ⟨S + 1, 0, none⟩), .pointer (some ⟨S + 1 + 1, 0, none⟩)], .agg #[.int .i64 (x.1.1 : Int), .int .i64 (x.1.2 : Int)], undef, undef, undef, undef, undef, undef, undef, undef, undef, undef, undef, undef, undef, undef, undef, undef], defers := [] } ∧
      S < k ∧ k < W.heap.size ∧ W.cell? ⟨k, 0, none⟩ = some (.int .i64 (x.1.1 : Int)))
    (fun x a' _ W W' row h hg hr => by
      obtain ⟨k, e, hS, hk, h1⟩ := h
      exact ⟨k, e, hS, Nat.lt_of_lt_of_le hk hg.size, cell_kept h1 hg (fun r e => (hr r e).2)⟩) ?assign ?body ?done ?stop
  case seq =>
    refine parts1_in i zs HZ.out hi (by omega) _ (by omega) l' (S + 1) (S + 1 + 1) B J Jx hY W ?_ ?_ ?_
    · exact (hW.cell (p := ⟨S + 1, 0, none⟩) (by simp; omega)).trans bI.cell
    · exact (hW.cell (p := ⟨S + 1 + 1, 0, none⟩) (by simp; omega)).trans bN.cell
    · exact hJ _ _ _ none h0 ⟨rfl, rfl, rfl, Nat.le_refl _, fun _ _ _ => rfl⟩ (fun _ e => by cases e)
  case assign =>
    intro l' pre x W K hIp hK
    have hs4 := hIp.2.2.2.2
    gi_wp2
    exact hK _ _ ((KeepsOthers.alloc _ _).from _) ⟨(Below.refl _ W).alloc (by omega) _, Below.heap_alloc _ _ _ (by omega), Below.heap_alloc _ _ _ (by omega)⟩ (hOI.alloc _ hIp) ⟨W.heap.size, rfl, by omega, by simp, by simp⟩
  case body =>
    rintro l' pre x a' W hlB _ ⟨⟨v, hv, ho, hl32⟩, hbi, ⟨A', hA', hbp⟩, hbw, hsw⟩ ⟨k, rfl, hkS, hkw, hk0⟩ hpl
    have hplP : pre.length < P.length := by have := HZL.out; omega
    obtain rfl := hA' hplP
    have hsn := accR_snoc (i := i) (h := h) (P := P) x hplP
    obtain ⟨e0, hbb, hcell⟩ := HBO.out (by omega)
    obtain ⟨xv, hx0, hx⟩ := hcell pre.length hplP
    have hxl : (P.getD pre.length []).length = 32 := HALL.out _ (by simp [List.getD_eq_getElem?_getD, List.getElem?_eq_getElem hplP])
    have HLN := Lib.hid (show (pre ++ [x]).length = pre.length + 1 by simp)
    clear hcell hA' e0
    have HX := Lib.hid hx
    have hxc := (hbw.cell (p := ⟨b, off + pre.length, none⟩) (by rw [HB.out]; exact hbb)).trans hx0
    have hic := hbi.cell
    have hpc := hbp.cell
    have hpf := hbp.frozen
    have hplt := hbp.lt
    have hvc := hv.cell
    have hvf := hv.frozen
    have HO : Hid (Own 5 W B v (accR i h P pre)) := Lib.hid ho
    obtain ⟨r, hr⟩ : ∃ r, r = P.length - pre.length := ⟨_, rfl⟩
    obtain ⟨cq, hcq⟩ : ∃ cq, cq = c - pre.length := ⟨_, rfl⟩
    rw [← hr, ← hcq] at hpc hbp
    have hr0 : 0 < r := by omega
    have hr1 : (0 : Int) < (r : Int) := by omega
    have hr2 : (1 : Int) ≤ (r : Int) := by omega
    have hr3 : r ≤ cq := by omega
    have hr4 : (r : Int) ≤ (cq : Int) := by omega
    have hcq4 : cq ≤ 9223372036854775807 := by omega
    have HRC := Lib.hid (And.intro hr hcq)
    generalize accR i h P pre = f at hsn HO hl32
    generalize hq : pre ++ [x] = q at hsn HLN ⊢
    generalize P.getD pre.length [] = y at HX hxl hsn
    have HSN := Lib.hid hsn
    have HY32 := Lib.hid hxl
    have HF32 := Lib.hid hl32
    clear hq hsn hxl hl32 hr hcq hx hx0 ho
    generalize hpq : pre.length = z at hxc HLN HRC hplP
    have hst : accR i h P q = if i < x.1.1 then nodeL f y else nodeL y f := HSN.out
    generalize x.1.1 = a at hst hk0 ⊢
    have hBw : B = w.heap.size := HB.out
    have HBW : Hid (∀ pv, Below B w (W.setCell ⟨B + 1, 0, none⟩ pv)) := Lib.hid fun pv => hbw.setCell (p := ⟨B + 1, 0, none⟩) (by simp) pv
    have HBX : Hid (∀ pv, Below w.heap.size w (W.setCell ⟨B + 1, 0, none⟩ pv)) := Lib.hid fun pv => (HBW.out pv).mono (Nat.le_of_eq hBw.symm)
    have HOV : Hid (∀ pv, Own 5 (W.setCell ⟨B + 1, 0, none⟩ pv) B v f) := Lib.hid fun pv => HO.out.kept (grownBy_setCell' W (B + 1) pv) (.inr (hbp.not_row (by decide) HO.out).symm)
    have HXV : Hid (∀ pv, Sl (W.setCell ⟨B + 1, 0, none⟩ pv) (W.setCell ⟨B + 1, 0, none⟩ pv).heap.size xv y) := Lib.hid fun pv => HX.out.up (HBX.out pv)
    have HSV : Hid (∀ pv, Boxed (W.setCell ⟨B + 1, 0, none⟩ pv) S 22 v) := Lib.hid fun pv => hv.other (by omega) pv
    have HBI : Hid (∀ pv, Boxed (W.setCell ⟨B + 1, 0, none⟩ pv) B 3 (.int .i64 (i : Int))) := Lib.hid fun pv => hbi.other (by omega) pv
    have HPV : Hid (∀ pv, Boxed (W.setCell ⟨B + 1, 0, none⟩ pv) (B + 1) 23 pv) := Lib.hid fun pv => hbp.set pv
    have HSZ : Hid (∀ pv, (W.setCell ⟨B + 1, 0, none⟩ pv).heap.size = W.heap.size) := Lib.hid fun pv => by simp [World.setCell]
    have HW : Hid (Below B W W) := Lib.hid (Below.refl _ _)
    have HNR : Hid (P.length - q.length = r - 1 ∧ c - q.length = cq - 1) := Lib.hid (by have h1 := HRC.out; have h2 := HLN.out; omega)
    have hnz : Hid (q.length < P.length → 1 < r) := Lib.hid (by have h1 := HRC.out; have h2 := HLN.out; omega)
    have hzq : Hid (q.length = z + 1) := HLN
    have hBe : B ≠ S := by omega
    have hB1e : B + 1 ≠ S := by omega
    have hgv : B ≤ S := by omega
    clear hv hbi hbp hBw HSN HRC HLN
    by_cases hcq1 : cq = 1
    · by_cases hia : i < a
      · rw [if_pos hia] at hst
        have hiai : (i : Int) < (a : Int) := by omega
        clear hia
        gi_wp2_with (first
          | (refine ⟨trivial, ?_⟩; gi_at_call 41; refine (CallsIn.inRound l' (callsIn_wide.2 (implNodeHash_any v xv f y _ ((HOV.out _).sl) (HXV.out _) (by rw [HF32.out]; omega) (by rw [HY32.out]; omega) (hI.below hI.lt (HBX.out _)) (hG.below hG.lt (HBX.out _))))).mono ?_; rintro e W3 ⟨u3, rfl, ho3, hb3⟩;
             have HO3 := Lib.hid ho3;
             have HB3 := Lib.hid hb3;
             have hv3 := (HSV.out (.slice (some ⟨b, off + z, none⟩) (r - 1) 0)).kept (grown_of_below hb3 none) (by simp);
             have HV3 := Lib.hid hv3;
             have hvc3 := hv3.cell;
             have hvf3 := hv3.frozen;
             obtain ⟨A5, c5, rfl, n1, n2, n0, n3⟩ := ho3.sl;
             clear n1 n2 n0 n3 ho3 hv3 hb3 hvc hvf))
        exact prt_step (v' := .slice A5 (nodeL f y).length c5) (pv := (.slice (some ⟨b, off + z, none⟩) (r - 1) 0)) hBS hsw HB3.out (HBI.out _) (HPV.out _) HV3.out (HBW.out _) HO3.out hst (nodeL_length _ _) ⟨_, fun h => absurd (hnz.out h) (by omega), by rw [HNR.out.1, HNR.out.2, hcq1]⟩
      · rw [if_neg hia] at hst
        have hiai : ¬ (i : Int) < (a : Int) := by omega
        clear hia
        gi_wp2_with (first
          | (refine ⟨trivial, ?_⟩; gi_at_call 41; refine (CallsIn.inRound l' (callsIn_wide.2 (implNodeHash_any xv v y f _ (HXV.out _) ((HOV.out _).sl) (by rw [HY32.out]; omega) (by rw [HF32.out]; omega) (hI.below hI.lt (HBX.out _)) (hG.below hG.lt (HBX.out _))))).mono ?_; rintro e W3 ⟨u3, rfl, ho3, hb3⟩;
             have HO3 := Lib.hid ho3;
             have HB3 := Lib.hid hb3;
             have hv3 := (HSV.out (.slice (some ⟨b, off + z, none⟩) (r - 1) 0)).kept (grown_of_below hb3 none) (by simp);
             have HV3 := Lib.hid hv3;
             have hvc3 := hv3.cell;
             have hvf3 := hv3.frozen;
             obtain ⟨A5, c5, rfl, n1, n2, n0, n3⟩ := ho3.sl;
             clear n1 n2 n0 n3 ho3 hv3 hb3 hvc hvf))
        exact prt_step (v' := .slice A5 (nodeL y f).length c5) (pv := (.slice (some ⟨b, off + z, none⟩) (r - 1) 0)) hBS hsw HB3.out (HBI.out _) (HPV.out _) HV3.out (HBW.out _) HO3.out hst (nodeL_length _ _) ⟨_, fun h => absurd (hnz.out h) (by omega), by rw [HNR.out.1, HNR.out.2, hcq1]⟩
    · have hcq2 : ¬ cq - 1 = 0 := by omega
      by_cases hia : i < a
      · rw [if_pos hia] at hst
        have hiai : (i : Int) < (a : Int) := by omega
        clear hia
        gi_wp2_with (first
          | (refine ⟨trivial, ?_⟩; gi_at_call 41; refine (CallsIn.inRound l' (callsIn_wide.2 (implNodeHash_any v xv f y _ ((HOV.out _).sl) (HXV.out _) (by rw [HF32.out]; omega) (by rw [HY32.out]; omega) (hI.below hI.lt (HBX.out _)) (hG.below hG.lt (HBX.out _))))).mono ?_; rintro e W3 ⟨u3, rfl, ho3, hb3⟩;
             have HO3 := Lib.hid ho3;
             have HB3 := Lib.hid hb3;
             have hv3 := (HSV.out (.slice (some ⟨b, off + z + 1, none⟩) (r - 1) (cq - 1))).kept (grown_of_below hb3 none) (by simp);
             have HV3 := Lib.hid hv3;
             have hvc3 := hv3.cell;
             have hvf3 := hv3.frozen;
             obtain ⟨A5, c5, rfl, n1, n2, n0, n3⟩ := ho3.sl;
             clear n1 n2 n0 n3 ho3 hv3 hb3 hvc hvf))
        exact prt_step (v' := .slice A5 (nodeL f y).length c5) (pv := (.slice (some ⟨b, off + z + 1, none⟩) (r - 1) (cq - 1))) hBS hsw HB3.out (HBI.out _) (HPV.out _) HV3.out (HBW.out _) HO3.out hst (nodeL_length _ _) ⟨_, fun _ => by rw [hzq.out, ← Nat.add_assoc], by rw [HNR.out.1, HNR.out.2]⟩
      · rw [if_neg hia] at hst
        have hiai : ¬ (i : Int) < (a : Int) := by omega
        clear hia
        gi_wp2_with (first
          | (refine ⟨trivial, ?_⟩; gi_at_call 41; refine (CallsIn.inRound l' (callsIn_wide.2 (implNodeHash_any xv v y f _ (HXV.out _) ((HOV.out _).sl) (by rw [HY32.out]; omega) (by rw [HF32.out]; omega) (hI.below hI.lt (HBX.out _)) (hG.below hG.lt (HBX.out _))))).mono ?_; rintro e W3 ⟨u3, rfl, ho3, hb3⟩;
             have HO3 := Lib.hid ho3;
             have HB3 := Lib.hid hb3;
             have hv3 := (HSV.out (.slice (some ⟨b, off + z + 1, none⟩) (r - 1) (cq - 1))).kept (grown_of_below hb3 none) (by simp);
             have HV3 := Lib.hid hv3;
             have hvc3 := hv3.cell;
             have hvf3 := hv3.frozen;
             obtain ⟨A5, c5, rfl, n1, n2, n0, n3⟩ := ho3.sl;
             clear n1 n2 n0 n3 ho3 hv3 hb3 hvc hvf))
        exact prt_step (v' := .slice A5 (nodeL y f).length c5) (pv := (.slice (some ⟨b, off + z + 1, none⟩) (r - 1) (cq - 1))) hBS hsw HB3.out (HBI.out _) (HPV.out _) HV3.out (HBW.out _) HO3.out hst (nodeL_length _ _) ⟨_, fun _ => by rw [hzq.out, ← Nat.add_assoc], by rw [HNR.out.1, HNR.out.2]⟩
  case done =>
    rintro D ys W hD rfl hIz hK
    obtain ⟨⟨v, hv, ho, hl32⟩, hbi, hbp, hbw, hsw⟩ := hOI.putObj (.deferred none) hIz hD hK rfl
    have hvW : Boxed W S 22 v := (World.putObj_heap_other (by omega)).symm.trans hv
    have hO : Own 5 (W.putObj D (.deferred none)) B v (accR i h P ys) := ho
    rw [accR_all HZ.out HZL.out] at hO
    obtain ⟨A5, c5, rfl, n1, n2, n0, n3⟩ := hO.sl
    have hvc := hvW.cell
    have HOO := Lib.hid hO
    have HBW := Lib.hid hbw
    clear n1 n2 n0 n3 ho hl32 hO hv hvW hbi hbp hIz
    gi_wp2
    refine ⟨by simp, .inl ⟨_, _, rfl, run_takeDeferred hK, ?_⟩⟩
    have h1 := HOO.out
    have h2 := HBW.out
    rw [HB.out] at h1 h2
    exact ⟨.tuple #[.slice A5 (rootR h i n P).length c5, .bool true], by simp [results, Tryd.results13, go_sem], _, rfl, h1, h2⟩
  case stop =>
    rintro D c' pre W _ _ h _
    exact h.elim

set_option maxHeartbeats 1000000 in
theorem implPathRoot_any (u v : Value) (h : List UInt8) (i n : Int) (P : List (List UInt8)) (w : World) (hu : Sl w w.heap.size u h) (hv : SlS w w.heap.size v P)
    (hI : Glob w 0 initW) (hG : Glob w 1 kk) :
    Calls Tryd.prog 13 #[u, .int .i64 i, .int .i64 n, v] w (FreshB w (rootP h i n P) (rootB h i n P)) := by
  unfold rootP
  by_cases hall : h.length = 32 ∧ pathB i n = true ∧ (P.length : Int) = plenZ i n ∧ all32 P = true
  · rw [rootB_yes hall, if_pos rfl]
    obtain ⟨hh, hb, hl, ha⟩ := hall
    have hbb : 1 ≤ n ∧ n ≤ 1048576 ∧ 0 ≤ i ∧ i < n := of_decide_eq_true hb
    obtain ⟨i', rfl⟩ := Int.eq_ofNat_of_zero_le hbb.2.2.1
    obtain ⟨n', rfl⟩ := Int.eq_ofNat_of_zero_le (show 0 ≤ n by omega)
    have hl' : P.length = plenN i' n' := by
      unfold plenZ at hl
      rw [hb, if_pos rfl] at hl
      exact Int.ofNat.inj hl
    exact implPathRoot_in u v h i' n' P w hu hv hh (by omega) (by omega) hl' (all32_at ha) hI hG
  · rw [rootB_no hall, if_neg (by decide)]
    obtain ⟨A, c, rfl, p1, p2, p0, p3⟩ := id hv
    unfold maxLen at p2
    have hb1 : Below w.heap.size w ((w.alloc (.cells #[.int .i64 i] 3)).alloc (.cells #[.slice A P.length c] 23)).drew := below_drewN (((Below.refl _ w).alloc (Nat.le_refl _) _).alloc (by simp) _) 1
    have HU := Lib.hid (hu.up hb1)
    have HV := Lib.hid (hv.up hb1)
    have HB1 := Lib.hid hb1
    clear p0 p3
    have HK0 : Hid (((w.alloc (.cells #[.int .i64 i] 3)).alloc (.cells #[.slice A P.length c] 23)).drew.cell? ⟨w.heap.size, 0, none⟩ = some (.int .i64 i) ∧ ((w.alloc (.cells #[.int .i64 i] 3)).alloc (.cells #[.slice A P.length c] 23)).drew.cell? ⟨w.heap.size + 1, 0, none⟩ = some (.slice A P.length c)) := Lib.hid ⟨by simp, by simp⟩
    by_cases hh : h.length = 32
    case neg =>
      have HIH : Hid (∀ w' (h' : Sl w' w'.heap.size u h), Calls Tryd.prog 44 #[u] w' (fun e w2 => e = .returned (.bool false) ∧ w' = w2)) := Lib.hid fun w' h' => by
        have := isHash_any u h w' h'
        rwa [hash_no hh] at this
      have HIQ := Lib.hid (fun (m : Nat) => (HIH.out (((w.alloc (.cells #[.int .i64 i] 3)).alloc (.cells #[.slice A P.length c] 23)).drewN m) HU.out).mono fun e w2 h => (⟨h.1, h.2.symm⟩ : e = .returned (.bool false) ∧ w2 = ((w.alloc (.cells #[.int .i64 i] 3)).alloc (.cells #[.slice A P.length c] 23)).drewN m))
      have HB1 := Lib.hid (((Below.refl _ w).alloc (Nat.le_refl _) (.cells #[.int .i64 i] 3)).alloc (by simp) (.cells #[.slice A P.length c] 23))
      clear hall hh hu hv hb1
      go_enter Tryd.func13, Tryd.ntmps13
      go_wp2
      go_quiet (first | (go_at_call_of 44 u; exact Calls.quiet_of_same (HIQ.out _)))
      go_wp2
      go_ret2
      exact ⟨_, rfl, World.ownsRow_nil _ _ _ _, below_drewN HB1.out _⟩
    case pos =>
      have HIH : Hid (∀ w' (h' : Sl w' w'.heap.size u h), Calls Tryd.prog 44 #[u] w' (fun e w2 => e = .returned (.bool true) ∧ w' = w2)) := Lib.hid fun w' h' => by
        have := isHash_any u h w' h'
        rwa [hash_yes hh] at this
      have HHP := Lib.hid (fun w => hasPath_any i n w)
      cases hb : pathB i n with
      | false =>
        rw [hb] at HHP
        have HIQ := Lib.hid (fun (m : Nat) => (HIH.out (((w.alloc (.cells #[.int .i64 i] 3)).alloc (.cells #[.slice A P.length c] 23)).drewN m) HU.out).mono fun e w2 h => (⟨h.1, h.2.symm⟩ : e = .returned (.bool true) ∧ w2 = ((w.alloc (.cells #[.int .i64 i] 3)).alloc (.cells #[.slice A P.length c] 23)).drewN m))
        have HHQ := Lib.hid (fun (m : Nat) => (HHP.out (((w.alloc (.cells #[.int .i64 i] 3)).alloc (.cells #[.slice A P.length c] 23)).drewN m)).mono fun e w2 h => (⟨h.1, h.2.symm⟩ : e = .returned (.bool false) ∧ w2 = ((w.alloc (.cells #[.int .i64 i] 3)).alloc (.cells #[.slice A P.length c] 23)).drewN m))
        have HB1 := Lib.hid (((Below.refl _ w).alloc (Nat.le_refl _) (.cells #[.int .i64 i] 3)).alloc (by simp) (.cells #[.slice A P.length c] 23))
        clear hall hh hu hv hb1 hb
        go_enter Tryd.func13, Tryd.ntmps13
        go_wp2
        go_quiet (first
          | (go_at_call_of 44 u; exact Calls.quiet_of_same (HIQ.out _))
          | (go_at_call_of 45 (Value.int IntKind.i64 i); exact Calls.quiet_of_same (HHQ.out _)))
        go_wp2
        go_ret2
        exact ⟨_, rfl, World.ownsRow_nil _ _ _ _, below_drewN HB1.out _⟩
      | true =>
        rw [hb] at HHP
        have hpo : hashesB P (plenZ i n) = false := hashesB_no fun e => hall ⟨hh, hb, e⟩
        have HPL := Lib.hid (fun w => implPathLen_any i n w)
        have HAH : Hid (∀ w' (h' : SlS w' w'.heap.size (.slice A P.length c) P), Calls Tryd.prog 46 #[.slice A P.length c, .int .i64 (plenZ i n)] w' (fun e w2 => e = .returned (.bool false) ∧ w' = w2)) := Lib.hid fun w' h' => by
          have := areHashes_any (.slice A P.length c) P (plenZ i n) w' h'
          rwa [hpo] at this
        have HC : Hid (∀ w2, Below ((w.alloc (.cells #[.int .i64 i] 3)).alloc (.cells #[.slice A P.length c] 23)).drew.heap.size ((w.alloc (.cells #[.int .i64 i] 3)).alloc (.cells #[.slice A P.length c] 23)).drew w2 → w2.cell? ⟨w.heap.size, 0, none⟩ = some (.int .i64 i) ∧ w2.cell? ⟨w.heap.size + 1, 0, none⟩ = some (.slice A P.length c)) := Lib.hid fun w2 hb2 =>
          ⟨(hb2.cell (p := ⟨w.heap.size, 0, none⟩) (by simp; omega)).trans HK0.out.1, (hb2.cell (p := ⟨w.heap.size + 1, 0, none⟩) (by simp)).trans HK0.out.2⟩
        clear hall hh hu hv hb1 hb
        generalize plenZ i n = Z at HPL HAH hpo
        clear hpo
        go_enter Tryd.func13, Tryd.ntmps13
        go_wp2
        go_region_held3 (fun w' => w'.cell? ⟨w.heap.size, 0, none⟩ = some (.int .i64 i) ∧ w'.cell? ⟨w.heap.size + 1, 0, none⟩ = some (.slice A P.length c))
          (first
            | exact HK0.out
            | exact HK2.out)
          (first
            | (go_at_call 44; refine (HIH.out _ HU.out).mono ?_; rintro e w' ⟨rfl, rfl⟩)
            | (go_at_call 45; refine (HHP.out _).mono ?_; rintro e w' ⟨rfl, rfl⟩)
            | (go_at_call 15; refine (HPL.out _).mono ?_; rintro e w2 ⟨rfl, hb2⟩; have HB2 := Lib.hid hb2; have HV2 := Lib.hid (HV.out.up hb2); have HK2 := Lib.hid (HC.out _ hb2); clear hb2)
            | (go_at_call 46; refine (HAH.out _ HV2.out).mono ?_; rintro e w' ⟨rfl, rfl⟩))
        go_wp2
        go_ret2
        exact ⟨_, rfl, World.ownsRow_nil _ _ _ _, HB1.out.trans (HB2.out.mono HB1.out.size)⟩
end Go.Proofs.YtlchadbbldkkfaaDoor
