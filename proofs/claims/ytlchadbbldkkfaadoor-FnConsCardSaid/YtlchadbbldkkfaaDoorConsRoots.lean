/- ConsRoots: ConsRootsS, ConsRoots. -/
import Derived.Test.YtlchadbbldkkfaaDoorConsLen
import Derived.Test.YtlchadbbldkkfaaDoorPathRoot
import Derived.Deep.RegionWith
import Derived.Deep.QuietTactic
import Derived.BigQuiet
import Derived.Test.YtlchadbbldkkfaaDoorAnyIn

/- The contracts of l09Roots and ConsRoots as their models have them. -/
namespace Go.Proofs.YtlchadbbldkkfaaDoor
open Go.ChangeShapes Go.WideShapes Go.ChangeAt Go.RowKit

/-- The call returns two slices that read as a and b; nothing that was there has turned. -/
def Reads2 (w : World) (a b : List UInt8) (e : Ending) (w' : World) : Prop := ∃ x y, e = .returned (.tuple #[x, y]) ∧ Sl w' w'.heap.size x a ∧ Sl w' w'.heap.size y b ∧ Below w.heap.size w w'

set_option maxRecDepth 100000 in
set_option maxHeartbeats 4000000 in
theorem l09Roots_in : ∀ (f : Nat) (h : List UInt8) (m n : Nat) (P : List (List UInt8)) (u v : Value) (b : Bool) (w : World), n ≤ f → 1 ≤ m → m ≤ n → n ≤ 1048576 → h.length = 32 → P.length = clenN m n b → (∀ r ∈ P, r.length = 32) → Sl w w.heap.size u h → SlS w w.heap.size v P →
    Calls Tryd.prog 66 #[.int .i64 (m : Int), .int .i64 (n : Int), u, v, .bool b] w (Reads2 w (croot h m n b P).1 (croot h m n b P).2) := by
  intro f
  induction f with
  | zero => intro h m n P u v b w hf hm0 hm; omega
  | succ f ih =>
    intro h m n P u v b w hf hm0 hm hn hh hP hall hu hv
    by_cases h1n : m = n
    · have h1' : ((m : Int) == (n : Int)) = true := by simp [h1n]
      have HU := Lib.hid hu
      cases b with
      | true =>
        rw [h1n, croot_yes, ← h1n]
        clear ih hP hall hv hh
        go_enter Tryd.func66, Tryd.ntmps66
        go_wp2
        go_ret2
        exact ⟨u, u, rfl, HU.out, HU.out, Below.refl _ _⟩
      | false =>
        rw [h1n, clenN_no] at hP
        rw [h1n, croot_no (by omega) hP, ← h1n]
        obtain ⟨A, c, rfl, p1, p2, p0, p3⟩ := hv
        obtain ⟨bb, off, rfl, hbb, hcell⟩ := p3 (by omega)
        obtain ⟨xv, hx0, hx⟩ := hcell 0 (by omega)
        unfold maxLen at p2
        rw [hP] at p1 ⊢
        have HX := Lib.hid hx
        rw [Nat.add_zero] at hx0
        generalize P.getD 0 [] = x at HX ⊢
        clear ih hP hall hh hcell p3 p0 hx h1n
        go_enter Tryd.func66, Tryd.ntmps66
        go_wp2
        go_quiet (fail)
        go_wp2
        go_ret2
        exact ⟨xv, xv, rfl, HX.out.drewN _, HX.out.drewN _, below_drewN (Below.refl _ _) _⟩
    · have h1' : ((m : Int) == (n : Int)) = false := by rw [beq_eq_false_iff_ne]; omega
      have hmn : m < n := Nat.lt_of_le_of_ne hm h1n
      have hn2 : 2 ≤ n := by omega
      have hlt := splitN_lt hn2
      have hps := splitN_pos hn2
      have HA := Lib.hid (fun w => specSplitAt_any (n : Int) w (by omega))
      rw [splitZ_nat] at HA
      obtain ⟨A, c, rfl, p1, p2, p0, p3⟩ := hv
      have p2' := p2
      unfold maxLen at p2'
      obtain ⟨last, hlast⟩ : ∃ last, P.length = last + 1 := by
        by_cases hk : m ≤ splitN n
        · exact ⟨_, hP.trans (clenN_left hn2 hm0 hk)⟩
        · exact ⟨_, hP.trans (clenN_right hn2 (by omega) (by omega))⟩
      obtain ⟨bb, off, rfl, hbb, hcell⟩ := p3 (by omega)
      obtain ⟨xv, hx0, hx⟩ := hcell last (by omega)
      have hPs : P = P.take last ++ [P.getD last []] := by
        have := take_getD P last [] (by omega)
        rw [← this, List.take_of_length_le (by omega)]
      have hxl : (P.getD last []).length = 32 := hall _ (by simp [List.getD_eq_getElem?_getD, List.getElem?_eq_getElem (show last < P.length by omega)])
      have ht : SlS w w.heap.size (.slice (some ⟨bb, off, none⟩) last c) (P.take last) := by
        have := slS_cut (L := P) (off := off) (c := c) 0 last p2 hbb hcell (by omega) off c (by omega) (by omega) (Nat.le_refl _)
        simpa using this
      have htl : (P.take last).length = last := by rw [List.length_take]; omega
      have hall2 : ∀ r ∈ P.take last, r.length = 32 := fun r hr => hall r (List.mem_of_mem_take hr)
      have hpl := clenN_left (m := m) (b := b) hn2 hm0
      have hpr := clenN_right (m := m) (b := b) hn2
      have hrl := croot_left (old := h) (m := m) (b := b) (q := P.take last) (r := P.getD last []) hn2 hm0
      have hrr := croot_right (old := h) (m := m) (b := b) (q := P.take last) (r := P.getD last []) hn2
      rw [← hPs] at hrl hrr
      generalize splitN n = s at hlt hps HA hpl hpr hrl hrr
      have HP := Lib.hid hP
      have HLAST := Lib.hid hlast
      have hm1 : ((last + 1 : Nat) : Int) - 1 = (last : Int) := by omega
      rw [hlast] at p1 ⊢
      obtain ⟨q, hq⟩ : ∃ q, q = last + 1 := ⟨_, rfl⟩
      rw [← hq] at p1 hm1 ⊢
      have hml : (last : Int) < (q : Int) := by omega
      have hml2 : last ≤ q := by omega
      have hml3 : (last : Int) ≤ (q : Int) := by omega
      have hml4 : last ≤ c := by omega
      have hml5 : (last : Int) ≤ (c : Int) := by omega
      have hl0 : (0 : Int) ≤ (last : Int) := by omega
      have HT := Lib.hid ht
      have HX := Lib.hid hx
      have HU := Lib.hid hu
      have HXL := Lib.hid (show (P.getD last []).length ≤ 536870000 by omega)
      by_cases hk : m ≤ s
      · have hki : (m : Int) ≤ (s : Int) := by omega
        have hlp : last = clenN m s b := by have := hpl hk; have := HP.out; have := HLAST.out; omega
        rw [hrl hk (by rw [htl]; exact hlp)]
        have IH := Lib.hid (fun u v w h1 h2 => ih h m s (P.take last) u v b w (by omega) hm0 hk (by omega) hh (by rw [htl]; exact hlp) hall2 h1 h2)
        have hrlen := (croot_length (m := m) (n := s) (b := b) hh hall2).2
        generalize croot h m s b (P.take last) = R1 at IH hrlen ⊢
        generalize P.getD last [] = x at HX HXL ⊢
        have HRL : Hid (R1.2.length ≤ 536870000) := Lib.hid (by omega)
        clear ih hP hall hall2 hcell p3 hx hPs hxl ht htl hpl hpr hrl hrr hlast hq hrlen hlp hu hh p0
        go_enter Tryd.func66, Tryd.ntmps66
        go_wp2_with fail
        refine (HA.out _).mono ?_
        rintro e w' ⟨rfl, hw⟩
        obtain rfl : w = w' := hw.symm
        go_wp2_with fail
        refine (IH.out _ _ w HU.out HT.out).mono ?_
        rintro e w1 ⟨x1, x2, rfl, ho1, ho2, hb1⟩
        have HO1 := Lib.hid ho1
        have HB1 := Lib.hid hb1
        go_wp2_with fail
        refine (specNodeHash_any x2 xv R1.2 x w1 ho2 (HX.out.up hb1) HRL.out HXL.out).mono ?_
        rintro e w2 ⟨x3, rfl, ho3, hb3⟩
        have HO3 := Lib.hid ho3.sl
        have HB3 := Lib.hid hb3
        clear ho1 ho2 hb1 ho3 hb3
        go_wp2
        go_ret2
        exact ⟨x1, x3, rfl, HO1.out.up HB3.out, HO3.out, HB1.out.trans (HB3.out.mono HB1.out.size)⟩
      · have hki : ¬ (m : Int) ≤ (s : Int) := by omega
        have e1 : (m : Int) - (s : Int) = ((m - s : Nat) : Int) := by omega
        have e2 : (n : Int) - (s : Int) = ((n - s : Nat) : Int) := by omega
        have hj1 : 1 ≤ m - s := by omega
        have hj2 : m - s ≤ n - s := by omega
        have hx1 : m - s ≤ 1048576 := by omega
        have hx2 : n - s ≤ 1048576 := by omega
        have hlp : last = clenN (m - s) (n - s) false := by have := hpr (Nat.lt_of_not_le hk) hmn; have := HP.out; have := HLAST.out; omega
        rw [hrr (Nat.lt_of_not_le hk) hmn (by rw [htl]; exact hlp)]
        have IH := Lib.hid (fun u v w h1 h2 => ih h (m - s) (n - s) (P.take last) u v false w (by omega) hj1 hj2 (by omega) hh (by rw [htl]; exact hlp) hall2 h1 h2)
        have hrlen := croot_length (m := m - s) (n := n - s) (b := false) hh hall2
        clear hlp
        generalize croot h (m - s) (n - s) false (P.take last) = R1 at IH hrlen ⊢
        generalize m - s = m' at e1 IH hj1 hj2 hx1
        generalize n - s = n' at e2 IH hj2 hx2
        generalize P.getD last [] = x at HX HXL ⊢
        have HRL : Hid (R1.1.length ≤ 536870000 ∧ R1.2.length ≤ 536870000) := Lib.hid ⟨by omega, by omega⟩
        clear ih hP hall hall2 hcell p3 hx hPs hxl ht htl hpl hpr hrl hrr hlast hq hrlen hu hh p0
        go_enter Tryd.func66, Tryd.ntmps66
        go_wp2_with fail
        refine (HA.out _).mono ?_
        rintro e w' ⟨rfl, hw⟩
        obtain rfl : w = w' := hw.symm
        go_wp2_with fail
        refine (IH.out _ _ w HU.out HT.out).mono ?_
        rintro e w1 ⟨x1, x2, rfl, ho1, ho2, hb1⟩
        have HO2 := Lib.hid ho2
        have HB1 := Lib.hid hb1
        go_wp2_with fail
        refine (specNodeHash_any xv x1 x R1.1 w1 (HX.out.up hb1) ho1 HXL.out HRL.out.1).mono ?_
        rintro e w2 ⟨x3, rfl, ho3, hb3⟩
        have HO3 := Lib.hid ho3.sl
        have HB3 := Lib.hid (HB1.out.trans (hb3.mono HB1.out.size))
        have HO2' := Lib.hid (HO2.out.up hb3)
        clear ho1 ho2 hb1 ho3 hb3
        go_wp2_with fail
        refine (specNodeHash_any xv x2 x R1.2 w2 (HX.out.up HB3.out) HO2'.out HXL.out HRL.out.2).mono ?_
        rintro e w3 ⟨x4, rfl, ho4, hb4⟩
        have HO4 := Lib.hid ho4.sl
        have HB4 := Lib.hid hb4
        clear ho4 hb4
        go_wp2
        go_ret2
        exact ⟨x3, x4, rfl, HO3.out.up HB4.out, HO4.out, HB3.out.trans (HB4.out.mono HB3.out.size)⟩

/-- The call returns two new rows that read as l1 and l2, and b; nothing that was there has turned. -/
def FreshBB (w : World) (l1 l2 : List UInt8) (b : Bool) (e : Ending) (w' : World) : Prop := ∃ v u, e = .returned (.tuple #[v, u, .bool b]) ∧ InvG w w' [(5, v, us l1), (5, u, us l2)]
theorem invG_nil2 (w : World) : InvG w w [(5, .slice none 0 0, us []), (5, .slice none 0 0, us [])] :=
  ((InvG.start w).moreG (by unfold GOwn; exact World.ownsRow_nil _ _ _ _) (Below.refl _ _)).moreG (by unfold GOwn; exact World.ownsRow_nil _ _ _ _) (Below.refl _ _)

/-- Are there roots? -/
def rootsB (m n : Int) (h : List UInt8) (P : List (List UInt8)) : Bool := decide (consB m n = true ∧ h.length = 32 ∧ (P.length : Int) = clenZ m n ∧ all32 P = true)
theorem rootsB_yes {m n : Int} {h : List UInt8} {P : List (List UInt8)} (e : consB m n = true ∧ h.length = 32 ∧ (P.length : Int) = clenZ m n ∧ all32 P = true) : rootsB m n h P = true := decide_eq_true e
theorem rootsB_no {m n : Int} {h : List UInt8} {P : List (List UInt8)} (e : ¬ (consB m n = true ∧ h.length = 32 ∧ (P.length : Int) = clenZ m n ∧ all32 P = true)) : rootsB m n h P = false := decide_eq_false e
/-- The old root and the new one, none where there are none. -/
def rootsO (m n : Int) (h : List UInt8) (P : List (List UInt8)) : List UInt8 := if rootsB m n h P = true then (croot h m.toNat n.toNat true P).1 else []
def rootsN (m n : Int) (h : List UInt8) (P : List (List UInt8)) : List UInt8 := if rootsB m n h P = true then (croot h m.toNat n.toNat true P).2 else []
theorem rootsON_len (m n : Int) (h : List UInt8) (P : List (List UInt8)) : (rootsO m n h P).length ≤ 32 ∧ (rootsN m n h P).length ≤ 32 := by
  unfold rootsO rootsN
  split
  · rename_i e
    have e' : consB m n = true ∧ h.length = 32 ∧ (P.length : Int) = clenZ m n ∧ all32 P = true := of_decide_eq_true e
    have := croot_length (m := m.toNat) (n := n.toNat) (b := true) e'.2.1 (all32_at e'.2.2.2)
    omega
  · simp

set_option maxRecDepth 100000 in
set_option maxHeartbeats 4000000 in
theorem specConsRoots_any (u v : Value) (m n : Int) (h : List UInt8) (P : List (List UInt8)) (w : World) (hu : Sl w w.heap.size u h) (hv : SlS w w.heap.size v P) :
    Calls Tryd.prog 34 #[.int .i64 m, .int .i64 n, u, v] w (FreshBB w (rootsO m n h P) (rootsN m n h P) (rootsB m n h P)) := by
  have hvs := hv
  obtain ⟨A, c, rfl, p1, p2, p0, p3⟩ := hv
  unfold maxLen at p2
  have HV := Lib.hid hvs
  have HU := Lib.hid hu
  have HH := Lib.hid (fun w (h' : Sl w w.heap.size u h) => l07Hash_any u h w h')
  have HI := Lib.hid (fun w => l09In_any m n w)
  have HL := Lib.hid (fun w => specConsLen_any m n w)
  have HA := Lib.hid (fun w (h' : SlS w w.heap.size (.slice A P.length c) P) => l08Hashes_any _ P w h')
  unfold rootsO rootsN
  clear p0 p3 hu hvs
  cases hb : consB m n with
  | false =>
    rw [rootsB_no (fun e => by rw [hb] at e; exact absurd e.1 (by decide)), if_neg (by decide), if_neg (by decide)]
    rw [hb] at HI
    clear hb
    go_enter Tryd.func34, Tryd.ntmps34
    go_wp2_with (go_at_call 64; refine (HI.out _).mono ?_; rintro e w' ⟨rfl, rfl⟩)
    go_ret3
    exact ⟨_, _, rfl, invG_nil2 _⟩
  | true =>
    rw [hb] at HI
    by_cases hh : h.length = 32
    case neg =>
      rw [rootsB_no (fun e => hh e.2.1), if_neg (by decide), if_neg (by decide)]
      have hh2 := hash_no hh
      rw [hh2] at HH
      clear hh hh2 hb
      go_enter Tryd.func34, Tryd.ntmps34
      go_wp2_with (first
        | (go_at_call 54; refine (HH.out _ HU.out).mono ?_; rintro e w' ⟨rfl, rfl⟩)
        | (go_at_call 64; refine (HI.out _).mono ?_; rintro e w' ⟨rfl, rfl⟩))
      go_ret3
      exact ⟨_, _, rfl, invG_nil2 _⟩
    case pos =>
      have hh2 := hash_yes hh
      rw [hh2] at HH
      have HH32 := Lib.hid hh
      clear hh hh2
      by_cases hl : (P.length : Int) = clenZ m n
      case neg =>
        rw [rootsB_no (fun e => hl e.2.2.1), if_neg (by decide), if_neg (by decide)]
        have hne : ((P.length : Int) != clenZ m n) = true := by rw [bne_iff_ne]; exact hl
        clear hb hl
        generalize clenZ m n = Z at HL hne
        go_enter Tryd.func34, Tryd.ntmps34
        go_wp2_with (first
          | (go_at_call 54; refine (HH.out _ HU.out).mono ?_; rintro e w' ⟨rfl, rfl⟩)
          | (go_at_call 64; refine (HI.out _).mono ?_; rintro e w' ⟨rfl, rfl⟩)
          | (go_at_call 65; refine (HL.out _).mono ?_; rintro e w' ⟨rfl, rfl⟩))
        go_ret3
        exact ⟨_, _, rfl, invG_nil2 _⟩
      case pos =>
        have hne : ((P.length : Int) != clenZ m n) = false := by rw [hl]; simp
        cases ha : all32 P with
        | false =>
          rw [rootsB_no (fun e => by rw [ha] at e; exact absurd e.2.2.2 (by decide)), if_neg (by decide), if_neg (by decide)]
          rw [ha] at HA
          clear hb hl ha
          generalize clenZ m n = Z at HL hne
          go_enter Tryd.func34, Tryd.ntmps34
          go_wp2_with (first
            | (go_at_call 54; refine (HH.out _ HU.out).mono ?_; rintro e w' ⟨rfl, rfl⟩)
            | (go_at_call 64; refine (HI.out _).mono ?_; rintro e w' ⟨rfl, rfl⟩)
            | (go_at_call 65; refine (HL.out _).mono ?_; rintro e w' ⟨rfl, rfl⟩)
            | (go_at_call 57; refine (HA.out _ HV.out).mono ?_; rintro e w' ⟨rfl, rfl⟩))
          go_ret3
          exact ⟨_, _, rfl, invG_nil2 _⟩
        | true =>
          rw [rootsB_yes ⟨hb, HH32.out, hl, ha⟩, if_pos rfl, if_pos rfl]
          rw [ha] at HA
          have hbb : n ≤ 1048576 ∧ 1 ≤ m ∧ m ≤ n := of_decide_eq_true hb
          obtain ⟨m', rfl⟩ := Int.eq_ofNat_of_zero_le (show 0 ≤ m by omega)
          obtain ⟨n', rfl⟩ := Int.eq_ofNat_of_zero_le (show 0 ≤ n by omega)
          have hl' : P.length = clenN m' n' true := by
            unfold clenZ at hl
            rw [hb, if_pos rfl] at hl
            exact Int.ofNat.inj hl
          have HR := Lib.hid (fun w h1 h2 => l09Roots_in n' h m' n' P u (.slice A P.length c) true w (Nat.le_refl _) (by omega) (by omega) (by omega) HH32.out hl' (all32_at ha) h1 h2)
          have hrl := croot_length (m := m') (n := n') (b := true) HH32.out (all32_at ha)
          simp only [Int.toNat_natCast]
          generalize croot h m' n' true P = R at HR hrl ⊢
          have HRL : Hid (R.1.length ≤ 4294967296 ∧ R.2.length ≤ 4294967296) := Lib.hid ⟨by omega, by omega⟩
          clear hb hl ha hl' hrl hbb
          generalize clenZ m' n' = Z at HL hne
          go_enter Tryd.func34, Tryd.ntmps34
          go_wp2_with (first
            | (go_at_call 54; refine (HH.out _ HU.out).mono ?_; rintro e w' ⟨rfl, rfl⟩)
            | (go_at_call 64; refine (HI.out _).mono ?_; rintro e w' ⟨rfl, rfl⟩)
            | (go_at_call 65; refine (HL.out _).mono ?_; rintro e w' ⟨rfl, rfl⟩)
            | (go_at_call 57; refine (HA.out _ HV.out).mono ?_; rintro e w' ⟨rfl, rfl⟩)
            | (go_at_call 66; refine (HR.out _ HU.out HV.out).mono ?_; rintro e w1 ⟨x1, x2, rfl, ho1, ho2, hb1⟩))
          refine (l01Copy_any x1 R.1 _ ho1 HRL.out.1).mono ?_
          rintro e w2 ⟨x3, rfl, ho3, hb3⟩
          have HK3 := Lib.hid (((InvG.start w).up hb1).more ho3 hb3)
          have HO2 := Lib.hid (ho2.up hb3)
          clear ho1 ho2 hb1 ho3 hb3
          go_wp2_with fail
          refine (l01Copy_any x2 R.2 _ HO2.out HRL.out.2).mono ?_
          rintro e w3 ⟨x4, rfl, ho4, hb4⟩
          have HK4 := Lib.hid ((HK3.out.more ho4 hb4).perm (List.Perm.swap _ _ _))
          clear ho4 hb4
          go_wp2
          go_ret3
          exact ⟨x3, x4, rfl, HK4.out⟩
end Go.Proofs.YtlchadbbldkkfaaDoor

/- The contract of ConsRoots as the program has it: a range over the parts of the proof that goes up to both roots. -/
namespace Go.Proofs.YtlchadbbldkkfaaDoor
open Go.ChangeShapes Go.WideShapes Go.ChangeAt Go.RowKit Go.Shelf

/-- Both roots after k rounds. -/
def accC {n : Nat} (m : Nat) (h : List UInt8) (P : List (List UInt8)) (zs : List (PA n)) (k : Nat) : List UInt8 × List UInt8 := (((zs.take k).map fun x => x.1).zip (P.take k)).foldl (stepC m) (h, h)
theorem accC_zero {n : Nat} (m : Nat) (h : List UInt8) (P : List (List UInt8)) (zs : List (PA n)) : accC m h P zs 0 = (h, h) := by
  unfold accC
  simp
theorem accC_succ {n m k : Nat} {h : List UInt8} {P : List (List UInt8)} {zs : List (PA n)} {x : PA n} (hx : zs[k]? = some x) (hk : k < P.length) : accC m h P zs (k + 1) = stepC m (accC m h P zs k) (x.1, P.getD k []) := by
  have hl := at_lt hx
  unfold accC
  rw [take_getD P k [] hk, List.take_add_one, hx, List.map_append, List.zip_append (by rw [List.length_map, List.length_take, List.length_take]; omega), List.foldl_append]
  rfl
theorem accC_all {n m : Nat} {h : List UInt8} {P : List (List UInt8)} {zs : List (PA n)} (hz : zs.map (fun x => x.1) = cprt m n true) (hP : P.length = zs.length) : accC m h P zs zs.length = croot h m n true P := by
  unfold accC croot
  rw [List.take_length, hz, List.take_of_length_le (by omega)]
theorem accC_len {n m k : Nat} {h : List UInt8} {P : List (List UInt8)} {zs : List (PA n)} (hh : h.length = 32) (hP : ∀ r ∈ P, r.length = 32) : (accC m h P zs k).1.length = 32 ∧ (accC m h P zs k).2.length = 32 :=
  foldC_length _ _ ⟨hh, hh⟩ fun _ hq => hP _ (List.mem_of_mem_take (List.of_mem_zip hq).2)

/-- What reads as l does so behind a turn of a block that is no cells. -/
theorem sl_kept {W W' : World} {B : Nat} {v : Value} {l : List UInt8} {row : Option Nat} (h : Sl W B v l) (hg : W.grownBy W' row) (hr : ∀ r, row = some r → ∃ o : Obj, W.heap[r]? = some o ∧ o.isCells = false) : Sl W' B v l := by
  obtain ⟨A, c, rfl, h1, h2, h0, h3⟩ := h
  refine ⟨A, c, rfl, h1, h2, h0, fun hp => ?_⟩
  obtain ⟨b, off, e, hb, hc⟩ := h3 hp
  exact ⟨b, off, e, hb, fun k hk => cell_kept (hc k hk) hg hr⟩
/-- What reads as l does so behind a store into the box of a slice. -/
theorem sl_box {W : World} {B S n c : Nat} {v : Value} {l : List UInt8} {A : Option Addr} {t : TypeId} (h : Sl W B v l) (hb : Boxed W S t (.slice A n c)) (x : Value) : Sl (W.setCell ⟨S, 0, none⟩ x) B v l := by
  obtain ⟨A', c', rfl, h1, h2, h0, h3⟩ := h
  refine ⟨A', c', rfl, h1, h2, h0, fun hp => ?_⟩
  obtain ⟨b, off, e, hbb, hc⟩ := h3 hp
  refine ⟨b, off, e, hbb, fun k hk => ?_⟩
  have hck := hc k hk
  by_cases hbs : b = S
  · exfalso
    subst hbs
    have hb' : W.heap[b]? = some (.cells #[.slice A n c] t (0, 0)) := hb
    generalize off + k = j at hck
    rcases j with _ | j
    · rw [hb.cell] at hck
      cases hck
    · have hno : W.cell? ⟨b, j + 1, none⟩ = none := by simp [World.cell?, hb']
      rw [hno] at hck
      cases hck
  · exact (World.cell?_of_block (a := ⟨b, off + k, none⟩) (Below.heap_setCell _ _ _ _ hbs)).trans hck

theorem sl_boxU {W : World} {S n c : Nat} {v : Value} {l : List UInt8} {A : Option Addr} {t : TypeId} (h : Sl W W.heap.size v l) (hb : Boxed W S t (.slice A n c)) (x : Value) : Sl (W.setCell ⟨S, 0, none⟩ x) (W.setCell ⟨S, 0, none⟩ x).heap.size v l := (sl_box h hb x).mono (grownBy_setCell' W S x).size
/-- What a round of ConsRoots keeps: both roots so far, the number of old leaves, the rest of the proof. -/
def CrtI {n : Nat} (m : Nat) (h : List UInt8) (P : List (List UInt8)) (zs : List (PA n)) (w : World) (B S b off c : Nat) (k : Nat) (W : World) : Prop :=
  (∃ v1 v2, Boxed W S 22 v1 ∧ Boxed W (S + 1) 22 v2 ∧ Sl W W.heap.size v1 (accC m h P zs k).1 ∧ Sl W W.heap.size v2 (accC m h P zs k).2) ∧ Boxed W B 3 (.int .i64 (m : Int)) ∧
    (∃ A', (k < P.length → A' = some ⟨b, off + k, none⟩) ∧ Boxed W (B + 1) 23 (.slice A' (P.length - k) (c - k))) ∧ Below B w W ∧ S + 3 < W.heap.size
theorem CrtI.own {n : Nat} (m : Nat) (h : List UInt8) (P : List (List UInt8)) (zs : List (PA n)) (w : World) (B S b off c B' : Nat) (h1 : B ≤ w.heap.size) (h2 : B ≤ B') : OwnFrom B' (CrtI m h P zs w B S b off c) :=
  OwnFrom.and (fun k W W' row hs hg hr => by
    obtain ⟨v1, v2, b1, b2, s1, s2⟩ := hs
    have hr' : ∀ r, row = some r → ∃ o : Obj, W.heap[r]? = some o ∧ o.isCells = false := fun r e => (hr r e).2
    exact ⟨v1, v2, ownFrom_boxed (β := Unit) B' S _ (fun _ => v1) () W W' row b1 hg hr, ownFrom_boxed (β := Unit) B' (S + 1) _ (fun _ => v2) () W W' row b2 hg hr, (sl_kept s1 hg hr').mono hg.size, (sl_kept s2 hg hr').mono hg.size⟩)
    (OwnFrom.and (ownFrom_boxed B' B _ fun _ => .int .i64 (m : Int)) (OwnFrom.and (fun k W W' row hs hg hr => by
      obtain ⟨A', e, hb⟩ := hs
      exact ⟨A', e, ownFrom_boxed (β := Unit) B' (B + 1) _ (fun _ => .slice A' (P.length - k) (c - k)) () W W' row hb hg hr⟩) (OwnFrom.and (ownFrom_below h1 h2) (ownFrom_size B' (S + 3)))))

/-- How far a round has come: from W to W', with y1 and y2 in the variables of the roots, pv in that of the proof. -/
def StC (m : Nat) (w : World) (B S D : Nat) (W W' : World) (y1 y2 pv : Value) : Prop :=
  KeepsFrom D W W' ∧ KpC B (S + 1 + 1) (S + 1 + 1 + 1) (D + 2) 1000000 W W' ∧ Boxed W' S 22 y1 ∧ Boxed W' (S + 1) 22 y2 ∧ Boxed W' B 3 (.int .i64 (m : Int)) ∧ Boxed W' (B + 1) 23 pv ∧ Below B w W' ∧ W.heap.size ≤ W'.heap.size
section
variable {m B S D : Nat} {w W W' W2 : World} {y1 y2 pv : Value}
theorem StC.size (h : StC m w B S D W W' y1 y2 pv) : W.heap.size ≤ W'.heap.size := h.2.2.2.2.2.2.2
theorem kpC_set {g : Nat} (X : World) (x : Value) (h1 : B ≤ g) (h2 : g < S + 1 + 1) (h3 : g < D + 2) : KpC B (S + 1 + 1) (S + 1 + 1 + 1) (D + 2) 1000000 X (X.setCell ⟨g, 0, none⟩ x) :=
  ⟨⟨(Below.refl B X).setCell (p := ⟨g, 0, none⟩) h1 x, Below.heap_setCell _ _ _ _ (by simp only; omega), Below.heap_setCell _ _ _ _ (by simp only; omega)⟩, KeepsBut.of_grownBy (grownBy_setCell' X g x) fun j e => .inl (by cases e; exact h3)⟩
theorem StC.set1 (h : StC m w B S D W W' y1 y2 pv) (hBS : B + 1 < S) (hD : S ≤ D) (x : Value) : StC m w B S D W (W'.setCell ⟨S, 0, none⟩ x) x y2 pv := by
  obtain ⟨a1, a2, a3, a4, a5, a6, a7, a8⟩ := h
  exact ⟨a1.trans ((KeepsOthers.setCell _ _ _).from _), a2.trans (kpC_set _ _ (by omega) (by omega) (by omega)), a3.set _, a4.other (by omega) _, a5.other (by omega) _, a6.other (by omega) _, a7.setCell (p := ⟨S, 0, none⟩) (show B ≤ S by omega) _, Nat.le_trans a8 (grownBy_setCell' W' S x).size⟩
theorem StC.set2 (h : StC m w B S D W W' y1 y2 pv) (hBS : B + 1 < S) (hD : S ≤ D) (x : Value) : StC m w B S D W (W'.setCell ⟨S + 1, 0, none⟩ x) y1 x pv := by
  obtain ⟨a1, a2, a3, a4, a5, a6, a7, a8⟩ := h
  exact ⟨a1.trans ((KeepsOthers.setCell _ _ _).from _), a2.trans (kpC_set _ _ (by omega) (by omega) (by omega)), a3.other (by omega) _, a4.set _, a5.other (by omega) _, a6.other (by omega) _, a7.setCell (p := ⟨S + 1, 0, none⟩) (show B ≤ S + 1 by omega) _, Nat.le_trans a8 (grownBy_setCell' W' (S + 1) x).size⟩
theorem StC.setP (h : StC m w B S D W W' y1 y2 pv) (hBS : B + 1 < S) (hD : S ≤ D) (x : Value) : StC m w B S D W (W'.setCell ⟨B + 1, 0, none⟩ x) y1 y2 x := by
  obtain ⟨a1, a2, a3, a4, a5, a6, a7, a8⟩ := h
  exact ⟨a1.trans ((KeepsOthers.setCell _ _ _).from _), a2.trans (kpC_set _ _ (by omega) (by omega) (by omega)), a3.other (by omega) _, a4.other (by omega) _, a5.other (by omega) _, a6.set _, a7.setCell (p := ⟨B + 1, 0, none⟩) (show B ≤ B + 1 by omega) _, Nat.le_trans a8 (grownBy_setCell' W' (B + 1) x).size⟩
theorem StC.call (h : StC m w B S D W W' y1 y2 pv) (hsz : S + 3 < W.heap.size) (hBS : B + 1 < S) (hb : Below W'.heap.size W' W2) : StC m w B S D W W2 y1 y2 pv := by
  obtain ⟨a1, a2, a3, a4, a5, a6, a7, a8⟩ := h
  have hg := grown_of_below hb none
  exact ⟨a1.trans (KeepsFrom.of_grownBy hg fun j e => by cases e), a2.trans ⟨⟨hb.mono (by omega), hb.block _ (by omega), hb.block _ (by omega)⟩, KeepsBut.of_grownBy hg fun j e => by cases e⟩, a3.kept hg (by simp), a4.kept hg (by simp), a5.kept hg (by simp), a6.kept hg (by simp), a7.trans (hb.mono (by omega)), Nat.le_trans a8 hb.size⟩
end
/-- The end of a round. -/
theorem crt_end {n m k : Nat} {h : List UInt8} {P : List (List UInt8)} {zs : List (PA n)} {w W W' : World} {B S D b off c : Nat} {y1 y2 pv : Value} {l : List UInt8 × List UInt8} (hs : StC m w B S D W W' y1 y2 pv) (hsz : S + 3 < W.heap.size) (h1 : Sl W' W'.heap.size y1 l.1) (h2 : Sl W' W'.heap.size y2 l.2) (hl : accC m h P zs k = l)
    (hp : ∃ A', (k < P.length → A' = some ⟨b, off + k, none⟩) ∧ pv = .slice A' (P.length - k) (c - k)) : KeepsFrom D W W' ∧ KpC B (S + 1 + 1) (S + 1 + 1 + 1) (D + 2) 1000000 W W' ∧ CrtI m h P zs w B S b off c k W' := by
  obtain ⟨a1, a2, a3, a4, a5, a6, a7, a8⟩ := hs
  obtain ⟨A', e, rfl⟩ := hp
  exact ⟨a1, a2, ⟨y1, y2, a3, a4, by rw [hl]; exact h1, by rw [hl]; exact h2⟩, a5, ⟨A', e, a6⟩, a7, by omega⟩

/-- What the operations of a round's region yield. -/
def NhSp (W : World) (xv v1 v2 : Value) (l1 l2 : List UInt8) (i : Nat) (w : World) (vs : Nat → Value) : Prop :=
  match i with
  | 0 => vs 0 = xv
  | 1 => vs 1 = v1
  | 2 => GOwn w W.heap.size (5, vs 2, us l1)
  | 3 => vs 3 = xv
  | 4 => vs 4 = v2
  | 5 => GOwn w W.heap.size (5, vs 5, us l2)
  | _ => True
theorem NhSp.up {W w w' : World} {xv v1 v2 : Value} {l1 l2 : List UInt8} {vs vs' : Nat → Value} : ∀ i, NhSp W xv v1 v2 l1 l2 i w vs → Below w.heap.size w w' → vs i = vs' i → NhSp W xv v1 v2 l1 l2 i w' vs'
  | 0, h, _, e => e.symm.trans h
  | 1, h, _, e => e.symm.trans h
  | 2, h, hb, e => by
    have h' : GOwn w W.heap.size (5, vs 2, us l1) := h
    change GOwn w' W.heap.size (5, vs' 2, us l1)
    rw [← e]
    exact h'.up hb
  | 3, h, _, e => e.symm.trans h
  | 4, h, _, e => e.symm.trans h
  | 5, h, hb, e => by
    have h' : GOwn w W.heap.size (5, vs 5, us l2) := h
    change GOwn w' W.heap.size (5, vs' 5, us l2)
    rw [← e]
    exact h'.up hb
  | _ + 6, _, _, _ => trivial

theorem invG_nil2B {w w' : World} (hb : Below w.heap.size w w') : InvG w w' [(5, .slice none 0 0, us []), (5, .slice none 0 0, us [])] :=
  ((InvG.start w).moreG (by unfold GOwn; exact World.ownsRow_nil _ _ _ _) hb).moreG (by unfold GOwn; exact World.ownsRow_nil _ _ _ _) (Below.refl _ _)
theorem rws_putObj {B : Nat} {W : World} {rs : List (TypeId × Value × List Value)} {l : Nat} {o : Obj} (H : Rws B W rs) (o' : Obj) (hl : W.heap[l]? = some o) (ho : o.isCells = false) : Rws B (W.putObj l o') rs :=
  ⟨fun p hp => by
    have h1 := H.1 p hp
    unfold GOwn at h1 ⊢
    exact ownsRow_putObj h1 o' hl ho, H.2⟩

attribute [local go_sem] Oper.semAt_some

set_option maxRecDepth 100000 in
set_option maxHeartbeats 4000000 in
theorem implConsRoots_in (u v : Value) (h : List UInt8) (m n : Nat) (P : List (List UInt8)) (w : World) (hu : Sl w w.heap.size u h) (hv : SlS w w.heap.size v P) (hh : h.length = 32) (h0 : 1 ≤ m) (hmn : m ≤ n) (hn : n ≤ 1048576) (hP : P.length = clenN m n true) (hall : ∀ r ∈ P, r.length = 32)
    (hI : Glob w 0 initW) (hG : Glob w 1 kk) :
    Calls Tryd.prog 19 #[.int .i64 (m : Int), .int .i64 (n : Int), u, v] w (FreshBB w (croot h m n true P).1 (croot h m n true P).2 true) := by
  have hok : hashesB P (clenZ (m : Int) (n : Int)) = true := hashesB_yes ⟨by unfold clenZ; rw [if_pos (consB_yes (by omega))]; simp [hP], all32_of hall⟩
  obtain ⟨A, c, rfl, p1, p2, p0, p3⟩ := id hv
  obtain ⟨Au, cu, rfl, q1, q2, q0, q3⟩ := id hu
  have p2' := p2
  unfold maxLen at p2' q2
  have hb1 : Below w.heap.size w ((w.alloc (.cells #[.int .i64 (m : Int)] 3)).alloc (.cells #[.slice A P.length c] 23)).drew := below_drewN (((Below.refl _ w).alloc (Nat.le_refl _) _).alloc (by simp) _) 1
  have HIH : Hid (∀ w' (h' : Sl w' w'.heap.size (.slice Au h.length cu) h), Calls Tryd.prog 44 #[.slice Au h.length cu] w' (fun e w2 => e = .returned (.bool true) ∧ w' = w2)) := Lib.hid fun w' h' => by
    have := isHash_any _ h w' h'
    rwa [hash_yes hh] at this
  have HHP := Lib.hid (fun w => hasCons_any (m : Int) (n : Int) w)
  rw [consB_yes (by omega)] at HHP
  have HPL := Lib.hid (fun w => implConsLen_any (m : Int) (n : Int) w)
  have HAH : Hid (∀ w' (h' : SlS w' w'.heap.size (.slice A P.length c) P), Calls Tryd.prog 46 #[.slice A P.length c, .int .i64 (clenZ (m : Int) (n : Int))] w' (fun e w2 => e = .returned (.bool true) ∧ w' = w2)) := Lib.hid fun w' h' => by
    have := areHashes_any (.slice A P.length c) P (clenZ (m : Int) (n : Int)) w' h'
    rwa [hok] at this
  generalize clenZ (m : Int) (n : Int) = Z at HPL HAH hok
  have HU := Lib.hid (hu.up hb1)
  have HV := Lib.hid (hv.up hb1)
  have HHH := Lib.hid hh
  have HK0 : Hid (((w.alloc (.cells #[.int .i64 (m : Int)] 3)).alloc (.cells #[.slice A P.length c] 23)).drew.cell? ⟨w.heap.size, 0, none⟩ = some (.int .i64 (m : Int)) ∧ ((w.alloc (.cells #[.int .i64 (m : Int)] 3)).alloc (.cells #[.slice A P.length c] 23)).drew.cell? ⟨w.heap.size + 1, 0, none⟩ = some (.slice A P.length c)) := Lib.hid ⟨by simp, by simp⟩
  have HC : Hid (∀ w2, Below ((w.alloc (.cells #[.int .i64 (m : Int)] 3)).alloc (.cells #[.slice A P.length c] 23)).drew.heap.size ((w.alloc (.cells #[.int .i64 (m : Int)] 3)).alloc (.cells #[.slice A P.length c] 23)).drew w2 → w2.cell? ⟨w.heap.size, 0, none⟩ = some (.int .i64 (m : Int)) ∧ w2.cell? ⟨w.heap.size + 1, 0, none⟩ = some (.slice A P.length c)) := Lib.hid fun w2 hb2 =>
    ⟨(hb2.cell (p := ⟨w.heap.size, 0, none⟩) (by simp; omega)).trans HK0.out.1, (hb2.cell (p := ⟨w.heap.size + 1, 0, none⟩) (by simp)).trans HK0.out.2⟩
  have HP := Lib.hid hP
  have HALL := Lib.hid hall
  have HB1 := Lib.hid hb1
  clear hok hu hh p0 q0 q3 hP hall p3 hb1
  refine (callsIn_wide (n := 4)).1 ?_
  refine callsIn_of_wp_marks Tryd.func19 rfl trivial ?_ rfl
  simp only [Tryd.ntmps19, List.size_toArray, List.length_cons, List.length_nil, Nat.reduceAdd, Nat.reduceSub, Array.replicate_succ, Array.replicate_zero, List.push_toArray, List.append_toArray, List.nil_append, List.cons_append]
  gi_wp2
  refine wpIn_wide.2 ?_
  go_region_held3 (fun w' => w'.cell? ⟨w.heap.size, 0, none⟩ = some (.int .i64 (m : Int)) ∧ w'.cell? ⟨w.heap.size + 1, 0, none⟩ = some (.slice A P.length c))
    (first
      | exact HK0.out
      | exact HK2.out)
    (first
      | (go_at_call 44; refine (HIH.out _ HU.out).mono ?_; rintro e w' ⟨rfl, rfl⟩)
      | (go_at_call 52; refine (HHP.out _).mono ?_; rintro e w' ⟨rfl, rfl⟩)
      | (go_at_call 20; refine (HPL.out _).mono ?_; rintro e w2 ⟨rfl, hb2⟩; have HB2 := Lib.hid hb2; have HV2 := Lib.hid (HV.out.up hb2); have HK2 := Lib.hid (HC.out _ hb2); clear hb2)
      | (go_at_call 46; refine (HAH.out _ HV2.out).mono ?_; rintro e w' ⟨rfl, rfl⟩))
  rename_i K hK hHeld
  refine hK _ _ ?_
  clear hK hHeld
  have hcm2 := HK2.out.1
  have hcp2 := HK2.out.2
  have hsz2 : w.heap.size + 1 + 1 ≤ w2.heap.size := by
    have := HB2.out.size
    simpa using this
  have hb4 : Below w2.heap.size w2 ((w2.alloc (.cells #[.slice Au h.length cu] 22)).alloc (.cells #[.slice Au h.length cu] 22)) := ((Below.refl _ w2).alloc (Nat.le_refl _) _).alloc (by simp) _
  have hcm4 := (hb4.cell (p := ⟨w.heap.size, 0, none⟩) (show w.heap.size < w2.heap.size by omega)).trans hcm2
  gi_wp2_with (refine ⟨trivial, ?_⟩; gi_at_call 51; refine (cons_in _ _ _ _).mono ?_; rintro e w' ⟨rfl, rfl⟩)
  obtain ⟨B, hB⟩ : ∃ B, B = w.heap.size := ⟨_, rfl⟩
  obtain ⟨S, hS⟩ : ∃ S, S = w2.heap.size := ⟨_, rfl⟩
  have bO := Boxed.new w2 22 (.slice Au h.length cu)
  have bR := Boxed.new (w2.alloc (.cells #[.slice Au h.length cu] 22)) 22 (.slice Au h.length cu)
  have bI := Boxed.new ((w2.alloc (.cells #[.slice Au h.length cu] 22)).alloc (.cells #[.slice Au h.length cu] 22)) 3 (.int .i64 (m : Int))
  have bN := Boxed.new (((w2.alloc (.cells #[.slice Au h.length cu] 22)).alloc (.cells #[.slice Au h.length cu] 22)).alloc (.cells #[.int .i64 (m : Int)] 3)) 3 (.int .i64 (n : Int))
  rw [← hS] at bO
  rw [World.size_alloc, ← hS] at bR
  rw [World.size_alloc, World.size_alloc, ← hS] at bI
  rw [World.size_alloc, World.size_alloc, World.size_alloc, ← hS] at bN
  replace bO := ((bO.alloc (.cells #[.slice Au h.length cu] 22)).alloc (.cells #[.int .i64 (m : Int)] 3)).alloc (.cells #[.int .i64 (n : Int)] 3)
  replace bR := (bR.alloc (.cells #[.int .i64 (m : Int)] 3)).alloc (.cells #[.int .i64 (n : Int)] 3)
  replace bI := bI.alloc (.cells #[.int .i64 (n : Int)] 3)
  have hb4' : Below w2.heap.size w2 ((((w2.alloc (.cells #[.slice Au h.length cu] 22)).alloc (.cells #[.slice Au h.length cu] 22)).alloc (.cells #[.int .i64 (m : Int)] 3)).alloc (.cells #[.int .i64 (n : Int)] 3)) := (hb4.alloc (by simp; omega) _).alloc (by simp; omega) _
  have b0 : Boxed ((w.alloc (.cells #[.int .i64 (m : Int)] 3)).alloc (.cells #[.slice A P.length c] 23)).drew w.heap.size 3 (.int .i64 (m : Int)) := ((Boxed.new w 3 (.int .i64 (m : Int))).alloc (.cells #[.slice A P.length c] 23))
  have b1 : Boxed ((w.alloc (.cells #[.int .i64 (m : Int)] 3)).alloc (.cells #[.slice A P.length c] 23)).drew (w.alloc (.cells #[.int .i64 (m : Int)] 3)).heap.size 23 (.slice A P.length c) := Boxed.new (w.alloc (.cells #[.int .i64 (m : Int)] 3)) 23 (.slice A P.length c)
  rw [World.size_alloc] at b1
  rw [← hB] at b0 b1
  replace b0 := (b0.kept (grown_of_below HB2.out none) (by simp)).kept (grown_of_below hb4' none) (by simp)
  replace b1 := (b1.kept (grown_of_below HB2.out none) (by simp)).kept (grown_of_below hb4' none) (by simp)
  have hBS : B + 1 < S := by omega
  have hb2w : Below w.heap.size w w2 := HB1.out.trans (HB2.out.mono (by simp; omega))
  have hBL : Below B w ((((w2.alloc (.cells #[.slice Au h.length cu] 22)).alloc (.cells #[.slice Au h.length cu] 22)).alloc (.cells #[.int .i64 (m : Int)] 3)).alloc (.cells #[.int .i64 (n : Int)] 3)) := by
    rw [hB]
    exact hb2w.trans (hb4'.mono (by omega))
  have hsz4 : ((((w2.alloc (.cells #[.slice Au h.length cu] 22)).alloc (.cells #[.slice Au h.length cu] 22)).alloc (.cells #[.int .i64 (m : Int)] 3)).alloc (.cells #[.int .i64 (n : Int)] 3)).heap.size = S + 4 := by simp [hS]
  have hSl := (HU.out.up HB2.out).up hb4'
  rw [← hB, ← hS]
  generalize (((w2.alloc (.cells #[.slice Au h.length cu] 22)).alloc (.cells #[.slice Au h.length cu] 22)).alloc (.cells #[.int .i64 (m : Int)] 3)).alloc (.cells #[.int .i64 (n : Int)] 3) = w4 at bO bR bI bN b0 b1 hBL hsz4 hSl ⊢
  obtain ⟨b, off, hbo⟩ : ∃ b off, 0 < P.length → A = some ⟨b, off, none⟩ ∧ b < w.heap.size ∧ ∀ k, k < P.length → ∃ u, w.cell? ⟨b, off + k, none⟩ = some u ∧ Sl w w.heap.size u (P.getD k []) := by
    by_cases h0 : 0 < P.length
    · obtain ⟨A', c', e', _, _, _, h3⟩ := hv
      simp only [Value.slice.injEq, true_and] at e'
      obtain ⟨rfl, rfl⟩ := e'
      obtain ⟨b, off, h⟩ := h3 h0
      exact ⟨b, off, fun _ => h⟩
    · exact ⟨0, 0, fun h => absurd h h0⟩
  obtain ⟨zs, hzs, hzm⟩ := consZ_ex h0 hmn
  have HZ := Lib.hid hzs
  have HZM := Lib.hid hzm
  have HZL : Hid (P.length = zs.length) := Lib.hid (HP.out.trans (zsC_len hzm).symm)
  have HBO := Lib.hid hbo
  have HB := Lib.hid hB
  have hOI := CrtI.own m h P zs w B S b off c w4.heap.size (Nat.le_of_eq hB) (by omega)
  have hI0 : CrtI m h P zs w B S b off c 0 w4 := ⟨⟨_, _, bO, bR, by rw [accC_zero]; exact hSl, by rw [accC_zero]; exact hSl⟩, b0, ⟨A, fun h0 => (HBO.out h0).1, b1⟩, hBL, by omega⟩
  clear hbo hzs hzm bO bR b0 b1 hB hS hsz2 hv hb4 hb4' hcm4 hcm2 hcp2 HIH HHP HPL HAH HU HV HB2 HK0 HK2 HC HV2 HB1 hb2w hSl
  refine wpIn_range_gives (zs := zs) (Kp := KpC B (S + 1 + 1) (S + 1 + 1 + 1) (w4.heap.size + 2) 1000000) (encs := fun x : PA n => #[.agg #[.int .i64 (x.1.1 : Int), .int .i64 (x.1.2 : Int)]]) rfl (by omega)
    (gf := 76) (lb := #[.pointer (some ⟨S + 1 + 1, 0, none⟩), .pointer (some ⟨S + 1 + 1 + 1, 0, none⟩)]) rfl trivial (enters_of Tryd.func76 (by kernel_rfl) rfl)
    (fun l' J W hW hbel hJ hY hj => ?seq) KpC.trans (fun W o o' h _ => ⟨KpP.turn W o' h (by omega) (by omega) (by omega), KeepsBut.turn W o' (by omega)⟩) (fun _ => rfl)
    (CrtI m h P zs w B S b off c) hOI hI0
    (fun x a' W => ∃ k, a' = { tmps := #[.int .i64 (m : Int), .int .i64 (n : Int), .slice Au h.length cu, .slice A P.length c, .pointer (some ⟨B, 0, none⟩), undef, undef, .pointer (some ⟨B + 1, 0, none⟩), .slice none 0 0, .slice none 0 0, .bool false, .pointer (some ⟨S, 0, none⟩), .pointer (some ⟨S + 1, 0, none⟩), .pointer (some ⟨k, 0, none⟩), undef, .slice Au h.length cu, .bool true, .bool false, .bool false, .int .i64 (m : Int), .int .i64 (n : Int), .bool true, .bool false, .bool false, .bool false, .slice A P.length c, .int .i64 (m : Int), .int .i64 (n : Int), .int .i64 Z, .bool true, .bool false, .bool false, .slice Au h.length cu, .slice Au h.length cu, .int .i64 (m : Int), .int .i64 (n : Int),
      .func (.func 76) #[] #[.pointer (some ⟨S + 1 + 1, 0, none⟩), .pointer (some ⟨S + 1 + 1 + 1, 0, none⟩)], .agg #[.int .i64 (x.1.1 : Int), .int .i64 (x.1.2 : Int)], undef, undef, undef, undef, undef, undef, undef, undef, undef, undef, undef, undef, undef, undef, undef, undef, undef, undef, undef, undef, undef, undef, undef, undef, undef, undef, undef, undef, undef, undef], defers := [] } ∧
      S + 3 < k ∧ k < W.heap.size ∧ W.cell? ⟨k, 0, none⟩ = some (.int .i64 (x.1.1 : Int)) ∧ W.cell? ⟨k, 1, none⟩ = some (.int .i64 (x.1.2 : Int)))
    (fun x a' _ W W' row h hg hr => by
      obtain ⟨k, e, hS, hk, h1, h2⟩ := h
      exact ⟨k, e, hS, Nat.lt_of_lt_of_le hk hg.size, cell_kept h1 hg (fun r e => (hr r e).2), cell_kept h2 hg (fun r e => (hr r e).2)⟩) ?assign ?body ?done
  case seq =>
    refine cons1_in zs HZ.out h0 hmn (by omega) 1000000 (by decide) (by decide) _ l' (S + 1 + 1) (S + 1 + 1 + 1) B J W (by rw [hW]; exact hJ) (by rw [hW]; exact hY) (by omega) (by omega) (by omega) ?_ ?_ hj
    · exact (hbel.cell (p := ⟨S + 1 + 1, 0, none⟩) (by simp; omega)).trans bI.cell
    · exact (hbel.cell (p := ⟨S + 1 + 1 + 1, 0, none⟩) (by simp; omega)).trans bN.cell
  case assign =>
    intro l' k x W K hIp hK
    have hs4 := hIp.2.2.2.2
    gi_wp2
    exact hK _ _ ((KeepsOthers.alloc _ _).from _) ⟨⟨(Below.refl _ W).alloc (by omega) _, Below.heap_alloc _ _ _ (by omega), Below.heap_alloc _ _ _ (by omega)⟩, KeepsBut.of_grownBy (World.grownBy_alloc W _ none) (fun j e => by cases e)⟩ (hOI.alloc _ hIp) ⟨W.heap.size, rfl, by omega, by simp, by simp, by simp⟩
  case body =>
    rintro l' k x a' W hlB hx ⟨⟨v1, v2, hv1, hv2, hs1, hs2⟩, hbi, ⟨A', hA', hbp⟩, hbw, hsw⟩ ⟨kb, rfl, hkS, hkw, hk0, hk1⟩
    have hkP : k < P.length := by have := HZL.out; have := at_lt hx; omega
    obtain rfl := hA' hkP
    have hsn := accC_succ (m := m) (h := h) hx hkP
    have hal := accC_len (m := m) (k := k) (zs := zs) HHH.out HALL.out
    obtain ⟨e0, hbb, hcell⟩ := HBO.out (by omega)
    obtain ⟨xv, hx0, hxs⟩ := hcell k hkP
    have hxl : (P.getD k []).length = 32 := HALL.out _ (by simp [List.getD_eq_getElem?_getD, List.getElem?_eq_getElem hkP])
    clear hcell hA' e0 hx
    have hxc := (hbw.cell (p := ⟨b, off + k, none⟩) (by rw [HB.out]; exact hbb)).trans hx0
    have HNR : Hid (P.length - (k + 1) = P.length - k - 1 ∧ c - (k + 1) = c - k - 1) := Lib.hid ⟨by omega, by omega⟩
    have hnz : Hid (k + 1 < P.length → 1 < P.length - k) := Lib.hid (by omega)
    have hr0 : 0 < P.length - k := by omega
    have hr3 : P.length - k ≤ c - k := by omega
    have hcq4 : c - k ≤ 9223372036854775807 := by omega
    generalize accC m h P zs k = F at hsn hal hs1 hs2
    generalize P.getD k [] = y at hsn hxl hxs
    generalize P.length - k = r at hbp HNR hnz hr0 hr3
    generalize c - k = cq at hbp HNR hr3 hcq4
    have HSN : Hid (accC m h P zs (k + 1) = stepC m F (x.1, y)) := Lib.hid hsn
    have HY32 := Lib.hid hxl
    have HF32 := Lib.hid hal
    obtain ⟨Ax, cx, rfl, _, _, _, _⟩ := id hxs
    obtain ⟨A1, c1, rfl, _, _, _, _⟩ := id hs1
    obtain ⟨A2, c2, rfl, _, _, _, _⟩ := id hs2
    have hBw : B = w.heap.size := HB.out
    have HBX : Hid (∀ pv, Below w.heap.size w (W.setCell ⟨B + 1, 0, none⟩ pv)) := Lib.hid fun pv => (hbw.setCell (p := ⟨B + 1, 0, none⟩) (by simp) pv).mono (Nat.le_of_eq hBw.symm)
    have HX1 : Hid (∀ pv, Sl (W.setCell ⟨B + 1, 0, none⟩ pv) (W.setCell ⟨B + 1, 0, none⟩ pv).heap.size (.slice Ax y.length cx) y) := Lib.hid fun pv => hxs.up (HBX.out pv)
    have HV1 : Hid (∀ pv, Sl (W.setCell ⟨B + 1, 0, none⟩ pv) (W.setCell ⟨B + 1, 0, none⟩ pv).heap.size (.slice A1 F.1.length c1) F.1) := Lib.hid fun pv => sl_boxU hs1 hbp pv
    have HV2 : Hid (∀ pv, Sl (W.setCell ⟨B + 1, 0, none⟩ pv) (W.setCell ⟨B + 1, 0, none⟩ pv).heap.size (.slice A2 F.2.length c2) F.2) := Lib.hid fun pv => sl_boxU hs2 hbp pv
    have HB1 : Hid (∀ pv, Boxed (W.setCell ⟨B + 1, 0, none⟩ pv) S 22 (.slice A1 F.1.length c1)) := Lib.hid fun pv => hv1.other (by omega) pv
    have HB2 : Hid (∀ pv, Boxed (W.setCell ⟨B + 1, 0, none⟩ pv) (S + 1) 22 (.slice A2 F.2.length c2)) := Lib.hid fun pv => hv2.other (by omega) pv
    have HS0 : Hid (StC m w B S (S + 4) W W (.slice A1 F.1.length c1) (.slice A2 F.2.length c2) (.slice (some ⟨b, off + k, none⟩) r cq)) := Lib.hid ⟨KeepsFrom.refl _ _, ⟨KpP.refl _ _ _ _, KeepsBut.refl _ _ _⟩, hv1, hv2, hbi, hbp, hbw, Nat.le_refl _⟩
    have hic := hbi.cell
    have hpc := hbp.cell
    have hpf := hbp.frozen
    have hplt := hbp.lt
    have hvc1 := hv1.cell
    have hvf1 := hv1.frozen
    have hvc2 := hv2.cell
    have hvf2 := hv2.frozen
    have hr1 : (0 : Int) < (r : Int) := by omega
    have hr2 : (1 : Int) ≤ (r : Int) := by omega
    have hr4 : (r : Int) ≤ (cq : Int) := by omega
    have hBe : B ≠ S := by omega
    have hB1e : B + 1 ≠ S := by omega
    have hB2e : B + 1 ≠ S + 1 := by omega
    have hgv : B ≤ S := by omega
    clear hsn hxl hal hxs hs1 hs2 hv1 hv2 hbi hbp hBw hx0
    have HSN : Hid (accC m h P zs (k + 1) = stepC m F ((x.1.1, x.1.2), y)) := HSN
    generalize x.1.1 = a at hk0 HSN ⊢
    generalize x.1.2 = e at hk1 HSN ⊢
    by_cases hcq1 : cq = 1
    · by_cases hma : m ≤ a
      · have hst : accC m h P zs (k + 1) = (F.1, nodeL F.2 y) := HSN.out.trans (stepC_new hma)
        have hmai : (m : Int) ≤ (a : Int) := by omega
        clear hma
        gi_wp2_with (first
          | (refine ⟨trivial, ?_⟩; gi_at_call 41; refine (CallsIn.inRound l' (callsIn_wide.2 (implNodeHash_any (.slice A2 F.2.length c2) (.slice Ax y.length cx) F.2 y _ (HV2.out _) (HX1.out _) (by rw [HF32.out.2]; omega) (by rw [HY32.out]; omega) (hI.below hI.lt (HBX.out _)) (hG.below hG.lt (HBX.out _))))).mono ?_; rintro e W3 ⟨u3, rfl, ho3, hb3⟩;
             have HO3 := Lib.hid ho3.sl;
             have HB3 := Lib.hid hb3;
             have hv3 := (HB2.out (.slice (some ⟨b, off + k, none⟩) (r - 1) 0)).kept (grown_of_below hb3 none) (by simp);
             have HV3 := Lib.hid hv3;
             have hvc3 := hv3.cell;
             have hvf3 := hv3.frozen;
             obtain ⟨A5, c5, rfl, n1, n2, n0, n3⟩ := ho3.sl;
             clear n1 n2 n0 n3 ho3 hv3 hb3 hvc2 hvf2))
        have hfin := crt_end (h := h) (zs := zs) (b := b) (off := off) (c := c) (l := (F.1, nodeL F.2 y)) (((HS0.out.setP hBS (by omega) (.slice (some ⟨b, off + k, none⟩) (r - 1) 0)).call hsw hBS HB3.out).set2 hBS (by omega) (.slice A5 (nodeL F.2 y).length c5)) hsw (sl_boxU ((HV1.out _).up HB3.out) HV3.out _) (sl_boxU HO3.out HV3.out _) hst ⟨_, fun h => absurd (hnz.out h) (by omega), by rw [HNR.out.1, HNR.out.2, hcq1]⟩
        rw [← hsz4] at hfin
        exact hfin
      · by_cases hbm : e < m
        · have hst : accC m h P zs (k + 1) = (nodeL y F.1, nodeL y F.2) := HSN.out.trans (stepC_old hma hbm)
          have hmai : ¬ (m : Int) ≤ (a : Int) := by omega
          have hbmi : (e : Int) < (m : Int) := by omega
          have HNA := Lib.hid (fun w' hb => implNodeHash_any (.slice Ax y.length cx) (.slice A1 F.1.length c1) y F.1 w' ((HX1.out (.slice (some ⟨b, off + k, none⟩) (r - 1) 0)).up hb) ((HV1.out (.slice (some ⟨b, off + k, none⟩) (r - 1) 0)).up hb) (by rw [HY32.out]; omega) (by rw [HF32.out.1]; omega) ((hI.below hI.lt (HBX.out (.slice (some ⟨b, off + k, none⟩) (r - 1) 0))).up hb) ((hG.below hG.lt (HBX.out (.slice (some ⟨b, off + k, none⟩) (r - 1) 0))).up hb))
          have HNB := Lib.hid (fun w' hb => implNodeHash_any (.slice Ax y.length cx) (.slice A2 F.2.length c2) y F.2 w' ((HX1.out (.slice (some ⟨b, off + k, none⟩) (r - 1) 0)).up hb) ((HV2.out (.slice (some ⟨b, off + k, none⟩) (r - 1) 0)).up hb) (by rw [HY32.out]; omega) (by rw [HF32.out.2]; omega) ((hI.below hI.lt (HBX.out (.slice (some ⟨b, off + k, none⟩) (r - 1) 0))).up hb) ((hG.below hG.lt (HBX.out (.slice (some ⟨b, off + k, none⟩) (r - 1) 0))).up hb))
          have HC1 := Lib.hid (And.intro (HB1.out (.slice (some ⟨b, off + k, none⟩) (r - 1) 0)).cell (HB1.out (.slice (some ⟨b, off + k, none⟩) (r - 1) 0)).lt)
          have HC2 := Lib.hid (And.intro (HB2.out (.slice (some ⟨b, off + k, none⟩) (r - 1) 0)).cell (HB2.out (.slice (some ⟨b, off + k, none⟩) (r - 1) 0)).lt)
          clear hma hbm
          gi_wp2
          refine wpIn_region_head 6 (NhSp (W.setCell ⟨B + 1, 0, none⟩ (.slice (some ⟨b, off + k, none⟩) (r - 1) 0)) (.slice Ax y.length cx) (.slice A1 F.1.length c1) (.slice A2 F.2.length c2) (nodeL y F.1) (nodeL y F.2)) (by kernel_rfl) (by kernel_rfl) (by kernel_rfl) ?hup ?hstep ?hend
          case hup =>
            intro j w5 w6 vz vz' hj h hb6 hvz
            exact NhSp.up j h hb6 (hvz j (.inl rfl))
          case hstep =>
            intro j o hj ho vz w5 hb5 hp
            have hc1 := (hb5.cell (p := ⟨S, 0, none⟩) HC1.out.2).trans HC1.out.1
            have hc2 := (hb5.cell (p := ⟨S + 1, 0, none⟩) HC2.out.2).trans HC2.out.1
            simp only [putAll, dstOf, Option.bind_some, Act.put, List.getElem?_toArray, List.getElem?_cons_zero, List.getElem?_cons_succ, List.setIfInBounds_toArray, List.set_cons_zero, List.set_cons_succ]
            rcases j with _ | _ | _ | _ | _ | _ | j
            all_goals (first | (exfalso; omega; done) | skip)
            all_goals simp only [List.getElem?_toArray, List.getElem?_cons_zero, List.getElem?_cons_succ, Option.some.injEq] at ho
            all_goals subst ho
            all_goals unfold Oper.wp
            · go_simp
              exact ⟨Below.refl _ _, by simp [NhSp, upd, valOf]⟩
            · go_simp
              exact ⟨Below.refl _ _, by simp [NhSp, upd, valOf]⟩
            · have h0 : vz 0 = _ := hp 0 (by kernel_rfl)
              have h1 : vz 1 = _ := hp 1 (by kernel_rfl)
              go_simp
              refine (HNA.out w5 hb5).mono ?_
              rintro e w6 ⟨u, rfl, ho, hb6⟩
              exact ⟨hb6, by simpa [NhSp, upd, valOf] using (GOwn.b.2 ho).mono hb5.size⟩
            · go_simp
              exact ⟨Below.refl _ _, by simp [NhSp, upd, valOf]⟩
            · go_simp
              exact ⟨Below.refl _ _, by simp [NhSp, upd, valOf]⟩
            · have h3 : vz 3 = _ := hp 3 (by kernel_rfl)
              have h4 : vz 4 = _ := hp 4 (by kernel_rfl)
              go_simp
              refine (HNB.out w5 hb5).mono ?_
              rintro e w6 ⟨u, rfl, ho, hb6⟩
              exact ⟨hb6, by simpa [NhSp, upd, valOf] using (GOwn.b.2 ho).mono hb5.size⟩
          case hend =>
            intro vz w5 hb5 hp
            have h2 : GOwn w5 (W.setCell ⟨B + 1, 0, none⟩ (.slice (some ⟨b, off + k, none⟩) (r - 1) 0)).heap.size (5, vz 2, us (nodeL y F.1)) := hp 2 (by omega)
            have h5 : GOwn w5 (W.setCell ⟨B + 1, 0, none⟩ (.slice (some ⟨b, off + k, none⟩) (r - 1) 0)).heap.size (5, vz 5, us (nodeL y F.2)) := hp 5 (by omega)
            have HO1 := Lib.hid (GOwn.b.1 h2).sl
            have HO2 := Lib.hid (GOwn.b.1 h5).sl
            obtain ⟨A7, c7, e7, _⟩ := HO1.out
            obtain ⟨A8, c8, e8, _⟩ := HO2.out
            rw [e7] at HO1
            rw [e8] at HO2
            have HB5 := Lib.hid hb5
            have hv5 := (HB1.out (.slice (some ⟨b, off + k, none⟩) (r - 1) 0)).kept (grown_of_below hb5 none) (by simp)
            have hv6 := (HB2.out (.slice (some ⟨b, off + k, none⟩) (r - 1) 0)).kept (grown_of_below hb5 none) (by simp)
            have HV5 := Lib.hid hv5
            have HV6 := Lib.hid hv6
            have hvc5 := hv5.cell
            have hvf5 := hv5.frozen
            have hv7 := hv6.other (show S + 1 ≠ S by omega) (.slice A7 (nodeL y F.1).length c7)
            have HV7 := Lib.hid hv7
            have hvc7 := hv7.cell
            have hvf7 := hv7.frozen
            clear hp h2 h5 hb5 hv5 hv6 hv7
            simp only [putAll, dstOf, Option.bind_some, Act.put, List.getElem?_toArray, List.getElem?_cons_zero, List.getElem?_cons_succ, List.setIfInBounds_toArray, List.set_cons_zero, List.set_cons_succ]
            refine wpAny_one (i := 6) (by kernel_rfl) rfl rfl ?_
            unfold Oper.wp
            go_simp
            refine wpAny_one (i := 7) (by kernel_rfl) rfl rfl ?_
            unfold Oper.wp
            go_simp
            refine wpAny_done (by kernel_rfl) ?_ _
            exact crt_end ((((HS0.out.setP hBS (by omega) (.slice (some ⟨b, off + k, none⟩) (r - 1) 0)).call hsw hBS HB5.out).set1 hBS (by omega) (.slice A7 (nodeL y F.1).length c7)).set2 hBS (by omega) (.slice A8 (nodeL y F.2).length c8)) hsw (sl_boxU (sl_boxU HO1.out HV5.out _) HV7.out _) (sl_boxU (sl_boxU HO2.out HV5.out _) HV7.out _) hst ⟨_, fun h => absurd (hnz.out h) (by omega), by rw [HNR.out.1, HNR.out.2, hcq1]⟩
        · have hst : accC m h P zs (k + 1) = (y, y) := HSN.out.trans (stepC_all hma hbm)
          have hmai : ¬ (m : Int) ≤ (a : Int) := by omega
          have hbmi : ¬ (e : Int) < (m : Int) := by omega
          clear hma hbm
          gi_wp2
          exact crt_end (((HS0.out.setP hBS (by omega) (.slice (some ⟨b, off + k, none⟩) (r - 1) 0)).set1 hBS (by omega) (.slice Ax y.length cx)).set2 hBS (by omega) (.slice Ax y.length cx)) hsw (sl_boxU (sl_boxU (HX1.out _) (HB1.out _) _) ((HB2.out _).other (by omega) _) _) (sl_boxU (sl_boxU (HX1.out _) (HB1.out _) _) ((HB2.out _).other (by omega) _) _) hst ⟨_, fun h => absurd (hnz.out h) (by omega), by rw [HNR.out.1, HNR.out.2, hcq1]⟩
    · have hcq2 : ¬ cq - 1 = 0 := by omega
      by_cases hma : m ≤ a
      · have hst : accC m h P zs (k + 1) = (F.1, nodeL F.2 y) := HSN.out.trans (stepC_new hma)
        have hmai : (m : Int) ≤ (a : Int) := by omega
        clear hma
        gi_wp2_with (first
          | (refine ⟨trivial, ?_⟩; gi_at_call 41; refine (CallsIn.inRound l' (callsIn_wide.2 (implNodeHash_any (.slice A2 F.2.length c2) (.slice Ax y.length cx) F.2 y _ (HV2.out _) (HX1.out _) (by rw [HF32.out.2]; omega) (by rw [HY32.out]; omega) (hI.below hI.lt (HBX.out _)) (hG.below hG.lt (HBX.out _))))).mono ?_; rintro e W3 ⟨u3, rfl, ho3, hb3⟩;
             have HO3 := Lib.hid ho3.sl;
             have HB3 := Lib.hid hb3;
             have hv3 := (HB2.out (.slice (some ⟨b, off + k + 1, none⟩) (r - 1) (cq - 1))).kept (grown_of_below hb3 none) (by simp);
             have HV3 := Lib.hid hv3;
             have hvc3 := hv3.cell;
             have hvf3 := hv3.frozen;
             obtain ⟨A5, c5, rfl, n1, n2, n0, n3⟩ := ho3.sl;
             clear n1 n2 n0 n3 ho3 hv3 hb3 hvc2 hvf2))
        have hfin := crt_end (h := h) (zs := zs) (b := b) (off := off) (c := c) (l := (F.1, nodeL F.2 y)) (((HS0.out.setP hBS (by omega) (.slice (some ⟨b, off + k + 1, none⟩) (r - 1) (cq - 1))).call hsw hBS HB3.out).set2 hBS (by omega) (.slice A5 (nodeL F.2 y).length c5)) hsw (sl_boxU ((HV1.out _).up HB3.out) HV3.out _) (sl_boxU HO3.out HV3.out _) hst ⟨_, fun _ => by rw [← Nat.add_assoc], by rw [HNR.out.1, HNR.out.2]⟩
        rw [← hsz4] at hfin
        exact hfin
      · by_cases hbm : e < m
        · have hst : accC m h P zs (k + 1) = (nodeL y F.1, nodeL y F.2) := HSN.out.trans (stepC_old hma hbm)
          have hmai : ¬ (m : Int) ≤ (a : Int) := by omega
          have hbmi : (e : Int) < (m : Int) := by omega
          have HNA := Lib.hid (fun w' hb => implNodeHash_any (.slice Ax y.length cx) (.slice A1 F.1.length c1) y F.1 w' ((HX1.out (.slice (some ⟨b, off + k + 1, none⟩) (r - 1) (cq - 1))).up hb) ((HV1.out (.slice (some ⟨b, off + k + 1, none⟩) (r - 1) (cq - 1))).up hb) (by rw [HY32.out]; omega) (by rw [HF32.out.1]; omega) ((hI.below hI.lt (HBX.out (.slice (some ⟨b, off + k + 1, none⟩) (r - 1) (cq - 1)))).up hb) ((hG.below hG.lt (HBX.out (.slice (some ⟨b, off + k + 1, none⟩) (r - 1) (cq - 1)))).up hb))
          have HNB := Lib.hid (fun w' hb => implNodeHash_any (.slice Ax y.length cx) (.slice A2 F.2.length c2) y F.2 w' ((HX1.out (.slice (some ⟨b, off + k + 1, none⟩) (r - 1) (cq - 1))).up hb) ((HV2.out (.slice (some ⟨b, off + k + 1, none⟩) (r - 1) (cq - 1))).up hb) (by rw [HY32.out]; omega) (by rw [HF32.out.2]; omega) ((hI.below hI.lt (HBX.out (.slice (some ⟨b, off + k + 1, none⟩) (r - 1) (cq - 1)))).up hb) ((hG.below hG.lt (HBX.out (.slice (some ⟨b, off + k + 1, none⟩) (r - 1) (cq - 1)))).up hb))
          have HC1 := Lib.hid (And.intro (HB1.out (.slice (some ⟨b, off + k + 1, none⟩) (r - 1) (cq - 1))).cell (HB1.out (.slice (some ⟨b, off + k + 1, none⟩) (r - 1) (cq - 1))).lt)
          have HC2 := Lib.hid (And.intro (HB2.out (.slice (some ⟨b, off + k + 1, none⟩) (r - 1) (cq - 1))).cell (HB2.out (.slice (some ⟨b, off + k + 1, none⟩) (r - 1) (cq - 1))).lt)
          clear hma hbm
          gi_wp2
          refine wpIn_region_head 6 (NhSp (W.setCell ⟨B + 1, 0, none⟩ (.slice (some ⟨b, off + k + 1, none⟩) (r - 1) (cq - 1))) (.slice Ax y.length cx) (.slice A1 F.1.length c1) (.slice A2 F.2.length c2) (nodeL y F.1) (nodeL y F.2)) (by kernel_rfl) (by kernel_rfl) (by kernel_rfl) ?hup ?hstep ?hend
          case hup =>
            intro j w5 w6 vz vz' hj h hb6 hvz
            exact NhSp.up j h hb6 (hvz j (.inl rfl))
          case hstep =>
            intro j o hj ho vz w5 hb5 hp
            have hc1 := (hb5.cell (p := ⟨S, 0, none⟩) HC1.out.2).trans HC1.out.1
            have hc2 := (hb5.cell (p := ⟨S + 1, 0, none⟩) HC2.out.2).trans HC2.out.1
            simp only [putAll, dstOf, Option.bind_some, Act.put, List.getElem?_toArray, List.getElem?_cons_zero, List.getElem?_cons_succ, List.setIfInBounds_toArray, List.set_cons_zero, List.set_cons_succ]
            rcases j with _ | _ | _ | _ | _ | _ | j
            all_goals (first | (exfalso; omega; done) | skip)
            all_goals simp only [List.getElem?_toArray, List.getElem?_cons_zero, List.getElem?_cons_succ, Option.some.injEq] at ho
            all_goals subst ho
            all_goals unfold Oper.wp
            · go_simp
              exact ⟨Below.refl _ _, by simp [NhSp, upd, valOf]⟩
            · go_simp
              exact ⟨Below.refl _ _, by simp [NhSp, upd, valOf]⟩
            · have h0 : vz 0 = _ := hp 0 (by kernel_rfl)
              have h1 : vz 1 = _ := hp 1 (by kernel_rfl)
              go_simp
              refine (HNA.out w5 hb5).mono ?_
              rintro e w6 ⟨u, rfl, ho, hb6⟩
              exact ⟨hb6, by simpa [NhSp, upd, valOf] using (GOwn.b.2 ho).mono hb5.size⟩
            · go_simp
              exact ⟨Below.refl _ _, by simp [NhSp, upd, valOf]⟩
            · go_simp
              exact ⟨Below.refl _ _, by simp [NhSp, upd, valOf]⟩
            · have h3 : vz 3 = _ := hp 3 (by kernel_rfl)
              have h4 : vz 4 = _ := hp 4 (by kernel_rfl)
              go_simp
              refine (HNB.out w5 hb5).mono ?_
              rintro e w6 ⟨u, rfl, ho, hb6⟩
              exact ⟨hb6, by simpa [NhSp, upd, valOf] using (GOwn.b.2 ho).mono hb5.size⟩
          case hend =>
            intro vz w5 hb5 hp
            have h2 : GOwn w5 (W.setCell ⟨B + 1, 0, none⟩ (.slice (some ⟨b, off + k + 1, none⟩) (r - 1) (cq - 1))).heap.size (5, vz 2, us (nodeL y F.1)) := hp 2 (by omega)
            have h5 : GOwn w5 (W.setCell ⟨B + 1, 0, none⟩ (.slice (some ⟨b, off + k + 1, none⟩) (r - 1) (cq - 1))).heap.size (5, vz 5, us (nodeL y F.2)) := hp 5 (by omega)
            have HO1 := Lib.hid (GOwn.b.1 h2).sl
            have HO2 := Lib.hid (GOwn.b.1 h5).sl
            obtain ⟨A7, c7, e7, _⟩ := HO1.out
            obtain ⟨A8, c8, e8, _⟩ := HO2.out
            rw [e7] at HO1
            rw [e8] at HO2
            have HB5 := Lib.hid hb5
            have hv5 := (HB1.out (.slice (some ⟨b, off + k + 1, none⟩) (r - 1) (cq - 1))).kept (grown_of_below hb5 none) (by simp)
            have hv6 := (HB2.out (.slice (some ⟨b, off + k + 1, none⟩) (r - 1) (cq - 1))).kept (grown_of_below hb5 none) (by simp)
            have HV5 := Lib.hid hv5
            have HV6 := Lib.hid hv6
            have hvc5 := hv5.cell
            have hvf5 := hv5.frozen
            have hv7 := hv6.other (show S + 1 ≠ S by omega) (.slice A7 (nodeL y F.1).length c7)
            have HV7 := Lib.hid hv7
            have hvc7 := hv7.cell
            have hvf7 := hv7.frozen
            clear hp h2 h5 hb5 hv5 hv6 hv7
            simp only [putAll, dstOf, Option.bind_some, Act.put, List.getElem?_toArray, List.getElem?_cons_zero, List.getElem?_cons_succ, List.setIfInBounds_toArray, List.set_cons_zero, List.set_cons_succ]
            refine wpAny_one (i := 6) (by kernel_rfl) rfl rfl ?_
            unfold Oper.wp
            go_simp
            refine wpAny_one (i := 7) (by kernel_rfl) rfl rfl ?_
            unfold Oper.wp
            go_simp
            refine wpAny_done (by kernel_rfl) ?_ _
            exact crt_end ((((HS0.out.setP hBS (by omega) (.slice (some ⟨b, off + k + 1, none⟩) (r - 1) (cq - 1))).call hsw hBS HB5.out).set1 hBS (by omega) (.slice A7 (nodeL y F.1).length c7)).set2 hBS (by omega) (.slice A8 (nodeL y F.2).length c8)) hsw (sl_boxU (sl_boxU HO1.out HV5.out _) HV7.out _) (sl_boxU (sl_boxU HO2.out HV5.out _) HV7.out _) hst ⟨_, fun _ => by rw [← Nat.add_assoc], by rw [HNR.out.1, HNR.out.2]⟩
        · have hst : accC m h P zs (k + 1) = (y, y) := HSN.out.trans (stepC_all hma hbm)
          have hmai : ¬ (m : Int) ≤ (a : Int) := by omega
          have hbmi : ¬ (e : Int) < (m : Int) := by omega
          clear hma hbm
          gi_wp2
          exact crt_end (((HS0.out.setP hBS (by omega) (.slice (some ⟨b, off + k + 1, none⟩) (r - 1) (cq - 1))).set1 hBS (by omega) (.slice Ax y.length cx)).set2 hBS (by omega) (.slice Ax y.length cx)) hsw (sl_boxU (sl_boxU (HX1.out _) (HB1.out _) _) ((HB2.out _).other (by omega) _) _) (sl_boxU (sl_boxU (HX1.out _) (HB1.out _) _) ((HB2.out _).other (by omega) _) _) hst ⟨_, fun _ => by rw [← Nat.add_assoc], by rw [HNR.out.1, HNR.out.2]⟩
  case done =>
    rintro D W hD ⟨⟨v1, v2, hv1, hv2, hs1, hs2⟩, hbi, _, hbw, hsw⟩ hK
    have hal := croot_length (m := m) (n := n) (b := true) HHH.out HALL.out
    rw [accC_all HZM.out HZL.out] at hs1 hs2
    obtain ⟨R, hR⟩ : ∃ R, R = croot h m n true P := ⟨_, rfl⟩
    rw [← hR] at hs1 hs2 hal
    have HR := Lib.hid hR
    clear hR
    obtain ⟨A1, c1, rfl, _, _, _, _⟩ := id hs1
    obtain ⟨A2, c2, rfl, _, _, _, _⟩ := id hs2
    have HDK := Lib.hid (And.intro hD hK)
    have HBW := Lib.hid hbw
    have HK0 : Hid (W.drew.cell? ⟨S, 0, none⟩ = some (.slice A1 R.1.length c1) ∧ W.drew.cell? ⟨S + 1, 0, none⟩ = some (.slice A2 R.2.length c2)) := Lib.hid ⟨hv1.cell, hv2.cell⟩
    have HKU : Hid (∀ w', Below W.drew.heap.size W.drew w' → w'.cell? ⟨S, 0, none⟩ = some (.slice A1 R.1.length c1) ∧ w'.cell? ⟨S + 1, 0, none⟩ = some (.slice A2 R.2.length c2)) := Lib.hid fun w' hb =>
      ⟨(hb.cell (p := ⟨S, 0, none⟩) hv1.lt).trans HK0.out.1, (hb.cell (p := ⟨S + 1, 0, none⟩) hv2.lt).trans HK0.out.2⟩
    have hsd1 : Sl W.drew W.drew.heap.size (.slice A1 R.1.length c1) R.1 := hs1
    have hsd2 : Sl W.drew W.drew.heap.size (.slice A2 R.2.length c2) R.2 := hs2
    have HSD2 := Lib.hid hsd2
    have HJ1 := Lib.hid (joined_any _ _ [] R.1 W.drew Sl.nil_ hsd1 (by simp) (by omega))
    have HJ2 := Lib.hid (fun w' h' => joined_any _ (.slice A2 R.2.length c2) [] R.2 w' Sl.nil_ h' (by simp) (by omega))
    rw [List.nil_append] at HJ1 HJ2
    clear hs1 hs2 hsd1 hsd2 hv1 hv2 hbi hbw hK hal
    gi_wp2
    refine wpIn_wide.2 ?_
    go_region_held3 (fun w' => w'.cell? ⟨S, 0, none⟩ = some (.slice A1 R.1.length c1) ∧ w'.cell? ⟨S + 1, 0, none⟩ = some (.slice A2 R.2.length c2))
      (first
        | exact HK0.out
        | exact HK4.out
        | exact HK3.out)
      (first
        | (go_at_call 47; refine HJ1.out.mono ?_; clear HJ1; rintro e w3 ⟨x3, rfl, ho3, hb3⟩; have H3 := Lib.hid ((InvG.start W.drew).more ho3 hb3); have HK3 := Lib.hid (HKU.out _ hb3); have HS3 := Lib.hid (HSD2.out.up hb3); obtain ⟨A3, c3, rfl, n1, n2, n0, n3⟩ := ho3.sl; clear n1 n2 n0 n3 ho3 hb3)
        | (go_at_call 47; refine (HJ2.out w3 HS3.out).mono ?_; clear HJ2; rintro e w5 ⟨x4, rfl, ho4, hb4⟩; have H4 := Lib.hid (H3.out.more ho4 hb4); have HK4 := Lib.hid (HKU.out _ H4.out.bel); obtain ⟨A4, c4, rfl, n1, n2, n0, n3⟩ := ho4.sl; clear n1 n2 n0 n3 ho4 hb4))
    rename_i K hK hHeld
    refine hK _ _ ?_
    clear hK hHeld
    have hb5 := H4.out.bel
    have hDW : D < W.heap.size := (Array.getElem?_eq_some_iff.1 HDK.out.2).1
    have hK5 : w5.heap[D]? = some (.deferred (some [])) := (hb5.block D hDW).trans HDK.out.2
    have HFIN : Hid (InvG w (w5.putObj D (.deferred none)) [(5, .slice A3 R.1.length c3, us R.1), (5, .slice A4 R.2.length c4, us R.2)]) := Lib.hid (by
      have hbw := HBW.out
      have hBw := HB.out
      have h1 : Rws w.heap.size w5 [(5, .slice A3 R.1.length c3, us R.1), (5, .slice A4 R.2.length c4, us R.2)] := Rws.perm ⟨fun p hp => (H4.out.2.1 p hp).mono (show w.heap.size ≤ W.drew.heap.size by have := hbw.size; exact this), H4.out.2.2⟩ (List.Perm.swap _ _ _)
      have h2 : Below w.heap.size w w5 := by
        rw [← hBw]
        exact (show Below B w W.drew from below_drewN hbw 1).trans (hb5.mono (show B ≤ W.drew.heap.size by have := hbw.size; rw [hBw]; exact this))
      exact (rws_putObj h1 _ hK5 rfl).inv (h2.trans (belowK_b (w := w4) (by omega) w5 D _ _ HDK.out.1 hK5 rfl rfl)))
    clear hb5
    gi_wp2
    refine ⟨by simp, .inl ⟨_, _, rfl, run_takeDeferred hK5, ?_⟩⟩
    rw [← HR.out]
    exact ⟨.tuple #[.slice A3 R.1.length c3, .slice A4 R.2.length c4, .bool true], by simp [results, Tryd.results19, go_sem], _, _, rfl, HFIN.out⟩

set_option maxHeartbeats 2000000 in
theorem implConsRoots_any (u v : Value) (m n : Int) (h : List UInt8) (P : List (List UInt8)) (w : World) (hu : Sl w w.heap.size u h) (hv : SlS w w.heap.size v P)
    (hI : Glob w 0 initW) (hG : Glob w 1 kk) :
    Calls Tryd.prog 19 #[.int .i64 m, .int .i64 n, u, v] w (FreshBB w (rootsO m n h P) (rootsN m n h P) (rootsB m n h P)) := by
  unfold rootsO rootsN
  by_cases hall : consB m n = true ∧ h.length = 32 ∧ (P.length : Int) = clenZ m n ∧ all32 P = true
  · rw [rootsB_yes hall, if_pos rfl, if_pos rfl]
    obtain ⟨hb, hh, hl, ha⟩ := hall
    have hbb : n ≤ 1048576 ∧ 1 ≤ m ∧ m ≤ n := of_decide_eq_true hb
    obtain ⟨m', rfl⟩ := Int.eq_ofNat_of_zero_le (show 0 ≤ m by omega)
    obtain ⟨n', rfl⟩ := Int.eq_ofNat_of_zero_le (show 0 ≤ n by omega)
    have hl' : P.length = clenN m' n' true := by
      unfold clenZ at hl
      rw [hb, if_pos rfl] at hl
      exact Int.ofNat.inj hl
    exact implConsRoots_in u v h m' n' P w hu hv hh (by omega) (by omega) (by omega) hl' (all32_at ha) hI hG
  · rw [rootsB_no hall, if_neg (by decide), if_neg (by decide)]
    obtain ⟨A, c, rfl, p1, p2, p0, p3⟩ := id hv
    unfold maxLen at p2
    have hb1 : Below w.heap.size w ((w.alloc (.cells #[.int .i64 m] 3)).alloc (.cells #[.slice A P.length c] 23)).drew := below_drewN (((Below.refl _ w).alloc (Nat.le_refl _) _).alloc (by simp) _) 1
    have HU := Lib.hid (hu.up hb1)
    have HV := Lib.hid (hv.up hb1)
    have HB1 := Lib.hid hb1
    have HBN := Lib.hid (((Below.refl _ w).alloc (Nat.le_refl _) (.cells #[.int .i64 m] 3)).alloc (by simp) (.cells #[.slice A P.length c] 23))
    clear p0 p3
    have HK0 : Hid (((w.alloc (.cells #[.int .i64 m] 3)).alloc (.cells #[.slice A P.length c] 23)).drew.cell? ⟨w.heap.size, 0, none⟩ = some (.int .i64 m) ∧ ((w.alloc (.cells #[.int .i64 m] 3)).alloc (.cells #[.slice A P.length c] 23)).drew.cell? ⟨w.heap.size + 1, 0, none⟩ = some (.slice A P.length c)) := Lib.hid ⟨by simp, by simp⟩
    by_cases hh : h.length = 32
    case neg =>
      have HIH : Hid (∀ w' (h' : Sl w' w'.heap.size u h), Calls Tryd.prog 44 #[u] w' (fun e w2 => e = .returned (.bool false) ∧ w' = w2)) := Lib.hid fun w' h' => by
        have := isHash_any u h w' h'
        rwa [hash_no hh] at this
      have HIQ := Lib.hid (fun (q : Nat) => (HIH.out (((w.alloc (.cells #[.int .i64 m] 3)).alloc (.cells #[.slice A P.length c] 23)).drewN q) HU.out).mono fun e w2 h => (⟨h.1, h.2.symm⟩ : e = .returned (.bool false) ∧ w2 = ((w.alloc (.cells #[.int .i64 m] 3)).alloc (.cells #[.slice A P.length c] 23)).drewN q))
      clear hall hh hu hv hb1
      go_enter Tryd.func19, Tryd.ntmps19
      go_wp2
      go_quiet (first | (go_at_call_of 44 u; exact Calls.quiet_of_same (HIQ.out _)))
      go_wp2
      go_ret3
      exact ⟨_, _, rfl, invG_nil2B (below_drewN HBN.out _)⟩
    case pos =>
      have HIH : Hid (∀ w' (h' : Sl w' w'.heap.size u h), Calls Tryd.prog 44 #[u] w' (fun e w2 => e = .returned (.bool true) ∧ w' = w2)) := Lib.hid fun w' h' => by
        have := isHash_any u h w' h'
        rwa [hash_yes hh] at this
      have HHP := Lib.hid (fun w => hasCons_any m n w)
      cases hb : consB m n with
      | false =>
        rw [hb] at HHP
        have HIQ := Lib.hid (fun (q : Nat) => (HIH.out (((w.alloc (.cells #[.int .i64 m] 3)).alloc (.cells #[.slice A P.length c] 23)).drewN q) HU.out).mono fun e w2 h => (⟨h.1, h.2.symm⟩ : e = .returned (.bool true) ∧ w2 = ((w.alloc (.cells #[.int .i64 m] 3)).alloc (.cells #[.slice A P.length c] 23)).drewN q))
        have HHQ := Lib.hid (fun (q : Nat) => (HHP.out (((w.alloc (.cells #[.int .i64 m] 3)).alloc (.cells #[.slice A P.length c] 23)).drewN q)).mono fun e w2 h => (⟨h.1, h.2.symm⟩ : e = .returned (.bool false) ∧ w2 = ((w.alloc (.cells #[.int .i64 m] 3)).alloc (.cells #[.slice A P.length c] 23)).drewN q))
        clear hall hh hu hv hb1 hb
        go_enter Tryd.func19, Tryd.ntmps19
        go_wp2
        go_quiet (first
          | (go_at_call_of 44 u; exact Calls.quiet_of_same (HIQ.out _))
          | (go_at_call_of 52 (Value.int IntKind.i64 m); exact Calls.quiet_of_same (HHQ.out _)))
        go_wp2
        go_ret3
        exact ⟨_, _, rfl, invG_nil2B (below_drewN HBN.out _)⟩
      | true =>
        rw [hb] at HHP
        have hpo : hashesB P (clenZ m n) = false := hashesB_no fun e => hall ⟨hb, hh, e⟩
        have HPL := Lib.hid (fun w => implConsLen_any m n w)
        have HAH : Hid (∀ w' (h' : SlS w' w'.heap.size (.slice A P.length c) P), Calls Tryd.prog 46 #[.slice A P.length c, .int .i64 (clenZ m n)] w' (fun e w2 => e = .returned (.bool false) ∧ w' = w2)) := Lib.hid fun w' h' => by
          have := areHashes_any (.slice A P.length c) P (clenZ m n) w' h'
          rwa [hpo] at this
        have HC : Hid (∀ w2, Below ((w.alloc (.cells #[.int .i64 m] 3)).alloc (.cells #[.slice A P.length c] 23)).drew.heap.size ((w.alloc (.cells #[.int .i64 m] 3)).alloc (.cells #[.slice A P.length c] 23)).drew w2 → w2.cell? ⟨w.heap.size, 0, none⟩ = some (.int .i64 m) ∧ w2.cell? ⟨w.heap.size + 1, 0, none⟩ = some (.slice A P.length c)) := Lib.hid fun w2 hb2 =>
          ⟨(hb2.cell (p := ⟨w.heap.size, 0, none⟩) (by simp; omega)).trans HK0.out.1, (hb2.cell (p := ⟨w.heap.size + 1, 0, none⟩) (by simp)).trans HK0.out.2⟩
        clear hall hh hu hv hb1 hb
        generalize clenZ m n = Z at HPL HAH hpo
        clear hpo
        go_enter Tryd.func19, Tryd.ntmps19
        go_wp2
        go_region_held3 (fun w' => w'.cell? ⟨w.heap.size, 0, none⟩ = some (.int .i64 m) ∧ w'.cell? ⟨w.heap.size + 1, 0, none⟩ = some (.slice A P.length c))
          (first
            | exact HK0.out
            | exact HK2.out)
          (first
            | (go_at_call 44; refine (HIH.out _ HU.out).mono ?_; rintro e w' ⟨rfl, rfl⟩)
            | (go_at_call 52; refine (HHP.out _).mono ?_; rintro e w' ⟨rfl, rfl⟩)
            | (go_at_call 20; refine (HPL.out _).mono ?_; rintro e w2 ⟨rfl, hb2⟩; have HB2 := Lib.hid hb2; have HV2 := Lib.hid (HV.out.up hb2); have HK2 := Lib.hid (HC.out _ hb2); clear hb2)
            | (go_at_call 46; refine (HAH.out _ HV2.out).mono ?_; rintro e w' ⟨rfl, rfl⟩))
        go_wp2
        go_ret3
        exact ⟨_, _, rfl, invG_nil2B (HB1.out.trans (HB2.out.mono HB1.out.size))⟩
end Go.Proofs.YtlchadbbldkkfaaDoor
