/- ImplSha: ShaF, ShaSch, ShaRound, ShaOf, ImplSha. -/
import Derived.Test.YtdoaikanaodefaaDoorPutBig
import Derived.BigQuiet
import Derived.BigRegion
import Derived.RegionTactic
import Derived.StillTailTactics

/- The contracts of the functions on words: shaSmall0, shaSmall1, shaBig0, shaBig1, shaChoice, shaMajority, getBigWord. -/
namespace Go.Proofs.YtdoaikanaodefaaDoor
open Go.ChangeShapes Go.WideShapes Go.ChangeAt Go.RowKit

theorem xor_u32 {a b : Nat} (ha : a < 4294967296) (hb : b < 4294967296) : bits .xor .u32 (a : Int) (b : Int) = ((a ^^^ b : Nat) : Int) := u32_xor_nat a b ha hb
/-- What two XORs in a row give, behind names. -/
theorem xor3 {P Q R : Nat} (hP : P < 4294967296) (hQ : Q < 4294967296) (hR : R < 4294967296) :
    ∃ p q r s t : Nat, Hid (P = p ∧ Q = q ∧ R = r ∧ P ^^^ Q ^^^ R = t) ∧ bits .xor .u32 (p : Int) (q : Int) = (s : Int) ∧ bits .xor .u32 (s : Int) (r : Int) = (t : Int) :=
  ⟨P, Q, R, _, _, Lib.hid ⟨rfl, rfl, rfl, rfl⟩, xor_u32 hP hQ, xor_u32 (xor_lt hP hQ) hR⟩
set_option maxHeartbeats 1000000 in
theorem shaSmall0_any (x : Nat) (w : World) (hx : x < 4294967296) :
    Calls Tryd.prog 117 #[.int .u32 (x : Int)] w (Same (.int .u32 (sg0 x : Int)) w) := by
  obtain ⟨p, q, r, s, t, H, e1, e2⟩ := xor3 (turnR_lt x 7) (turnR_lt x 18) (show x / 8 < 4294967296 by omega)
  have e : (x : Int) / 8 = (r : Int) := by have := H.out.2.2.1; omega
  rw [show sg0 x = t from H.out.2.2.2]
  go_enter Tryd.func117, Tryd.ntmps117
  go_wp2_with fail
  refine (rotr_any x 7 _ hx (by decide)).mono ?_
  rw [H.out.1]
  rintro e _ ⟨rfl, rfl⟩
  go_wp2_with fail
  refine (rotr_any x 18 _ hx (by decide)).mono ?_
  rw [H.out.2.1]
  rintro e _ ⟨rfl, rfl⟩
  go_wp2
  go_ret
  exact ⟨rfl, rfl⟩
set_option maxHeartbeats 1000000 in
theorem shaSmall1_any (x : Nat) (w : World) (hx : x < 4294967296) :
    Calls Tryd.prog 118 #[.int .u32 (x : Int)] w (Same (.int .u32 (sg1 x : Int)) w) := by
  obtain ⟨p, q, r, s, t, H, e1, e2⟩ := xor3 (turnR_lt x 17) (turnR_lt x 19) (show x / 1024 < 4294967296 by omega)
  have e : (x : Int) / 1024 = (r : Int) := by have := H.out.2.2.1; omega
  rw [show sg1 x = t from H.out.2.2.2]
  go_enter Tryd.func118, Tryd.ntmps118
  go_wp2_with fail
  refine (rotr_any x 17 _ hx (by decide)).mono ?_
  rw [H.out.1]
  rintro e _ ⟨rfl, rfl⟩
  go_wp2_with fail
  refine (rotr_any x 19 _ hx (by decide)).mono ?_
  rw [H.out.2.1]
  rintro e _ ⟨rfl, rfl⟩
  go_wp2
  go_ret
  exact ⟨rfl, rfl⟩
set_option maxHeartbeats 1000000 in
theorem shaBig0_any (x : Nat) (w : World) (hx : x < 4294967296) :
    Calls Tryd.prog 121 #[.int .u32 (x : Int)] w (Same (.int .u32 (bg0 x : Int)) w) := by
  obtain ⟨p, q, r, s, t, H, e1, e2⟩ := xor3 (turnR_lt x 2) (turnR_lt x 13) (turnR_lt x 22)
  rw [show bg0 x = t from H.out.2.2.2]
  go_enter Tryd.func121, Tryd.ntmps121
  go_wp2_with fail
  refine (rotr_any x 2 _ hx (by decide)).mono ?_
  rw [H.out.1]
  rintro e _ ⟨rfl, rfl⟩
  go_wp2_with fail
  refine (rotr_any x 13 _ hx (by decide)).mono ?_
  rw [H.out.2.1]
  rintro e _ ⟨rfl, rfl⟩
  go_wp2_with fail
  refine (rotr_any x 22 _ hx (by decide)).mono ?_
  rw [H.out.2.2.1]
  rintro e _ ⟨rfl, rfl⟩
  go_wp2
  go_ret
  exact ⟨rfl, rfl⟩
set_option maxHeartbeats 1000000 in
theorem shaBig1_any (x : Nat) (w : World) (hx : x < 4294967296) :
    Calls Tryd.prog 119 #[.int .u32 (x : Int)] w (Same (.int .u32 (bg1 x : Int)) w) := by
  obtain ⟨p, q, r, s, t, H, e1, e2⟩ := xor3 (turnR_lt x 6) (turnR_lt x 11) (turnR_lt x 25)
  rw [show bg1 x = t from H.out.2.2.2]
  go_enter Tryd.func119, Tryd.ntmps119
  go_wp2_with fail
  refine (rotr_any x 6 _ hx (by decide)).mono ?_
  rw [H.out.1]
  rintro e _ ⟨rfl, rfl⟩
  go_wp2_with fail
  refine (rotr_any x 11 _ hx (by decide)).mono ?_
  rw [H.out.2.1]
  rintro e _ ⟨rfl, rfl⟩
  go_wp2_with fail
  refine (rotr_any x 25 _ hx (by decide)).mono ?_
  rw [H.out.2.2.1]
  rintro e _ ⟨rfl, rfl⟩
  go_wp2
  go_ret
  exact ⟨rfl, rfl⟩
theorem ch_nat (e f g : Nat) : (e &&& f) ||| ((4294967295 ^^^ e) &&& g) = chN e f g ∨ ¬ e < 4294967296 := by
  by_cases he : e < 4294967296
  · left
    unfold chN
    apply Nat.eq_of_testBit_eq
    intro i
    simp only [Nat.testBit_or, Nat.testBit_xor, Nat.testBit_and]
    have hb : (4294967295 : Nat).testBit i = decide (i < 32) := by
      rw [show (4294967295 : Nat) = 2 ^ 32 - 1 from rfl, Nat.testBit_two_pow_sub_one]
    rw [hb]
    by_cases hi : i < 32
    · rw [decide_eq_true hi]
      cases e.testBit i <;> cases f.testBit i <;> cases g.testBit i <;> rfl
    · have h0 : e.testBit i = false := Nat.testBit_lt_two_pow (Nat.lt_of_lt_of_le he (by rw [show (4294967296 : Nat) = 2 ^ 32 from rfl]; exact Nat.pow_le_pow_right (by decide) (by omega)))
      rw [decide_eq_false hi, h0]
      cases f.testBit i <;> cases g.testBit i <;> rfl
  · exact .inr he
theorem ch_bits {e f g : Nat} (he : e < 4294967296) (hf : f < 4294967296) (hg : g < 4294967296) :
    bits .or .u32 (bits .and .u32 (e : Int) (f : Int)) (bits .and .u32 (bits .xor .u32 IntKind.u32.max (e : Int)) (g : Int)) = (chN e f g : Int) := by
  have hm : IntKind.u32.max = ((4294967295 : Nat) : Int) := rfl
  have h1 : e &&& f < 4294967296 := and_lt he
  have h2 : (4294967295 ^^^ e) < 4294967296 := xor_lt (by decide) he
  rw [hm, u32_and_nat _ _ he hf, u32_xor_nat _ _ (by decide) he, u32_and_nat _ _ h2 hg, u32_or_nat _ _ h1 (and_lt h2)]
  rcases ch_nat e f g with h | h
  · rw [h]
  · exact absurd he h
theorem maj_nat (a b c : Nat) : (a &&& b) ||| (a &&& c) ||| (b &&& c) = majN a b c := by
  unfold majN
  apply Nat.eq_of_testBit_eq
  intro i
  simp only [Nat.testBit_or, Nat.testBit_xor, Nat.testBit_and]
  cases a.testBit i <;> cases b.testBit i <;> cases c.testBit i <;> rfl
theorem or_lt32 {a b : Nat} (ha : a < 4294967296) (hb : b < 4294967296) : a ||| b < 4294967296 := Nat.or_lt_two_pow (n := 32) ha hb
theorem maj_bits {a b c : Nat} (ha : a < 4294967296) (hb : b < 4294967296) (hc : c < 4294967296) :
    bits .or .u32 (bits .or .u32 (bits .and .u32 (a : Int) (b : Int)) (bits .and .u32 (a : Int) (c : Int))) (bits .and .u32 (b : Int) (c : Int)) = (majN a b c : Int) := by
  rw [u32_and_nat _ _ ha hb, u32_and_nat _ _ ha hc, u32_and_nat _ _ hb hc, u32_or_nat _ _ (and_lt ha) (and_lt ha), u32_or_nat _ _ (or_lt32 (and_lt ha) (and_lt ha)) (and_lt hb), maj_nat]
theorem or_sum (a b i : Nat) (hb : b < 2 ^ i) : 2 ^ i * a ||| b = 2 ^ i * a + b := (Nat.two_pow_add_eq_or_of_lt hb a).symm
theorem word_u32 {x0 x1 x2 x3 : Nat} (l0 : x0 < 256) (l1 : x1 < 256) (l2 : x2 < 256) (l3 : x3 < 256) :
    bits .or .u32 (bits .or .u32 (bits .or .u32 ((x0 : Int) * 16777216) ((x1 : Int) * 65536)) ((x2 : Int) * 256)) (x3 : Int) = ((x0 * 16777216 + x1 * 65536 + x2 * 256 + x3 : Nat) : Int) := by
  have e1 : 2 ^ 24 * x0 ||| x1 * 65536 = x0 * 16777216 + x1 * 65536 := by rw [or_sum _ _ _ (by omega)]; omega
  have e2 : 2 ^ 16 * (x0 * 256 + x1) ||| x2 * 256 = x0 * 16777216 + x1 * 65536 + x2 * 256 := by rw [or_sum _ _ _ (by omega)]; omega
  have e3 : 2 ^ 8 * (x0 * 65536 + x1 * 256 + x2) ||| x3 = x0 * 16777216 + x1 * 65536 + x2 * 256 + x3 := by rw [or_sum _ _ _ (by omega)]; omega
  have f1 := u32_or_nat (x0 * 16777216) (x1 * 65536) (by omega) (by omega)
  rw [show x0 * 16777216 = 2 ^ 24 * x0 from by omega, e1] at f1
  have f2 := u32_or_nat (x0 * 16777216 + x1 * 65536) (x2 * 256) (by omega) (by omega)
  rw [show x0 * 16777216 + x1 * 65536 = 2 ^ 16 * (x0 * 256 + x1) from by omega, e2] at f2
  have f3 := u32_or_nat (x0 * 16777216 + x1 * 65536 + x2 * 256) x3 (by omega) (by omega)
  rw [show x0 * 16777216 + x1 * 65536 + x2 * 256 = 2 ^ 8 * (x0 * 65536 + x1 * 256 + x2) from by omega, e3] at f3
  rw [← f3]
  have g1 : bits .or .u32 ((x0 : Int) * 16777216) ((x1 : Int) * 65536) = ((x0 * 16777216 + x1 * 65536 : Nat) : Int) := by
    rw [← f1]
    congr 1 <;> omega
  rw [g1]
  have g2 : bits .or .u32 ((x0 * 16777216 + x1 * 65536 : Nat) : Int) ((x2 : Int) * 256) = ((x0 * 16777216 + x1 * 65536 + x2 * 256 : Nat) : Int) := by
    rw [← f2]
    congr 1 <;> omega
  rw [g2]
  congr 1
  omega
set_option maxHeartbeats 1000000 in
theorem shaChoice_any (e f g : Nat) (w : World) (he : e < 4294967296) (hf : f < 4294967296) (hg : g < 4294967296) :
    Calls Tryd.prog 120 #[.int .u32 (e : Int), .int .u32 (f : Int), .int .u32 (g : Int)] w (Same (.int .u32 (chN e f g : Int)) w) := by
  go_enter Tryd.func120, Tryd.ntmps120
  go_wp2
  go_ret
  exact ⟨by rw [← ch_bits he hf hg]; rfl, rfl⟩
set_option maxHeartbeats 1000000 in
theorem shaMajority_any (a b c : Nat) (w : World) (ha : a < 4294967296) (hb : b < 4294967296) (hc : c < 4294967296) :
    Calls Tryd.prog 122 #[.int .u32 (a : Int), .int .u32 (b : Int), .int .u32 (c : Int)] w (Same (.int .u32 (majN a b c : Int)) w) := by
  go_enter Tryd.func122, Tryd.ntmps122
  go_wp2
  go_ret
  exact ⟨by rw [← maj_bits ha hb hc]; rfl, rfl⟩
set_option maxHeartbeats 1000000 in
theorem getBigWord_any (b : Nat) (off n c : Nat) (l : List UInt8) (q : Nat) (w : World) (hn : 4 ≤ n) (_hnc : n ≤ c) (_hc : c ≤ 9223372036854775807)
    (h : ∀ k, k < 4 → w.cell? ⟨b, off + k, none⟩ = some (.int .u8 (bt l (4 * q + k)))) :
    Calls Tryd.prog 116 #[.slice (some ⟨b, off, none⟩) n c] w (Quiet (.int .u32 (wordAt l q : Int)) w) := by
  have c0 : w.cell? ⟨b, off, none⟩ = _ := h 0 (by decide)
  have c1 := h 1 (by decide)
  have c2 := h 2 (by decide)
  have c3 := h 3 (by decide)
  clear h
  simp only [bt_by8] at c0 c1 c2 c3
  have b0 := by8_lt l (4 * q + 0)
  have b1 := by8_lt l (4 * q + 1)
  have b2 := by8_lt l (4 * q + 2)
  have b3 := by8_lt l (4 * q + 3)
  have hr : wordAt l q = by8 l (4 * q + 0) * 16777216 + by8 l (4 * q + 1) * 65536 + by8 l (4 * q + 2) * 256 + by8 l (4 * q + 3) := rfl
  generalize by8 l (4 * q + 0) = y0 at *
  generalize by8 l (4 * q + 1) = y1 at *
  generalize by8 l (4 * q + 2) = y2 at *
  generalize by8 l (4 * q + 3) = y3 at *
  generalize wordAt l q = r at *
  have n1 : (1 : Int) < (n : Int) := by omega
  have n2 : (2 : Int) < (n : Int) := by omega
  have n3 : (3 : Int) < (n : Int) := by omega
  have n0 : (0 : Int) < (n : Int) := by omega
  go_enter Tryd.func116, Tryd.ntmps116
  go_wp2
  go_quiet (fail)
  go_wp2
  go_ret
  exact ⟨by rw [hr, ← word_u32 b0 b1 b2 b3]; rfl, _, rfl⟩
end Go.Proofs.YtdoaikanaodefaaDoor

/- The contract of scheduleOf. -/
namespace Go.Proofs.YtdoaikanaodefaaDoor
open Go.ChangeShapes Go.WideShapes Go.ChangeAt Go.RowKit

/-- The array behind k of the first sixteen words, and behind n words more. -/
def fill64 (ws : List Nat) : List Nat := ws ++ List.replicate (64 - ws.length) 0
theorem fill64_length {ws : List Nat} (h : ws.length ≤ 64) : (fill64 ws).length = 64 := by simp [fill64]; omega
theorem fill64_set {ws : List Nat} (h : ws.length < 64) (x : Nat) : (fill64 ws).set ws.length x = fill64 (ws ++ [x]) := by
  unfold fill64
  have e : 64 - ws.length = (64 - (ws ++ [x]).length) + 1 := by simp; omega
  rw [e, List.replicate_succ, List.set_append_right _ _ (Nat.le_refl _), Nat.sub_self]
  simp
theorem fill64_get {ws : List Nat} {k : Nat} (h : k < ws.length) : (fill64 ws).getD k 0 = ws.getD k 0 := by
  simp [fill64, List.getD_eq_getElem?_getD, List.getElem?_append_left h]
theorem fill64_full {ws : List Nat} (h : ws.length = 64) : fill64 ws = ws := by simp [fill64, h]
theorem sum4 {z s t r : Nat} (_hz : z < 4294967296) (_hs : s < 4294967296) (_ht : t < 4294967296) (_hr : r < 4294967296) :
    IntKind.u32.wrap (IntKind.u32.wrap (IntKind.u32.wrap ((z : Int) + (s : Int)) + (t : Int)) + (r : Int)) = (((z + s + t + r) % 4294967296 : Nat) : Int) := by
  simp only [IntKind.wrap_u32']
  omega
theorem setRow_below {w : World} {B g : Nat} {cs : Array Value} (hg : B ≤ g) : Below B w (w.setRow g cs) := by
  refine ⟨rfl, rfl, rfl, by simp, fun i hi => ?_⟩
  rw [setRow_other]
  omega
theorem still_of {P : Program} {f : FuncId} {args : Array Value} {w : World} {x : Value} (h : Calls P f args w (Same x w)) : Calls P f args w fun e w'' => e = .returned x ∧ w'' = w := h.mono fun _ _ ⟨a, b⟩ => ⟨a, b.symm⟩
set_option maxRecDepth 100000 in
set_option maxHeartbeats 4000000 in
theorem scheduleOf_any (v : Value) (b : List UInt8) (w : World) (hs : Sl w w.heap.size v b) (hb : b.length = 64) :
    Calls Tryd.prog 101 #[v] w fun e w' => e = .returned (.agg (cw (sched b 48))) ∧ Below w.heap.size w w' := by
  obtain ⟨A, c, rfl, h1, h2, h0, h3⟩ := hs
  rw [hb] at h1 h3 ⊢
  obtain ⟨p, off, rfl, hpb, hcell⟩ := h3 (by omega)
  unfold maxLen at h2
  clear h0 h3
  have HC := Lib.hid hcell
  clear hcell
  have HB := Lib.hid hb
  clear hb
  obtain ⟨S, hS⟩ : ∃ S, S = sched b 48 := ⟨_, rfl⟩
  rw [← hS]
  have HS := Lib.hid hS
  clear hS
  have hA0 : Arr 129 ((w.alloc (.cells (cw (List.replicate 64 0)) 129)).alloc (.cells (cw (List.replicate 64 0)) 129)) w.heap.size (List.replicate 64 0) := (arr_new _ w _).alloc _
  have hA1 : Arr 129 ((w.alloc (.cells (cw (List.replicate 64 0)) 129)).alloc (.cells (cw (List.replicate 64 0)) 129)) (w.heap.size + 1) (fill64 (firstW b 0)) := by
    have e : (w.alloc (.cells (cw (List.replicate 64 0)) 129)).heap.size = w.heap.size + 1 := by simp
    have e2 : fill64 (firstW b 0) = List.replicate 64 0 := rfl
    rw [← e, e2]
    exact arr_new _ _ _
  have hB1 : Below w.heap.size w ((w.alloc (.cells (cw (List.replicate 64 0)) 129)).alloc (.cells (cw (List.replicate 64 0)) 129)) := ((Below.refl _ _).alloc (Nat.le_refl _) _).alloc (by simp) _
  go_enter Tryd.func101, Tryd.ntmps101
  go_wp2
  change Code.wp _ _ _ _ ((w.alloc (.cells (cw (List.replicate 64 0)) 129)).alloc (.cells (cw (List.replicate 64 0)) 129))
  generalize (w.alloc (.cells (cw (List.replicate 64 0)) 129)).alloc (.cells (cw (List.replicate 64 0)) 129) = w2 at hA0 hA1 hB1 ⊢
  obtain ⟨zs, hzs⟩ : ∃ zs : List Nat, zs = List.replicate 64 0 := ⟨_, rfl⟩
  rw [← hzs] at hA0
  have HZ : Hid (zs.length = 64) := Lib.hid (by rw [hzs]; rfl)
  clear hzs
  go_loopw [6] (fun i wr => ∃ k : Nat, k ≤ 16 ∧ i = .int .i64 k ∧ Arr 129 wr w.heap.size zs ∧ Arr 129 wr (w.heap.size + 1) (fill64 (firstW b k)) ∧ Below w.heap.size w wr)
    (fun i _ => 16 - (intOf i).toNat)
  case atStart => exact ⟨0, Nat.zero_le _, rfl, hA0, hA1, hB1⟩
  case round =>
    clear hA0 hA1 hB1
    obtain ⟨k, hk, rfl, hA, hC, hbel⟩ := hrel
    by_cases hlt : k < 16
    · have hlt16 : (k : Int) < 16 := by omega
      have hk64 : (k : Int) < 64 := by omega
      have hcells : ∀ j, j < 4 → wr.cell? ⟨p, off + 4 * k + j, none⟩ = some (.int .u8 (bt b (4 * k + j))) := fun j hj => by
        have := (hbel.cell (p := ⟨p, off + (4 * k + j), none⟩) hpb).trans (HC.out (4 * k + j) (by omega))
        rw [Nat.add_assoc]
        exact this
      have hfl : (fill64 (firstW b k)).length = 64 := fill64_length (by rw [firstW_length]; omega)
      have hc0 := hC.at k (by rw [hfl]; omega)
      have hf0 := hC.free k
      have hst := hC.set k (wordAt b k)
      have hnx : (fill64 (firstW b k)).set k (wordAt b k) = fill64 (firstW b (k + 1)) := by
        have := fill64_set (ws := firstW b k) (by rw [firstW_length]; omega) (wordAt b k)
        rw [firstW_length] at this
        rw [this, ← firstW_succ]
      rw [hnx] at hst
      have hst' := Lib.hid hst
      have hA' := Lib.hid (hA.beside (g' := w.heap.size + 1) k (.int .u32 (wordAt b k : Int)) (by omega))
      have HCE := Lib.hid hcells
      have h4 : (4 : Int) * (k : Int) = ((4 * k : Nat) : Int) := by omega
      obtain ⟨m, hm⟩ : ∃ m, m = 4 * k := ⟨_, rfl⟩
      rw [← hm] at h4
      have hm60 : m ≤ 60 := by omega
      have Hm := Lib.hid hm
      clear hst hnx hfl hcells hm
      go_wp2_with fail
      refine (getBigWord_any p (off + m) (64 - m) (c - m) b k wr (by omega) (by omega) (by omega) (by rw [Hm.out]; exact HCE.out)).mono ?_
      have hxb := wordAt_lt b k
      generalize wordAt b k = x at hst' hA' hxb ⊢
      rintro ev _ ⟨rfl, q, rfl⟩
      go_wp2
      go_roundw
      case rel => exact ⟨k + 1, by omega, by go_num, hA'.out, hst'.out, (below_drewN hbel q).setCell (Nat.le_succ _) _⟩
      case measure => simp [intOf]; omega
    · have hk16 : k = 16 := by omega
      have hki : (k : Int) = 16 := by omega
      have hC0 : Arr 129 wr (w.heap.size + 1) (fill64 (sched b 0)) := by rw [hk16] at hC; exact hC
      rw [hki]
      clear hk16 hki hlt hk hC
      go_wp2
      go_loopw [5] (fun i wq => ∃ n m : Nat, n ≤ 48 ∧ m = 16 + n ∧ i = .int .i64 m ∧ Arr 129 wq w.heap.size zs ∧ Arr 129 wq (w.heap.size + 1) (fill64 (sched b n)) ∧ Below w.heap.size w wq)
        (fun i _ => 64 - (intOf i).toNat)
      case atStart => exact ⟨0, 16, Nat.zero_le _, rfl, rfl, hA, hC0, hbel⟩
      case round =>
        clear hA hC0 hbel
        obtain ⟨n, m, hn, hm, rfl, hA, hC, hbel⟩ := hrel
        by_cases hlt : n < 48
        · have hlt64 : (m : Int) < 64 := by omega
          have hlen := sched_length b n
          have hfl : (fill64 (sched b n)).length = 64 := fill64_length (by omega)
          have hat : ∀ j, j < 16 + n → wr.cell? ⟨w.heap.size + 1, j, none⟩ = some (.int .u32 ((sched b n).getD j 0 : Int)) := fun j hj => by
            have := hC.at j (by rw [hfl]; omega)
            rw [fill64_get (by omega)] at this
            exact this
          have hx := (sched_words b n).at_ (n + 1)
          have hy := (sched_words b n).at_ (n + 14)
          have hz := (sched_words b n).at_ n
          have ht := (sched_words b n).at_ (n + 9)
          have hcx := hat (n + 1) (by omega)
          have hcy := hat (n + 14) (by omega)
          have hcz := hat n (by omega)
          have hct := hat (n + 9) (by omega)
          have hnx : (fill64 (sched b n)).set m (nextW (sched b n) n) = fill64 (sched b (n + 1)) := by
            have := fill64_set (ws := sched b n) (by omega) (nextW (sched b n) n)
            rw [hlen, ← hm] at this
            exact this
          have HNX := Lib.hid hnx
          clear hnx
          have hnw : nextW (sched b n) n = ((sched b n).getD n 0 + sg0 ((sched b n).getD (n + 1) 0) + (sched b n).getD (n + 9) 0 + sg1 ((sched b n).getD (n + 14) 0)) % 4294967296 := rfl
          have hnl := nextW_lt (sched b n) n
          generalize nextW (sched b n) n = nw at HNX hnw hnl
          generalize (sched b n).getD (n + 1) 0 = x at hx hcx hnw
          generalize (sched b n).getD (n + 14) 0 = y at hy hcy hnw
          generalize (sched b n).getD n 0 = z at hz hcz hnw
          generalize (sched b n).getD (n + 9) 0 = t at ht hct hnw
          have hsx := sg0_lt hx
          have hsy := sg1_lt hy
          have S0 := Lib.hid (fun (q : World) => shaSmall0_any x q hx)
          have S1 := Lib.hid (fun (q : World) => shaSmall1_any y q hy)
          generalize sg0 x = sx at hsx hnw S0
          generalize sg1 y = sy at hsy hnw S1
          have hsum := sum4 hz hsx ht hsy
          rw [← hnw] at hsum
          have HFL := Lib.hid hfl
          clear hat hnw hfl hlen
          have w16 : IntKind.i64.wrap ((m : Int) - 16) = (n : Int) := by rw [wrapI, wrap64_small _ (by omega) (by omega)]; omega
          have w15 : IntKind.i64.wrap ((m : Int) - 15) = ((n + 1 : Nat) : Int) := by rw [wrapI, wrap64_small _ (by omega) (by omega)]; omega
          have w7 : IntKind.i64.wrap ((m : Int) - 7) = ((n + 9 : Nat) : Int) := by rw [wrapI, wrap64_small _ (by omega) (by omega)]; omega
          have w2' : IntKind.i64.wrap ((m : Int) - 2) = ((n + 14 : Nat) : Int) := by rw [wrapI, wrap64_small _ (by omega) (by omega)]; omega
          have b16 : (n : Int) < 64 := by omega
          have b15 : ((n + 1 : Nat) : Int) < 64 := by omega
          have b7 : ((n + 9 : Nat) : Int) < 64 := by omega
          have b2 : ((n + 14 : Nat) : Int) < 64 := by omega
          have Hm := Lib.hid hm
          generalize n + 1 = nx at hcx w15 b15
          generalize n + 14 = ny at hcy w2' b2
          generalize n + 9 = nt at hct w7 b7
          clear hm
          go_wp2_with fail
          refine wp_region_still_tail 23 (by kernel_rfl) (by kernel_rfl) ?_
          simp only [List.take_succ_cons, List.take_zero, List.drop_succ_cons, List.drop_zero]
          repeat still_step
          still_call (still_of (S0.out _))
          repeat still_step
          still_call (still_of (S1.out _))
          repeat still_step
          refine wpStill_nil ?_
          change wpList _ _ _ _ _ wr.drew
          have hC9 : Arr 129 wr.drew (w.heap.size + 1) (fill64 (sched b n)) := hC
          have hA9 : Arr 129 wr.drew w.heap.size zs := hA
          have hb9 := hbel.drew
          clear hC hA hbel hcx hcy hcz hct w16 w15 w7 w2' hsum S0 S1
          generalize wr.drew = w9 at hC9 hA9 hb9 ⊢
          have hcm := hC9.at m (by rw [HFL.out]; have := Hm.out; omega)
          have hfm := hC9.free m
          go_wp2
          go_roundw
          case rel => exact ⟨n + 1, m + 1, by omega, by have := Hm.out; omega, by go_num, hA9.beside m _ (by omega), by have := hC9.set m nw; rw [HNX.out] at this; exact this, hb9.setCell (Nat.le_succ _) _⟩
          case measure => simp [intOf]; omega
        · obtain rfl : n = 48 := by omega
          have hm64 : (m : Int) = 64 := by omega
          have hfull := fill64_full (ws := sched b 48) (by rw [sched_length])
          rw [hm64]
          rw [hfull] at hC
          have hsz := sSize (ws := sched b 48) (by rw [sched_length])
          have hs2 : (cw zs).size = (cw (sched b 48)).size := by rw [cw_size, cw_size, HZ.out, sched_length]
          rw [← HS.out] at hC hsz hs2
          clear hm hn hlt hm64 hfull
          go_wp2_with (first
            | (refine wpList_load_row rfl _ _ rfl (w.heap.size + 1) rfl _ _ _ _ hC sDesc rfl hsz ?_)
            | (refine wpList_store_row rfl _ _ _ rfl w.heap.size (cw S) rfl rfl _ _ hA hsz hs2 (cw_cell _) ?_))
          have hr : (wr.setRow w.heap.size (cw S)).heap[w.heap.size]? = some (.cells (cw S) 129 (0, 0)) := setRow_heap wr w.heap.size _ _ _ _ hA
          have hb9 : Below w.heap.size w (wr.setRow w.heap.size (cw S)) := hbel.trans (setRow_below (Nat.le_refl _))
          generalize wr.setRow w.heap.size (cw S) = w9 at hr hb9 ⊢
          exact bodyPost_ret (results_cell_row rfl _ _ w.heap.size _ (cw S) (0, 0) _ rfl hr sDesc rfl hsz) rfl ⟨rfl, hb9⟩
end Go.Proofs.YtdoaikanaodefaaDoor

/- The contracts of round and compress. -/
namespace Go.Proofs.YtdoaikanaodefaaDoor
open Go.ChangeShapes Go.WideShapes Go.ChangeAt Go.RowKit

theorem grown_setRow (w : World) (g : Nat) (cs : Array Value) : w.grownBy (w.setRow g cs) (some g) := by
  refine ⟨rfl, rfl, rfl, by simp, fun i hi hne => ?_⟩
  rw [setRow_other]
  intro e
  exact hne (by rw [e])
theorem gsetW (w : World) (g k : Nat) (v : Value) : w.grownBy (w.setCell ⟨g, k, none⟩ v) (some g) :=
  ⟨rfl, rfl, rfl, by simp [World.setCell], fun _ _ hk => Below.heap_setCell _ _ _ _ (fun e => hk (by simp [e]))⟩
/-- The sums of a round, behind names. -/
theorem round_sums {sa sb sc sd se sf sg sh kn wn : Nat} (_ : sh < 4294967296) (_ : sd < 4294967296) (_ : kn < 4294967296) (_ : wn < 4294967296) (_ : sa < 4294967296) (_ : sb < 4294967296) (_ : se < 4294967296) :
    ∃ B C D E T1 T2 T3 T4 U1 A F : Nat, Hid (bg1 se = B ∧ chN se sf sg = C ∧ bg0 sa = D ∧ majN sa sb sc = E ∧ (St.mk sa sb sc sd se sf sg sh).step kn wn = ⟨A, sa, sb, sc, F, se, sf, sg⟩) ∧
      (((sh : Int) + (B : Int)) % 4294967296 = (T1 : Int) ∧ ((T1 : Int) + (C : Int)) % 4294967296 = (T2 : Int) ∧ ((T2 : Int) + (kn : Int)) % 4294967296 = (T3 : Int) ∧ ((T3 : Int) + (wn : Int)) % 4294967296 = (T4 : Int) ∧
        ((D : Int) + (E : Int)) % 4294967296 = (U1 : Int) ∧ ((T4 : Int) + (U1 : Int)) % 4294967296 = (A : Int) ∧ ((sd : Int) + (T4 : Int)) % 4294967296 = (F : Int)) ∧
      B < 4294967296 ∧ C < 4294967296 ∧ D < 4294967296 ∧ E < 4294967296 ∧ T1 < 4294967296 ∧ T2 < 4294967296 ∧ T3 < 4294967296 ∧ T4 < 4294967296 ∧ U1 < 4294967296 := by
  obtain ⟨T1, h1⟩ : ∃ T1, T1 = (sh + bg1 se) % 4294967296 := ⟨_, rfl⟩
  obtain ⟨T2, h2⟩ : ∃ T2, T2 = (T1 + chN se sf sg) % 4294967296 := ⟨_, rfl⟩
  obtain ⟨T3, h3⟩ : ∃ T3, T3 = (T2 + kn) % 4294967296 := ⟨_, rfl⟩
  obtain ⟨T4, h4⟩ : ∃ T4, T4 = (T3 + wn) % 4294967296 := ⟨_, rfl⟩
  obtain ⟨U1, h5⟩ : ∃ U1, U1 = (bg0 sa + majN sa sb sc) % 4294967296 := ⟨_, rfl⟩
  have b1 := bg1_lt se
  have b2 : chN se sf sg < 4294967296 := chN_lt (by assumption)
  have b3 := bg0_lt sa
  have b4 : majN sa sb sc < 4294967296 := majN_lt (by assumption) (by assumption)
  refine ⟨_, _, _, _, T1, T2, T3, T4, U1, (T4 + U1) % 4294967296, (sd + T4) % 4294967296, Lib.hid ⟨rfl, rfl, rfl, rfl, ?_⟩, ⟨by omega, by omega, by omega, by omega, by omega, by omega, by omega⟩, b1, b2, b3, b4, by omega, by omega, by omega, by omega, by omega⟩
  unfold St.step tOf uOf
  simp only [St.mk.injEq, and_true, true_and]
  constructor <;> omega
set_option maxRecDepth 100000 in
set_option maxHeartbeats 4000000 in
theorem round_any (g : Nat) (s : St) (kn wn : Nat) (w : World) (hA : Arr 105 w g s.list) (hs : s.Ok) (hk : kn < 4294967296) (hw : wn < 4294967296) :
    Calls Tryd.prog 102 #[.pointer (some ⟨g, 0, none⟩), .int .u32 (kn : Int), .int .u32 (wn : Int)] w
      fun e w' => e = .returned (.tuple #[]) ∧ Arr 105 w' g (s.step kn wn).list ∧ w.grownBy w' (some g) := by
  obtain ⟨sa, sb, sc, sd, se, sf, sg, sh⟩ := s
  obtain ⟨ba, bb, bc, bd, be, bf, bg, bh⟩ := hs
  simp only at ba bb bc bd be bf bg bh
  obtain ⟨B, C, D, E, T1, T2, T3, T4, U1, A, F, H, ⟨t1, t2, t3, t4, t5, t6, t7⟩, l1, l2, l3, l4, l5, l6, l7, l8, l9⟩ := round_sums (sc := sc) (sf := sf) (sg := sg) bh bd hk hw ba bb be
  have c0 : w.cell? ⟨g, 0, none⟩ = some (.int .u32 (sa : Int)) := hA.at 0 (by decide : 0 < 8)
  have c1 : w.cell? ⟨g, 1, none⟩ = some (.int .u32 (sb : Int)) := hA.at 1 (by decide : 1 < 8)
  have c2 : w.cell? ⟨g, 2, none⟩ = some (.int .u32 (sc : Int)) := hA.at 2 (by decide : 2 < 8)
  have c3 : w.cell? ⟨g, 3, none⟩ = some (.int .u32 (sd : Int)) := hA.at 3 (by decide : 3 < 8)
  have c4 : w.cell? ⟨g, 4, none⟩ = some (.int .u32 (se : Int)) := hA.at 4 (by decide : 4 < 8)
  have c5 : w.cell? ⟨g, 5, none⟩ = some (.int .u32 (sf : Int)) := hA.at 5 (by decide : 5 < 8)
  have c6 : w.cell? ⟨g, 6, none⟩ = some (.int .u32 (sg : Int)) := hA.at 6 (by decide : 6 < 8)
  have c7 : w.cell? ⟨g, 7, none⟩ = some (.int .u32 (sh : Int)) := hA.at 7 (by decide : 7 < 8)
  rw [H.out.2.2.2.2]
  go_enter Tryd.func102, Tryd.ntmps102
  go_wp2_with fail
  go_quiet (fail)
  have hA8 : Arr 105 (w.drewN nq) g (St.list ⟨sa, sb, sc, sd, se, sf, sg, sh⟩) := hA
  have hg8 : w.grownBy (w.drewN nq) (some g) := ⟨rfl, rfl, rfl, Nat.le_refl _, fun _ _ _ => rfl⟩
  clear c0 c1 c2 c3 c4 c5 c6 c7 hA
  generalize w.drewN nq = w8 at hA8 hg8 ⊢
  go_wp2_with fail
  refine (shaBig1_any se _ be).mono ?_
  rw [H.out.1]
  rintro ev _ ⟨rfl, rfl⟩
  go_wp2_with fail
  refine (shaChoice_any se sf sg _ be bf bg).mono ?_
  rw [H.out.2.1]
  rintro ev _ ⟨rfl, rfl⟩
  go_wp2_with fail
  refine (shaBig0_any sa _ ba).mono ?_
  rw [H.out.2.2.1]
  rintro ev _ ⟨rfl, rfl⟩
  go_wp2_with fail
  refine (shaMajority_any sa sb sc _ ba bb bc).mono ?_
  rw [H.out.2.2.2.1]
  rintro ev _ ⟨rfl, rfl⟩
  go_wp2_with (refine wpList_store_row rfl _ _ _ rfl g (cw (St.list ⟨A, sa, sb, sc, F, se, sf, sg⟩)) rfl rfl _ _ hA8 (wSize rfl) rfl (cw_cell _) ?_)
  go_end0
  exact ⟨rfl, setRow_heap w8 g _ _ _ _ hA8, gtrans hg8 (grown_setRow _ _ _)⟩

/-- What compress has after k rounds of its last loop. -/
def mix (z h : List Nat) (k : Nat) : List Nat := z.take k ++ h.drop k
theorem mix_zero (z h : List Nat) : mix z h 0 = h := by simp [mix]
theorem mix_full {z h : List Nat} {k : Nat} (hz : z.length = k) (hh : h.length = k) : mix z h k = z := by simp [mix, List.take_of_length_le (Nat.le_of_eq hz), List.drop_eq_nil_of_le (Nat.le_of_eq hh)]
theorem mix_length {z h : List Nat} {k : Nat} (hz : z.length = h.length) (hk : k ≤ h.length) : (mix z h k).length = h.length := by simp [mix]; omega
theorem mix_get {z h : List Nat} {k : Nat} (hz : z.length = h.length) (hk : k ≤ h.length) : (mix z h k).getD k 0 = h.getD k 0 := by
  have e : (z.take k).length = k := by simp; omega
  simp only [mix, List.getD_eq_getElem?_getD]
  rw [List.getElem?_append_right (by omega), e]
  simp
theorem mix_set {z h : List Nat} {k : Nat} (hz : z.length = h.length) (hk : k < h.length) : (mix z h k).set k (z.getD k 0) = mix z h (k + 1) := by
  have e : (z.take k).length = k := by simp; omega
  unfold mix
  rw [List.set_append_right _ _ (by omega), e, Nat.sub_self, List.drop_eq_getElem_cons hk, List.set_cons_zero, List.take_add_one, List.getElem?_eq_getElem (show k < z.length by omega), List.append_assoc]
  simp [List.getD_eq_getElem?_getD, List.getElem?_eq_getElem (show k < z.length by omega)]
theorem blockW_get {h : List Nat} {b : List UInt8} (hl : h.length = 8) (k : Nat) (hk : k < 8) : (blockW h b).getD k 0 = (h.getD k 0 + ((rounds (sched b 48) (St.of h) 64).list).getD k 0) % 4294967296 := by
  have hr : ((rounds (sched b 48) (St.of h) 64).list).length = 8 := rfl
  unfold blockW
  simp only [List.getD_eq_getElem?_getD]
  rw [List.getElem?_zipWith, List.getElem?_eq_getElem (show k < h.length by omega), List.getElem?_eq_getElem (by omega)]
  rfl
theorem St.list_words {s : St} (h : s.Ok) : Words s.list := by
  obtain ⟨h0, h1, h2, h3, h4, h5, h6, h7⟩ := h
  intro x hx
  simp only [St.list, List.mem_cons, List.not_mem_nil, or_false] at hx
  rcases hx with rfl | rfl | rfl | rfl | rfl | rfl | rfl | rfl <;> assumption
set_option maxRecDepth 100000 in
set_option maxHeartbeats 4000000 in
theorem compress_any (g : Nat) (h : List Nat) (u : Value) (b : List UInt8) (w : World) (hA : Arr 105 w g h) (hl : h.length = 8) (hw : Words h)
    (hs : Sl w w.heap.size u b) (hb : b.length = 64) (hG : Glob w 1 kk) :
    Calls Tryd.prog 79 #[.pointer (some ⟨g, 0, none⟩), u] w
      fun e w' => e = .returned (.tuple #[]) ∧ Arr 105 w' g (blockW h b) ∧ w.grownBy w' (some g) := by
  have hgl := hA.lt
  have hsz := wSize hl
  have hZ : Arr 105 (w.alloc (.cells (cw (List.replicate 8 0)) 105)) w.heap.size (List.replicate 8 0) := arr_new _ w _
  have HL := Lib.hid hl
  have HB := Lib.hid hb
  obtain ⟨Z, hZZ⟩ : ∃ Z, Z = blockW h b := ⟨_, rfl⟩
  obtain ⟨S, hS⟩ : ∃ S, S = sched b 48 := ⟨_, rfl⟩
  rw [← hZZ]
  have HZ := Lib.hid hZZ
  have HS := Lib.hid hS
  clear hl hb hZZ hS
  go_enter Tryd.func79, Tryd.ntmps79
  go_wp2_with (first
    | (refine wpList_load_row rfl _ _ rfl g rfl _ _ _ _ hA wDesc rfl hsz ?_)
    | (refine wpList_store_row rfl _ _ _ rfl w.heap.size (cw h) rfl rfl _ _ hZ hsz (by rw [cw_size, cw_size, HL.out]; rfl) (cw_cell _) ?_))
  change Calls _ _ _ ((w.alloc (.cells (cw (List.replicate 8 0)) 105)).setRow w.heap.size (cw h)) _
  have hW2 : Arr 105 ((w.alloc (.cells (cw (List.replicate 8 0)) 105)).setRow w.heap.size (cw h)) w.heap.size h := setRow_heap _ _ _ _ _ _ hZ
  have hb2 : Below w.heap.size w ((w.alloc (.cells (cw (List.replicate 8 0)) 105)).setRow w.heap.size (cw h)) := ((Below.refl _ _).alloc (Nat.le_refl _) _).trans (setRow_below (Nat.le_refl _))
  generalize (w.alloc (.cells (cw (List.replicate 8 0)) 105)).setRow w.heap.size (cw h) = w2 at hW2 hb2 ⊢
  refine (scheduleOf_any _ b _ (hs.up hb2) HB.out).mono ?_
  rw [← HS.out]
  rintro ev w3 ⟨rfl, hb3⟩
  have hW3 := hW2.up hb3
  have hb3' : Below w.heap.size w w3 := hb2.trans (hb3.mono hb2.size)
  have hSl : S.length = 64 := by rw [HS.out, sched_length]
  have hSw : Words S := by rw [HS.out]; exact sched_words _ _
  have hok := St.of_ok hw
  have hW3' : Arr 105 w3 w.heap.size (rounds S (St.of h) 0).list := by
    show Arr _ _ _ (St.of h).list
    rw [St.of_list HL.out]
    exact hW3
  obtain ⟨s0, hs0⟩ : ∃ s0, s0 = St.of h := ⟨_, rfl⟩
  rw [← hs0] at hW3' hok
  have HS0 := Lib.hid hs0
  clear hs0 hW2 hb2 hb3 hW3 hZ
  go_wp2
  go_loopw [14] (fun i wr => ∃ k : Nat, k ≤ 64 ∧ i = .int .i64 k ∧ Arr 105 wr w.heap.size (rounds S s0 k).list ∧ Below w.heap.size w wr)
    (fun i _ => 64 - (intOf i).toNat)
  case atStart => exact ⟨0, Nat.zero_le _, rfl, hW3', hb3'⟩
  case round =>
    clear hW3' hb3'
    obtain ⟨k, hk, rfl, hW, hbel⟩ := hrel
    by_cases hlt : k < 64
    · have hlt64 : (k : Int) < 64 := by omega
      have hx := cw_get S k (by rw [hSl]; exact hlt)
      have hgc := (hG.below hG.lt hbel).at k (by rw [kk_length]; exact hlt)
      have hkl := kk_words.at_ k
      have hwl := hSw.at_ k
      have hsok := rounds_ok S hok k
      have hnext : rounds S s0 (k + 1) = (rounds S s0 k).step (kk.getD k 0) (S.getD k 0) := rfl
      generalize kk.getD k 0 = kn at hgc hkl hnext
      generalize S.getD k 0 = wn at hx hwl hnext
      generalize rounds S s0 k = s at hW hsok hnext
      have hX := fun w => run_idx sDesc S k wn (by omega) hx w
      have HN := Lib.hid hnext
      clear hnext hx
      go_wp2_with fail
      refine (round_any w.heap.size s kn wn wr hW hsok hkl hwl).mono ?_
      rw [← HN.out]
      rintro ev w4 ⟨rfl, hW4, hg4⟩
      have hb4 := hbel.grown hg4 hbel.size (by simp)
      go_wp2
      go_roundw
      case rel => exact ⟨k + 1, by omega, by go_num, hW4, hb4⟩
      case measure => simp [intOf]; omega
    · have hk64 : k = 64 := by omega
      have hki : (k : Int) = 64 := by omega
      rw [hki]
      rw [hk64] at hW
      have hrw := St.list_words (rounds_ok S hok 64)
      have hrsz := wSize (ws := (rounds S s0 64).list) rfl
      have hrl : ((rounds S s0 64).list).length = 8 := rfl
      have hget : ∀ j, j < 8 → Z.getD j 0 = (h.getD j 0 + ((rounds S s0 64).list).getD j 0) % 4294967296 := fun j hj => by
        rw [HZ.out, HS.out, HS0.out]
        exact blockW_get HL.out j hj
      generalize (rounds S s0 64).list = R at hW hrw hrsz hrl hget
      clear hk hk64 hki hlt
      have HG := Lib.hid hget
      have HR := Lib.hid hrl
      clear hget hrl
      go_wp2_with (refine wpList_load_row rfl _ _ rfl w.heap.size rfl _ _ _ _ hW wDesc rfl hrsz ?_)
      have hZl : Z.length = 8 := by rw [HZ.out]; exact blockW_length _ HL.out
      have hAw : Arr 105 wr g (mix Z h 0) := by rw [mix_zero]; exact hA.below hgl hbel
      have hgw : w.grownBy wr (some g) := grown_of_below hbel _
      have HZL := Lib.hid hZl
      clear hW hbel hSl hZl
      go_loopw [25] (fun i wq => ∃ k : Nat, k ≤ 8 ∧ i = .int .i64 k ∧ Arr 105 wq g (mix Z h k) ∧ w.grownBy wq (some g))
        (fun i _ => 8 - (intOf i).toNat)
      case atStart => exact ⟨0, Nat.zero_le _, rfl, hAw, hgw⟩
      case round =>
        clear hAw hgw
        obtain ⟨k, hk, rfl, hM, hgr⟩ := hrel
        by_cases hlt : k < 8
        · have hlt8 : (k : Int) < 8 := by omega
          have hml : (mix Z h k).length = 8 := by rw [mix_length (by rw [HZL.out, HL.out]) (by rw [HL.out]; exact hk), HL.out]
          have hx := cw_get R k (by rw [HR.out]; exact hlt)
          have hc := hM.at k (by rw [hml]; exact hlt)
          rw [mix_get (by rw [HZL.out, HL.out]) (by rw [HL.out]; exact hk)] at hc
          have hf := hM.free k
          have hxl := hrw.at_ k
          have hyl := hw.at_ k
          have hz := HG.out k hlt
          have hset := mix_set (z := Z) (h := h) (k := k) (by rw [HZL.out, HL.out]) (by rw [HL.out]; exact hlt)
          rw [hz] at hset
          generalize R.getD k 0 = x at hx hxl hset hz
          generalize h.getD k 0 = y at hc hyl hset hz
          have hX := fun w => run_idx wDesc R k x (by omega) hx w
          have hsum : IntKind.u32.wrap ((y : Int) + (x : Int)) = (((y + x) % 4294967296 : Nat) : Int) := by simp only [IntKind.wrap_u32']; omega
          generalize (y + x) % 4294967296 = q at hset hsum hz
          have HSET := Lib.hid hset
          clear hset hz hx hml
          go_wp2_with fail
          go_still_tail 9, (by kernel_rfl)
          change wpList _ _ _ _ _ wr.drew
          have hM9 : Arr 105 wr.drew g (mix Z h k) := hM
          have hg9 : w.grownBy wr.drew (some g) := gtrans hgr ⟨rfl, rfl, rfl, Nat.le_refl _, fun _ _ _ => rfl⟩
          have hc9 : wr.drew.cell? ⟨g, k, none⟩ = some (.int .u32 (y : Int)) := hc
          have hf9 : wr.drew.frozen? ⟨g, k, none⟩ = false := hf
          clear hM hgr hc hf hX hsum
          generalize wr.drew = w9 at hM9 hg9 hc9 hf9 ⊢
          have hst := hM9.set k q
          rw [HSET.out] at hst
          have HST := Lib.hid hst
          have HGR := Lib.hid (gtrans hg9 (gsetW w9 g k (.int .u32 (q : Int))))
          clear hst
          go_wp2
          go_roundw
          case rel => exact ⟨k + 1, by omega, by go_num, HST.out, HGR.out⟩
          case measure => simp [intOf]; omega
        · obtain rfl : k = 8 := by omega
          rw [mix_full HZL.out HL.out] at hM
          go_wp2
          go_end0
          exact ⟨rfl, hM, hgr⟩
end Go.Proofs.YtdoaikanaodefaaDoor

/- The contracts of shaWordsOf and of ShaBlock, as the program has them. -/
namespace Go.Proofs.YtdoaikanaodefaaDoor
open Go.ChangeShapes Go.WideShapes Go.ChangeAt Go.RowKit

theorem results_cell_tmp {P : Program} {fn : Func} {p q : Tmp} {ty : TypeId} (h : fn.results = #[.cell p ty, .tmp q]) (tmps : Array Value) (w : World) (g : Nat) (t : TypeId) (cs : Array Value) (fr : Nat × Nat) (d : TypeDesc) (x : Value)
    (hp : tmps.getD p undef = .pointer (some ⟨g, 0, none⟩)) (hq : tmps.getD q undef = x) (hg : w.heap[g]? = some (.cells cs t fr))
    (hu : P.underlying ty = some d) (hd : (match d with | .struct _ | .array _ _ => true | _ => false) = true) (hi : (P.info? ty).map (·.size) = some cs.size) :
    (results fn tmps).run P w = .ok (.tuple #[.agg cs, x]) w := by
  have hp' : tmps[p]?.getD undef = .pointer (some ⟨g, 0, none⟩) := by simpa using hp
  have hq' : tmps[q]?.getD undef = x := by simpa using hq
  simp [results, h, hp', hq', asAddr, run_loadVar_row w g t ty cs fr d hg hu hd hi]
/-- What shaWordsOf returns: whether h is eight words, and these words if so. -/
def OfW (h : List Int) (w : World) (e : Ending) (w' : World) : Prop :=
  ∃ ws : List Nat, ws.length = 8 ∧ (hOk h → ws = h.map Int.toNat) ∧ e = .returned (.tuple #[.agg (cw ws), .bool (decide (hOk h))]) ∧ Below w.heap.size w w'
/-- The words behind k rounds. -/
def ofK (h : List Int) (k : Nat) : List Nat := (h.take k).map Int.toNat ++ List.replicate (8 - k) 0
theorem ofK_length {h : List Int} (hl : h.length = 8) {k : Nat} (hk : k ≤ 8) : (ofK h k).length = 8 := by simp [ofK, hl]; omega
theorem ofK_set {h : List Int} (hl : h.length = 8) {k : Nat} (hk : k < 8) (x : Nat) (hx : it h k = (x : Int)) : (ofK h k).set k x = ofK h (k + 1) := by
  have e : ((h.take k).map Int.toNat).length = k := by simp [hl]; omega
  have e2 : 8 - k = (8 - (k + 1)) + 1 := by omega
  have e3 : h[k]? = some (x : Int) := by
    rw [List.getElem?_eq_getElem (by omega)]
    congr 1
    rw [← hx]
    simp [it, List.getD_eq_getElem?_getD, List.getElem?_eq_getElem (show k < h.length by omega)]
  unfold ofK
  rw [List.set_append_right _ _ (by omega), e, Nat.sub_self, e2, List.replicate_succ, List.set_cons_zero, List.take_add_one, e3]
  simp
theorem ofK_full {h : List Int} (hl : h.length = 8) : ofK h 8 = h.map Int.toNat := by simp [ofK, List.take_of_length_le (Nat.le_of_eq hl)]
theorem ownsI_nil (E : TypeId) (w : World) (B : Nat) : OwnI E w B (.slice none 0 0) [] := World.ownsRow_nil _ _ _ _
theorem shaBlockL_yes {h : List Int} {b : List UInt8} (ho : hOk h) (hb : b.length = 64) : shaBlockL h b = wi (blockW (h.map Int.toNat) b) := if_pos ⟨ho, hb⟩
theorem shaBlockL_no {h : List Int} {b : List UInt8} (ho : ¬ (hOk h ∧ b.length = 64)) : shaBlockL h b = [] := if_neg ho
end Go.Proofs.YtdoaikanaodefaaDoor

/- The contracts of hash and of Sha, as the program has them. -/
namespace Go.Proofs.YtdoaikanaodefaaDoor
open Go.ChangeShapes Go.WideShapes Go.ChangeAt Go.RowKit

/-- What hash has after k rounds. -/
def hs32 (ws : List Nat) (k : Nat) : List UInt8 := fours (ws.take k) ++ List.replicate (32 - 4 * k) 0
theorem hs32_length {ws : List Nat} (hl : ws.length = 8) {k : Nat} (hk : k ≤ 8) : (hs32 ws k).length = 32 := by
  simp [hs32, fours_length, hl]
  omega
theorem hs32_zero (ws : List Nat) : hs32 ws 0 = List.replicate 32 0 := by simp [hs32, fours]
theorem hs32_full {ws : List Nat} (hl : ws.length = 8) : hs32 ws 8 = fours ws := by simp [hs32, List.take_of_length_le (Nat.le_of_eq hl)]
theorem hs32_put {ws : List Nat} (hl : ws.length = 8) {k : Nat} (hk : k < 8) : PB (hs32 ws k) (4 * k) 4 (ws.getD k 0) 4 = hs32 ws (k + 1) := by
  have e1 : (fours (ws.take k)).length = 4 * k := by rw [fours_length]; simp [hl]; omega
  have e2 : 32 - 4 * k = 4 + (32 - 4 * (k + 1)) := by omega
  have e3 : ws.take (k + 1) = ws.take k ++ [ws.getD k 0] := by
    rw [List.take_add_one, List.getElem?_eq_getElem (by omega)]
    simp [List.getD_eq_getElem?_getD, List.getElem?_eq_getElem (show k < ws.length by omega)]
  unfold hs32
  rw [e2, ← List.replicate_append_replicate, ← List.append_assoc]
  have := PB_4 (fours (ws.take k)) (List.replicate 4 0) (List.replicate (32 - 4 * (k + 1)) 0) (ws.getD k 0) (by simp)
  rw [e1] at this
  rw [this, e3]
  simp [fours]
set_option maxRecDepth 100000 in
set_option maxHeartbeats 1000000 in
theorem hash_any (ws : List Nat) (hl : ws.length = 8) (hw : Words ws) (w : World) :
    Calls Tryd.prog 80 #[.agg (cw ws)] w (Fresh w (fours ws)) := by
  obtain ⟨i0, hi, hz0, hz1, hz2⟩ := info_parts u8info
  have hby : i0.bytes * 32 ≤ 281474976710656 := by rw [hz2]; decide
  have hml : 32 ≤ maxLen := by unfold maxLen; omega
  have HL := Lib.hid hl
  have hA := arr_new 105 w ws
  have hsz := wSize hl
  clear hl
  go_enter Tryd.func80, Tryd.ntmps80
  go_wp2_with (first
    | (at_make; refine wpList_make_full _ rfl _ _ _ rfl w.heap.size 5 i0 (.int .u8 0) 1 Tryd.underlying22 hi hz0 hz1 .i64 .i64 _ _ 32 rfl rfl rfl rfl hby hml (by simp) ?_; intro w1 hown1 hg1; have hA1 := hA.grown hg1 (by simp); have hb1 := ((Below.refl w.heap.size w).alloc (Nat.le_refl _) (.cells (cw ws) 105)).grown hg1 (by simp) (by simp); have ho1 := row_zero hown1; clear hown1 hg1)
    | (refine wpList_load_row rfl _ _ rfl w.heap.size rfl _ _ _ _ hA1 wDesc rfl hsz ?_))
  have e8 : (w.alloc (.cells (cw ws) 105)).heap.size = w.heap.size + 1 := by simp
  rw [e8, ← hs32_zero ws] at ho1
  go_loopw [8] (fun i wr => ∃ k : Nat, k ≤ 8 ∧ i = .int .i64 k ∧ wr.ownsRow w.heap.size 5 1 (.slice (some ⟨w.heap.size + 1, 0, none⟩) 32 32) 32 (us (hs32 ws k)) ∧ Below w.heap.size w wr)
    (fun i _ => 8 - (intOf i).toNat)
  case atStart => exact ⟨0, Nat.zero_le _, rfl, ho1, hb1⟩
  case round =>
    obtain ⟨k, hk, rfl, hown, hbel⟩ := hrel
    clear hA hA1 hb1 ho1 e8
    by_cases hlt : k < 8
    · have hlt8 : (k : Int) < 8 := by omega
      have hx := cw_get ws k (by rw [HL.out]; exact hlt)
      have hput := hs32_put HL.out hlt
      have hxb := hw.at_ k
      generalize ws.getD k 0 = x at hx hput hxb
      have hX := fun w => run_idx wDesc ws k x (by omega) hx w
      have HP := Lib.hid hput
      have h4 : (4 : Int) * (k : Int) = ((4 * k : Nat) : Int) := by omega
      obtain ⟨m, hm⟩ : ∃ m, m = 4 * k := ⟨_, rfl⟩
      rw [← hm] at h4 HP
      have hm28 : m ≤ 28 := by omega
      have Hm := Lib.hid hm
      clear hm hput hx
      go_wp2_with fail
      refine (putBig_any (w.heap.size + 1) 32 32 m 4 (32 - m) (hs32 ws k) x w.heap.size wr hown (hs32_length HL.out hk) (by omega) (by decide) (by omega) (by decide)).mono ?_
      rw [HP.out]
      rintro ev w4 ⟨rfl, hown4, hg4⟩
      have hb4 := hbel.grown hg4 hbel.size (by simp)
      go_wp2
      go_roundw
      case rel => exact ⟨k + 1, by omega, by go_num, hown4, hb4⟩
      case measure => simp [intOf]; omega
    · obtain rfl : k = 8 := by omega
      rw [hs32_full HL.out] at hown
      go_wp2
      go_ret
      exact ⟨_, rfl, by unfold Own; rw [fours_length, HL.out]; exact hown, hbel⟩
theorem blocksW_next (p : List UInt8) (n : Nat) : blockW (blocksW p n) ((p.drop (64 * n)).take 64) = blocksW p (n + 1) := rfl
theorem shaL_eq {p : List UInt8} {l : List UInt8} {N : Nat} (hp : p = padL l) (hN : p.length = 64 * N) : fours (blocksW p N) = shaL l := by
  unfold shaL
  rw [← hp, hN, Nat.mul_div_cancel_left _ (by decide)]
set_option maxRecDepth 100000 in
set_option maxHeartbeats 4000000 in
theorem implSha_any (v : Value) (l : List UInt8) (w : World) (h : Sl w w.heap.size v l) (hl : l.length ≤ 1073741824)
    (hI : Glob w 0 initW) (hG : Glob w 1 kk) :
    Calls Tryd.prog 43 #[v] w (Fresh w (shaL l)) := by
  obtain ⟨t, fr, hg⟩ := hI
  have hsz := wSize (ws := initW) rfl
  have hZ : Arr 105 (w.alloc (.cells (cw (List.replicate 8 0)) 105)) w.heap.size (List.replicate 8 0) := arr_new _ w _
  have hs2 : (cw (List.replicate 8 0)).size = (cw initW).size := by rw [cw_size, cw_size]; rfl
  obtain ⟨P, hP⟩ : ∃ P, P = padL l := ⟨_, rfl⟩
  have hmod := padL_mod l
  have hpl := padL_len l
  rw [← hP] at hmod hpl
  obtain ⟨N, hN⟩ : ∃ N, P.length = 64 * N := ⟨P.length / 64, by omega⟩
  have hN2 : N ≤ 16777218 := by omega
  have hfin := shaL_eq hP hN
  rw [← hfin]
  have HP := Lib.hid hP
  have HN := Lib.hid hN
  clear hP hmod hpl hfin hN
  go_enter Tryd.func43, Tryd.ntmps43
  go_wp2_with (first
    | (refine wpList_load_row rfl _ _ rfl 0 rfl _ _ _ _ hg wDesc rfl hsz ?_)
    | (refine wpList_store_row rfl _ _ _ rfl w.heap.size (cw initW) rfl rfl _ _ hZ hsz hs2 (cw_cell _) ?_))
  change Calls _ _ _ ((w.alloc (.cells (cw (List.replicate 8 0)) 105)).setRow w.heap.size (cw initW)) _
  have hW2 : Arr 105 ((w.alloc (.cells (cw (List.replicate 8 0)) 105)).setRow w.heap.size (cw initW)) w.heap.size (blocksW P 0) := setRow_heap _ _ _ _ _ _ hZ
  have hb2 : Below w.heap.size w ((w.alloc (.cells (cw (List.replicate 8 0)) 105)).setRow w.heap.size (cw initW)) := ((Below.refl _ _).alloc (Nat.le_refl _) _).trans (setRow_below (Nat.le_refl _))
  have hz2 : ((w.alloc (.cells (cw (List.replicate 8 0)) 105)).setRow w.heap.size (cw initW)).heap.size = w.heap.size + 1 := by simp [World.setRow]
  generalize (w.alloc (.cells (cw (List.replicate 8 0)) 105)).setRow w.heap.size (cw initW) = w2 at hW2 hb2 hz2 ⊢
  refine (implShaPad_any v l w2 (h.up hb2) hl).mono ?_
  rw [← HP.out]
  rintro ev w3 ⟨pv, rfl, hown, hb3⟩
  have hW3 := hW2.up hb3
  have hb3' : Below w.heap.size w w3 := hb2.trans (hb3.mono hb2.size)
  have hown3 : Own 5 w3 (w.heap.size + 1) pv P := by rw [← hz2]; exact hown
  clear hW2 hb2 hb3 hown hz2 hZ hs2 hsz hg
  rcases hown3.2 with ⟨rfl, h0⟩ | ⟨g, cap, cur, rfl, hgb, hgc, hnc, hcm, hcs, hct⟩
  · have := padL_length l
    rw [← HP.out] at this
    omega
  · obtain ⟨T, hT⟩ : ∃ T, T = P.length := ⟨_, rfl⟩
    rw [← hT] at hnc ⊢
    have hT64 : T = 64 * N := by rw [hT, HN.out]
    have HT := Lib.hid hT
    have HT64 := Lib.hid hT64
    have hTb : T ≤ 1073741952 := by omega
    have hown3' : Own 5 w3 (w.heap.size + 1) (.slice (some ⟨g, 0, none⟩) T cap) P := by rw [hT]; exact hown3
    have hcm0 := hcm
    unfold maxLen at hcm
    clear hgc hcs hct hown3 hT hT64
    go_wp2
    go_loopw [5] (fun i wr => ∃ n m : Nat, n ≤ N ∧ m = 64 * n ∧ i = .int .i64 (m : Int) ∧ Arr 105 wr w.heap.size (blocksW P n) ∧ Own 5 wr (w.heap.size + 1) (.slice (some ⟨g, 0, none⟩) T cap) P ∧ Below w.heap.size w wr)
      (fun i _ => T - (intOf i).toNat)
    case atStart => exact ⟨0, 0, Nat.zero_le _, rfl, rfl, hW3, hown3', hb3'⟩
    case round =>
      clear hW3 hown3' hb3'
      obtain ⟨n, m, hn, hm, rfl, hW, hown, hbel⟩ := hrel
      have HM := Lib.hid hm
      by_cases hlt : n < N
      · have hmT : m + 64 ≤ T := by have := HT64.out; omega
        have hcut : Sl wr wr.heap.size (.slice (some ⟨g, m, none⟩) 64 (cap - m)) ((P.drop (64 * n)).take 64) := by
          rcases hown.sl with ⟨A', c', e, k1, k2, k0, k3⟩
          simp only [Value.slice.injEq] at e
          obtain ⟨e1, e2, e3⟩ := e
          obtain ⟨b', off', e4, k4, k5⟩ := k3 (by rw [← HT.out]; omega)
          rw [← e1] at e4
          simp only [Option.some.injEq, Addr.mk.injEq, and_true] at e4
          obtain ⟨rfl, rfl⟩ := e4
          exact sl_cut (64 * n) 64 (c := cap) hcm0 k4 k5 (by rw [← HT.out]; omega) m (cap - m) (fun _ => by omega) (by omega) (by omega)
        have hbl : ((P.drop (64 * n)).take 64).length = 64 := by
          rw [List.length_take, List.length_drop, ← HT.out]
          omega
        have hnx := blocksW_next P n
        generalize (P.drop (64 * n)).take 64 = B at hcut hbl hnx
        have HB := Lib.hid hbl
        have HNX := Lib.hid hnx
        clear hm hbl hnx
        go_wp2_with fail
        refine (compress_any w.heap.size (blocksW P n) _ B wr hW (blocksW_length P n) (blocksW_words P n) hcut HB.out (hG.below hG.lt hbel)).mono ?_
        rw [HNX.out]
        rintro ev w4 ⟨rfl, hW4, hg4⟩
        have hb4 := hbel.grown hg4 hbel.size (by simp)
        have hown4 := hown.kept hg4 (.inr (by simp [Value.ownBlock]; omega))
        go_wp2
        go_roundw
        case rel => exact ⟨n + 1, m + 64, by omega, by have := HM.out; omega, by go_num, hW4, hown4, hb4⟩
        case measure => simp [intOf]; omega
      · have hnN : n = N := by omega
        have hmT : m = T := by have := HT64.out; omega
        rw [hnN] at hW
        rw [hmT]
        have hzl := blocksW_length P N
        have hzw := blocksW_words P N
        have hszz := wSize hzl
        obtain ⟨Z, hZ⟩ : ∃ Z, Z = blocksW P N := ⟨_, rfl⟩
        rw [← hZ] at hW hzl hzw hszz
        have HZ := Lib.hid hZ
        have HZL := Lib.hid hzl
        clear hn hlt hm hnN hmT HM hZ hzl
        go_wp2_with (refine wpList_load_row rfl _ _ rfl w.heap.size rfl _ _ _ _ hW wDesc rfl hszz ?_)
        refine (hash_any Z HZL.out hzw wr).mono ?_
        rw [HZ.out]
        rintro ev w5 ⟨v5, rfl, hown5, hb5⟩
        go_wp2
        go_ret
        exact ⟨_, rfl, hown5.mono hbel.size, hbel.trans (hb5.mono hbel.size)⟩
end Go.Proofs.YtdoaikanaodefaaDoor
