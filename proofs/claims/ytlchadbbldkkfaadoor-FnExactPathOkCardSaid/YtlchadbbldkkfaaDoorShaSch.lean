/- The contract of scheduleOf. -/
import Derived.Test.YtlchadbbldkkfaaDoorShaF
import Derived.StillTailTactics
namespace Go.Proofs.YtlchadbbldkkfaaDoor
open Go.ChangeShapes Go.WideShapes Go.ChangeAt Go.RowKit

/-- The array behind k of the first sixteen words, and behind n words more. -/
def fill64 (ws : List Nat) : List Nat := ws ++ List.replicate (64 - ws.length) 0
theorem fill64_length {ws : List Nat} (h : ws.length ≤ 64) : (fill64 ws).length = 64 := by simp [fill64]; omega
theorem fill64_set {ws : List Nat} (h : ws.length < 64) (x : Nat) : (fill64 ws).set ws.length x = fill64 (ws ++ [x]) := by
  unfold fill64
  have e : 64 - ws.length = (64 - (ws ++ [x]).length) + 1 := by simp; omega
  rw [e, List.replicate_succ, List.set_append_right _ _ (Nat.le_refl _), Nat.sub_self]
  simp
theorem fill64_get {ws : List Nat} {k : Nat} (h : k < ws.length) : (fill64 ws).getD k 0 = ws.getD k 0 := by
  simp [fill64, List.getD_eq_getElem?_getD, List.getElem?_append_left h]
theorem fill64_full {ws : List Nat} (h : ws.length = 64) : fill64 ws = ws := by simp [fill64, h]
theorem sum4 {z s t r : Nat} (_hz : z < 4294967296) (_hs : s < 4294967296) (_ht : t < 4294967296) (_hr : r < 4294967296) :
    IntKind.u32.wrap (IntKind.u32.wrap (IntKind.u32.wrap ((z : Int) + (s : Int)) + (t : Int)) + (r : Int)) = (((z + s + t + r) % 4294967296 : Nat) : Int) := by
  simp only [IntKind.wrap_u32']
  omega
theorem setRow_below {w : World} {B g : Nat} {cs : Array Value} (hg : B ≤ g) : Below B w (w.setRow g cs) := by
  refine ⟨rfl, rfl, rfl, by simp, fun i hi => ?_⟩
  rw [setRow_other]
  omega
theorem still_of {P : Program} {f : FuncId} {args : Array Value} {w : World} {x : Value} (h : Calls P f args w (Same x w)) : Calls P f args w fun e w'' => e = .returned x ∧ w'' = w := h.mono fun _ _ ⟨a, b⟩ => ⟨a, b.symm⟩
set_option maxRecDepth 100000 in
set_option maxHeartbeats 4000000 in
theorem scheduleOf_any (v : Value) (b : List UInt8) (w : World) (hs : Sl w w.heap.size v b) (hb : b.length = 64) :
    Calls Tryd.prog 84 #[v] w fun e w' => e = .returned (.agg (cw (sched b 48))) ∧ Below w.heap.size w w' := by
  obtain ⟨A, c, rfl, h1, h2, h0, h3⟩ := hs
  rw [hb] at h1 h3 ⊢
  obtain ⟨p, off, rfl, hpb, hcell⟩ := h3 (by omega)
  unfold maxLen at h2
  clear h0 h3
  have HC := Lib.hid hcell
  clear hcell
  have HB := Lib.hid hb
  clear hb
  obtain ⟨S, hS⟩ : ∃ S, S = sched b 48 := ⟨_, rfl⟩
  rw [← hS]
  have HS := Lib.hid hS
  clear hS
  have hA0 : Arr 86 ((w.alloc (.cells (cw (List.replicate 64 0)) 86)).alloc (.cells (cw (List.replicate 64 0)) 86)) w.heap.size (List.replicate 64 0) := (arr_new _ w _).alloc _
  have hA1 : Arr 86 ((w.alloc (.cells (cw (List.replicate 64 0)) 86)).alloc (.cells (cw (List.replicate 64 0)) 86)) (w.heap.size + 1) (fill64 (firstW b 0)) := by
    have e : (w.alloc (.cells (cw (List.replicate 64 0)) 86)).heap.size = w.heap.size + 1 := by simp
    have e2 : fill64 (firstW b 0) = List.replicate 64 0 := rfl
    rw [← e, e2]
    exact arr_new _ _ _
  have hB1 : Below w.heap.size w ((w.alloc (.cells (cw (List.replicate 64 0)) 86)).alloc (.cells (cw (List.replicate 64 0)) 86)) := ((Below.refl _ _).alloc (Nat.le_refl _) _).alloc (by simp) _
  go_enter Tryd.func84, Tryd.ntmps84
  go_wp2
  change Code.wp _ _ _ _ ((w.alloc (.cells (cw (List.replicate 64 0)) 86)).alloc (.cells (cw (List.replicate 64 0)) 86))
  generalize (w.alloc (.cells (cw (List.replicate 64 0)) 86)).alloc (.cells (cw (List.replicate 64 0)) 86) = w2 at hA0 hA1 hB1 ⊢
  obtain ⟨zs, hzs⟩ : ∃ zs : List Nat, zs = List.replicate 64 0 := ⟨_, rfl⟩
  rw [← hzs] at hA0
  have HZ : Hid (zs.length = 64) := Lib.hid (by rw [hzs]; rfl)
  clear hzs
  go_loopw [6] (fun i wr => ∃ k : Nat, k ≤ 16 ∧ i = .int .i64 k ∧ Arr 86 wr w.heap.size zs ∧ Arr 86 wr (w.heap.size + 1) (fill64 (firstW b k)) ∧ Below w.heap.size w wr)
    (fun i _ => 16 - (intOf i).toNat)
  case atStart => exact ⟨0, Nat.zero_le _, rfl, hA0, hA1, hB1⟩
  case round =>
    clear hA0 hA1 hB1
    obtain ⟨k, hk, rfl, hA, hC, hbel⟩ := hrel
    by_cases hlt : k < 16
    · have hlt16 : (k : Int) < 16 := by omega
      have hk64 : (k : Int) < 64 := by omega
      have hcells : ∀ j, j < 4 → wr.cell? ⟨p, off + 4 * k + j, none⟩ = some (.int .u8 (bt b (4 * k + j))) := fun j hj => by
        have := (hbel.cell (p := ⟨p, off + (4 * k + j), none⟩) hpb).trans (HC.out (4 * k + j) (by omega))
        rw [Nat.add_assoc]
        exact this
      have hfl : (fill64 (firstW b k)).length = 64 := fill64_length (by rw [firstW_length]; omega)
      have hc0 := hC.at k (by rw [hfl]; omega)
      have hf0 := hC.free k
      have hst := hC.set k (wordAt b k)
      have hnx : (fill64 (firstW b k)).set k (wordAt b k) = fill64 (firstW b (k + 1)) := by
        have := fill64_set (ws := firstW b k) (by rw [firstW_length]; omega) (wordAt b k)
        rw [firstW_length] at this
        rw [this, ← firstW_succ]
      rw [hnx] at hst
      have hst' := Lib.hid hst
      have hA' := Lib.hid (hA.beside (g' := w.heap.size + 1) k (.int .u32 (wordAt b k : Int)) (by omega))
      have HCE := Lib.hid hcells
      have h4 : (4 : Int) * (k : Int) = ((4 * k : Nat) : Int) := by omega
      obtain ⟨m, hm⟩ : ∃ m, m = 4 * k := ⟨_, rfl⟩
      rw [← hm] at h4
      have hm60 : m ≤ 60 := by omega
      have Hm := Lib.hid hm
      clear hst hnx hfl hcells hm
      go_wp2_with fail
      refine (getBigWord_any p (off + m) (64 - m) (c - m) b k wr (by omega) (by omega) (by omega) (by rw [Hm.out]; exact HCE.out)).mono ?_
      have hxb := wordAt_lt b k
      generalize wordAt b k = x at hst' hA' hxb ⊢
      rintro ev _ ⟨rfl, q, rfl⟩
      go_wp2
      go_roundw
      case rel => exact ⟨k + 1, by omega, by go_num, hA'.out, hst'.out, (below_drewN hbel q).setCell (Nat.le_succ _) _⟩
      case measure => simp [intOf]; omega
    · have hk16 : k = 16 := by omega
      have hki : (k : Int) = 16 := by omega
      have hC0 : Arr 86 wr (w.heap.size + 1) (fill64 (sched b 0)) := by rw [hk16] at hC; exact hC
      rw [hki]
      clear hk16 hki hlt hk hC
      go_wp2
      go_loopw [5] (fun i wq => ∃ n m : Nat, n ≤ 48 ∧ m = 16 + n ∧ i = .int .i64 m ∧ Arr 86 wq w.heap.size zs ∧ Arr 86 wq (w.heap.size + 1) (fill64 (sched b n)) ∧ Below w.heap.size w wq)
        (fun i _ => 64 - (intOf i).toNat)
      case atStart => exact ⟨0, 16, Nat.zero_le _, rfl, rfl, hA, hC0, hbel⟩
      case round =>
        clear hA hC0 hbel
        obtain ⟨n, m, hn, hm, rfl, hA, hC, hbel⟩ := hrel
        by_cases hlt : n < 48
        · have hlt64 : (m : Int) < 64 := by omega
          have hlen := sched_length b n
          have hfl : (fill64 (sched b n)).length = 64 := fill64_length (by omega)
          have hat : ∀ j, j < 16 + n → wr.cell? ⟨w.heap.size + 1, j, none⟩ = some (.int .u32 ((sched b n).getD j 0 : Int)) := fun j hj => by
            have := hC.at j (by rw [hfl]; omega)
            rw [fill64_get (by omega)] at this
            exact this
          have hx := (sched_words b n).at_ (n + 1)
          have hy := (sched_words b n).at_ (n + 14)
          have hz := (sched_words b n).at_ n
          have ht := (sched_words b n).at_ (n + 9)
          have hcx := hat (n + 1) (by omega)
          have hcy := hat (n + 14) (by omega)
          have hcz := hat n (by omega)
          have hct := hat (n + 9) (by omega)
          have hnx : (fill64 (sched b n)).set m (nextW (sched b n) n) = fill64 (sched b (n + 1)) := by
            have := fill64_set (ws := sched b n) (by omega) (nextW (sched b n) n)
            rw [hlen, ← hm] at this
            exact this
          have HNX := Lib.hid hnx
          clear hnx
          have hnw : nextW (sched b n) n = ((sched b n).getD n 0 + sg0 ((sched b n).getD (n + 1) 0) + (sched b n).getD (n + 9) 0 + sg1 ((sched b n).getD (n + 14) 0)) % 4294967296 := rfl
          have hnl := nextW_lt (sched b n) n
          generalize nextW (sched b n) n = nw at HNX hnw hnl
          generalize (sched b n).getD (n + 1) 0 = x at hx hcx hnw
          generalize (sched b n).getD (n + 14) 0 = y at hy hcy hnw
          generalize (sched b n).getD n 0 = z at hz hcz hnw
          generalize (sched b n).getD (n + 9) 0 = t at ht hct hnw
          have hsx := sg0_lt hx
          have hsy := sg1_lt hy
          have S0 := Lib.hid (fun (q : World) => shaSmall0_any x q hx)
          have S1 := Lib.hid (fun (q : World) => shaSmall1_any y q hy)
          generalize sg0 x = sx at hsx hnw S0
          generalize sg1 y = sy at hsy hnw S1
          have hsum := sum4 hz hsx ht hsy
          rw [← hnw] at hsum
          have HFL := Lib.hid hfl
          clear hat hnw hfl hlen
          have w16 : IntKind.i64.wrap ((m : Int) - 16) = (n : Int) := by rw [wrapI, wrap64_small _ (by omega) (by omega)]; omega
          have w15 : IntKind.i64.wrap ((m : Int) - 15) = ((n + 1 : Nat) : Int) := by rw [wrapI, wrap64_small _ (by omega) (by omega)]; omega
          have w7 : IntKind.i64.wrap ((m : Int) - 7) = ((n + 9 : Nat) : Int) := by rw [wrapI, wrap64_small _ (by omega) (by omega)]; omega
          have w2' : IntKind.i64.wrap ((m : Int) - 2) = ((n + 14 : Nat) : Int) := by rw [wrapI, wrap64_small _ (by omega) (by omega)]; omega
          have b16 : (n : Int) < 64 := by omega
          have b15 : ((n + 1 : Nat) : Int) < 64 := by omega
          have b7 : ((n + 9 : Nat) : Int) < 64 := by omega
          have b2 : ((n + 14 : Nat) : Int) < 64 := by omega
          have Hm := Lib.hid hm
          generalize n + 1 = nx at hcx w15 b15
          generalize n + 14 = ny at hcy w2' b2
          generalize n + 9 = nt at hct w7 b7
          clear hm
          go_wp2_with fail
          refine wp_region_still_tail 23 (by kernel_rfl) (by kernel_rfl) ?_
          simp only [List.take_succ_cons, List.take_zero, List.drop_succ_cons, List.drop_zero]
          repeat still_step
          still_call (still_of (S0.out _))
          repeat still_step
          still_call (still_of (S1.out _))
          repeat still_step
          refine wpStill_nil ?_
          change wpList _ _ _ _ _ wr.drew
          have hC9 : Arr 86 wr.drew (w.heap.size + 1) (fill64 (sched b n)) := hC
          have hA9 : Arr 86 wr.drew w.heap.size zs := hA
          have hb9 := hbel.drew
          clear hC hA hbel hcx hcy hcz hct w16 w15 w7 w2' hsum S0 S1
          generalize wr.drew = w9 at hC9 hA9 hb9 ⊢
          have hcm := hC9.at m (by rw [HFL.out]; have := Hm.out; omega)
          have hfm := hC9.free m
          go_wp2
          go_roundw
          case rel => exact ⟨n + 1, m + 1, by omega, by have := Hm.out; omega, by go_num, hA9.beside m _ (by omega), by have := hC9.set m nw; rw [HNX.out] at this; exact this, hb9.setCell (Nat.le_succ _) _⟩
          case measure => simp [intOf]; omega
        · obtain rfl : n = 48 := by omega
          have hm64 : (m : Int) = 64 := by omega
          have hfull := fill64_full (ws := sched b 48) (by rw [sched_length])
          rw [hm64]
          rw [hfull] at hC
          have hsz := sSize (ws := sched b 48) (by rw [sched_length])
          have hs2 : (cw zs).size = (cw (sched b 48)).size := by rw [cw_size, cw_size, HZ.out, sched_length]
          rw [← HS.out] at hC hsz hs2
          clear hm hn hlt hm64 hfull
          go_wp2_with (first
            | (refine wpList_load_row rfl _ _ rfl (w.heap.size + 1) rfl _ _ _ _ hC sDesc rfl hsz ?_)
            | (refine wpList_store_row rfl _ _ _ rfl w.heap.size (cw S) rfl rfl _ _ hA hsz hs2 (cw_cell _) ?_))
          have hr : (wr.setRow w.heap.size (cw S)).heap[w.heap.size]? = some (.cells (cw S) 86 (0, 0)) := setRow_heap wr w.heap.size _ _ _ _ hA
          have hb9 : Below w.heap.size w (wr.setRow w.heap.size (cw S)) := hbel.trans (setRow_below (Nat.le_refl _))
          generalize wr.setRow w.heap.size (cw S) = w9 at hr hb9 ⊢
          exact bodyPost_ret (results_cell_row rfl _ _ w.heap.size _ (cw S) (0, 0) _ rfl hr sDesc rfl hsz) rfl ⟨rfl, hb9⟩
end Go.Proofs.YtlchadbbldkkfaaDoor
